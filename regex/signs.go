package regex

import "gabarit/api"

const endless = -1 // High, for any number of times

// Signs of texts. Those that are signs among units, or in sets, want a \ to be characters there.
const (
	digits    = "0123456789"
	unitSigns = ".\\?*+{}()[]|"
	setSigns  = "[]\\-^"
	lettered  = "\n\r\t" // these are escaped by a \ and the letter at the same place
	letters   = "nrt"
	escapes   = unitSigns + "-^" + letters
)

func only(c int32) []api.Range { return []api.Range{{Low: c, High: c}} }

func allBut(set []api.Range) []api.Range { return merged(everything(), set, firstOnly) }

func lineEnds() []api.Range { return []api.Range{{Low: 10, High: 10}, {Low: 13, High: 13}} }

// classOf returns the set of the class escape with a letter, or nothing if there is none.
func classOf(letter byte) []api.Range {
	switch letter {
	case 'd':
		return []api.Range{{Low: '0', High: '9'}}
	case 's':
		return []api.Range{{Low: 9, High: 10}, {Low: 13, High: 13}, {Low: ' ', High: ' '}}
	case 'w':
		return []api.Range{{Low: '0', High: '9'}, {Low: 'A', High: 'Z'}, {Low: '_', High: '_'}, {Low: 'a', High: 'z'}}
	case 'D':
		return allBut(classOf('d'))
	case 'S':
		return allBut(classOf('s'))
	case 'W':
		return allBut(classOf('w'))
	}
	return nil
}
