package regex

import (
	"iter"
	"math/bits"

	"gabarit/api"
)

// positions is a set of numbers of characters that have been read of a word: a bit for each.
type positions [api.MaxLetter/64 + 1]uint64

func position(at int) positions {
	var p positions
	p[at/64] = 1 << (at % 64)
	return p
}

func (p positions) has(at int) bool { return p[at/64]>>(at%64)&1 == 1 }

func (p *positions) add(q positions) {
	for i, part := range q {
		p[i] |= part
	}
}

func (p positions) without(q positions) positions {
	for i, part := range q {
		p[i] &^= part
	}
	return p
}

// all produces the positions, ascending.
func (p positions) all() iter.Seq[int] {
	return func(yield func(int) bool) {
		for i, part := range p {
			for ; part != 0; part &= part - 1 {
				if !yield(64*i + bits.TrailingZeros64(part)) {
					return
				}
			}
		}
	}
}

// question asks for the positions behind some words of x, one behind the other, of which the first one begins at a position.
type question struct {
	x     *api.Regex
	words int
	at    int
}

type answerer func(q question) positions

// matches reports whether a word is one of those of a valid expression.
func matches(x *api.Regex, word []int32) bool {
	known := map[question]positions{}
	var ends answerer
	ends = func(q question) positions {
		if q.words == 1 && q.x.Kind == api.RxSet { // this is found sooner than what is known
			return behindOne(q.x.Set, word, q.at)
		}
		p, ok := known[q]
		if !ok {
			p = ends.found(q)
			known[q] = p
		}
		return p
	}
	return ends(question{x, 1, 0}).has(len(word))
}

func behindOne(set []api.Range, word []int32, at int) positions {
	if at < len(word) && has(set, word[at]) {
		return position(at + 1)
	}
	return positions{}
}

// found returns the answer to a question by those to simpler ones.
func (ends answerer) found(q question) positions {
	if q.words == 0 || q.x.Kind == api.RxEmpty {
		return position(q.at)
	}
	if half := q.words / 2; half > 0 { // two halves of the same length are the same questions at other positions
		return ends.behind(q.x, q.words-half, ends(question{q.x, half, q.at}))
	}
	switch q.x.Kind {
	case api.RxSeq:
		p := position(q.at)
		for i := range q.x.Args {
			p = ends.behind(&q.x.Args[i], 1, p)
		}
		return p
	case api.RxAlt:
		var p positions
		for i := range q.x.Args {
			p.add(ends(question{&q.x.Args[i], 1, q.at}))
		}
		return p
	}
	return ends.repeated(q.x, q.at)
}

// behind returns the positions behind some words of x, of which the first one begins at one of the positions from.
func (ends answerer) behind(x *api.Regex, words int, from positions) positions {
	var p positions
	for at := range from.all() {
		p.add(ends(question{x, words, at}))
	}
	return p
}

// repeated answers for a RxTimes. Behind its Low words, only positions that are new lead to new ones; more is below 0 if there may be any number of words.
func (ends answerer) repeated(x *api.Regex, at int) positions {
	arg, low, more := &x.Args[0], x.Low, x.High-x.Low
	if ends(question{arg, 1, at}).has(at) { // the empty word stands for each that is missing: that is known sooner
		low, more = 0, x.High
	}
	p := ends(question{arg, low, at})
	fresh := p
	for ; more != 0 && fresh != (positions{}); more-- {
		fresh = ends.behind(arg, 1, fresh).without(p)
		p.add(fresh)
	}
	return p
}
