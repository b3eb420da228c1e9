package chars

import (
	"math"
	"slices"
	"strings"
	"testing"

	"gabarit/api"
)

func TestKinds(t *testing.T) { // P2.1
	for _, c := range []struct {
		c                          int32
		valid, blank, first, inner bool
	}{
		{0, false, false, false, false},
		{8, false, false, false, false},
		{9, true, true, false, false},
		{10, true, true, false, false},
		{11, false, false, false, false},
		{12, false, false, false, false},
		{13, true, true, false, false},
		{14, false, false, false, false},
		{31, false, false, false, false},
		{32, true, true, false, false},
		{'!', true, false, false, false},
		{',', true, false, false, false},
		{'-', true, false, false, true},
		{'.', true, false, false, true},
		{'/', true, false, false, false},
		{'0', true, false, false, true},
		{'9', true, false, false, true},
		{':', true, false, false, false},
		{'@', true, false, false, false},
		{'A', true, false, true, true},
		{'Z', true, false, true, true},
		{'[', true, false, false, false},
		{'^', true, false, false, false},
		{'_', true, false, true, true},
		{'`', true, false, false, false},
		{'a', true, false, true, true},
		{'z', true, false, true, true},
		{'{', true, false, false, false},
		{127, true, false, false, false},
		{133, true, false, false, false},
		{160, true, false, false, false},
		{182, true, false, false, false},
		{183, true, false, false, true},
		{184, true, false, false, false},
		{191, true, false, false, false},
		{192, true, false, true, true},
		{214, true, false, true, true},
		{215, true, false, false, false},
		{216, true, false, true, true},
		{246, true, false, true, true},
		{247, true, false, false, false},
		{248, true, false, true, true},
		{8195, true, false, true, true},
		{55295, true, false, true, true},
		{55296, false, false, false, false},
		{57343, false, false, false, false},
		{57344, true, false, true, true},
		{65533, true, false, true, true},
		{65534, false, false, false, false},
		{65535, false, false, false, false},
		{65536, true, false, true, true},
		{1114111, true, false, true, true},
		{1114112, false, false, false, false},
		{-1, false, false, false, false},
		{-97, false, false, false, false},
		{math.MinInt32, false, false, false, false},
		{math.MaxInt32, false, false, false, false},
	} {
		if Valid(c.c) != c.valid || Blank(c.c) != c.blank || First(c.c) != c.first || Inner(c.c) != c.inner {
			t.Errorf("%d: %v, %v, %v, %v", c.c, Valid(c.c), Blank(c.c), First(c.c), Inner(c.c))
		}
	}
}

func TestLocal(t *testing.T) { // P2.1
	for s, want := range map[string]bool{
		"":                              false,
		"a":                             true,
		"_":                             true,
		"a-1":                           true,
		"A.b_c-9\u00b7":                 true,
		"\u00e4":                        true,
		"\U0010ffff\ufffd":              true,
		"-a":                            false,
		".a":                            false,
		"1a":                            false,
		"\u00b7a":                       false,
		"\u00d7":                        false,
		"a\u00d7":                       false,
		"a\u00f7":                       false,
		"a:b":                           false,
		":a":                            false,
		"a ":                            false,
		" a":                            false,
		"a\nb":                          false,
		"a\xff":                         false,
		"a\x00":                         false,
		"a\xc3":                         false,
		"\xff":                          false,
		"a\uffff":                       false,
		strings.Repeat("a", 200):        true,
		strings.Repeat("a", 201):        false,
		strings.Repeat("\u00e4", 100):   true, // 200 bytes
		strings.Repeat("\u00e4", 101):   false,
		"a" + strings.Repeat("-", 199):  true,
		"a" + strings.Repeat("-", 200):  false,
		strings.Repeat("a", 199) + "\\": false,
	} {
		if Local(s) != want {
			t.Errorf("Local(%q): %v", s, !want)
		}
	}
}

func TestDecode(t *testing.T) { // P2.2
	for s, want := range map[string][]int32{
		"":                                 nil,
		"\t\n\r ":                          {9, 10, 13, 32},
		"a\xc3\xa4":                        {97, 228},
		"\x7f\xc2\x80":                     {127, 128},
		"\xdf\xbf\xe0\xa0\x80":             {2047, 2048},
		"\xed\x9f\xbf\xee\x80\x80":         {55295, 57344},
		"\xef\xbf\xbd\xf0\x90\x80\x80":     {65533, 65536},
		"\xf4\x8f\xbf\xbf\xe2\x82\xac&lt;": {1114111, 8364, '&', 'l', 't', ';'},
	} {
		if l, at, e := Decode(s); !slices.Equal(l, want) || at != 0 || e != api.OK {
			t.Errorf("Decode(%q): %v, %d, %d", s, l, at, e)
		}
		if got, e := Encode(want); got != s || e != api.OK {
			t.Errorf("Encode(%v): %q, %d", want, got, e)
		}
	}
	for _, c := range wrongs {
		if l, at, e := Decode(c.s); len(l) != 0 || at != c.at || e != api.ErrForm {
			t.Errorf("Decode(%q): %v, %d, %d", c.s, l, at, e)
		}
	}
}

func TestEncode(t *testing.T) { // P2.2
	for _, wrong := range []int32{0, 8, 11, 12, 14, 31, 55296, 57343, 65534, 65535, 1114112, -1, -97, math.MinInt32, math.MaxInt32} {
		for _, l := range [][]int32{{wrong}, {wrong, 97}, {97, wrong}, {97, wrong, 98}} {
			if s, e := Encode(l); s != "" || e != api.ErrArg {
				t.Errorf("Encode(%v): %q, %d", l, s, e)
			}
		}
	}
}

func TestEscape(t *testing.T) { // P2.3
	for _, c := range []struct{ s, content, attribute string }{
		{"", "", ""},
		{"a<b\"c", "a&lt;b\"c", "a&lt;b&quot;c"},
		{"<>&", "&lt;&gt;&amp;", "&lt;&gt;&amp;"},
		{"\"'", "\"'", "&quot;'"},
		{"\t\n\r ", "\t\n&#13; ", "&#9;&#10;&#13; "},
		{"\r\r\n", "&#13;&#13;\n", "&#13;&#13;&#10;"},
		{"&lt;&#13;", "&amp;lt;&amp;#13;", "&amp;lt;&amp;#13;"},
		{"]]>", "]]&gt;", "]]&gt;"},
		{"\u0085\u00a0\u2028\ufffd\U0010ffff", "\u0085\u00a0\u2028\ufffd\U0010ffff", "\u0085\u00a0\u2028\ufffd\U0010ffff"},
	} {
		if s, e := Escape(c.s, false); s != c.content || e != api.OK {
			t.Errorf("Escape(%q): %q, %d", c.s, s, e)
		}
		if s, e := Escape(c.s, true); s != c.attribute || e != api.OK {
			t.Errorf("Escape(%q) as an attribute: %q, %d", c.s, s, e)
		}
	}
	for _, c := range wrongs {
		for _, attribute := range []bool{false, true} {
			if s, e := Escape("<"+c.s, attribute); s != "" || e != api.ErrForm {
				t.Errorf("Escape(%q, %v): %q, %d", "<"+c.s, attribute, s, e)
			}
		}
	}
}

func TestUnescape(t *testing.T) { // P2.4
	for s, want := range map[string]string{
		"":                             "",
		"a":                            "a",
		"&lt;&#65;&#x42;":              "<AB",
		"&lt;&gt;&amp;&quot;&apos;":    "<>&\"'",
		"a&lt;b;c&gt;":                 "a<b;c>",
		"&amp;lt;":                     "&lt;", // what has become of an escape begins none
		"&#38;amp;":                    "&amp;",
		"&#9;&#10;&#13;&#32;":          "\t\n\r ",
		"&#x9;&#xa;&#xD;&#x20;":        "\t\n\r ",
		"&#xe4;&#xE4;&#228;":           "\u00e4\u00e4\u00e4",
		"&#xAbCdE;":                    "\U000abcde",
		"&#55295;&#57344;":             "\ud7ff\ue000",
		"&#65533;&#65536;&#1114111;":   "\ufffd\U00010000\U0010ffff",
		"&#xD7FF;&#xE000;&#x10FFFF;":   "\ud7ff\ue000\U0010ffff",
		"&#065;&#x0041;":               "AA",
		"&#00000000000000000065;":      "A", // 20 digits
		"&#x00000000000000000041;":     "A",
		"&#00000000000001114111;":      "\U0010ffff",
		"x&#x0000000000000010FFFF;y":   "x\U0010ffffy",
		"<>\"'\r\n\t;#":                "<>\"'\r\n\t;#", // only & is looked at
		"\u00e4&lt;\u00e4\U0010ffff\t": "\u00e4<\u00e4\U0010ffff\t",
	} {
		if got, at, e := Unescape(s); got != want || at != 0 || e != api.OK {
			t.Errorf("Unescape(%q): %q, %d, %d", s, got, at, e)
		}
	}
}

func TestUnescapeWrong(t *testing.T) { // P2.4
	for s, want := range map[string]int{
		"&":                         0,
		"a&b":                       1,
		"a&b;":                      1,
		"&;":                        0,
		"&#;":                       0,
		"&#x;":                      0,
		"&x41;":                     0,
		"&lt":                       0,
		"&#65":                      0,
		"&lt;&":                     4,
		"&lt;\u00e4&gt":             6, // bytes are counted, also those of escapes
		"&&lt;":                     0,
		"&lt&gt;":                   0,
		"& lt;":                     0,
		"&lt ;":                     0,
		"&LT;":                      0,
		"&Lt;":                      0,
		"&ltt;":                     0,
		"&nbsp;":                    0,
		"&#1a;":                     0,
		"&#xg;":                     0,
		"&#x4G;":                    0,
		"&#X41;":                    0,
		"&#0x41;":                   0,
		"&#xx41;":                   0,
		"&##65;":                    0,
		"&#+65;":                    0,
		"&#-65;":                    0,
		"&#x+41;":                   0,
		"&#x-41;":                   0,
		"&#6_5;":                    0,
		"&#x4_1;":                   0,
		"&# 65;":                    0,
		"&#65 ;":                    0,
		"&#6.5;":                    0,
		"&#1e2;":                    0,
		"&#\uff16\uff15;":           0, // digits of another script
		"&#0;":                      0,
		"&#x0;":                     0,
		"&#8;":                      0,
		"&#11;":                     0,
		"&#31;":                     0,
		"&#55296;":                  0,
		"&#xDFFF;":                  0,
		"&#65534;":                  0,
		"&#xFFFF;":                  0,
		"&#1114112;":                0,
		"&#x110000;":                0,
		"&#2147483713;":             0, // 65 behind 2^31
		"&#4294967361;":             0, // 65 behind 2^32
		"&#x100000041;":             0,
		"&#18446744073709551681;":   0, // 65 behind 2^64
		"&#x10000000000000041;":     0,
		"&#99999999999999999999;":   0,
		"&#xffffffffffffffffffff;":  0,
		"&#000000000000000000065;":  0, // 21 digits
		"&#x000000000000000000041;": 0,
		"ab&#000000000000000000065": 2,
		"&lt;&#x0041;&b;&c;":        12,
	} {
		if got, at, e := Unescape(s); got != "" || at != want || e != api.ErrForm {
			t.Errorf("Unescape(%q): %q, %d, %d", s, got, at, e)
		}
	}
}

func TestUnescapeNoText(t *testing.T) { // P2.4
	for _, c := range wrongs {
		for _, before := range []string{"", "&lt;", "&", "a&b;", "&#0;"} { // a wrong & before does not matter
			if got, at, e := Unescape(before + c.s); got != "" || at != len(before)+c.at || e != api.ErrForm {
				t.Errorf("Unescape(%q): %q, %d, %d", before+c.s, got, at, e)
			}
		}
	}
}

func TestSqueeze(t *testing.T) { // P2.5
	for _, c := range []struct{ s, replaced, collapsed string }{
		{"", "", ""},
		{"a", "a", "a"},
		{"  a\tb", "  a b", "a b"},
		{"\ta", " a", "a"},
		{"a\n", "a ", "a"},
		{"\r\n", "  ", ""},
		{" ", " ", ""},
		{" \t\n\r ", "     ", ""},
		{"a \t\n\rb  c", "a    b  c", "a b c"},
		{"a b", "a b", "a b"},
		{"\u00a0 \u0085\u2003", "\u00a0 \u0085\u2003", "\u00a0 \u0085\u2003"}, // none of these is a blank
		{" \ufffd\n\n\U0010ffff\t", " \ufffd  \U0010ffff ", "\ufffd \U0010ffff"},
		{"&#32;&#9;", "&#32;&#9;", "&#32;&#9;"},
	} {
		for mode, want := range []string{c.s, c.replaced, c.collapsed} {
			if s, e := Squeeze(c.s, mode); s != want || e != api.OK {
				t.Errorf("Squeeze(%q, %d): %q, %d", c.s, mode, s, e)
			}
		}
	}
	for _, c := range wrongs {
		for mode := range 3 {
			if s, e := Squeeze(c.s, mode); s != "" || e != api.ErrForm {
				t.Errorf("Squeeze(%q, %d): %q, %d", c.s, mode, s, e)
			}
		}
	}
	for _, mode := range []int{-1, 3, math.MinInt, math.MaxInt, 1 << 32} {
		for _, s := range []string{"", " a ", "\xff"} { // the mode is looked at before the text
			if got, e := Squeeze(s, mode); got != "" || e != api.ErrArg {
				t.Errorf("Squeeze(%q, %d): %q, %d", s, mode, got, e)
			}
		}
	}
}
