package scan

import (
	"strconv"
	"strings"
	"testing"

	"gabarit/api"
)

func TestElements(t *testing.T) { // P3.1, P3.4
	reads(t, `<a x="1">b</a>`, `a x="1" @0`, `"b" @9`, `end @10`)
	reads(t, `<p:a xmlns:p="u"/>`, `u|a @0`, `end @16`)
	reads(t, `<a/>`, `a @0`, `end @2`)
	reads(t, `<a></a>`, `a @0`, `end @3`)
	reads(t, "<a ></a\t\n >", `a @0`, `end @4`)
	reads(t, "<a\r\n/>", `a @0`, `end @4`)
	reads(t, " \t\r\n<a/>\n ", `a @4`, `end @6`)
	reads(t, `<a><b><c/></b><b>x</b></a>`, `a @0`, `b @3`, `c @6`, `end @8`, `end @10`, `b @14`, `"x" @17`, `end @18`, `end @22`)
	reads(t, `<_a.-9·ä/>`, `_a.-9·ä @0`, `end @10`)
	reads(t, `<ä:é xmlns:ä='ö'/>`, `ö|é @0`, `end @20`)
	reads(t, `<xmlns/>`, `xmlns @0`, `end @6`)
	reads(t, `<a> </a>`, `a @0`, `" " @3`, `end @4`)
	reads(t, "<a>\t<b/> </a>", `a @0`, `"\t" @3`, `b @4`, `end @6`, `" " @8`, `end @9`)
}

func TestAttributes(t *testing.T) { // P3.1, P3.5
	reads(t, `<a y='2' x="1"/>`, `a x="1" y="2" @0`, `end @14`)
	reads(t, "<a x\t=\n'1'\r\ny= '2'/>", `a x="1" y="2" @0`, `end @18`)
	reads(t, `<a x='"' y="'" z=''/>`, `a x="\"" y="'" z="" @0`, `end @19`)
	reads(t, `<a x='>/>]]>--'/>`, `a x=">/>]]>--" @0`, `end @15`)
	reads(t, "<a x='\t\n\r\r\n \n\r'/>", `a x="       " @0`, `end @15`) // 9, 10, 13, 13 with 10, 32, 10, 13
	reads(t, `<a x='&#9;&#10;&#13;&#32;'/>`, `a x="\t\n\r " @0`, `end @26`)
	reads(t, `<a x='&lt;&gt;&amp;&quot;&apos;&#x3c;'/>`, `a x="<>&\"'<" @0`, `end @38`)
	reads(t, "<a x='\u0085\u00a0\u2028'/>", `a x="\u0085\u00a0\u2028" @0`, `end @14`) // none of these is a blank
	reads(t, `<a X='' x='' _='' ä='' xx=''/>`, `a X="" _="" x="" xx="" ä="" @0`, `end @29`)
	reads(t, `<a q:b='1' p:b='2' b='3' p:a='4' xmlns:p='u' xmlns:q='U'/>`, `a b="3" U|b="1" u|a="4" u|b="2" @0`, `end @56`)
	fails(t, `<a x='1'y='2'/>`, 8, api.ErrSyntax)
	fails(t, `<a x/>`, 4, api.ErrSyntax)
	fails(t, `<a x y=''/>`, 5, api.ErrSyntax)
	fails(t, `<a x=1/>`, 5, api.ErrSyntax)
	fails(t, `<a x='<'/>`, 6, api.ErrSyntax)
	fails(t, `<a x='/>`, 8, api.ErrEnd)
}

func TestSpaces(t *testing.T) { // P3.1
	// the empty prefix is declared again, and with an empty value
	reads(t, `<a xmlns='u'><b xmlns='v'/><c xmlns=''><d/></c><e/></a>`, `u|a @0`, `v|b @13`, `end @25`, `c @27`, `d @39`, `end @41`, `end @43`, `u|e @47`, `end @49`, `end @51`)
	// other prefixes are declared again
	reads(t, `<p:a xmlns:p='u'><p:b xmlns:p='v'><p:c/></p:b><p:d/></p:a>`, `u|a @0`, `v|b @17`, `v|c @34`, `end @38`, `end @40`, `u|d @46`, `end @50`, `end @52`)
	// declarations hold wherever they stand in the tag, and are no attributes
	reads(t, `<p:a p:x='1' xmlns:p='u' xmlns='v' xmlns:q='w'/>`, `u|a u|x="1" @0`, `end @46`)
	// an attribute without a prefix has the empty space
	reads(t, `<a x='1' xmlns='u'/>`, `u|a x="1" @0`, `end @18`)
	// xml needs no declaration
	reads(t, `<xml:a xml:x='1'><xml:b/></xml:a>`, `xml|a xml|x="1" @0`, `xml|b @17`, `end @23`, `end @25`)
	reads(t, `<p:a xmlns:p='xml'/>`, `xml|a @0`, `end @18`)
	// what is declared is the value with its references, and its blanks as 32
	reads(t, "<p:a xmlns:p='\n&#117;&amp;'/>", `" u&|a @0`[1:], `end @27`)
	reads(t, `<a p:xmlns='1' xmlns:p='u'/>`, `a u|xmlns="1" @0`, `end @26`)
	reads(t, `<a xmlns='' xmlns:p='u'/>`, `a @0`, `end @23`)
	for _, text := range []string{
		`<p:a/>`, `<a p:x=''/>`, `<a xmlns:p=''/>`, `<p:a xmlns:p=''/>`, `<a xmlns:xml='xml'/>`, `<a xmlns:xml='u'/>`, `<a xmlns:xmlns='u'/>`, `<a xmlns:xmlns='xmlns'/>`, `<xmlns:a/>`,
		`<a xmlns:p='u' q:x=''/>`, `<p:a xmlns='u'/>`, `<P:a xmlns:p='u'/>`,
	} {
		fails(t, text, 0, api.ErrPrefix)
	}
	// a prefix holds in its element alone, and cannot be taken back
	fails(t, `<a><p:b xmlns:p='u'/><p:c/></a>`, 21, api.ErrPrefix)
	fails(t, `<a><b xmlns:p='u'>t</b><c p:x=''/></a>`, 23, api.ErrPrefix)
	fails(t, `<a xmlns:p='u'><b xmlns:p=''/></a>`, 15, api.ErrPrefix)
}

func TestEqualAttributes(t *testing.T) { // P3.1
	fails(t, `<a x="1" x="2"/>`, 9, api.ErrAttr)
	fails(t, `<a x='' y='' y='' x=''/>`, 13, api.ErrAttr)
	fails(t, `<a p:x='' p:x=''/>`, 10, api.ErrAttr) // this comes before ErrPrefix
	fails(t, `<a xmlns='u' xmlns='u'/>`, 13, api.ErrAttr)
	fails(t, `<a xmlns:p='' xmlns:p=''/>`, 14, api.ErrAttr)
	fails(t, `<b><a x='' x=''></c>`, 11, api.ErrAttr)
	fails(t, ` <a p:x='' q:x='' xmlns:p='u' xmlns:q='u'/>`, 1, api.ErrAttr)
	fails(t, `<a p:x='' y='' xml:x='' xmlns:p='xml'/>`, 0, api.ErrAttr)
	fails(t, `<a xmlns:q='u'><b p:x='' q:x='' xmlns:p='u'/></a>`, 15, api.ErrAttr)
	reads(t, `<a p:x='' q:x='' x='' xmlns:p='u' xmlns:q='v'/>`, `a x="" u|x="" v|x="" @0`, `end @45`)
	reads(t, `<a p:x='1' x='2' xmlns:p='u' xmlns='u'/>`, `u|a x="2" u|x="1" @0`, `end @38`)
}

func TestTexts(t *testing.T) { // P3.1
	reads(t, `<a>&lt;<!-- c --><![CDATA[<]]></a>`, `a @0`, `"<<" @3`, `end @30`)
	reads(t, `<a>b<!-- c -->d<!----><!---->e</a>`, `a @0`, `"bde" @3`, `end @30`)
	reads(t, `<a>b<c/>d</a>`, `a @0`, `"b" @3`, `c @4`, `end @6`, `"d" @8`, `end @9`)
	reads(t, `<a><!-- c --></a>`, `a @0`, `end @13`)
	reads(t, `<a><!-- c -->b</a>`, `a @0`, `"b" @13`, `end @14`)
	reads(t, `<a><![CDATA[]]></a>`, `a @0`, `end @15`)
	reads(t, `<a><![CDATA[]]><![CDATA[b]]>c</a>`, `a @0`, `"bc" @15`, `end @29`) // the first one has no character
	reads(t, `<a><![CDATA[]]>c<![CDATA[]]></a>`, `a @0`, `"c" @15`, `end @28`)
	reads(t, `<a>b<![CDATA[<&>&lt;<!---->]]>c</a>`, `a @0`, `"b<&>&lt;<!---->c" @3`, `end @31`)
	reads(t, `<a><![CDATA[]]]></a>`, `a @0`, `"]" @3`, `end @16`)
	reads(t, `<a><![CDATA[]]]]></a>`, `a @0`, `"]]" @3`, `end @17`)
	reads(t, `<a><![CDATA[ ]]] ]> ]]]><![CDATA[]]]]>]</a>`, `a @0`, `" ]]] ]> ]]]]" @3`, `end @39`)
	reads(t, "<a><![CDATA[\r\n\r]]></a>", `a @0`, `"\n\n" @3`, `end @18`)
	reads(t, `<a>&#65;&#x42;&amp;lt;</a>`, `a @0`, `"AB&lt;" @3`, `end @22`)
	reads(t, `<a>ä€😀&#x1F600;</a>`, `a @0`, `"ä€😀😀" @3`, `end @21`)
	reads(t, `<a>"'=/!-;#:</a>`, `a @0`, `"\"'=/!-;#:" @3`, `end @12`)
	fails(t, `<a><![CDATA[]></a>`, 18, api.ErrEnd)
	fails(t, `<a><![cdata[]]></a>`, 6, api.ErrSyntax)
	fails(t, `<a><![CDATA []]></a>`, 11, api.ErrSyntax)
}

func TestBracketsInContent(t *testing.T) { // P3.1
	fails(t, `<a>]]></a>`, 5, api.ErrSyntax)
	fails(t, `<a>x]]]]>`, 8, api.ErrSyntax)
	fails(t, `<a>]]<b/>]]></a>`, 11, api.ErrSyntax)
	fails(t, `<a><![CDATA[]]>]]></a>`, 17, api.ErrSyntax)
	for text, want := range map[string]string{`]] >`: "]] >", `]>`: "]>", `]`: "]", `]]`: "]]", `>`: ">", `]&#93;>`: "]]>", `]]&gt;`: "]]>", `]]&lt;>`: "]]<>", `&lt;]>`: "<]>", `<!---->]>`: "]>", `<![CDATA[]]>]>`: "]>", `<![CDATA[]]]>]>`: "]]>", `]]<!---->>`: "]]>", `]<!---->]>`: "]]>", `<!--]]-->>`: ">", `<!--]]>-->`: "", `]]<![CDATA[]]>>`: "]]>", `<![CDATA[]]>>`: ">", `]<![CDATA[]>]]>>`: "]]>>", `<![CDATA[]]]]>>`: "]]>"} {
		l, _, e := Scan("<a>" + text + "</a>")
		got := ""
		if len(l) == 3 {
			got = l[1].Text
		}
		if e != api.OK || got != want {
			t.Errorf("%s: %q, %d", text, got, e)
		}
	}
	reads(t, `<a>]]<b/>></a>`, `a @0`, `"]]" @3`, `b @5`, `end @7`, `">" @9`, `end @10`)
}

func TestComments(t *testing.T) { // P3.1
	for _, c := range []string{`<!---->`, `<!-- - -->`, `<!---x-->`, `<!--->-->`, `<!--<a>&x;]]>'-->`, `<!--- - -->`, "<!--\r\n\u00e4-->", `<!--x- -->`} {
		n := len(c)
		at := func(i int) string { return strconv.Itoa(i) }
		reads(t, c+`<a/>`+c, `a @`+at(n), `end @`+at(n+2))
		reads(t, `<a>`+c+`</a>`, `a @0`, `end @`+at(3+n))
	}
	fails(t, `<!-- -- --><a/>`, 7, api.ErrSyntax)
	fails(t, `<a/><!-- -- -->`, 11, api.ErrSyntax)
	fails(t, `<!----->`, 6, api.ErrSyntax)
	fails(t, `<!--x--->`, 7, api.ErrSyntax)
	fails(t, `<a><!-- -- --></a>`, 10, api.ErrSyntax)
	fails(t, `<!--->`, 6, api.ErrEnd)
	fails(t, `<!-x`, 3, api.ErrSyntax)
	fails(t, `<!x`, 2, api.ErrSyntax)
	fails(t, `<a/><!-- x --`, 13, api.ErrEnd)
	fails(t, `<a <!-- x -->/>`, 3, api.ErrSyntax)
}

func TestReferences(t *testing.T) { // P3.1
	for _, x := range []string{`&b;`, `&;`, `&#;`, `&#x;`, `&lt`, `&LT;`, `& lt;`, `&&lt;`, `&l-t;`, `&ä;`, `&#0;`, `&#11;`, `&#55296;`, `&#x110000;`, `&#x1g;`, `&#X41;`, `&` + strings.Repeat("a", 24) + `;`, `&#` + strings.Repeat("0", 20) + `9;`} {
		fails(t, `<a>`+x+`</a>`, 3, api.ErrEntity)
		fails(t, `<a>t`+x+`</a>`, 4, api.ErrEntity)
		fails(t, `<a x='`+x+`'/>`, 6, api.ErrEntity)
		fails(t, `<a x="&lt;`+x+`"/>`, 10, api.ErrEntity)
	}
	// the 25th character is wrong, the 24th is not
	for _, c := range []string{"a", "z", "A", "Z", "0", "9", "#"} {
		fails(t, `<a>&`+strings.Repeat(c, 24), 28, api.ErrEnd)
		fails(t, `<a>&`+strings.Repeat(c, 25), 3, api.ErrEntity)
		fails(t, `<a x='&`+strings.Repeat(c, 24), 31, api.ErrEnd)
		fails(t, `<a x='&`+strings.Repeat(c, 25), 6, api.ErrEntity)
	}
	for _, c := range []string{"`", "{", "@", "[", "/", ":", "\"", "$", "<", "\n", "_", "-", "."} {
		fails(t, `<a>&lt`+c, 3, api.ErrEntity)
	}
	reads(t, `<a>&#x00000000000000000041;</a>`, `a @0`, `"A" @3`, `end @27`)
	fails(t, `&lt;<a/>`, 0, api.ErrSyntax)
	fails(t, `<a/>&lt;`, 4, api.ErrSyntax)
	fails(t, `<a &lt;=''/>`, 3, api.ErrSyntax)
	fails(t, `<a>&l`, 5, api.ErrEnd)
}

func TestLines(t *testing.T) { // P3.1, P3.2
	reads(t, "<a>\r\n\r&#13;</a>", `a @0`, `"\n\n\r" @3`, `end @11`)
	reads(t, "<a>\r\r\n\n\r</a>", `a @0`, `"\n\n\n\n" @3`, `end @8`)
	reads(t, "<a>\n\r</a>", `a @0`, `"\n\n" @3`, `end @5`)
	reads(t, "<a>&#13;\n</a>", `a @0`, `"\r\n" @3`, `end @9`) // the 10 is not behind a 13
	reads(t, "<a>\r<!---->\n</a>", `a @0`, `"\n\n" @3`, `end @12`)
	reads(t, "<a>\r\n<b/>\r\n</a>", `a @0`, `"\n" @3`, `b @5`, `end @7`, `"\n" @9`, `end @11`)
	reads(t, "<a>\r<![CDATA[\n\r]]>\n</a>", `a @0`, `"\n\n\n\n" @3`, `end @19`)
	reads(t, "\r\n<a\r\nx\r\n=\r\n'\r\n'\r\n></a\r\n>\r\n", `a x=" " @2`, `end @19`)
	fails(t, "<a>]]\r\n></a\r\r\nb", 14, api.ErrSyntax)
	fails(t, "<\r\n", 1, api.ErrSyntax)
	fails(t, "<a/>\r\nx", 6, api.ErrSyntax)
	fails(t, "<a x=''\r\n'", 9, api.ErrSyntax)
	s := New()
	for i, p := range []struct {
		piece string
		at    int
		e     api.Errno
	}{{"<a>\r", 4, api.OK}, {"", 4, api.OK}, {"\n", 5, api.OK}, {"\n\r", 7, api.OK}, {"<b\r", 10, api.OK}, {"\n/>", 13, api.OK}, {"</\r", 15, api.ErrSyntax}} {
		if _, e := s.Feed(p.piece); e != p.e || s.At() != p.at {
			t.Errorf("piece %d: %d at %d", i, e, s.At())
		}
	}
}

func TestBytes(t *testing.T) { // P3.1, P3.2
	for _, x := range []string{"\x00", "\x08", "\x0b", "\x1f", "\x80", "\xbf", "\xc0\x80", "\xc1\xbf", "\xc3<", "\xc3\xc3", "\xe0\x80\x80", "\xe2\x82<", "\xed\xa0\x80", "\xef\xbf\xbe", "\xef\xbf\xbf", "\xf0\x80\x80\x80", "\xf0\x9f\x98<", "\xf4\x90\x80\x80", "\xf5", "\xff", "\xc3", "\xe2\x82", "\xf0\x9f\x98"} {
		for _, before := range []string{"", " ", "<", "<a", "<a ", "<a x", "<a x=", "<a x='", "<a x='&", "<a x=''", "<a/", "<a:", "<a>", "<a>ä", "<a>&l", "<a>]]", "<a></", "<a></a", "<a></a ", "<a/>", "<!", "<!-", "<!--", "<!-- --", "<a><!", "<a><![CDA", "<a><![CDATA[", "<a><![CDATA[]]"} {
			fails(t, before+x, len(before), api.ErrForm)
		}
		fails(t, "<a></b"+x+">", 6, api.ErrForm)
	}
	reads(t, "<a>\u007f\u0080\u07ff\u0800\ud7ff\ue000\ufffd\U00010000\U0010ffff</a>", `a @0`, strconv.Quote("\u007f\u0080\u07ff\u0800\ud7ff\ue000\ufffd\U00010000\U0010ffff")+` @3`, `end @28`)
	// bytes at the end of a piece are wrong as soon as no character begins so
	for x, wrong := range map[string]bool{"\xc3": false, "\xe2": false, "\xe2\x82": false, "\xef\xbf": false, "\xf0\x9f\x98": false, "\xf4\x8f": false, "\x80": true, "\xc0": true, "\xe0\x80": true, "\xed\xa0": true, "\xf0\x80": true, "\xf4\x90": true, "\xf5": true, "\xe2a": true, "\xe2\x82\xe2": true, "\xf0\x9fa": true} {
		s := New()
		_, e := s.Feed("<a>" + x)
		if wrong && (e != api.ErrForm || s.At() != 3) || !wrong && (e != api.OK || s.At() != 3+len(x)) {
			t.Errorf("%q: %d at %d", x, e, s.At())
		}
		if _, e := s.End(); e != api.ErrForm || s.At() != 3 {
			t.Errorf("End behind %q: %d at %d", x, e, s.At())
		}
	}
}

func TestWrongCharacters(t *testing.T) { // P3.1
	for text, at := range map[string]int{
		`x`: 0, `/`: 0, `>`: 0, `&`: 0, ` x`: 1, `</a>`: 1, `< a/>`: 1, `<1/>`: 1, `<-a/>`: 1, `<:a/>`: 1, `<a:/>`: 3, `<a:1/>`: 3, `<a:b:c/>`: 4, `<a::b/>`: 3, `<?xml?>`: 1, `<!DOCTYPE>`: 2, `<![CDATA[]]>`: 2, `<×/>`: 1, `<a×/>`: 2,
		`<a/>b`: 4, `<a/><b/>`: 5, `<a/></a>`: 5, `<a></a></a>`: 8, `<a/><![CDATA[]]>`: 6, `<a/><?`: 5, `<a/>]`: 4,
		`<a b/>`: 4, `<a/ >`: 3, `<a / >`: 4, `<a <`: 3, `<a<`: 2, `<a=`: 2, `<a 'x'>`: 3, `<a x:='1'/>`: 5, `<a x:y:z=''/>`: 6, `<a x=>`: 5, `<a x==`: 5, `<a x=''=`: 7, `<a x='1''>`: 8, `<a x&`: 4, `<a 1=''/>`: 3, `<a . x=''>`: 3,
		`<a></>`: 5, `<a></ a>`: 5, `<a></a/>`: 6, `<a></a x>`: 7, `<a></a x=''>`: 7, `<a></1`: 5, `<a></a:1`: 7, `<a></a:b:`: 8, `<a></!`: 5, `<a><!D`: 5, `<a><?`: 4, `<a>< `: 4, `<a><!-[`: 6, `<a><![CDATA]`: 11,
	} {
		fails(t, text, at, api.ErrSyntax)
	}
}

func TestEndings(t *testing.T) { // P3.1
	for _, text := range []string{``, ` `, "\r\n", `<`, `<a`, `<a `, `<a x`, `<a x=`, `<a x='`, `<a x=''`, `<a/`, `<a>`, `<a>t`, `<a>&`, `<a>&lt`, `<a>&lt;`, `<a></`, `<a></a`, `<a></a `, `<a></b`, `<p:a`, `<a x='' x=''`, `<a><b/>`, `<a><b></b>`, `<!`, `<!-`, `<!--`, `<!---`, `<!----`, `<!---->`, `<a/><`, `<a/><!--`, `<a/><!-- --`, `<a><!`, `<a><![CDATA[`, `<a><![CDATA[]]`, `<a><![CDATA[]]>`, `<a:`, `<a></a:`} {
		fails(t, text, len(text), api.ErrEnd)
	}
	reads(t, `<a/><!---->`, `a @0`, `end @2`)
	reads(t, `<a/> `, `a @0`, `end @2`)
}

func TestTags(t *testing.T) { // P3.1
	fails(t, `<a></b>`, 3, api.ErrTag)
	fails(t, `<a>t</ab >`, 4, api.ErrTag)
	fails(t, `<a><b></a></b>`, 6, api.ErrTag)
	fails(t, `<a xmlns='u' xmlns:p='u'></p:a>`, 25, api.ErrTag) // raw names are compared, not names
	fails(t, `<p:a xmlns:p='u' xmlns:q='u'></q:a>`, 29, api.ErrTag)
	fails(t, `<p:a xmlns:p='u'></a>`, 17, api.ErrTag)
	fails(t, `<a></A>`, 3, api.ErrTag)
	fails(t, `<a><b/></b>`, 7, api.ErrTag)
	fails(t, `<a></b x>`, 7, api.ErrSyntax)
	reads(t, `<p:a xmlns:p='u'><p:a xmlns:p='v'></p:a></p:a>`, `u|a @0`, `v|a @17`, `end @34`, `end @40`)
}

func TestErrorsInOrder(t *testing.T) { // P3.1
	long := strings.Repeat("n", 201)
	many := "<a>" + strings.Repeat("<b/>", 299)
	full := len(many)
	fails(t, many+"t</b>", full, api.ErrLong) // the text comes before the tag
	fails(t, many+"</b>", full, api.ErrTag)
	fails(t, many+"t<b x='' x=''/>", full, api.ErrLong)
	fails(t, many+"<b x='' x=''/>", full+8, api.ErrAttr)
	fails(t, many+"<p:b/>", full, api.ErrPrefix)
	fails(t, many+"<b p:x='' q:x='' xmlns:p='u' xmlns:q='u'/>", full, api.ErrAttr)
	fails(t, many+"t<b/", full+4, api.ErrEnd)
	fails(t, "<p:a x='' x=''/>", 10, api.ErrAttr)
	fails(t, "<a p:x='' q:x='' xmlns:p='u' xmlns:q='u' r:y=''/>", 0, api.ErrPrefix)
	fails(t, "<a xmlns:p='' xmlns:q='u' xmlns:r='u' q:x='' r:x=''/>", 0, api.ErrPrefix)
	fails(t, "<"+long+" p:x=''/>", 0, api.ErrPrefix)
	fails(t, "<"+long+" p:x='' q:x='' xmlns:p='u' xmlns:q='u'/>", 0, api.ErrAttr)
	fails(t, "<a x='' x=''\x00/>", 12, api.ErrForm)
	fails(t, "<a x='' x=''=/>", 12, api.ErrSyntax)
	fails(t, "<a x='' x='&y;'/>", 11, api.ErrEntity)
	fails(t, "<a>&x;\x00", 3, api.ErrEntity)
	fails(t, "<a>&x\x00;", 5, api.ErrForm)
}
