package notation_test

import (
	"math"
	"math/rand"
	"slices"
	"strings"
	"testing"

	"scrim/api"
	"scrim/notation"
	"scrim/props"
	"scrim/view"
)

// reads tests that a text is parsed as a view.
func reads(t *testing.T, s string, want view.Node) {
	t.Helper()
	n, at, e := notation.Parse(s)
	if at != 0 || e != api.OK || !equal(n, want) {
		t.Errorf("%.99q is %+v, %d at %d, wanted %+v", s, n, e, at, want)
	}
}

// refuses tests that a text is refused with a zero Node.
func refuses(t *testing.T, s string, at int, want api.Errno) {
	t.Helper()
	if n, got, e := notation.Parse(s); got != at || e != want || !equal(n, view.Node{}) {
		t.Errorf("%.99q is %+v, %d at %d, wanted %d at %d", s, n, e, got, want, at)
	}
}

// equal is like Same of layer 7, but looks at the pairs as they stand.
func equal(a, b view.Node) bool {
	return view.Same(a, b) && slices.Equal(a.Attrs, b.Attrs) && slices.Equal(a.Styles, b.Styles) && slices.EqualFunc(a.Kids, b.Kids, equal)
}

func text(s string) view.Node { return view.Node{Kind: view.Text, Text: s} }

func element(tag string, kids ...view.Node) view.Node {
	return view.Node{Kind: view.Element, Tag: tag, Kids: kids}
}

// as is a p after a change.
func as(change func(*view.Node)) view.Node {
	n := element("p")
	change(&n)
	return n
}

// P8.1: the document's examples.
func TestExamples(t *testing.T) {
	reads(t, "(p #a .on w=3 'hi')", view.Node{
		Kind: view.Element, Tag: "p", Key: "a", Classes: []string{"on"}, Styles: props.Map[int]{{Name: "w", Value: 3}}, Kids: []view.Node{text("hi")},
	})
	refuses(t, "(p #a #b)", 6, api.ErrForm)
}

// P8.1: spaces may be anywhere between tokens, and need not be where the tokens
// end by themselves.
func TestSpaces(t *testing.T) {
	for _, s := range []string{"''", " ''", "''  ", strings.Repeat(" ", 19998) + "''"} {
		reads(t, s, text(""))
	}
	want := element("p", text("a"), element("b"), text(" c "), element("d", element("e")))
	for _, s := range []string{"(p 'a' (b) ' c ' (d (e)))", "(p'a'(b)' c '(d(e)))", "  (  p  'a'  (  b  )  ' c '  (  d  (  e  )  )  )  "} {
		reads(t, s, want)
	}
	reads(t, "(p .a'x'.b(q).c)", as(func(n *view.Node) { n.Classes, n.Kids = []string{"a", "b", "c"}, []view.Node{text("x"), element("q")} }))
	reads(t, "( p .a  .b )", as(func(n *view.Node) { n.Classes = []string{"a", "b"} }))
}

// P8.1: a text has up to 64 bytes, which are 32 to 126.
func TestTexts(t *testing.T) {
	var all strings.Builder
	for b := byte(32); b <= 126; b++ {
		if b != '\'' {
			all.WriteByte(b)
		}
	}
	for _, s := range []string{"", " ", "a", "#a .b @c", "((", ")", "!group", all.String()[:64], all.String()[30:], strings.Repeat("x", 64)} {
		reads(t, "'"+s+"'", text(s))
		reads(t, "(p '"+s+"')", element("p", text(s)))
	}
	for b := range 256 {
		if b < 32 || b > 126 {
			refuses(t, "(p 'a"+string([]byte{byte(b)})+"')", 3, api.ErrForm)
			refuses(t, " '"+string([]byte{byte(b)})+"x", 1, api.ErrForm)
		}
	}
	refuses(t, "(p '"+strings.Repeat("x", 65)+"')", 3, api.ErrForm)
	refuses(t, "'", 0, api.ErrForm)
	refuses(t, "(p 'a' ' b)", 7, api.ErrForm)
	refuses(t, "(p 'it's')", 7, api.ErrForm)
}

// P8.1: each kind of item, at the limits that the document names.
func TestItems(t *testing.T) {
	long, value := strings.Repeat("a", 16), strings.Repeat("x", 32)
	for s, change := range map[string]func(*view.Node){
		"": func(n *view.Node) {}, "#a": func(n *view.Node) { n.Key = "a" }, "#1-": func(n *view.Node) { n.Key = "1-" }, "#t-x": func(n *view.Node) { n.Key = "t-x" },
		"#" + long: func(n *view.Node) { n.Key = long }, ".a": func(n *view.Node) { n.Classes = []string{"a"} },
		".t-x ." + long: func(n *view.Node) { n.Classes = []string{"t-x", long} }, ".b .a .b": func(n *view.Node) { n.Classes = []string{"b", "a", "b"} },
		"@a=":             func(n *view.Node) { n.Attrs = props.Map[string]{{Name: "a"}} },
		"@b== @a=#.@!=":   func(n *view.Node) { n.Attrs = props.Map[string]{{Name: "a", Value: "#.@!="}, {Name: "b", Value: "="}} },
		"@t-x=" + value:   func(n *view.Node) { n.Attrs = props.Map[string]{{Name: "t-x", Value: value}} },
		"@" + long + "=1": func(n *view.Node) { n.Attrs = props.Map[string]{{Name: long, Value: "1"}} },
		"b=-2147483648 a=2147483647": func(n *view.Node) {
			n.Styles = props.Map[int]{{Name: "a", Value: math.MaxInt32}, {Name: "b", Value: math.MinInt32}}
		},
		"t-x=0 " + long + "=1": func(n *view.Node) { n.Styles = props.Map[int]{{Name: long, Value: 1}, {Name: "t-x"}} },
		"a=1 @a=1 .a #a": func(n *view.Node) {
			n.Key, n.Classes, n.Attrs, n.Styles = "a", []string{"a"}, props.Map[string]{{Name: "a", Value: "1"}}, props.Map[int]{{Name: "a", Value: 1}}
		},
		"!group": func(n *view.Node) { n.Kind = view.Group }, "!slot": func(n *view.Node) { n.Kind = view.Slot },
		"!enter=1 !leave=2 !move=3":           func(n *view.Node) { n.Opts = view.Options{Enter: 1, Leave: 2, Move: 3} },
		"!move=0 !enter=-5 !leave=2147483647": func(n *view.Node) { n.Opts = view.Options{Enter: -5, Leave: math.MaxInt32} },
		"!appear":                             func(n *view.Node) { n.Opts.Appear = true },
		"!moves":                              func(n *view.Node) { n.Opts.Moves = true },
		"!out-in":                             func(n *view.Node) { n.Opts.Mode = view.OutIn },
		"!in-out":                             func(n *view.Node) { n.Opts.Mode = view.InOut },
		"!moves !in-out !appear !slot enter=1 @move=": func(n *view.Node) {
			n.Kind, n.Opts = view.Slot, view.Options{Mode: view.InOut, Appear: true, Moves: true}
			n.Styles, n.Attrs = props.Map[int]{{Name: "enter", Value: 1}}, props.Map[string]{{Name: "move"}}
		},
	} {
		reads(t, "(p "+s+")", as(change))
	}
	reads(t, "(p 'x' #a (q .b) .c 'y')", as(func(n *view.Node) {
		n.Key, n.Classes = "a", []string{"c"}
		n.Kids = []view.Node{text("x"), {Kind: view.Element, Tag: "q", Classes: []string{"b"}}, text("y")}
	}))
}

// P8.1: words that are no item.
func TestNoItems(t *testing.T) {
	long, value := strings.Repeat("a", 17), strings.Repeat("x", 33)
	for _, w := range []string{
		"a", "A", "1", "-", "=", "a=", "=1", "a=b", "a=1=", "a==1", "a=01", "a=-0", "a=+1", "a=1x", "a=2147483648", "a=-2147483649", "a=12345678901", "A=1", "1a=1", long + "=1",
		"#", "##", "#A", "#a.b", "#" + long, ".", "..", ".A", ".1", ".a.b", "." + long, "@", "@a", "@=", "@=a", "@A=", "@1=", "@a.=", "@a=" + value, "@" + long + "=", "@@a=",
		"!", "!!", "!group=", "!group=1", "!groups", "!Group", "!slot=1", "!appear=1", "!moves=", "!enter", "!enter=", "!enter=x", "!enter=01", "!enter=-0", "!leave", "!leave=2147483648",
		"!move", "!move=1=", "!move=1x", "!mode=1", "!together", "!out-in=", "!in-out=1", "!outin", "!element", "?", "\"a\"", "a#b", "~",
	} {
		refuses(t, "(p "+w+")", 3, api.ErrForm)
		refuses(t, "(p .on  "+w+" 'x')", 8, api.ErrForm)
		refuses(t, "(p (q "+w, 6, api.ErrForm)
	}
}

// P8.1: what may be there once only, at any place.
func TestTwice(t *testing.T) {
	for _, c := range [][2]string{
		{"#a", "#a"}, {"#a", "#b"}, {"@a=1", "@a=1"}, {"@a=", "@a=2"}, {"a=1", "a=1"}, {"a=0", "a=2"}, {"!group", "!group"}, {"!slot", "!slot"}, {"!group", "!slot"}, {"!slot", "!group"},
		{"!enter=1", "!enter=1"}, {"!enter=0", "!enter=2"}, {"!leave=0", "!leave=0"}, {"!move=0", "!move=1"}, {"!appear", "!appear"}, {"!moves", "!moves"},
		{"!out-in", "!out-in"}, {"!in-out", "!in-out"}, {"!out-in", "!in-out"}, {"!in-out", "!out-in"},
	} {
		begin := "(p " + c[0] + " .x 'y' (q " + c[0] + ") @z= "
		refuses(t, begin+c[1]+")", len(begin), api.ErrForm)
		refuses(t, begin+c[1], len(begin), api.ErrForm)
		if _, _, e := notation.Parse(begin + ")"); e != api.OK {
			t.Errorf("%q is %d", begin+")", e)
		}
	}
}

// P8.1: tokens that may not be where they are, and what is missing at the end.
func TestPlaces(t *testing.T) {
	for s, at := range map[string]int{
		"": 0, "   ": 3, "p": 0, ")": 0, " )": 1, "#a": 0, ".a": 0, "!group": 0, "\n": 0, "\x00": 0, " \xff": 1, "\x7f''": 0,
		"(": 1, "( ": 2, "()": 1, "( )": 2, "((p))": 1, "('x')": 1, "(P)": 1, "(1)": 1, "(#a)": 1, "(.a)": 1, "(p.a)": 1, "(p!group)": 1, "(" + strings.Repeat("a", 17) + ")": 1,
		"(p": 2, "(p ": 3, "(p 'x'": 6, "(p (q)": 6, "(p (q": 5, "(p .a": 5, "(p  #a  ": 8, "(\np)": 1, "(p\n)": 2, "(p \x00)": 3, "(p .a\t.b)": 5, "(p .A\t)": 3,
		"(p))": 3, "(p) (q)": 4, "(p)'x'": 3, "'x''y'": 3, "'x' p": 4, "(p) \n": 4, "(p)  x": 5, "(p) \x00": 4,
	} {
		refuses(t, s, at, api.ErrForm)
	}
}

// P8.1: as many ( as may be within one another. What is refused first counts.
func TestDeepest(t *testing.T) {
	deep := func(long int) string { return strings.Repeat("(p ", long) }
	want := element("p")
	for range 39 {
		want = element("p", want)
	}
	reads(t, deep(40)+strings.Repeat(")", 40), want)
	for _, rest := range []string{"", "))", "P", "(p", strings.Repeat(")", 41)} {
		refuses(t, deep(41)+rest, 120, api.ErrDepth)
	}
	refuses(t, deep(40)+"(", 120, api.ErrDepth)
	refuses(t, deep(39)+"((", 118, api.ErrForm)
	refuses(t, deep(40)+"P (p)", 120, api.ErrForm)
	refuses(t, deep(40)+" ) (p 'x' (q))", 130, api.ErrDepth)
	refuses(t, deep(40), 120, api.ErrForm)
	refuses(t, "(p"+strings.Repeat("(q)", 50)+")x", 153, api.ErrForm)
	if n, _, e := notation.Parse("(p" + strings.Repeat("(q)", 5000) + ")"); e != api.OK || len(n.Kids) != 5000 {
		t.Errorf("many beside one another: %d", e)
	}
}

// P8.1: how long a text may be, whatever it is.
func TestBig(t *testing.T) {
	fill := func(long int) string { return "(p" + strings.Repeat(" ", long-3) + ")" }
	reads(t, fill(20000), element("p"))
	refuses(t, fill(20001), 0, api.ErrBig)
	refuses(t, strings.Repeat("(", 20001), 0, api.ErrBig)
	refuses(t, strings.Repeat("\x00", 1<<20), 0, api.ErrBig)
	refuses(t, strings.Repeat(" ", 20000), 20000, api.ErrForm)
	refuses(t, strings.Repeat("(", 20000), 1, api.ErrForm)
	refuses(t, strings.Repeat("x", 20000), 0, api.ErrForm)
}

// P8.1: many texts, most of them almost a view, against the model.
func TestAgainstModel(t *testing.T) {
	r := rand.New(rand.NewSource(9))
	told := map[api.Errno]int{}
	parts := []string{"(", ")", "'", " ", "(p", "'x'", "#a", "#b", ".a", ".A", "@a=1", "@b", "@a==", "w=1", "w=-2147483649", "h=0", "!group", "!slot", "!enter=3", "!leave=", "!move=01", "!appear", "!moves", "!out-in", "!in-out", "\x00", "\n", "\x7f", "=", "a", "-", "7", "  ", "!", strings.Repeat("(p ", 39), strings.Repeat("y", 60)}
	for range 60000 {
		s := notation.Print(valid(r, 1+r.Intn(4), ""))
		for range r.Intn(4) {
			from := r.Intn(len(s) + 1)
			to := min(len(s), from+choose(r, 0, 0, 1, 1, 2, 9))
			s = s[:from] + choose(r, parts...) + s[to:]
		}
		want, at, e := parsed(s)
		want = formed(want)
		told[e]++
		n, gotAt, got := notation.Parse(s)
		if got != e || gotAt != at || !equal(n, want) {
			t.Fatalf("%q is %+v, %d at %d, wanted %+v, %d at %d", s, n, got, gotAt, want, e, at)
		}
	}
	if told[api.OK] < 10000 || told[api.ErrForm] < 10000 || told[api.ErrDepth] < 100 {
		t.Errorf("too few of an error: %v", told)
	}
}

// formed gives all Maps their form.
func formed(n view.Node) view.Node {
	n.Attrs, n.Styles = props.Of(n.Attrs...), props.Of(n.Styles...)
	kids := n.Kids
	n.Kids = nil
	for _, kid := range kids {
		n.Kids = append(n.Kids, formed(kid))
	}
	return n
}

// P8.1: the order in which items are printed, with one space before each.
func TestPrint(t *testing.T) {
	all := view.Options{Enter: 1, Leave: 2, Move: 3, Mode: view.OutIn, Appear: true, Moves: true}
	for want, n := range map[string]view.Node{
		"''": text(""), "'hi'": text("hi"), "' a  b '": text(" a  b "), "'it's'": text("it's"), "(p)": element("p"), "(p '' (q) 'x')": element("p", text(""), element("q"), text("x")),
		"(p #k .b .a .b @a=2 @b=3 a=-4 b=5 !group !enter=1 !leave=2 !move=3 !appear !moves !out-in 'x' (q (r)))": {
			Kind: view.Group, Tag: "p", Key: "k", Classes: []string{"b", "a", "b"}, Attrs: props.Map[string]{{Name: "b", Value: "1"}, {Name: "a", Value: "2"}, {Name: "b", Value: "3"}},
			Styles: props.Map[int]{{Name: "b", Value: 9}, {Name: "a", Value: -4}, {Name: "b", Value: 5}}, Opts: all, Kids: []view.Node{text("x"), element("q", element("r"))},
		},
		"(p !slot !in-out)": {Kind: view.Slot, Tag: "p", Opts: view.Options{Mode: view.InOut}},
		"(p !enter=-1)":     {Kind: view.Element, Tag: "p", Opts: view.Options{Enter: -1, Mode: 3}},
		"(p !leave=9223372036854775807 !move=-9223372036854775808)": {Kind: view.Element, Tag: "p", Opts: view.Options{Leave: math.MaxInt, Move: math.MinInt, Mode: -1}},
		"(p !group !moves)": {Kind: view.Group, Tag: "p", Opts: view.Options{Moves: true}}, "(p !slot !appear)": {Kind: view.Slot, Tag: "p", Opts: view.Options{Appear: true}},
		"(p a=9223372036854775807 'x')": {Kind: 7, Tag: "p", Text: "not told", Styles: props.Map[int]{{Name: "a", Value: math.MaxInt}}, Kids: []view.Node{text("x")}},
		"'x'":                           {Kind: view.Text, Tag: "p", Key: "a", Text: "x", Classes: []string{"b"}, Opts: all, Kids: []view.Node{text("y")}},
		"()":                            {}, "(P #a b . @= =0 ())": {Kind: -1, Tag: "P", Key: "a b", Classes: []string{""}, Attrs: props.Map[string]{{}}, Styles: props.Map[int]{{}}, Kids: []view.Node{{}}},
	} {
		if got := notation.Print(n); got != want {
			t.Errorf("%+v is printed as %s, wanted %s", n, got, want)
		}
	}
}

// P8.2: a valid view is parsed from its Print.
func TestBack(t *testing.T) {
	r := rand.New(rand.NewSource(10))
	for range 20000 {
		n := valid(r, 1+r.Intn(5), "")
		if e := n.Check(20, 4096); e != api.OK {
			t.Fatalf("%+v is not valid: %d", n, e)
		}
		s := notation.Print(n)
		m, at, e := notation.Parse(s)
		if len(s) > 20000 {
			t.Fatalf("%d bytes", len(s))
		}
		if e != api.OK || at != 0 || !view.Same(m, n) || notation.Print(m) != s {
			t.Fatalf("%q is %+v, %d at %d, wanted %+v", s, m, e, at, n)
		}
	}
	deep := element("p", text("x"))
	for range 18 {
		deep = element("p", deep)
	}
	if m, _, e := notation.Parse(notation.Print(deep)); e != api.OK || deep.Check(20, 4096) != api.OK || !view.Same(m, deep) {
		t.Errorf("the deepest valid view: %d", e)
	}
}

// P1: nothing that is passed is changed, and no memory is shared.
func TestMemory(t *testing.T) {
	n := view.Node{Kind: view.Element, Tag: "p", Attrs: make(props.Map[string], 2, 9), Styles: make(props.Map[int], 2, 9), Classes: make([]string, 1, 9), Kids: make([]view.Node, 1, 9)}
	n.Attrs[0].Name, n.Attrs[1].Name, n.Styles[0].Name, n.Styles[1].Name, n.Classes[0] = "b", "a", "b", "a", "c"
	notation.Print(n)
	if n.Attrs[0].Name != "b" || n.Styles[0].Name != "b" || n.Attrs[:3][2].Name != "" || n.Styles[:3][2].Name != "" || n.Classes[:2][1] != "" || n.Kids[:2][1].Kind != 0 {
		t.Errorf("what was passed is %+v", n)
	}
	s := "(p .a @a=1 b=2 (q .c))"
	one, _, _ := notation.Parse(s)
	one.Classes[0], one.Attrs[0].Name, one.Styles[0].Name, one.Kids[0].Classes[0], one.Kids[0].Tag = "z", "z", "z", "z", "z"
	if two, _, _ := notation.Parse(s); notation.Print(two) != s {
		t.Errorf("a change elsewhere made %s", notation.Print(two))
	}
}

// P1: everything ends without a panic, for the deepest view and for any bytes.
func TestExtremes(t *testing.T) {
	deep := element("p")
	for range 1<<16 - 1 {
		deep = element("p", deep)
	}
	want := strings.Repeat("(p ", 1<<16-1) + "(p" + strings.Repeat(")", 1<<16)
	if got := notation.Print(deep); got != want {
		t.Error("the deepest view is printed otherwise")
	}
	r := rand.New(rand.NewSource(11))
	for range 20000 {
		s := make([]byte, r.Intn(30))
		for i := range s {
			s[i] = choose(r, byte(r.Intn(256)), '(', ')', '\'', ' ', 'p', '!', '=')
		}
		want, at, e := parsed(string(s))
		n, gotAt, got := notation.Parse(string(s))
		if got != e || gotAt != at || !equal(n, formed(want)) {
			t.Fatalf("%q is %+v, %d at %d, wanted %+v, %d at %d", s, n, got, gotAt, want, e, at)
		}
	}
}
