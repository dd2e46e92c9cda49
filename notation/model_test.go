package notation_test

import (
	"math"
	"math/rand"
	"regexp"
	"slices"
	"strconv"
	"strings"

	"scrim/api"
	"scrim/props"
	"scrim/view"
)

// The tokens, and the words that are items.
var (
	aToken  = regexp.MustCompile(`^(?:\(|\)|'[ -&(-~]{0,64}'|[!-&*-~]+)`)
	aTag    = regexp.MustCompile(`^[a-z][a-z0-9-]{0,15}$`)
	aKey    = regexp.MustCompile(`^#([a-z0-9-]{1,16})$`)
	aClass  = regexp.MustCompile(`^\.([a-z][a-z0-9-]{0,15})$`)
	anAttr  = regexp.MustCompile(`^@([a-z][a-z0-9-]{0,15})=([!-~]{0,32})$`)
	aStyle  = regexp.MustCompile(`^([a-z][a-z0-9-]{0,15})=(0|-?[1-9][0-9]{0,9})$`)
	aTime   = regexp.MustCompile(`^!(enter|leave|move)=(0|-?[1-9][0-9]{0,9})$`)
	anExtra = regexp.MustCompile(`^!(group|slot|appear|moves|out-in|in-out)$`)
)

// open is a node of which the ) has not been read.
type open struct {
	n    view.Node
	seen []string
}

// parsed is Parse, spelt out independently of the program: token by token, with a
// stack of what is open.
func parsed(s string) (view.Node, int, api.Errno) {
	if len(s) > 20000 {
		return view.Node{}, 0, api.ErrBig
	}
	var stack []open
	var whole []view.Node
	for at := 0; ; {
		at += len(s[at:]) - len(strings.TrimLeft(s[at:], " "))
		token := aToken.FindString(s[at:])
		var done *view.Node
		e := api.ErrForm
		switch {
		case at == len(s) && len(whole) > 0:
			return whole[0], 0, api.OK
		case token == "" || len(whole) > 0:
		case token == "(":
			at, e = at+1, api.OK
			if len(stack) == 40 {
				return view.Node{}, at - 1, api.ErrDepth
			}
			at += len(s[at:]) - len(strings.TrimLeft(s[at:], " "))
			token = aToken.FindString(s[at:])
			stack = append(stack, open{n: view.Node{Kind: view.Element, Tag: token}})
			if !aTag.MatchString(token) {
				e = api.ErrForm
			}
		case token[0] == '\'':
			done, e = &view.Node{Kind: view.Text, Text: token[1 : len(token)-1]}, api.OK
		case len(stack) == 0:
		case token == ")":
			n := stack[len(stack)-1].n
			done, e = &n, api.OK
			stack = stack[:len(stack)-1]
		default:
			e = stack[len(stack)-1].item(token)
		}
		if e != api.OK {
			return view.Node{}, at, e
		}
		at += len(token)
		if done != nil && len(stack) > 0 {
			n := &stack[len(stack)-1].n
			n.Kids = append(n.Kids, *done)
		} else if done != nil {
			whole = append(whole, *done)
		}
	}
}

// item adds a word.
func (o *open) item(w string) api.Errno {
	once := ""
	switch {
	case aKey.MatchString(w):
		once, o.n.Key = "#", w[1:]
	case aClass.MatchString(w):
		o.n.Classes = append(o.n.Classes, w[1:])
	case anAttr.MatchString(w):
		m := anAttr.FindStringSubmatch(w)
		once, o.n.Attrs = "@"+m[1], append(o.n.Attrs, props.Pair[string]{Name: m[1], Value: m[2]})
	case aStyle.MatchString(w):
		m := aStyle.FindStringSubmatch(w)
		once, o.n.Styles = m[1], append(o.n.Styles, props.Pair[int]{Name: m[1], Value: number(m[2])})
		if beyond(m[2]) {
			return api.ErrForm
		}
	case aTime.MatchString(w):
		m := aTime.FindStringSubmatch(w)
		once = "!" + m[1]
		*map[string]*int{"enter": &o.n.Opts.Enter, "leave": &o.n.Opts.Leave, "move": &o.n.Opts.Move}[m[1]] = number(m[2])
		if beyond(m[2]) {
			return api.ErrForm
		}
	case anExtra.MatchString(w):
		once = o.extra(w)
	default:
		return api.ErrForm
	}
	if once != "" && slices.Contains(o.seen, once) {
		return api.ErrForm
	}
	o.seen = append(o.seen, once)
	return api.OK
}

func (o *open) extra(w string) string {
	switch w {
	case "!group", "!slot":
		o.n.Kind = map[string]int{"!group": view.Group, "!slot": view.Slot}[w]
		return "a kind"
	case "!out-in", "!in-out":
		o.n.Opts.Mode = map[string]int{"!out-in": view.OutIn, "!in-out": view.InOut}[w]
		return "a mode"
	case "!appear":
		o.n.Opts.Appear = true
	default:
		o.n.Opts.Moves = true
	}
	return w
}

func number(s string) int {
	n, _ := strconv.Atoi(s)
	return n
}

func beyond(s string) bool { return number(s) < math.MinInt32 || number(s) > math.MaxInt32 }

func choose[T any](r *rand.Rand, l ...T) T { return l[r.Intn(len(l))] }

// valid returns a view that may be. With a key it is a kid of a Group or Slot.
func valid(r *rand.Rand, deep int, key string) view.Node {
	if key == "" && r.Intn(3) == 0 {
		return view.Node{Kind: view.Text, Text: choose(r, "", "hi", "a b", " ", "~!@#(.)", strings.Repeat("x", 64))}
	}
	n := view.Node{Kind: view.Element, Tag: choose(r, "p", "ul", "t-x", strings.Repeat("a", 16)), Key: key}
	for range r.Intn(4) {
		n.Classes = append(n.Classes, choose(r, "a", "b", "on", "z9-"))
	}
	for range r.Intn(4) {
		n.Attrs = append(n.Attrs, props.Pair[string]{Name: choose(r, "a", "b", "w"), Value: choose(r, "", "=", "#v", strings.Repeat("~", 32))})
	}
	for range r.Intn(4) {
		n.Styles = append(n.Styles, props.Pair[int]{Name: choose(r, "a", "b", "w"), Value: choose(r, 0, -7, math.MaxInt32, math.MinInt32)})
	}
	if key == "" {
		n.Kind = choose(r, view.Element, view.Element, view.Group, view.Slot)
		n.Key = choose(r, "", "", "k", strings.Repeat("-", 16))
	}
	time := func() int { return choose(r, 0, 0, 1, 7, 1000) }
	keys := []string{"a", "b", "1", strings.Repeat("k", 16)}
	switch n.Kind {
	case view.Group:
		n.Opts = view.Options{Enter: time(), Leave: time(), Move: time(), Appear: r.Intn(2) > 0, Moves: r.Intn(2) > 0}
	case view.Slot:
		n.Opts = view.Options{Enter: time(), Leave: time(), Mode: r.Intn(3), Appear: r.Intn(2) > 0}
		keys = keys[:1]
	default:
		keys = []string{"", "", "", ""}
	}
	for _, key := range keys[:r.Intn(len(keys)+1)] {
		if deep > 1 {
			kid := valid(r, deep-1, key)
			kid.Key = key
			n.Kids = append(n.Kids, kid)
		}
	}
	return n
}
