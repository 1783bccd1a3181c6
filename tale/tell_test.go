package tale

import (
	"math/rand"
	"slices"
	"strings"
	"testing"

	"wapentake/api"
	"wapentake/chain"
	"wapentake/memo"
	"wapentake/nest"
	"wapentake/proof"
	"wapentake/roster"
	"wapentake/seal"
	"wapentake/shire"
	"wapentake/table"
)

func put(no int, key, value string) api.Choice {
	return api.Choice{Kind: api.DoAsk, N: no, What: table.Put, Key: key, Value: value}
}

func get(no int, key string) api.Choice {
	return api.Choice{Kind: api.DoAsk, N: no, What: table.Get, Key: key}
}

func rule(no, what, group int) api.Choice {
	return api.Choice{Kind: api.DoRule, N: no, What: what, Group: group}
}

func round(n int) api.Choice { return api.Choice{Kind: api.DoRound, N: n} }

// textOf is a script's text.
func textOf(t *testing.T, s Script) string {
	t.Helper()
	text, err := Format(s)
	if err != api.OK {
		t.Fatal(err)
	}
	return text
}

// told are a script's lines, each as a list.
func told(t *testing.T, s Script) [][]string {
	t.Helper()
	l, place, err := Tell(textOf(t, s))
	if place != 0 || err != api.OK || len(l) == 0 {
		t.Fatalf("%v, %d, %v", l, place, err)
	}
	var texts [][]string
	for _, x := range l {
		parts, err := nest.Unpack(x)
		if err != api.OK {
			t.Errorf("%q is no list", x)
		}
		texts = append(texts, parts)
	}
	return texts
}

func nums(l ...int) []string {
	var texts []string
	for _, n := range l {
		texts = append(texts, nest.Num(n))
	}
	return texts
}

// wanted are a shire's lines, made of what it tells.
func wanted(t *testing.T, s Script) [][]string {
	t.Helper()
	x, err := shire.New(s.X, s.Seed, s.Odd)
	if err != api.OK {
		t.Fatal(err)
	}
	for _, c := range s.L {
		x.Step(c)
	}
	var l [][]string
	for _, c := range x.Calls() {
		l = append(l, slices.Concat([]string{"call"}, nums(c.Client, c.Number, c.From, c.To, int(c.Answer.Err)), []string{c.Answer.Value}))
	}
	for _, p := range x.Points() {
		l = append(l, slices.Concat([]string{"point"}, nums(p.At, p.Client, p.Number, int(p.Answer.Err)), []string{p.Answer.Value}))
	}
	for _, r := range x.Rulings() {
		l = append(l, slices.Concat([]string{"ruling"}, nums(r.Client, r.Number, int(r.Err))))
	}
	broken, _, _ := proof.Check(x.Calls(), x.Points())
	return append(l, []string{"map", nest.Num(broken)})
}

func wantLines(t *testing.T, s Script) [][]string {
	t.Helper()
	got, want := told(t, s), wanted(t, s)
	if !slices.EqualFunc(got, want, slices.Equal[[]string]) {
		t.Errorf("%q, not %q", got, want)
	}
	return got
}

// kinds are of how many lines each word is the first.
func kinds(l [][]string) map[string]int {
	n := map[string]int{}
	for _, x := range l {
		n[x[0]]++
	}
	return n
}

// 26.2, line by line.
func TestTell(t *testing.T) {
	s := Script{X: roster.Roster{F: 0, Groups: 2, Clients: 2}, Seed: "s", Odd: []int{0, 0, 0}, L: []api.Choice{
		rule(0, chain.Leave, 1), round(8), rule(0, chain.Join, 1), round(12),
		put(0, "k", "a"), get(1, "l"), round(8), rule(1, chain.Join, 2), round(20),
		{Kind: api.DoAsk, N: 0, What: table.Append, Key: "k", Value: "b,c"}, round(20), get(1, "k"), round(12), put(0, "k", "c"),
	}}
	l := wantLines(t, s)
	if n := kinds(l); len(l) != 13 || n["call"] != 5 || n["point"] != 4 || n["ruling"] != 3 || n["map"] != 1 {
		t.Fatalf("%q", l)
	}
	for i, want := range map[int][]string{
		2: {"call", "0", "4", "", "", "0", "ab,c"}, 3: {"call", "1", "3", "", "", "0", "ab,c"}, 4: {"call", "0", "5", "", "-1", "0", ""},
		9: {"ruling", "0", "1", nest.Num(int(api.ErrGroup))}, 10: {"ruling", "0", "2", "0"}, 11: {"ruling", "1", "2", "0"}, 12: {"map", "0"},
	} {
		for k, x := range l[i] {
			if k < len(want) && want[k] != "" && x != want[k] || len(l[i]) != len(want) {
				t.Errorf("line %d: %q, not %q", i, l[i], want)
				break
			}
		}
	}
}

// Texts of scripts in which moments are plain.
func TestTellShort(t *testing.T) {
	for _, c := range []struct {
		l    []api.Choice
		want []string
	}{
		{nil, []string{"3:map,1:0,"}},
		{[]api.Choice{{}, {Kind: 3, End: 9}, {Kind: 10}}, []string{"3:map,1:0,"}},
		{[]api.Choice{put(0, "k", "v")}, []string{"4:call,1:0,1:1,1:1,2:-1,1:0,0:,", "3:map,1:0,"}},
		{[]api.Choice{{Kind: 3}, {Kind: 3}, put(0, "k", "v"), put(0, "k", "w")}, []string{"4:call,1:0,1:1,1:3,2:-1,1:0,0:,", "3:map,1:0,"}},
	} {
		l, place, err := Tell(textOf(t, Script{X: small, Seed: "s", Odd: []int{0, 0}, L: c.l}))
		if !slices.Equal(l, c.want) || place != 0 || err != api.OK {
			t.Errorf("%q, %d, %v, not %q", l, place, err, c.want)
		}
	}
}

// 26.2: what a shire refuses. (Its seed is never too long: such a head is none.)
func TestTellErrors(t *testing.T) {
	for i, s := range []Script{
		{},
		{X: small},
		{X: small, Odd: []int{0}},
		{X: small, Odd: []int{0, 1}},
		{X: small, Odd: []int{0, -1}},
		{X: small, Odd: make([]int, 16)},
		{X: roster.Roster{F: 4, Groups: 1, Clients: 1}, Odd: []int{0, 0}},
		{X: roster.Roster{F: 1, Groups: 1, Clients: 1}, Odd: []int{3, 0}},
	} {
		s.L = []api.Choice{{Kind: 3}, {Kind: 3}}
		if l, place, err := Tell(textOf(t, s)); l != nil || place != 0 || err != api.ErrArg {
			t.Errorf("%d: %v, %d, %v", i, l, place, err)
		}
	}
	bad := nest.Pack([]string{"1:9,1:1,1:1,0:,", "x"})
	isNone(t, bad, 1, api.ErrForm) // Parse's error comes first
}

// Where an odd replica has another one's tag, clients see what no map tells: the rule that is broken is told.
func TestTellBroken(t *testing.T) {
	x := roster.Roster{F: 1, Groups: 1, Clients: 1}
	s := Script{X: x, Seed: "s", Odd: []int{0, 1}, L: []api.Choice{rule(0, chain.Join, 1), round(12), get(0, "k"), round(12), get(0, "k")}}
	ring, err := seal.New(s.Seed)
	if err != api.OK {
		t.Fatal(err)
	}
	for no := range 2 {
		m, err := memo.Sign(ring, memo.Memo{Kind: memo.Reply, From: api.Party{Group: 1, No: no}, View: 0, Number: 3, Text: nest.Pack([]string{"0", "0", "lie", "1"})})
		if err != api.OK {
			t.Fatal(err)
		}
		text, err := memo.Encode(m)
		if err != api.OK {
			t.Fatal(err)
		}
		s.L = append(s.L, api.Choice{Kind: api.DoForge, End: 4, N: 8, Text: text}, api.Choice{Kind: api.DoDeliver})
	}
	l := wantLines(t, s)
	if len(l) != 5 || l[1][6] != "lie" || l[4][1] != "3" {
		t.Errorf("%q", l)
	}
}

// Scripts of all kinds are told as their shires tell; the same text tells the same (R6).
func TestTellMany(t *testing.T) {
	lines := 0
	for chance := range 20 {
		rnd := rand.New(rand.NewSource(int64(chance)))
		x := roster.Roster{F: chance % 2, Groups: 1 + chance%3, Clients: 2}
		s := Script{X: x, Seed: "a seed", Odd: make([]int, x.Groups+1), L: []api.Choice{rule(0, chain.Join, 1), round(10)}}
		for i := range s.Odd {
			s.Odd[i] = x.F << rnd.Intn(x.N())
		}
		for range 60 {
			s.L = append(s.L, someChoice(rnd, x))
		}
		l := wantLines(t, s)
		text := textOf(t, s)
		one, _, _ := Tell(text)
		other, _, _ := Tell(text)
		if !slices.Equal(one, other) {
			t.Error("the same text tells something else")
		}
		lines += len(l)
	}
	if lines < 150 {
		t.Errorf("only %d lines", lines)
	}
}

func someChoice(rnd *rand.Rand, x roster.Roster) api.Choice {
	c := api.Choice{Kind: 1 + rnd.Intn(9), End: rnd.Intn(x.Ends()), N: rnd.Intn(x.Ends()), What: 1 + rnd.Intn(5), Key: "k"}
	switch c.Kind {
	case api.DoAsk:
		c.N, c.Key = rnd.Intn(x.Clients), strings.Repeat("k", 1+rnd.Intn(3))
		if c.What == table.Put || c.What == table.Append {
			c.Value = "v"
		}
	case api.DoRule:
		c.N, c.Group, c.Shard = rnd.Intn(x.Clients), 1+rnd.Intn(x.Groups), rnd.Intn(api.Shards)
	case api.DoSign:
		c.What, c.Number = memo.Status, rnd.Intn(3)
	case api.DoRound:
		c.N = 1 + rnd.Intn(9)
	}
	return c
}
