package reeve

import (
	"math"
	"reflect"
	"slices"
	"testing"

	"wapentake/api"
	"wapentake/chain"
	"wapentake/shire"
)

type owners = [api.Shards]int

func join(group int) chain.Command  { return chain.Command{Kind: chain.Join, Group: group} }
func leave(group int) chain.Command { return chain.Command{Kind: chain.Leave, Group: group} }

func move(shard, group int) chain.Command {
	return chain.Command{Kind: chain.Move, Group: group, Shard: shard}
}

// ruling is one that a chain answered so.
func ruling(x chain.Command, err api.Errno) shire.Ruling {
	return shire.Ruling{Client: 1, Number: 1, Command: x, Err: err}
}

// good are rulings of one chain, of which some were refused, and its configurations.
func good() ([]shire.Ruling, []chain.Config) {
	l := []shire.Ruling{
		ruling(leave(1), api.ErrGroup),
		ruling(join(1), api.OK),
		ruling(join(1), api.ErrGroup),
		ruling(chain.Command{}, api.ErrArg),
		ruling(join(2), api.OK),
		ruling(move(0, 1), api.OK),
		ruling(move(4, 1), api.ErrArg),
		ruling(leave(1), api.OK),
		ruling(join(4), api.OK),
		ruling(leave(3), api.ErrGroup),
	}
	configs := []chain.Config{
		{},
		{Num: 1, Groups: []int{1}, Owner: owners{1, 1, 1, 1}},
		{Num: 2, Groups: []int{1, 2}, Owner: owners{2, 2, 1, 1}},
		{Num: 3, Groups: []int{1, 2}, Owner: owners{1, 2, 1, 1}},
		{Num: 4, Groups: []int{2}, Owner: owners{2, 2, 2, 2}},
		{Num: 5, Groups: []int{2, 4}, Owner: owners{4, 4, 2, 2}},
	}
	return l, configs
}

// full are rulings that fill a chain, and so many more, which it refuses.
func full(more int) []shire.Ruling {
	var l []shire.Ruling
	for n := range chain.Most {
		x := join(2)
		switch {
		case n == 0:
			x = join(1)
		case n%2 == 0:
			x = leave(2)
		}
		l = append(l, ruling(x, api.OK))
	}
	for n := range more {
		x := []chain.Command{leave(2), join(2), move(1, 1), {}, join(99)}[n%5]
		l = append(l, ruling(x, api.ErrLast))
	}
	return l
}

func chainOf(t *testing.T, l []shire.Ruling) []chain.Config {
	t.Helper()
	c, err := Chain(l)
	if err != api.OK || len(c) == 0 {
		t.Fatalf("%v: %v, %v", l, c, err)
	}
	return c
}

func isSame(a, b []chain.Config) bool {
	return slices.EqualFunc(a, b, func(x, y chain.Config) bool {
		return x.Num == y.Num && slices.Equal(x.Groups, y.Groups) && x.Owner == y.Owner
	})
}

func wantCheck(t *testing.T, name string, l []shire.Ruling, seen []chain.Config, rule, place int) {
	t.Helper()
	if r, p, err := Check(l, seen); r != rule || p != place || err != api.OK {
		t.Errorf("%s: %d, %d, %v, not %d, %d", name, r, p, err, rule, place)
	}
}

// 28.1: Chain.

func TestChain(t *testing.T) {
	l, want := good()
	if c := chainOf(t, l); !isSame(c, want) {
		t.Errorf("%v", c)
	}
	for _, none := range [][]shire.Ruling{nil, {}} {
		if c := chainOf(t, none); !isSame(c, want[:1]) {
			t.Errorf("%v", c)
		}
	}
	for i := range l {
		n := 1
		for _, r := range l[:i] {
			if r.Err == api.OK {
				n++
			}
		}
		if c := chainOf(t, l[:i]); !isSame(c, want[:n]) {
			t.Errorf("%d: %v", i, c)
		}
	}
}

// Whose a ruling was, and of which number, is not asked.
func TestChainAnyClient(t *testing.T) {
	l, want := good()
	for i := range l {
		l[i].Client, l[i].Number = []int{0, -1, math.MinInt, 99}[i%4], []int{0, math.MaxInt, -7}[i%3]
	}
	if c := chainOf(t, l); !isSame(c, want) {
		t.Errorf("%v", c)
	}
	wantCheck(t, "any client", l, want, 0, 0)
}

func TestFullChain(t *testing.T) {
	for _, more := range []int{0, 1, 5, 460} {
		l := full(more)
		if c := chainOf(t, l); len(c) != chain.Most+1 || c[chain.Most].Num != chain.Most {
			t.Errorf("%d: %v", more, c)
		}
		wantCheck(t, "full", l, nil, 0, 0)
	}
	// What a full chain refuses it refuses as full, whatever else would be wrong.
	for _, r := range []shire.Ruling{ruling(move(1, 1), api.OK), ruling(join(1), api.ErrGroup), ruling(chain.Command{}, api.ErrArg)} {
		l := append(full(3), r)
		wantCheck(t, "not as a full one answers", l, nil, 1, len(l)-1)
		l = full(0)
		l[chain.Most-1].Err = api.ErrLast
		wantCheck(t, "not full yet", l, nil, 1, chain.Most-1)
	}
}

// A ruling that is not as the chain answers, at each place, with each errno.
func TestNotOneChain(t *testing.T) {
	l, _ := good()
	for i := range l {
		for err := api.Errno(-1); err < 260; err++ {
			if err == l[i].Err {
				continue
			}
			bad := slices.Clone(l)
			bad[i].Err = err
			if c, e := Chain(bad); len(c) != 0 || e != api.ErrState {
				t.Errorf("%d, %v: %v, %v", i, err, c, e)
			}
			wantCheck(t, "not as the chain answers", bad, nil, 1, i)
		}
	}
}

// What a ruling did is what later ones are held against.
func TestOtherOrder(t *testing.T) {
	a, b := ruling(join(1), api.OK), ruling(leave(1), api.OK)
	wantCheck(t, "leave ahead of join", []shire.Ruling{b, a}, nil, 1, 0)
	wantCheck(t, "the only one leaves", []shire.Ruling{a, b}, nil, 1, 1)
	wantCheck(t, "joins twice", []shire.Ruling{a, a}, nil, 1, 1)
	wantCheck(t, "leaves behind another's join", []shire.Ruling{a, ruling(join(3), api.OK), b}, nil, 0, 0)
	wantCheck(t, "one is missing", []shire.Ruling{a, b, ruling(join(3), api.OK)}, nil, 1, 1)
	wantCheck(t, "refused, as if it was done", []shire.Ruling{a, ruling(join(3), api.ErrGroup), b}, nil, 1, 1)
	wantCheck(t, "none's command", []shire.Ruling{a, ruling(move(-1, 1), api.OK)}, nil, 1, 1)
	wantCheck(t, "none's group", []shire.Ruling{a, ruling(join(5), api.ErrGroup)}, nil, 1, 1)
}

func TestLong(t *testing.T) {
	bad := full(461)
	bad[3].Err = api.ErrArg
	for _, l := range [][]shire.Ruling{full(461), bad, make([]shire.Ruling, 501), make([]shire.Ruling, 9999)} {
		if c, err := Chain(l); len(c) != 0 || err != api.ErrLong {
			t.Errorf("%d: %v, %v", len(l), c, err)
		}
		for _, seen := range [][]chain.Config{nil, {{Num: 99}}} {
			if rule, place, err := Check(l, seen); rule != 0 || place != 0 || err != api.ErrLong {
				t.Errorf("%d: %d, %d, %v", len(l), rule, place, err)
			}
		}
	}
	if c, err := Chain(make([]shire.Ruling, 500)); len(c) != 0 || err != api.ErrState {
		t.Errorf("%v, %v", c, err)
	}
	wantCheck(t, "500", make([]shire.Ruling, 500), nil, 1, 0)
	wantCheck(t, "500 of one chain", full(460), nil, 0, 0)
}

// 28.1: Check.

func TestSeen(t *testing.T) {
	l, all := good()
	wantCheck(t, "nothing", nil, nil, 0, 0)
	wantCheck(t, "the first one alone", nil, []chain.Config{{}, {Groups: []int{}}, {}}, 0, 0)
	wantCheck(t, "none", l, []chain.Config{}, 0, 0)
	wantCheck(t, "all", l, all, 0, 0)
	slices.Reverse(all)
	wantCheck(t, "in any order, and again", l, append(all, all...), 0, 0)
	var many []chain.Config
	for range 400 {
		many = append(many, all...)
	}
	wantCheck(t, "many", l, many, 0, 0)
	wantCheck(t, "many, and one", l, append(many, chain.Config{Num: 1}), 2, len(many))
}

// What is none of the chain, at each place: the first one is told.
func TestSeenNone(t *testing.T) {
	l, all := good()
	for name, c := range map[string]chain.Config{
		"one beyond":           {Num: 6, Groups: []int{2, 4}, Owner: owners{4, 4, 2, 2}},
		"far beyond":           {Num: math.MaxInt},
		"below":                {Num: -1},
		"far below":            {Num: math.MinInt},
		"another one's number": {Num: 2, Groups: []int{1}, Owner: owners{1, 1, 1, 1}},
		"no number":            {Groups: []int{1}, Owner: owners{1, 1, 1, 1}},
		"the first one's":      {Num: 1},
		"more groups":          {Num: 1, Groups: []int{1, 2}, Owner: owners{1, 1, 1, 1}},
		"fewer groups":         {Num: 2, Groups: []int{1}, Owner: owners{2, 2, 1, 1}},
		"other groups":         {Num: 2, Groups: []int{1, 3}, Owner: owners{2, 2, 1, 1}},
		"other order":          {Num: 2, Groups: []int{2, 1}, Owner: owners{2, 2, 1, 1}},
		"other owner":          {Num: 2, Groups: []int{1, 2}, Owner: owners{2, 1, 1, 1}},
		"last owner":           {Num: 2, Groups: []int{1, 2}, Owner: owners{2, 2, 1, 2}},
		"first owner":          {Num: 2, Groups: []int{1, 2}, Owner: owners{1, 2, 1, 1}},
	} {
		for i := range len(all) + 1 {
			seen := slices.Insert(slices.Clone(all), i, c)
			wantCheck(t, name, l, seen, 2, i)
			wantCheck(t, name+", twice", l, append(seen, c), 2, i)
		}
	}
}

// Rulings are looked at ahead of what was seen.
func TestRulingsFirst(t *testing.T) {
	l, all := good()
	l[7].Err = api.ErrLast
	wantCheck(t, "both", l, []chain.Config{{Num: 77}}, 1, 7)
	wantCheck(t, "rulings", l, all, 1, 7)
	wantCheck(t, "what is seen is of those ahead of it alone", l[:7], all, 2, 4)
}

// R3, R6: what is handed in stays, and configurations share nothing.
func TestChainMemory(t *testing.T) {
	l, seen := good()
	first := chainOf(t, l)
	for i, c := range first {
		all := c.Groups[:cap(c.Groups)]
		for k := range all {
			all[k] = 70 + i
		}
	}
	for i, c := range first {
		for _, g := range c.Groups {
			if g != 70+i {
				t.Error("configurations share groups")
			}
		}
	}
	for range 2 {
		wantCheck(t, "again", l, seen, 0, 0)
	}
	same, had := good()
	if again := chainOf(t, l); !isSame(again, had) {
		t.Errorf("%v", again)
	}
	if !slices.Equal(l, same) || !reflect.DeepEqual(seen, had) {
		t.Error("what was handed in changed")
	}
}
