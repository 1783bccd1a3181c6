package reeve

import (
	"math"
	"math/rand"
	"reflect"
	"slices"
	"testing"

	"wapentake/api"
	"wapentake/chain"
	"wapentake/shire"
)

func wantMoves(t *testing.T, l []chain.Config, want []int) {
	t.Helper()
	if moves, err := Moves(l); !slices.Equal(moves, want) || err != api.OK {
		t.Errorf("%v: %v, %v, not %v", l, moves, err, want)
	}
}

func wantWay(t *testing.T, l []chain.Config, i int, want []int) {
	t.Helper()
	if way, err := Way(l, i); !slices.Equal(way, want) || err != api.OK {
		t.Errorf("%v, %d: %v, %v, not %v", l, i, way, err, want)
	}
}

// 28.2.

// The chapter's example.
func TestExample(t *testing.T) {
	l := chainOf(t, []shire.Ruling{ruling(join(1), api.OK), ruling(join(2), api.OK)})
	wantMoves(t, l, []int{0, 2})
	wantWay(t, l, 0, []int{0, 1, 2})
}

func TestMoves(t *testing.T) {
	_, l := good()
	wantMoves(t, l, []int{0, 2, 1, 3, 2})
	wantMoves(t, nil, nil)
	wantMoves(t, []chain.Config{}, nil)
	wantMoves(t, l[:1], nil)
	wantMoves(t, l[3:4], nil)
	wantMoves(t, l[2:5], []int{1, 3})
}

func TestWay(t *testing.T) {
	_, l := good()
	for i, want := range [][]int{{0, 1, 2, 1, 2, 4}, {0, 1, 2, 4}, {0, 1, 2}, {0, 1, 2}} {
		wantWay(t, l, i, want)
		wantWay(t, nil, i, nil)
		wantWay(t, []chain.Config{}, i, nil)
		wantWay(t, l[:1], i, []int{0})
		wantWay(t, l[1:2], i, []int{1})
	}
	wantWay(t, l[1:4], 0, []int{1, 2, 1})
	wantWay(t, l[2:], 2, []int{1, 2})
}

// Lists need not be a chain's: each number is one more, that is all.
func TestNoChain(t *testing.T) {
	one := func(num int, groups []int, o owners) chain.Config {
		return chain.Config{Num: num, Groups: groups, Owner: o}
	}
	l := []chain.Config{
		one(7, []int{1, 2, 3, 4}, owners{1, 2, 3, 4}),
		one(8, []int{1, 2, 3, 4}, owners{2, 1, 4, 3}),
		one(9, []int{1, 2, 3, 4}, owners{2, 1, 4, 3}),
		one(10, []int{2}, owners{2, 2, 2, 2}),
		one(11, nil, owners{}), // what had an owner has it no more
		one(12, []int{}, owners{}),
		one(13, []int{1, 3}, owners{3, 3, 1, 1}), // what had none begins
	}
	wantMoves(t, l, []int{4, 0, 3, 4, 0, 0})
	wantWay(t, l, 0, []int{1, 2, 0, 3})
	wantWay(t, l, 3, []int{4, 3, 2, 0, 1})
	big := []chain.Config{one(api.MaxBig-1, []int{1, 2}, owners{1, 1, 1, 2}), one(api.MaxBig, []int{1, 2}, owners{1, 1, 1, 1})}
	wantMoves(t, big, []int{1})
	wantWay(t, big, 3, []int{2, 1})
}

// wrongLists are lists of which one is no configuration, or has no number that is one more.
func wrongLists() map[string][]chain.Config {
	m := map[string][]chain.Config{}
	_, l := good()
	for name, change := range map[string]func(c *chain.Config){
		"below":        func(c *chain.Config) { c.Num = -1 },
		"far below":    func(c *chain.Config) { c.Num = math.MinInt },
		"above":        func(c *chain.Config) { c.Num = api.MaxBig + 1 },
		"far above":    func(c *chain.Config) { c.Num = math.MaxInt },
		"no group":     func(c *chain.Config) { c.Groups = []int{0} },
		"no such":      func(c *chain.Config) { c.Groups = []int{1, 5} },
		"falling":      func(c *chain.Config) { c.Groups = []int{2, 1} },
		"not joined":   func(c *chain.Config) { c.Owner[3] = 3 },
		"no owner":     func(c *chain.Config) { c.Owner[0] = -1 },
		"one of none":  func(c *chain.Config) { c.Groups, c.Owner = nil, owners{1} },
		"none of some": func(c *chain.Config) { c.Groups, c.Owner = []int{1}, owners{1, 1, 0, 1} },
	} {
		for i := range l {
			bad := slices.Clone(l)
			change(&bad[i])
			m[name+" at "+string(rune('0'+i))] = bad
		}
		m[name+" alone"] = m[name+" at 5"][5:]
	}
	for i := 1; i < len(l)-1; i++ {
		m["one is missing, "+string(rune('0'+i))] = slices.Delete(slices.Clone(l), i, i+1)
		m["one is there twice, "+string(rune('0'+i))] = slices.Insert(slices.Clone(l), i, l[i])
	}
	back := slices.Clone(l)
	slices.Reverse(back)
	m["falling numbers"] = back
	m["beyond the last number"] = []chain.Config{{Num: api.MaxBig}, {Num: api.MaxBig + 1}}
	m["beyond all numbers"] = []chain.Config{{Num: math.MaxInt}, {Num: math.MinInt}}
	m["up to 0"] = []chain.Config{{Num: -1}, {}}
	return m
}

func TestWrongLists(t *testing.T) {
	for name, l := range wrongLists() {
		if moves, err := Moves(l); len(moves) != 0 || err != api.ErrForm {
			t.Errorf("%s: %v, %v", name, moves, err)
		}
		for i := range api.Shards {
			if way, err := Way(l, i); len(way) != 0 || err != api.ErrForm {
				t.Errorf("%s, %d: %v, %v", name, i, way, err)
			}
		}
	}
}

// No such shard comes ahead of a list that is wrong.
func TestNoShard(t *testing.T) {
	_, l := good()
	for _, i := range []int{-1, api.Shards, math.MinInt, math.MaxInt} {
		for _, l := range [][]chain.Config{l, nil, {{Num: -1}}, {{Num: 1}, {Num: 3}}} {
			if way, err := Way(l, i); len(way) != 0 || err != api.ErrArg {
				t.Errorf("%d, %v: %v, %v", i, l, way, err)
			}
		}
	}
}

// R3, R6.
func TestMovesMemory(t *testing.T) {
	_, l := good()
	_, had := good()
	for range 2 {
		moves, _ := Moves(l)
		way, _ := Way(l, 0)
		if !slices.Equal(moves, []int{0, 2, 1, 3, 2}) || !slices.Equal(way, []int{0, 1, 2, 1, 2, 4}) || !reflect.DeepEqual(l, had) {
			t.Errorf("%v, %v, %v", moves, way, l)
		}
		for i := range moves {
			moves[i] = 9
		}
		for i := range way {
			way[i] = 9
		}
	}
}

// someRulings are rulings of a chain that is asked for whatever comes.
func someRulings(rnd *rand.Rand, size int) []shire.Ruling {
	h := chain.New()
	var l []shire.Ruling
	for range size {
		x := chain.Command{Kind: 1 + rnd.Intn(3), Group: 1 + rnd.Intn(api.MaxGroups)}
		if x.Kind == chain.Move {
			x.Shard = rnd.Intn(api.Shards)
		}
		if rnd.Intn(20) == 0 {
			x = chain.Command{Kind: rnd.Intn(6) - 1, Group: rnd.Intn(7) - 1, Shard: rnd.Intn(7) - 1}
		}
		l = append(l, shire.Ruling{Client: rnd.Intn(8), Number: 1 + rnd.Intn(99), Command: x, Err: h.Do(x)})
	}
	return l
}

// isAsPromised is 28.3 and 28.4 of rulings, with how Moves and Way go together.
func isAsPromised(t *testing.T, l []shire.Ruling) {
	t.Helper()
	configs := chainOf(t, l)
	moves, err := Moves(configs)
	if err != api.OK || len(moves) != len(configs)-1 {
		t.Fatalf("%v, %v", moves, err)
	}
	num := 0
	for i, r := range l {
		if before := chainOf(t, l[:i]); !isSame(before, configs[:num+1]) {
			t.Errorf("the chain of the first %d rulings is no beginning: %v, %v", i, before, configs)
		}
		if r.Err != api.OK {
			continue
		}
		num++
		had := 0
		for _, owner := range configs[num-1].Owner {
			if owner == r.Command.Group {
				had++
			}
		}
		switch {
		case r.Command.Kind == chain.Move && moves[num-1] != 1:
			t.Errorf("%v moves %d shards", r.Command, moves[num-1])
		case r.Command.Kind == chain.Leave && moves[num-1] < had:
			t.Errorf("%v moves %d shards, of %d", r.Command, moves[num-1], had)
		}
	}
	goWithWays(t, configs, moves)
}

// goWithWays wants as many moves in all as all shards' ways have steps, but each one's first, when it begins.
func goWithWays(t *testing.T, configs []chain.Config, moves []int) {
	t.Helper()
	steps := 0
	for _, n := range moves {
		steps += n
	}
	for i := range api.Shards {
		way, err := Way(configs, i)
		if err != api.OK || len(way) == 0 || way[0] != 0 || way[len(way)-1] != configs[len(configs)-1].Owner[i] {
			t.Fatalf("%v, %v", way, err)
		}
		steps -= max(0, len(way)-2)
	}
	if steps != 0 {
		t.Errorf("%v does not go with the ways of %v", moves, configs)
	}
}

// 28.3, 28.4: whatever a chain is asked for.
func TestSomeRulings(t *testing.T) {
	rnd := rand.New(rand.NewSource(1))
	most := 0
	for range 150 {
		l := someRulings(rnd, rnd.Intn(160))
		isAsPromised(t, l)
		all := chainOf(t, l)
		most = max(most, len(all))
		wantCheck(t, "some rulings", l, all, 0, 0)
		if other := chainOf(t, someRulings(rnd, 160)); len(other) > len(all) {
			wantCheck(t, "another chain's", l, other, 2, firstUnlike(all, other))
		}
	}
	if most != chain.Most+1 {
		t.Errorf("at most %d configurations", most)
	}
}

// firstUnlike is the place of the first of b that is not as a has it.
func firstUnlike(a, b []chain.Config) int {
	for i := range b {
		if i >= len(a) || !isSame(a[i:i+1], b[i:i+1]) {
			return i
		}
	}
	return len(b)
}
