package proof

import (
	"math"
	"slices"
	"strings"
	"testing"

	"wapentake/api"
	"wapentake/shard"
	"wapentake/stock"
	"wapentake/table"
)

// keyOf is one of some keys of a shard.
func keyOf(i, which int) string {
	for n := 0; ; n++ {
		if k := "k" + string(rune('a'+n)); stock.Place(k) == i {
			if which == 0 {
				return k
			}
			which--
		}
	}
}

func put(key, value string) table.Op { return table.Op{Kind: table.Put, Key: key, Value: value} }

func get(key string) table.Op { return table.Op{Kind: table.Get, Key: key} }

func done(value string) shard.Answer { return shard.Answer{Value: value} }

// good is a history of two clients that keeps all rules: of six calls two are not answered, one of them is done. Client 0's second answer and third asking are of one moment, so are two points.
func good() ([]Call, []Point) {
	k, l := keyOf(0, 0), keyOf(3, 0)
	calls := []Call{
		{Client: 0, Number: 1, Op: put(k, "a"), From: 0, To: 4},
		{Client: 7, Number: 3, Op: get(k), From: 2, To: 6, Answer: done("a")},
		{Client: 0, Number: 2, Op: table.Op{Kind: table.Append, Key: k, Value: "b"}, From: 5, To: 9, Answer: done("ab")},
		{Client: 7, Number: api.MaxBig, Op: put(l, "c"), From: 7, To: -1},
		{Client: 0, Number: 5, Op: get(l), From: 9, To: 11, Answer: done("c")},
		{Client: 0, Number: 6, Op: get(k), From: 12, To: -1},
	}
	points := []Point{
		{At: 3, Client: 0, Number: 1},
		{At: 5, Client: 7, Number: 3, Answer: done("a")},
		{At: 9, Client: 0, Number: 2, Answer: done("ab")},
		{At: 9, Client: 7, Number: api.MaxBig},
		{At: 11, Client: 0, Number: 5, Answer: done("c")},
	}
	return calls, points
}

func wantCheck(t *testing.T, name string, calls []Call, points []Point, rule, place int) {
	t.Helper()
	if r, p, err := Check(calls, points); r != rule || p != place || err != api.OK {
		t.Errorf("%s: rule %d at %d, %v, not %d at %d", name, r, p, err, rule, place)
	}
}

// 24.1.

func TestGood(t *testing.T) {
	calls, points := good()
	wantCheck(t, "good", calls, points, 0, 0)
	wantCheck(t, "nothing", nil, nil, 0, 0)
	wantCheck(t, "empty", []Call{}, []Point{}, 0, 0)
	// What is not answered may be done, also at its asking, or never.
	wantCheck(t, "undone", calls[:4], points[:3], 0, 0)
	wantCheck(t, "done late", calls, append(points, Point{At: math.MaxInt, Client: 0, Number: 6, Answer: done("ab")}), 0, 0)
	wantCheck(t, "done at once", calls, append(points, Point{At: 12, Client: 0, Number: 6, Answer: done("ab")}), 0, 0)
}

// Rule 1, what a call is by itself, at each place.
func TestNoCall(t *testing.T) {
	long := strings.Repeat("x", 65)
	for name, change := range map[string]func(c *Call){
		"client below":       func(c *Call) { c.Client = -1 },
		"client above":       func(c *Call) { c.Client = api.MaxTables },
		"client far below":   func(c *Call) { c.Client = math.MinInt },
		"client far above":   func(c *Call) { c.Client = math.MaxInt },
		"number 0":           func(c *Call) { c.Number = 0 },
		"number below":       func(c *Call) { c.Number = math.MinInt },
		"number above":       func(c *Call) { c.Number = api.MaxBig + 1 },
		"no kind":            func(c *Call) { c.Op.Kind = 0 },
		"other kind":         func(c *Call) { c.Op.Kind = table.Swap + 1 },
		"no key":             func(c *Call) { c.Op.Key = "" },
		"long key":           func(c *Call) { c.Op.Key = "12345678901234567" },
		"long value":         func(c *Call) { c.Op.Value = long },
		"long old":           func(c *Call) { c.Op = table.Op{Kind: table.Swap, Key: "k", Old: long} },
		"old of another":     func(c *Call) { c.Op.Old = "o" },
		"value of a get":     func(c *Call) { c.Op.Kind, c.Op.Value = table.Get, "v" },
		"from below":         func(c *Call) { c.From = -1 },
		"from far below":     func(c *Call) { c.From = math.MinInt },
		"to below from":      func(c *Call) { c.To = c.From - 1 },
		"to below":           func(c *Call) { c.To = -2 },
		"to far below":       func(c *Call) { c.To = math.MinInt },
		"answer, not yet":    func(c *Call) { c.To, c.Answer = -1, done("a") },
		"error, not yet":     func(c *Call) { c.To, c.Answer = -1, shard.Answer{Err: api.ErrNone} },
		"from below, undone": func(c *Call) { c.From, c.To, c.Answer = -1, -1, shard.Answer{} },
	} {
		calls, points := good()
		for i := range calls {
			l := slices.Clone(calls)
			if change(&l[i]); name == "to below from" && l[i].To < 0 {
				continue // that is not yet
			}
			wantCheck(t, name, l, points, 1, i)
			wantCheck(t, name, l[:i+1], nil, 1, i)
		}
	}
}

// Rule 1, one call behind all others of its client.
func TestCallsInTurn(t *testing.T) {
	at := func(number, from, to int) Call {
		return Call{Client: 1, Number: number, Op: get("k"), From: from, To: to}
	}
	other := Call{Client: 2, Number: 9, Op: get("k"), From: 50, To: -1}
	for i, c := range []struct {
		l     []Call
		place int // of what is broken; -1, if nothing is
	}{
		{[]Call{at(1, 0, 0), at(2, 0, 0), at(3, 0, -1)}, -1},
		{[]Call{at(5, 9, 9), at(6, 9, 20), at(8, 20, 21)}, -1},
		{[]Call{at(5, 9, 10), at(5, 11, 12)}, 1},
		{[]Call{at(5, 9, 10), at(4, 11, 12)}, 1},
		{[]Call{at(5, 9, 10), at(6, 9, 12)}, 1},
		{[]Call{at(5, 9, -1), at(6, 11, 12)}, 1},
		{[]Call{at(5, 9, 10), at(7, 11, 12), at(6, 13, 14)}, 2},
		{[]Call{at(5, 9, 10), at(7, 11, 12), at(5, 13, 14)}, 2},
		{[]Call{at(5, 9, 30), at(7, 30, 40), at(8, 35, 50)}, 2},
		{[]Call{at(5, 9, 10), at(7, 11, -1), at(8, 13, 14)}, 2},
		{[]Call{at(5, 9, 10), at(4, 11, 12), at(3, 13, 14)}, 1},
		{[]Call{at(math.MaxInt, 9, 10)}, 0},
		{[]Call{at(1, 0, math.MaxInt), at(2, math.MaxInt, math.MaxInt), at(3, math.MaxInt, -1)}, -1},
		{[]Call{at(1, 0, math.MaxInt), at(2, math.MaxInt-1, math.MaxInt)}, 1},
	} {
		// What another client does, wherever it stands, is nothing to it: that is not answered, has a greater number, and is asked later.
		for j := range len(c.l) + 1 {
			l, place := slices.Insert(slices.Clone(c.l), j, other), c.place
			if j <= place {
				place++
			}
			rule, got, err := Check(l, nil)
			if c.place < 0 && rule == 1 || c.place >= 0 && (rule != 1 || got != place) || err != api.OK {
				t.Errorf("%d, %d: rule %d at %d, %v, not at %d", i, j, rule, got, err, place)
			}
		}
	}
}

// Rule 2, at each place.
func TestNoPoint(t *testing.T) {
	calls, points := good()
	for name, change := range map[string]func(p *Point){
		"below 0":          func(p *Point) { p.At = -1 },
		"far below 0":      func(p *Point) { p.At = math.MinInt },
		"other client":     func(p *Point) { p.Client = 3 },
		"no client":        func(p *Point) { p.Client = -1 },
		"client far above": func(p *Point) { p.Client = math.MaxInt },
		"other number":     func(p *Point) { p.Number = 4 },
		"number 0":         func(p *Point) { p.Number = 0 },
		"number below":     func(p *Point) { p.Number = math.MinInt },
		"ahead of asking":  func(p *Point) { p.At = fromOf(calls, *p) - 1 },
	} {
		for i := range points {
			l := slices.Clone(points)
			change(&l[i])
			wantCheck(t, name, calls, l, 2, i)
			wantCheck(t, name, calls, l[:i+1], 2, i)
		}
	}
	for i := range points {
		late := slices.Clone(points[:i+1])
		if late[i].At = toOf(calls, late[i]) + 1; late[i].At > 0 {
			wantCheck(t, "behind the answer", calls, late, 2, i)
		}
		for j := range i {
			again := slices.Insert(slices.Clone(points), i, points[j])
			again[i].At = points[i-1].At
			wantCheck(t, "again", calls, again, 2, i)
		}
	}
	again := append(slices.Clone(points), points[3])
	again[5].At = 20
	wantCheck(t, "again, much later", calls, again, 2, 5)
}

func fromOf(calls []Call, p Point) int {
	i := slices.IndexFunc(calls, func(c Call) bool { return c.Client == p.Client && c.Number == p.Number })
	return calls[i].From
}

func toOf(calls []Call, p Point) int {
	i := slices.IndexFunc(calls, func(c Call) bool { return c.Client == p.Client && c.Number == p.Number })
	return calls[i].To
}

// Rule 2: moments that fall, and only those, by one too; what is asked at the moment of the point ahead, or answered at the point's own, is right.
func TestMoments(t *testing.T) {
	k := keyOf(1, 0)
	var calls []Call
	for client := range 4 {
		calls = append(calls, Call{Client: client, Number: 1, Op: put(k, ""), From: 5, To: 20})
	}
	for i, c := range []struct {
		at    [4]int
		place int
	}{
		{[4]int{5, 5, 5, 5}, -1},
		{[4]int{20, 20, 20, 20}, -1},
		{[4]int{5, 6, 19, 20}, -1},
		{[4]int{4, 6, 19, 20}, 0},
		{[4]int{21, 22, 23, 24}, 0},
		{[4]int{6, 5, 19, 20}, 1},
		{[4]int{6, 7, 7, 6}, 3},
		{[4]int{6, 8, 7, 7}, 2},
		{[4]int{6, 8, 8, 21}, 3},
	} {
		var points []Point
		for client, at := range c.at {
			points = append(points, Point{At: at, Client: client, Number: 1})
		}
		rule := 2
		if c.place < 0 {
			rule = 0
		}
		wantCheck(t, "moments "+string(rune('0'+i)), calls, points, rule, max(0, c.place))
	}
}

// Rule 3, at each place: the first call of several, too.
func TestMissingPoint(t *testing.T) {
	calls, points := good()
	for i := range points {
		l := slices.Delete(slices.Clone(points), i, i+1)
		place := slices.IndexFunc(calls, func(c Call) bool { return c.Client == points[i].Client && c.Number == points[i].Number })
		if calls[place].To < 0 {
			// Whoever read what it put is then told what no map would tell.
			wantCheck(t, "the undone one", calls, l, 4, 3)
			continue
		}
		wantCheck(t, "missing", calls, l, 3, place)
	}
	wantCheck(t, "all missing", calls, nil, 3, 0)
	wantCheck(t, "all but one", calls, points[:1], 3, 1)
}

// Rule 4, at each place: what the table tells, and what the client was told.
func TestAnswers(t *testing.T) {
	calls, points := good()
	for name, change := range map[string]func(a *shard.Answer){
		"value":          func(a *shard.Answer) { a.Value += "x" },
		"error":          func(a *shard.Answer) { a.Err = api.ErrNone },
		"error below 0":  func(a *shard.Answer) { a.Err = -1 },
		"value, no more": func(a *shard.Answer) { *a = shard.Answer{Err: api.ErrState} },
	} {
		for i := range points {
			l := slices.Clone(points)
			change(&l[i].Answer)
			wantCheck(t, name+" of a point", calls, l, 4, i)
			m := slices.Clone(calls)
			place := slices.IndexFunc(calls, func(c Call) bool { return c.Client == points[i].Client && c.Number == points[i].Number })
			if m[place].To < 0 {
				continue
			}
			change(&m[place].Answer)
			wantCheck(t, name+" of a call", m, points, 4, i)
			wantCheck(t, name+" of both", m, l, 4, i)
		}
	}
}

// Rule 4: each shard has a table of its own, of MaxRows rows, and its errors are answers.
func TestAnswersOfTables(t *testing.T) {
	var calls []Call
	var points []Point
	add := func(o table.Op, a shard.Answer) {
		n := len(calls) + 1
		calls = append(calls, Call{Client: 2, Number: n, Op: o, From: n, To: n, Answer: a})
		points = append(points, Point{At: n, Client: 2, Number: n, Answer: a})
	}
	for i := range api.Shards {
		add(get(key(i, 0)), shard.Answer{Err: api.ErrNone})
		for row := range api.MaxRows {
			add(put(key(i, row), "v"), shard.Answer{})
		}
		add(put(key(i, api.MaxRows), "v"), shard.Answer{Err: api.ErrFull})
		add(table.Op{Kind: table.Swap, Key: key(i, 3), Value: "w", Old: "u"}, shard.Answer{Err: api.ErrState})
		add(table.Op{Kind: table.Swap, Key: key(i, 3), Value: "w", Old: "v"}, done("v"))
		add(table.Op{Kind: table.Delete, Key: key(i, 3)}, done("w"))
		add(table.Op{Kind: table.Append, Key: key(i, 3), Value: strings.Repeat("x", 64)}, done(strings.Repeat("x", 64)))
		add(table.Op{Kind: table.Append, Key: key(i, 3), Value: "x"}, shard.Answer{Err: api.ErrLong})
	}
	wantCheck(t, "tables", calls, points, 0, 0)
	var ops []table.Op
	var want []shard.Answer
	for _, c := range calls {
		ops, want = append(ops, c.Op), append(want, c.Answer)
	}
	if got := Replay(ops); !slices.Equal(got, want) {
		t.Errorf("Replay: %v, not %v", got, want)
	}
}

// key is one of many keys of a shard.
func key(i, which int) string {
	for n := 0; ; n++ {
		if k := strings.Repeat("x", 1+n%13) + string(rune('a'+n/13%26)) + string(rune('a'+n/338)); stock.Place(k) == i {
			if which == 0 {
				return k
			}
			which--
		}
	}
}

// Of several rules that are broken the least one, of several places the first one.
func TestLeast(t *testing.T) {
	breakers := []func(calls []Call, points []Point, last bool) ([]Call, []Point){
		func(calls []Call, points []Point, last bool) ([]Call, []Point) {
			calls[0].Op.Old = "o"
			if last {
				calls[5].Number = 0
			}
			return calls, points
		},
		func(calls []Call, points []Point, last bool) ([]Call, []Point) {
			points[2].Client = 5
			if last {
				points[3].At = 2
			}
			return calls, points
		},
		func(calls []Call, points []Point, last bool) ([]Call, []Point) {
			return calls, slices.Delete(points, 1, 2)
		},
		func(calls []Call, points []Point, last bool) ([]Call, []Point) {
			points[0].Answer = done("x")
			if last {
				points[len(points)-1].Answer = done("x")
			}
			return calls, points
		},
	}
	places := []int{0, 2, 1, 0}
	for set := 1; set < 16; set++ {
		for _, last := range []bool{false, true} {
			calls, points := good()
			least := 0
			// The points' places are those of good: they are broken ahead of one's being taken away.
			for _, rule := range []int{1, 2, 4, 3} {
				if set>>(rule-1)&1 == 1 {
					calls, points = breakers[rule-1](calls, points, last)
				}
			}
			for rule := 4; rule >= 1; rule-- {
				if set>>(rule-1)&1 == 1 {
					least = rule
				}
			}
			place := places[least-1]
			if least == 2 && set>>2&1 == 1 {
				place = 1 // the one ahead was taken away
			}
			wantCheck(t, "some broken", calls, points, least, place)
		}
	}
}

// At most 2000 of each: more are ErrLong, whatever they are.
func TestLong(t *testing.T) {
	calls, points := make([]Call, 2001), make([]Point, 2001)
	for i := range calls {
		calls[i] = Call{Client: 1, Number: i + 1, Op: get("k"), From: i, To: i, Answer: shard.Answer{Err: api.ErrNone}}
		points[i] = Point{At: i, Client: 1, Number: i + 1, Answer: shard.Answer{Err: api.ErrNone}}
	}
	wantCheck(t, "2000", calls[:2000], points[:2000], 0, 0)
	wantCheck(t, "2000 calls", calls[:2000], points[:1999], 3, 1999)
	wantCheck(t, "2000 points", calls[:1999], points[:2000], 2, 1999)
	for i, c := range []struct {
		calls  []Call
		points []Point
	}{
		{calls, points[:2000]},
		{calls[:2000], points},
		{calls, points},
		{make([]Call, 2001), nil},
		{nil, make([]Point, 2001)},
		{make([]Call, 1), make([]Point, 5000)},
	} {
		if rule, place, err := Check(c.calls, c.points); rule != 0 || place != 0 || err != api.ErrLong {
			t.Errorf("%d: rule %d at %d, %v", i, rule, place, err)
		}
	}
}

// Replay tells of each operation, also one that is none, what a table tells.
func TestReplay(t *testing.T) {
	k, l := keyOf(0, 0), keyOf(0, 1)
	for i, c := range []struct {
		ops  []table.Op
		want []shard.Answer
	}{
		{nil, nil},
		{[]table.Op{}, nil},
		{[]table.Op{get(k), put(k, "a"), get(k), get(l), get(keyOf(1, 0))}, []shard.Answer{{Err: api.ErrNone}, {}, done("a"), {Err: api.ErrNone}, {Err: api.ErrNone}}},
		{[]table.Op{{}, put(k, "a"), {Kind: table.Put, Key: k, Value: "b", Old: "a"}, {Kind: table.Get}, get(k)}, []shard.Answer{{Err: api.ErrArg}, {}, {Err: api.ErrForm}, {Err: api.ErrRow}, done("a")}},
		{[]table.Op{put(strings.Repeat("k", 1<<16), "a"), {Kind: math.MinInt, Key: "\x00"}}, []shard.Answer{{Err: api.ErrRow}, {Err: api.ErrArg}}},
	} {
		for range 2 { // each time from tables without rows on
			if got := Replay(c.ops); !slices.Equal(got, c.want) {
				t.Errorf("%d: %v, not %v", i, got, c.want)
			}
		}
	}
	many := make([]table.Op, 5000)
	for i := range many {
		many[i] = table.Op{Kind: table.Append, Key: k, Value: "x"}
	}
	got := Replay(many)
	if len(got) != 5000 || got[63] != done(strings.Repeat("x", 64)) || got[4999] != (shard.Answer{Err: api.ErrLong}) {
		t.Errorf("%d answers", len(got))
	}
}

// Example 1.
func TestExample(t *testing.T) {
	calls := []Call{{Client: 0, Number: 1, Op: put("k", "a"), From: 0, To: 3}, {Client: 0, Number: 2, Op: get("k"), From: 4, To: 6, Answer: done("a")}}
	at := func(a, b int) []Point {
		return []Point{{At: a, Client: 0, Number: 1}, {At: b, Client: 0, Number: 2, Answer: done("a")}}
	}
	wantCheck(t, "2 and 5", calls, at(2, 5), 0, 0)
	wantCheck(t, "5 and 5", calls, at(5, 5), 2, 0)
}

// R3, R6: what is handed in is not changed, spare room too, an answer is new, and the same tells the same.
func TestNothingIsChanged(t *testing.T) {
	calls, points := good()
	calls, points = slices.Grow(calls, 5), slices.Grow(points, 5)
	ops := make([]table.Op, 3, 6)
	for i, c := range calls[:3] {
		ops[i] = c.Op
	}
	for range 3 {
		wantCheck(t, "good", calls, points, 0, 0)
		a := Replay(ops)
		clear(a[:cap(a)])
		if b := Replay(ops); b[2] != done("ab") || &a[0] == &b[0] {
			t.Error(b)
		}
	}
	wantCalls, wantPoints := good()
	if !slices.Equal(calls, wantCalls) || !slices.Equal(points, wantPoints) {
		t.Error("calls or points are changed")
	}
	for i := range 5 {
		if calls[:cap(calls)][len(calls)+i] != (Call{}) || points[:cap(points)][len(points)+i] != (Point{}) {
			t.Error("spare room is changed")
		}
	}
	for i := range ops[:cap(ops)] {
		if i < 3 && ops[i] != calls[i].Op || i >= 3 && ops[:cap(ops)][i] != (table.Op{}) {
			t.Error("operations are changed")
		}
	}
}
