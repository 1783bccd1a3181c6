package plea

import (
	"math"
	"reflect"
	"slices"
	"strings"
	"testing"

	"wapentake/api"
	"wapentake/nest"
	"wapentake/proof"
	"wapentake/shard"
	"wapentake/stock"
	"wapentake/table"
)

// keyOf is a key of a shard.
func keyOf(i int) string {
	n := 0
	for stock.Place("k"+nest.Num(n)) != i {
		n++
	}
	return "k" + nest.Num(n)
}

// put is an answered call that puts a value at a key of a shard.
func put(client, number, i int) proof.Call {
	return proof.Call{Client: client, Number: number, Op: table.Op{Kind: table.Put, Key: keyOf(i), Value: "v"}, From: 2 * number, To: 2*number + 1}
}

// doneAt is the point of a call.
func doneAt(c proof.Call, at int) proof.Point {
	return proof.Point{At: at, Client: c.Client, Number: c.Number, Answer: c.Answer}
}

// history are calls of all shards but the third, and points, of which two are of no call.
func history() ([]proof.Call, []proof.Point) {
	calls := []proof.Call{put(0, 1, 3), put(1, 1, 0), put(0, 2, 3), put(1, 2, 1), put(2, 1, 3), put(0, 3, 0)}
	points := []proof.Point{
		doneAt(calls[4], 1), doneAt(calls[1], 2), doneAt(calls[0], 2), {At: 3, Client: 5, Number: 1}, doneAt(calls[3], 4),
		{At: 4, Client: 0, Number: 7}, doneAt(calls[5], 7), doneAt(calls[2], 5),
	}
	return calls, points
}

func split(t *testing.T, calls []proof.Call, points []proof.Point) []Part {
	t.Helper()
	parts, err := Split(calls, points)
	if err != api.OK || len(parts) != api.Shards {
		t.Fatalf("%v, %v", parts, err)
	}
	return parts
}

// isPart wants a part to be of these, by their places.
func isPart(t *testing.T, p Part, calls []proof.Call, ofCalls []int, points []proof.Point, ofPoints []int) {
	t.Helper()
	var want Part
	for _, i := range ofCalls {
		want.Calls = append(want.Calls, calls[i])
	}
	for _, i := range ofPoints {
		want.Points = append(want.Points, points[i])
	}
	if !slices.Equal(p.Calls, want.Calls) || !slices.Equal(p.Points, want.Points) {
		t.Errorf("%v, not %v", p, want)
	}
}

// 27.1: Split.

func TestSplit(t *testing.T) {
	calls, points := history()
	parts := split(t, calls, points)
	isPart(t, parts[0], calls, []int{1, 5}, points, []int{1, 3, 5, 6})
	isPart(t, parts[1], calls, []int{3}, points, []int{4})
	isPart(t, parts[2], calls, nil, points, nil)
	isPart(t, parts[3], calls, []int{0, 2, 4}, points, []int{0, 2, 7})
}

// The chapter's example: calls of keys of shards 0 and 3.
func TestSplitExample(t *testing.T) {
	parts := split(t, []proof.Call{put(0, 1, 0), put(1, 1, 3)}, nil)
	for i, p := range parts {
		if want := (i == 0 || i == 3); (len(p.Calls) == 1) != want || len(p.Points) != 0 {
			t.Errorf("%d: %v", i, p)
		}
	}
}

func TestSplitNothing(t *testing.T) {
	for _, parts := range [][]Part{split(t, nil, nil), split(t, []proof.Call{}, []proof.Point{})} {
		for i, p := range parts {
			if len(p.Calls) != 0 || len(p.Points) != 0 {
				t.Errorf("%d: %v", i, p)
			}
		}
	}
}

// Of two calls of one client and number all points are of the first one's shard, wherever they stand.
func TestSplitSameNumber(t *testing.T) {
	calls := []proof.Call{put(1, 1, 2), put(0, 1, 3), put(0, 1, 1), put(0, 1, 0), put(2, 1, 1), put(2, 1, 3)}
	points := []proof.Point{doneAt(calls[2], 9), doneAt(calls[1], 3), doneAt(calls[4], 1), doneAt(calls[0], 0)}
	parts := split(t, calls, points)
	isPart(t, parts[0], calls, []int{3}, points, nil)
	isPart(t, parts[1], calls, []int{2, 4}, points, []int{2})
	isPart(t, parts[2], calls, []int{0}, points, []int{3})
	isPart(t, parts[3], calls, []int{1, 5}, points, []int{0, 1})
}

// A point is of a call just if client and number both are its.
func TestSplitOtherNumber(t *testing.T) {
	calls := []proof.Call{put(1, 2, 3)}
	points := []proof.Point{{Client: 2, Number: 1}, {Client: 1, Number: 1}, {Client: 2, Number: 2}, {Client: 1, Number: 2}, {}}
	parts := split(t, calls, points)
	isPart(t, parts[0], calls, nil, points, []int{0, 1, 2, 4})
	isPart(t, parts[3], calls, []int{0}, points, []int{3})
}

// What is no call, or no point, has its place, too: whatever the key, it is the key's.
func TestSplitWhatIsNone(t *testing.T) {
	for _, key := range []string{"", "\x00", strings.Repeat("x", api.MaxKey+1), strings.Repeat("y", 100000), "k"} {
		for _, n := range []int{0, -1, math.MinInt, math.MaxInt} {
			calls := []proof.Call{{Client: n, Number: n, Op: table.Op{Kind: n, Key: key}, From: n, To: n}}
			points := []proof.Point{{At: n, Client: n, Number: n, Answer: shard.Answer{Err: 99, Value: key}}}
			parts := split(t, calls, points)
			isPart(t, parts[stock.Place(key)], calls, []int{0}, points, []int{0})
		}
	}
}

func TestSplitLong(t *testing.T) {
	for _, c := range []struct {
		calls, points int
		want          api.Errno
	}{{2000, 2000, api.OK}, {2001, 0, api.ErrLong}, {0, 2001, api.ErrLong}, {2001, 2001, api.ErrLong}, {2000, 2001, api.ErrLong}, {2001, 2000, api.ErrLong}, {9999, 1, api.ErrLong}} {
		parts, err := Split(make([]proof.Call, c.calls), make([]proof.Point, c.points))
		if err != c.want || err != api.OK && len(parts) != 0 {
			t.Errorf("%v: %d parts, %v", c, len(parts), err)
		}
		n, m := 0, 0
		for _, p := range parts {
			n, m = n+len(p.Calls), m+len(p.Points)
		}
		if err == api.OK && (n != c.calls || m != c.points) {
			t.Errorf("%v: %d, %d", c, n, m)
		}
	}
}

// R3: what is handed in stays, spare room too, and shares nothing with the parts, nor these with one another.
func TestSplitMemory(t *testing.T) {
	calls, points := history()
	calls, points = slices.Grow(calls, 20), slices.Grow(points, 20)
	spare, spared := calls[:cap(calls)], points[:cap(points)]
	hadCalls, hadPoints := slices.Clone(spare), slices.Clone(spared)
	parts, again := split(t, calls, points), split(t, calls, points)
	for i := range parts {
		for _, c := range [][]proof.Call{parts[i].Calls, parts[i].Calls[:cap(parts[i].Calls)]} {
			for k := range c {
				c[k].Number = 99 + i
			}
		}
		for _, p := range [][]proof.Point{parts[i].Points, parts[i].Points[:cap(parts[i].Points)]} {
			for k := range p {
				p[k].Number = 99 + i
			}
		}
	}
	for i, p := range parts {
		for _, c := range p.Calls {
			if c.Number != 99+i {
				t.Error("parts share calls")
			}
		}
		for _, x := range p.Points {
			if x.Number != 99+i {
				t.Error("parts share points")
			}
		}
	}
	if !slices.Equal(spare, hadCalls) || !slices.Equal(spared, hadPoints) {
		t.Error("what was handed in changed")
	}
	if !reflect.DeepEqual(again, split(t, calls, points)) {
		t.Error("the same does not tell the same")
	}
}

// 27.1: Check.

// brokenPart is a part of which that rule is the least that is broken.
func brokenPart(rule int) Part {
	c := put(0, 1, 2)
	p := Part{Calls: []proof.Call{c}, Points: []proof.Point{doneAt(c, 3)}}
	switch rule {
	case 1:
		p.Calls[0].Client, p.Points = 8, nil
	case 2:
		p.Points[0].At = 1
	case 3:
		p.Points = nil
	case 4:
		p.Points[0].Answer.Value = "x"
	}
	return p
}

func wantCheck(t *testing.T, parts []Part, place, rule int) {
	t.Helper()
	if p, r, err := Check(parts); p != place || r != rule || err != api.OK {
		t.Errorf("%v: %d, %d, %v, not %d, %d", parts, p, r, err, place, rule)
	}
}

func TestCheck(t *testing.T) {
	wantCheck(t, nil, 0, 0)
	wantCheck(t, []Part{}, 0, 0)
	for rule := range 5 {
		wantCheck(t, []Part{brokenPart(rule)}, 0, rule)
		for n := 1; n < 7; n++ {
			for place := range n {
				parts := make([]Part, n)
				for i := range parts {
					parts[i] = brokenPart(0)
				}
				parts[place] = brokenPart(rule)
				want := place
				if rule == 0 {
					want = 0
				}
				wantCheck(t, parts, want, rule)
			}
		}
	}
}

// The first part that breaks a rule is told, whatever rules the later ones break.
func TestCheckFirst(t *testing.T) {
	for first := 1; first < 5; first++ {
		for later := 1; later < 5; later++ {
			wantCheck(t, []Part{{}, brokenPart(first), brokenPart(0), brokenPart(later)}, 1, first)
			wantCheck(t, []Part{brokenPart(first), brokenPart(later)}, 0, first)
		}
	}
}

// A part is too long just as proof has it, wherever it stands; that comes ahead of rules that are broken.
func TestCheckLong(t *testing.T) {
	long := []Part{{Calls: make([]proof.Call, 2001)}, {Points: make([]proof.Point, 2001)}}
	for _, x := range long {
		for _, parts := range [][]Part{{x}, {{}, {}, x}, {x, {}}, {brokenPart(3), x}, {brokenPart(1), brokenPart(0), brokenPart(2), x}, {x, brokenPart(4)}, {long[0], long[1]}} {
			if place, rule, err := Check(parts); place != 0 || rule != 0 || err != api.ErrLong {
				t.Errorf("%d, %d, %v", place, rule, err)
			}
		}
	}
	wantCheck(t, []Part{{}, {Calls: make([]proof.Call, 2000), Points: make([]proof.Point, 2000)}}, 1, 1)
	wantCheck(t, []Part{{}, {}, {Points: make([]proof.Point, 2000)}}, 2, 2)
}

// Parts are looked at as they are: that their keys are of one shard, or that they differ, is not asked.
func TestCheckAnyKeys(t *testing.T) {
	var p Part
	for i := range api.Shards {
		c := put(0, 1+i, i)
		p.Calls, p.Points = append(p.Calls, c), append(p.Points, doneAt(c, c.From))
	}
	wantCheck(t, []Part{p, p}, 0, 0)
}

func TestCheckMemory(t *testing.T) {
	calls, points := history()
	parts := []Part{{calls, points}, brokenPart(4)}
	had := slices.Clone(parts)
	hadCalls, hadPoints := history()
	place, rule, _ := Check(parts)
	if again, same, _ := Check(parts); again != place || same != rule || !reflect.DeepEqual(parts, had) || !slices.Equal(calls, hadCalls) || !slices.Equal(points, hadPoints) {
		t.Error("Check changed something")
	}
}

// 27.2.

func call(from, to int) proof.Call { return proof.Call{From: from, To: to} }

func TestLongest(t *testing.T) {
	for _, c := range []struct {
		name     string
		calls    []proof.Call
		now      int
		place, n int
	}{
		{"none", nil, 17, 0, 0},
		{"none, empty", []proof.Call{}, 17, 0, 0},
		{"one", []proof.Call{call(3, 8)}, 0, 0, 5},
		{"one that took nothing", []proof.Call{call(3, 3)}, 99, 0, 0},
		{"the last", []proof.Call{call(3, 8), call(9, 9), call(10, 16)}, 99, 2, 6},
		{"the first of some", []proof.Call{call(3, 4), call(3, 8), call(4, 9), call(9, 14)}, 99, 1, 5},
		{"all took nothing", []proof.Call{call(3, 3), call(7, 7), call(9, -1)}, 9, 0, 0},
		{"open", []proof.Call{call(3, 8), call(4, -1), call(5, -1)}, 10, 1, 6},
		{"open, as long as another one", []proof.Call{call(3, 8), call(4, -1)}, 9, 0, 5},
		{"open ahead, as long as another one", []proof.Call{call(4, -1), call(3, 8)}, 9, 0, 5},
		{"open, one more", []proof.Call{call(3, 8), call(4, -1)}, 10, 1, 6},
		{"open, now is its From", []proof.Call{call(1, 1), call(4, -1)}, 4, 0, 0},
		{"open, now below", []proof.Call{call(1, 1), call(4, -1)}, 3, 0, 0},
		{"open, now far below", []proof.Call{call(1, 1), call(4, -1)}, math.MinInt, 0, 0},
		{"open, now -1", []proof.Call{call(1, 2), call(0, -1)}, -1, 0, 1},
		{"open, From below", []proof.Call{call(1, 2), call(-1, -1)}, 99, 0, 1},
		{"open, From far below", []proof.Call{call(1, 2), call(math.MinInt, -1)}, math.MaxInt, 0, 1},
		{"open, From and now below", []proof.Call{call(1, 1), call(-9, -1)}, -2, 0, 0},
		{"open, From 0", []proof.Call{call(1, 2), call(0, -1)}, 9, 1, 9},
		{"open, all that there is", []proof.Call{call(1, 2), call(0, -1)}, math.MaxInt, 1, math.MaxInt},
		{"all that there is", []proof.Call{call(1, 2), call(0, math.MaxInt)}, 0, 1, math.MaxInt},
		{"To below From", []proof.Call{call(9, 3), call(1, 2)}, 99, 1, 1},
		{"To below From alone", []proof.Call{call(9, 3)}, 99, 0, 0},
		{"To below 0, not -1", []proof.Call{call(0, -2), call(3, math.MinInt)}, 99, 0, 0},
		{"From below", []proof.Call{call(-5, 9), call(3, 4)}, 99, 1, 1},
		{"all numbers", []proof.Call{call(math.MinInt, math.MaxInt), call(3, 4)}, 99, 1, 1},
	} {
		if place, n := Longest(c.calls, c.now); place != c.place || n != c.n {
			t.Errorf("%s: %d, %d, not %d, %d", c.name, place, n, c.place, c.n)
		}
	}
}

// Neither has a bound on how many calls there are.
func TestManyCalls(t *testing.T) {
	calls := make([]proof.Call, 5000)
	calls[4321] = call(2, -1)
	calls[4999] = call(0, 6)
	if place, n := Longest(calls, 9); place != 4321 || n != 7 {
		t.Error(place, n)
	}
	if l := Open(calls); !slices.Equal(l, []int{4321}) {
		t.Error(l)
	}
}

func TestOpen(t *testing.T) {
	for _, c := range []struct {
		calls []proof.Call
		want  []int
	}{
		{nil, nil},
		{[]proof.Call{}, nil},
		{[]proof.Call{call(0, 0), call(3, 8)}, nil},
		{[]proof.Call{call(0, -1)}, []int{0}},
		{[]proof.Call{call(0, -1), call(1, 1), call(2, -1), call(-1, -1), call(7, 0)}, []int{0, 2, 3}},
		{[]proof.Call{call(0, -2), call(0, math.MinInt), call(9, 1)}, nil},
	} {
		if l := Open(c.calls); !slices.Equal(l, c.want) {
			t.Errorf("%v: %v", c.calls, l)
		}
	}
}

// R3, R6: neither changes what is handed in, and each answer is new.
func TestOpenMemory(t *testing.T) {
	calls := []proof.Call{call(0, -1), call(1, 3), call(2, -1)}
	had := slices.Clone(calls)
	l := Open(calls)
	for i := range l[:cap(l)] {
		l[:cap(l)][i] = 77
	}
	if again := Open(calls); !slices.Equal(again, []int{0, 2}) {
		t.Error(again)
	}
	Longest(calls, 5)
	if !slices.Equal(calls, had) {
		t.Error(calls)
	}
}
