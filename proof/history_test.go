package proof

import (
	"math"
	"math/rand"
	"slices"
	"strings"
	"testing"

	"wapentake/api"
	"wapentake/shard"
	"wapentake/stock"
	"wapentake/table"
)

// someHistory is one that one map would have shown: clients ask, what they ask for is done at some moment, and told at a later one; some is not told, or not done.
func someHistory(rnd *rand.Rand, size int) ([]Call, []Point) {
	var calls []Call
	var points []Point
	var open [api.MaxTables]int // of each client its call's place, and one more; 0, if it has none
	var did [api.MaxTables]int  // its point's
	number := 0
	t := newTables()
	clients := 1 + rnd.Intn(api.MaxTables)
	for now := rnd.Intn(3); len(calls) < size; now += rnd.Intn(3) {
		client := rnd.Intn(clients)
		i := open[client] - 1
		switch {
		case i < 0:
			number += 1 + rnd.Intn(3)
			calls = append(calls, Call{Client: client, Number: number, Op: someOp(rnd), From: now, To: -1})
			open[client], did[client] = len(calls), 0
		case did[client] == 0:
			points = append(points, Point{At: now, Client: client, Number: calls[i].Number, Answer: t.do(calls[i].Op)})
			did[client] = len(points)
		case rnd.Intn(3) > 0:
			calls[i].To, calls[i].Answer = now, points[did[client]-1].Answer
			open[client] = 0
		}
	}
	return calls, points
}

func someOp(rnd *rand.Rand) table.Op {
	o := table.Op{Kind: 1 + rnd.Intn(table.Swap), Key: keyOf(rnd.Intn(api.Shards), rnd.Intn(2))}
	if o.Kind != table.Get && o.Kind != table.Delete {
		o.Value = strings.Repeat("v", rnd.Intn(4))
	}
	if o.Kind == table.Swap {
		o.Old = strings.Repeat("v", rnd.Intn(4))
	}
	return o
}

// spoil changes one thing of a history.
func spoil(rnd *rand.Rand, calls []Call, points []Point) ([]Call, []Point) {
	c := &calls[rnd.Intn(len(calls))]
	if len(points) == 0 {
		points = append(points, Point{Client: c.Client, Number: c.Number})
	}
	i := rnd.Intn(len(points))
	p := &points[i]
	answers := []shard.Answer{{}, done("v"), {Err: api.ErrNone}, {Err: api.ErrState}}
	switch rnd.Intn(12) {
	case 0:
		c.Number += rnd.Intn(3) - 1
	case 1:
		c.From += rnd.Intn(7) - 3
	case 2:
		c.To += rnd.Intn(7) - 3
	case 3:
		c.To, c.Answer = -1, shard.Answer{}
	case 4:
		c.Answer = answers[rnd.Intn(len(answers))]
	case 5:
		c.Op = someOp(rnd)
	case 6:
		p.At += rnd.Intn(7) - 3
	case 7:
		p.Answer = answers[rnd.Intn(len(answers))]
	case 8:
		*p = points[rnd.Intn(len(points))]
	case 9:
		points = slices.Delete(points, i, i+1)
	case 10:
		j := rnd.Intn(len(points))
		points[i], points[j] = points[j], points[i]
		points[i].At, points[j].At = points[j].At, points[i].At
	case 11:
		j := rnd.Intn(len(calls))
		calls[0], calls[j] = calls[j], calls[0]
	}
	return calls, points
}

// words are the rules as the chapter has them, each asked of all that it speaks of: the least that is broken, and where.
func words(calls []Call, points []Point) (int, int) {
	for i, c := range calls {
		wrong := c.Client < 0 || c.Client > 7 || c.Number < 1 || c.Number > api.MaxBig || table.Check(c.Op) != api.OK || c.From < 0
		wrong = wrong || c.To != -1 && c.To < c.From || c.To == -1 && c.Answer != shard.Answer{}
		for _, e := range calls[:i] {
			wrong = wrong || e.Client == c.Client && (e.Number >= c.Number || e.To == -1 || e.To > c.From)
		}
		if wrong {
			return 1, i
		}
	}
	for i, p := range points {
		found := false
		for _, c := range calls {
			found = found || c.Client == p.Client && c.Number == p.Number && p.At >= c.From && (c.To == -1 || p.At <= c.To)
		}
		for _, e := range points[:i] {
			found = found && !(e.Client == p.Client && e.Number == p.Number) && p.At >= e.At
		}
		if !found || p.At < 0 {
			return 2, i
		}
	}
	for i, c := range calls {
		if c.To != -1 && !slices.ContainsFunc(points, func(p Point) bool { return p.Client == c.Client && p.Number == c.Number }) {
			return 3, i
		}
	}
	rows := map[string]string{}
	for i, p := range points {
		c := calls[slices.IndexFunc(calls, func(c Call) bool { return c.Client == p.Client && c.Number == p.Number })]
		if a := mapped(rows, c.Op); p.Answer != a || c.To != -1 && c.Answer != a {
			return 4, i
		}
	}
	return 0, 0
}

// mapped is what one map of few keys tells.
func mapped(rows map[string]string, o table.Op) shard.Answer {
	had, ok := rows[o.Key]
	switch {
	case o.Kind == table.Put:
		rows[o.Key] = o.Value
		return done(had)
	case o.Kind == table.Append:
		if len(had+o.Value) > api.MaxValue {
			return shard.Answer{Err: api.ErrLong}
		}
		rows[o.Key] = had + o.Value
		return done(had + o.Value)
	case !ok:
		return shard.Answer{Err: api.ErrNone}
	case o.Kind == table.Delete:
		delete(rows, o.Key)
	case o.Kind == table.Swap && had != o.Old:
		return shard.Answer{Err: api.ErrState}
	case o.Kind == table.Swap:
		rows[o.Key] = o.Value
	}
	return done(had)
}

// 24.1: histories of one map, and such as are spoilt here and there, are told as the words of the rules have them.
func TestAsTheWords(t *testing.T) {
	rnd := rand.New(rand.NewSource(1))
	var told [5]int
	for range 6000 {
		calls, points := someHistory(rnd, 1+rnd.Intn(12))
		for range rnd.Intn(4) {
			calls, points = spoil(rnd, calls, points)
		}
		rule, place := words(calls, points)
		wantCheck(t, "a history", calls, points, rule, place)
		told[rule]++
	}
	for rule, n := range told {
		if n < 100 {
			t.Errorf("rule %d was told %d times", rule, n)
		}
	}
}

// P1: whatever the numbers are, it is told as the words have it.
func TestWhateverNumbers(t *testing.T) {
	rnd := rand.New(rand.NewSource(4))
	numbers := []int{math.MinInt, math.MinInt + 1, -2, -1, 0, 1, 2, 7, 8, api.MaxBig, api.MaxBig + 1, math.MaxInt - 1, math.MaxInt}
	some := func() int { return numbers[rnd.Intn(len(numbers))] }
	for range 3000 {
		calls, points := someHistory(rnd, 1+rnd.Intn(4))
		for range 1 + rnd.Intn(3) {
			c := &calls[rnd.Intn(len(calls))]
			n := []*int{&c.Client, &c.Number, &c.From, &c.To, &c.Op.Kind}
			if len(points) > 0 {
				p := &points[rnd.Intn(len(points))]
				n = append(n, &p.At, &p.Client, &p.Number)
			}
			*n[rnd.Intn(len(n))] = some()
		}
		rule, place := words(calls, points)
		wantCheck(t, "numbers", calls, points, rule, place)
	}
}

// 24.2: what one map showed keeps all rules, however long it is.
func TestOneMap(t *testing.T) {
	rnd := rand.New(rand.NewSource(2))
	for range 200 {
		calls, points := someHistory(rnd, 1+rnd.Intn(400))
		wantCheck(t, "one map's", calls, points, 0, 0)
	}
}

// 24.2: where no rule is broken, each answered call stands once in the points' order, with what one map tells it there, and none that was answered ahead of another one's asking stands behind it.
func TestNoRuleBroken(t *testing.T) {
	rnd := rand.New(rand.NewSource(3))
	kept := 0
	for range 6000 {
		calls, points := someHistory(rnd, 1+rnd.Intn(10))
		for range 1 + rnd.Intn(2) {
			calls, points = spoil(rnd, calls, points)
		}
		if rule, _, _ := Check(calls, points); rule != 0 {
			continue
		}
		kept++
		rows := map[string]string{}
		stands := map[request]int{}
		for i, p := range points {
			c := calls[slices.IndexFunc(calls, func(c Call) bool { return c.Client == p.Client && c.Number == p.Number })]
			if a := mapped(rows, c.Op); a != p.Answer || c.To >= 0 && a != c.Answer {
				t.Fatalf("%v is told %v, not %v", c, p.Answer, a)
			}
			stands[request{p.Client, p.Number}] = i
		}
		if len(stands) != len(points) {
			t.Fatal("a call stands there twice")
		}
		for _, a := range calls {
			i, ok := stands[request{a.Client, a.Number}]
			if !ok && a.To >= 0 {
				t.Fatal("an answered call stands nowhere")
			}
			for _, b := range calls {
				if j, there := stands[request{b.Client, b.Number}]; there && a.To >= 0 && a.To < b.From && j < i {
					t.Fatalf("%v stands behind %v", a, b)
				}
			}
		}
	}
	if kept < 500 {
		t.Errorf("only %d were kept", kept)
	}
}

// 24.2: histories that no order of one map shows, whatever points are handed in beside them.
func TestNotOneMap(t *testing.T) {
	k := keyOf(2, 0)
	for name, calls := range map[string][]Call{
		"what was put is not read": {
			{Client: 0, Number: 1, Op: put(k, "a"), From: 0, To: 1},
			{Client: 1, Number: 1, Op: get(k), From: 2, To: 3, Answer: shard.Answer{Err: api.ErrNone}},
		},
		"what is read later is older": {
			{Client: 0, Number: 1, Op: put(k, "a"), From: 0, To: 6},
			{Client: 1, Number: 1, Op: get(k), From: 1, To: 2, Answer: done("a")},
			{Client: 2, Number: 1, Op: get(k), From: 3, To: 4, Answer: shard.Answer{Err: api.ErrNone}},
		},
		"what nobody put is read": {
			{Client: 0, Number: 1, Op: put(k, "a"), From: 0, To: -1},
			{Client: 1, Number: 1, Op: get(k), From: 1, To: 6, Answer: done("b")},
		},
		"one thing is done twice": {
			{Client: 0, Number: 1, Op: table.Op{Kind: table.Append, Key: k, Value: "a"}, From: 0, To: 6, Answer: done("a")},
			{Client: 1, Number: 1, Op: get(k), From: 7, To: 8, Answer: done("aa")},
		},
		"both are first": {
			{Client: 0, Number: 1, Op: table.Op{Kind: table.Append, Key: k, Value: "a"}, From: 0, To: 6, Answer: done("a")},
			{Client: 1, Number: 1, Op: table.Op{Kind: table.Append, Key: k, Value: "b"}, From: 0, To: 6, Answer: done("b")},
		},
	} {
		tried := 0
		for points := range orders(calls) {
			tried++
			if rule, _, err := Check(calls, points); rule == 0 || err != api.OK {
				t.Errorf("%s: %v", name, points)
			}
		}
		if tried < 10 {
			t.Errorf("%s: only %d orders", name, tried)
		}
	}
}

// orders hands on points of some calls in all orders, at all moments at which anything happens, with what one map tells there, and with what the clients were told.
func orders(calls []Call) func(func([]Point) bool) {
	return func(yield func([]Point) bool) {
		var add func(points []Point) bool
		add = func(points []Point) bool {
			if !yield(points) {
				return false
			}
			for _, c := range calls {
				if slices.ContainsFunc(points, func(p Point) bool { return p.Client == c.Client }) {
					continue
				}
				for at := range 9 {
					for _, a := range []shard.Answer{c.Answer, lastTold(calls, points, c)} {
						if !add(append(slices.Clone(points), Point{At: at, Client: c.Client, Number: c.Number, Answer: a})) {
							return false
						}
					}
				}
			}
			return true
		}
		add(nil)
	}
}

// lastTold is what one map tells a call behind some points.
func lastTold(calls []Call, points []Point, c Call) shard.Answer {
	var ops []table.Op
	for _, p := range points {
		i := slices.IndexFunc(calls, func(c Call) bool { return c.Client == p.Client })
		ops = append(ops, calls[i].Op)
	}
	l := Replay(append(ops, c.Op))
	return l[len(l)-1]
}

// Each key is on the table of its place.
func TestPlaces(t *testing.T) {
	for i := range api.Shards {
		for which := range 2 {
			if stock.Place(keyOf(i, which)) != i {
				t.Error(i, which)
			}
		}
	}
}
