package plea

import (
	"math"
	"math/rand"
	"strings"
	"testing"

	"wapentake/api"
	"wapentake/proof"
	"wapentake/shard"
	"wapentake/table"
)

// someHistory is one map's: what clients ask is done at moments that rise, with what the map tells; some calls are not answered, some not done either.
func someHistory(rnd *rand.Rand, size int) ([]proof.Call, []proof.Point) {
	var calls []proof.Call
	var points []proof.Point
	var ops []table.Op
	var free [api.MaxTables]int // the moment from which on each client may ask
	keys := []string{keyOf(0), keyOf(1), keyOf(2), keyOf(3)}
	for at := 0; len(calls) < size && at < 9*size; at += rnd.Intn(3) {
		client := rnd.Intn(api.MaxTables)
		if free[client] > at {
			continue
		}
		c := proof.Call{Client: client, Number: 1 + len(calls), Op: someOp(rnd, keys[rnd.Intn(len(keys))]), From: free[client] + rnd.Intn(at-free[client]+1), To: at + rnd.Intn(9)}
		free[client] = c.To
		if rnd.Intn(12) == 0 {
			c.To, free[client] = -1, math.MaxInt
		}
		calls = append(calls, c)
		if c.To >= 0 || rnd.Intn(2) == 0 {
			points = append(points, doneAt(c, at))
			ops = append(ops, c.Op)
		}
	}
	for i, a := range proof.Replay(ops) {
		points[i].Answer = a
		for k := range calls {
			if calls[k].To >= 0 && calls[k].Number == points[i].Number {
				calls[k].Answer = a
			}
		}
	}
	return calls, points
}

func someOp(rnd *rand.Rand, key string) table.Op {
	o := table.Op{Kind: table.Get + rnd.Intn(table.Swap), Key: key}
	some := func() string { return strings.Repeat("v", rnd.Intn(4)) }
	switch o.Kind {
	case table.Put, table.Append:
		o.Value = some()
	case table.Swap:
		o.Value, o.Old = some(), some()
	}
	return o
}

// spoil changes a thing or two of a history, such as may leave it one map's.
func spoil(rnd *rand.Rand, calls []proof.Call, points []proof.Point) ([]proof.Call, []proof.Point) {
	if len(points) == 0 {
		return calls, append(points, proof.Point{Client: rnd.Intn(8), Number: 1 + rnd.Intn(3)})
	}
	c, i := &calls[rnd.Intn(len(calls))], rnd.Intn(len(points))
	p := &points[i]
	switch rnd.Intn(8) {
	case 0:
		p.Answer = shard.Answer{Value: strings.Repeat("v", rnd.Intn(3))}
	case 1:
		c.Answer = shard.Answer{Err: api.ErrNone}
	case 2:
		p.At += rnd.Intn(5) - 2
	case 3:
		p.Client, p.Number = rnd.Intn(api.MaxTables), rnd.Intn(len(calls)+2)
	case 4:
		points = append(points[:i], points[i+1:]...)
	case 5:
		c.Op = someOp(rnd, keyOf(rnd.Intn(api.Shards)))
	case 6:
		x := points[rnd.Intn(len(points))] // what each was, at the other's moment
		p.Client, p.Number, p.Answer = x.Client, x.Number, x.Answer
	case 7:
		points = append(points, *p)
		points[len(points)-1].At = points[len(points)-2].At + rnd.Intn(3)
	}
	return calls, points
}

// isSpokenOf tells whether 27.3 speaks of a history.
func isSpokenOf(calls []proof.Call, points []proof.Point) bool {
	rule, _, _ := proof.Check(calls, points)
	for i := 1; i < len(points); i++ {
		if points[i].At < points[i-1].At {
			return false
		}
	}
	return rule != 1
}

// 27.3: histories that are one map's and such as are not, whole and part by part.
func TestLocal(t *testing.T) {
	rnd := rand.New(rand.NewSource(1))
	whole := [5]int{}           // how often each rule was broken of the whole
	places := [api.Shards]int{} // how often each part was the first that was not as it should be
	for range 8000 {
		calls, points := someHistory(rnd, 1+rnd.Intn(24))
		for range rnd.Intn(3) {
			calls, points = spoil(rnd, calls, points)
		}
		if !isSpokenOf(calls, points) {
			continue
		}
		rule, _, _ := proof.Check(calls, points)
		place, least, err := Check(split(t, calls, points))
		if err != api.OK || (least == 0) != (rule == 0) {
			t.Fatalf("rule %d of the whole, rule %d of part %d, %v: %v, %v", rule, least, place, err, calls, points)
		}
		whole[rule]++
		if rule != 0 {
			places[place]++
		}
	}
	for rule, n := range whole {
		if rule != 1 && n < 100 {
			t.Errorf("rule %d was told %d times", rule, n)
		}
	}
	for place, n := range places {
		if n < 100 {
			t.Errorf("part %d was told %d times", place, n)
		}
	}
}

// 27.3: long histories of one map, of which each part is told alone.
func TestLocalLong(t *testing.T) {
	rnd := rand.New(rand.NewSource(2))
	for range 40 {
		calls, points := someHistory(rnd, 500)
		parts := split(t, calls, points)
		wantCheck(t, parts, 0, 0)
		for i, p := range parts {
			if len(p.Calls) == 0 || len(p.Points) == 0 {
				t.Errorf("part %d has nothing", i)
			}
			p.Points[len(p.Points)-1].Answer.Value += "!"
			wantCheck(t, parts, i, 4)
			p.Points[len(p.Points)-1].Answer = p.Points[0].Answer
			parts[i] = Part{}
		}
	}
}

// P1: whatever the numbers are, all ends, and tells what is told of it.
func TestWhateverNumbers(t *testing.T) {
	rnd := rand.New(rand.NewSource(3))
	numbers := []int{math.MinInt, -2, -1, 0, 1, 2, 7, 8, api.MaxBig, api.MaxBig + 1, math.MaxInt}
	for range 2000 {
		calls, points := someHistory(rnd, 1+rnd.Intn(6))
		for range 1 + rnd.Intn(4) {
			c := &calls[rnd.Intn(len(calls))]
			l := []*int{&c.Client, &c.Number, &c.From, &c.To, &c.Op.Kind}
			if len(points) > 0 {
				p := &points[rnd.Intn(len(points))]
				l = append(l, &p.At, &p.Client, &p.Number)
			}
			*l[rnd.Intn(len(l))] = numbers[rnd.Intn(len(numbers))]
		}
		parts := split(t, calls, points)
		place, rule := 0, 0
		for i := len(parts) - 1; i >= 0; i-- {
			if r, _, _ := proof.Check(parts[i].Calls, parts[i].Points); r != 0 {
				place, rule = i, r
			}
		}
		wantCheck(t, parts, place, rule)
		now := numbers[rnd.Intn(len(numbers))]
		place, n := Longest(calls, now)
		for i, c := range calls {
			end := c.To
			if end == -1 {
				end = now
			}
			if c.From >= 0 && end >= c.From && (end-c.From > n || end-c.From == n && i < place && n > 0) {
				t.Errorf("%v, now %d: %d, %d", calls, now, place, n)
			}
		}
	}
}
