package bell

import (
	"math"
	"slices"
	"testing"

	"wapentake/api"
)

var (
	noNames = []int{-1, 16, 17, math.MinInt, math.MaxInt}
	noSpans = []int{0, -1, 4097, math.MinInt, math.MaxInt}
	noSteps = []int{-1, 4097, math.MinInt, math.MaxInt}
)

// set is a bell at a moment, with timers of these names and spans.
func set(t *testing.T, now int, timers ...[2]int) *Bell {
	t.Helper()
	b := New()
	b.now = now
	for _, x := range timers {
		if err := b.Set(x[0], x[1]); err != api.OK {
			t.Fatal(x, err)
		}
	}
	return b
}

func wantDue(t *testing.T, b *Bell, name, due int) {
	t.Helper()
	if got, ok := b.Due(name); got != due || !ok {
		t.Errorf("Due(%d): %d, %v, not %d", name, got, ok, due)
	}
}

func wantNone(t *testing.T, b *Bell, name int) {
	t.Helper()
	if got, ok := b.Due(name); got != 0 || ok {
		t.Errorf("Due(%d): %d, %v, though there is none", name, got, ok)
	}
}

func wantTick(t *testing.T, b *Bell, by int, want ...int) {
	t.Helper()
	if got, err := b.Tick(by); !slices.Equal(got, want) || err != api.OK {
		t.Errorf("Tick(%d): %v, %v, not %v", by, got, err, want)
	}
}

// tells is all that a bell tells without a change.
func tells(b *Bell) []int {
	next, some := b.Next()
	l := []int{b.Now(), next, toInt(some)}
	for name := range 16 {
		due, ok := b.Due(name)
		l = append(l, due, toInt(ok))
	}
	return l
}

func toInt(b bool) int {
	if b {
		return 1
	}
	return 0
}

// 6.1.

func TestLimits(t *testing.T) {
	if MaxSpan != 4096 {
		t.Error(MaxSpan)
	}
}

func TestNewIsWithoutTimers(t *testing.T) {
	b := New()
	if b == nil {
		t.Fatal("New: nil")
	}
	if !slices.Equal(tells(b), make([]int, 35)) {
		t.Error(tells(b))
	}
	wantTick(t, b, 0)
	wantTick(t, b, MaxSpan)
}

func TestSet(t *testing.T) {
	for _, now := range []int{0, 1, 100, api.MaxBig} {
		for name := range 16 {
			for _, span := range []int{1, 2, 5, 4095, 4096} {
				b := set(t, now)
				if err := b.Set(name, span); err != api.OK {
					t.Error(name, span, err)
				}
				wantDue(t, b, name, now+span)
			}
		}
	}
}

func TestSetOfNone(t *testing.T) {
	for _, b := range []*Bell{New(), set(t, 7, [2]int{0, 3}, [2]int{15, 2}), nil} {
		before := tells(b)
		for _, name := range noNames {
			for _, span := range append([]int{1, 4096}, noSpans...) {
				if err := b.Set(name, span); err != api.ErrArg {
					t.Error(name, span, err)
				}
			}
		}
		for _, span := range noSpans {
			for name := range 16 {
				if err := b.Set(name, span); err != api.ErrArg {
					t.Error(name, span, err)
				}
			}
		}
		if !slices.Equal(tells(b), before) {
			t.Error("changed:", before, tells(b))
		}
	}
}

func TestSetAgain(t *testing.T) {
	b := set(t, 10, [2]int{3, 5}, [2]int{4, 6})
	wantTick(t, b, 2)
	b.Set(3, 7)
	wantDue(t, b, 3, 19)
	wantDue(t, b, 4, 16)
	wantTick(t, b, 4, 4) // the former one of 3 would have rung at 15
	b.Set(3, 1)          // earlier than it was
	wantDue(t, b, 3, 17)
	if n, err := b.Double(3); n != 2 || err != api.OK { // of the new span
		t.Error(n, err)
	}
	wantTick(t, b, 100, 3)
	wantTick(t, b, 100)
}

func TestOff(t *testing.T) {
	b := set(t, 0, [2]int{0, 4}, [2]int{15, 4}, [2]int{7, 2})
	for _, c := range []struct {
		name int
		was  bool
	}{{7, true}, {7, false}, {1, false}, {15, true}, {15, false}} {
		if was, err := b.Off(c.name); was != c.was || err != api.OK {
			t.Error(c.name, was, err)
		}
		wantNone(t, b, c.name)
		wantDue(t, b, 0, 4)
	}
	for _, name := range noNames {
		if was, err := b.Off(name); was || err != api.ErrArg {
			t.Error(name, was, err)
		}
	}
	wantTick(t, b, 4, 0)
	if was, err := b.Off(0); was || err != api.OK {
		t.Error("it rang:", was, err)
	}
}

func TestDouble(t *testing.T) {
	for _, c := range [][2]int{{1, 2}, {2, 4}, {3, 6}, {2047, 4094}, {2048, 4096}, {2049, 4096}, {4095, 4096}, {4096, 4096}} {
		b := set(t, 50, [2]int{9, c[0]}, [2]int{2, 1})
		if n, err := b.Double(9); n != c[1] || err != api.OK {
			t.Error(c, n, err)
		}
		wantDue(t, b, 9, 50+c[1])
		wantDue(t, b, 2, 51)
	}
}

func TestDoubleIsFromNow(t *testing.T) {
	b := set(t, 0, [2]int{5, 8})
	wantTick(t, b, 7)
	for _, want := range []int{16, 32, 64, 128, 256, 512, 1024, 2048, 4096, 4096} {
		if n, err := b.Double(5); n != want || err != api.OK {
			t.Error(n, err)
		}
		wantDue(t, b, 5, b.Now()+want)
		wantTick(t, b, want-1)
	}
	wantTick(t, b, 1, 5)
}

func TestDoubleOfNone(t *testing.T) {
	b := set(t, 3, [2]int{5, 8}, [2]int{6, 1})
	wantTick(t, b, 1, 6)
	before := tells(b)
	for name := range 16 {
		if name == 5 {
			continue
		}
		if n, err := b.Double(name); n != 0 || err != api.ErrNone {
			t.Error(name, n, err)
		}
	}
	for _, name := range noNames {
		if n, err := b.Double(name); n != 0 || err != api.ErrArg {
			t.Error(name, n, err)
		}
	}
	if !slices.Equal(tells(b), before) {
		t.Error("changed:", before, tells(b))
	}
}

// 6.2.

func TestExample(t *testing.T) {
	b := set(t, 0, [2]int{3, 5}, [2]int{1, 5}, [2]int{2, 4})
	wantTick(t, b, 5, 2, 1, 3)
}

func TestTickOrder(t *testing.T) {
	// The moments rule; of one moment, the names, in whatever order they were set.
	b := set(t, 0, [2]int{0, 9}, [2]int{15, 1}, [2]int{8, 5}, [2]int{4, 5}, [2]int{12, 5}, [2]int{9, 5}, [2]int{10, 5}, [2]int{2, 10})
	wantTick(t, b, 9, 15, 4, 8, 9, 10, 12, 0)
	wantTick(t, b, 0)
	wantTick(t, b, 1, 2)
	for name := range 16 {
		b.Set(15-name, 3)
	}
	wantTick(t, b, 4096, 0, 1, 2, 3, 4, 5, 6, 7, 8, 9, 10, 11, 12, 13, 14, 15)
	for name := range 16 {
		b.Set(name, 16-name)
	}
	wantTick(t, b, 4096, 15, 14, 13, 12, 11, 10, 9, 8, 7, 6, 5, 4, 3, 2, 1, 0)
}

func TestTickOfWrongSteps(t *testing.T) {
	b := set(t, 5, [2]int{1, 1})
	before := tells(b)
	for _, by := range noSteps {
		if l, err := b.Tick(by); len(l) != 0 || err != api.ErrArg {
			t.Error(by, l, err)
		}
	}
	if !slices.Equal(tells(b), before) {
		t.Error("changed:", before, tells(b))
	}
}

func TestTickAtTheLastMoment(t *testing.T) {
	b := set(t, 1<<40-3, [2]int{1, 1}, [2]int{2, 3}, [2]int{3, 4}, [2]int{4, 4096})
	before := tells(b)
	for _, by := range []int{4, 5, 4096} {
		if l, err := b.Tick(by); len(l) != 0 || err != api.ErrLong {
			t.Error(by, l, err)
		}
	}
	for _, by := range noSteps { // it is asked first whether it is a step at all
		if _, err := b.Tick(by); err != api.ErrArg {
			t.Error(by, err)
		}
	}
	if !slices.Equal(tells(b), before) {
		t.Error("changed:", before, tells(b))
	}
	wantTick(t, b, 3, 1, 2)
	if b.Now() != 1<<40 {
		t.Error(b.Now())
	}
	if l, err := b.Tick(1); len(l) != 0 || err != api.ErrLong {
		t.Error(l, err)
	}
	wantTick(t, b, 0)
	wantDue(t, b, 3, 1<<40+1)
	wantDue(t, b, 4, 1<<40+4093)
}

func TestTickIsNewMemory(t *testing.T) {
	b := set(t, 0, [2]int{1, 1}, [2]int{2, 1}, [2]int{3, 2}, [2]int{4, 2})
	one, _ := b.Tick(1)
	for i := range one[:cap(one)] {
		one[:cap(one)][i] = 9
	}
	wantDue(t, b, 3, 2)
	wantTick(t, b, 1, 3, 4)
}

func TestNow(t *testing.T) {
	b := New()
	now := 0
	for _, by := range []int{0, 1, 4096, 7, 0, 4095} {
		wantTick(t, b, by)
		if now += by; b.Now() != now {
			t.Error(by, b.Now())
		}
	}
	b.Set(1, 5)
	b.Double(1)
	b.Off(1)
	if b.Now() != now {
		t.Error("the moment goes on by ticks alone:", b.Now())
	}
}

func TestNext(t *testing.T) {
	wantNext := func(b *Bell, want int, some bool) {
		t.Helper()
		if got, ok := b.Next(); got != want || ok != some {
			t.Errorf("Next: %d, %v, not %d", got, ok, want)
		}
	}
	b := set(t, 20)
	wantNext(b, 0, false)
	b.Set(1, 9)
	wantNext(b, 29, true)
	b.Set(2, 4)
	wantNext(b, 24, true)
	b.Set(3, 6)
	wantNext(b, 24, true)
	b.Double(2)
	wantNext(b, 26, true)
	b.Off(3)
	wantNext(b, 28, true)
	wantTick(t, b, 8, 2)
	wantNext(b, 29, true)
	wantTick(t, b, 1, 1)
	wantNext(b, 0, false)
}

func TestDueOfNone(t *testing.T) {
	b := set(t, 5, [2]int{0, 1})
	for _, name := range append([]int{1, 15}, noNames...) {
		wantNone(t, b, name)
	}
}

func TestNilBell(t *testing.T) {
	var b *Bell
	for name := range 16 {
		if err := b.Set(name, 1); err != api.ErrState {
			t.Error(name, err)
		}
		if was, err := b.Off(name); was || err != api.OK {
			t.Error(name, was, err)
		}
		if n, err := b.Double(name); n != 0 || err != api.ErrNone {
			t.Error(name, n, err)
		}
		wantNone(t, b, name)
	}
	for _, name := range noNames {
		if _, err := b.Off(name); err != api.ErrArg {
			t.Error(name, err)
		}
		if n, err := b.Double(name); n != 0 || err != api.ErrArg {
			t.Error(name, n, err)
		}
		wantNone(t, b, name)
	}
	for _, by := range []int{0, 1, 4096} {
		if l, err := b.Tick(by); len(l) != 0 || err != api.ErrState {
			t.Error(by, l, err)
		}
	}
	for _, by := range noSteps {
		if l, err := b.Tick(by); len(l) != 0 || err != api.ErrArg {
			t.Error(by, l, err)
		}
	}
	if n, ok := b.Next(); n != 0 || ok || b.Now() != 0 {
		t.Error(n, ok, b.Now())
	}
}

// 6.3.

func TestTimerRingsOnceAndNotAhead(t *testing.T) {
	for _, span := range []int{1, 2, 3, 17} {
		b := set(t, 100, [2]int{6, span})
		for range span - 1 {
			wantTick(t, b, 1)
			wantDue(t, b, 6, 100+span)
		}
		wantTick(t, b, 0)
		wantTick(t, b, 1, 6)
		wantNone(t, b, 6)
		wantTick(t, b, 0)
		wantTick(t, b, 4096)
	}
}

// plain is a bell of an array, as the words of the chapter say it.
type plain struct {
	now   int
	there [16]bool
	due   [16]int
	span  [16]int
}

func (p *plain) set(name, span int) {
	p.there[name], p.due[name], p.span[name] = true, p.now+span, span
}

func (p *plain) tick(by int) []int {
	p.now += by
	var l []int
	for name := range 16 {
		if p.there[name] && p.due[name] <= p.now {
			l = append(l, name)
			p.there[name] = false
		}
	}
	slices.SortStableFunc(l, func(a, b int) int { return p.due[a] - p.due[b] })
	return l
}

func (p *plain) tells() []int {
	least, some := 0, false
	l := []int{p.now, 0, 0}
	for name := range 16 {
		if !p.there[name] {
			l = append(l, 0, 0)
			continue
		}
		l = append(l, p.due[name], 1)
		if !some || p.due[name] < least {
			least, some = p.due[name], true
		}
	}
	l[1], l[2] = least, toInt(some)
	return l
}

// TestBellAgainstAnArray holds a bell against a plain one, through many calls.
func TestBellAgainstAnArray(t *testing.T) {
	b, p := New(), &plain{}
	seed := uint32(7)
	next := func(n int) int {
		seed = seed*1664525 + 1013904223
		return int(seed>>8) % n
	}
	for step := range 50000 {
		name := next(16)
		switch next(5) {
		case 0, 1:
			span := 1 + next(12)
			if err := b.Set(name, span); err != api.OK {
				t.Fatal(step, err)
			}
			p.set(name, span)
		case 2:
			if was, err := b.Off(name); was != p.there[name] || err != api.OK {
				t.Fatal(step, was, err)
			}
			p.there[name] = false
		case 3:
			want, fault := 0, api.ErrNone
			if p.there[name] {
				want, fault = min(2*p.span[name], 4096), api.OK
				p.set(name, want)
			}
			if n, err := b.Double(name); n != want || err != fault {
				t.Fatal(step, n, err)
			}
		default:
			by := next(8)
			want := p.tick(by)
			if l, err := b.Tick(by); !slices.Equal(l, want) || err != api.OK {
				t.Fatal(step, l, want, err)
			}
		}
		if !slices.Equal(tells(b), p.tells()) {
			t.Fatal(step, tells(b), p.tells())
		}
	}
}
