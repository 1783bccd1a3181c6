package batch

import (
	"math"
	"math/rand"
	"slices"
	"strconv"
	"strings"
	"testing"

	"wapentake/api"
	"wapentake/nest"
)

// add adds a request that must be there then.
func add(t *testing.T, p *Pool, caller, number int, text string) {
	t.Helper()
	if is, err := p.Add(Request{Caller: caller, Number: number, Text: text}); !is || err != api.OK {
		t.Fatalf("Add(%d, %d): %v, %v", caller, number, is, err)
	}
}

// filled is a pool with a request of each text, number 5 of the caller of the text's place.
func filled(t *testing.T, texts ...string) *Pool {
	t.Helper()
	p := New()
	for i, s := range texts {
		add(t, p, i, 5, s)
	}
	return p
}

// full is a pool with Room requests, number 5 of the callers from 0 on.
func full(t *testing.T) *Pool {
	t.Helper()
	p := New()
	for i := range Room {
		add(t, p, i, 5, strconv.Itoa(i))
	}
	return p
}

// drain is all that is there, in its order, as batches tell it; nothing is there then.
func drain(t *testing.T, p *Pool) []Request {
	t.Helper()
	var l []Request
	for range Room {
		for _, r := range p.Take() {
			l = append(l, r)
			if was, err := p.Forget(r.Caller, r.Number); !was || err != api.OK {
				t.Fatalf("Forget(%v): %v, %v", r, was, err)
			}
		}
	}
	if p.Len() != 0 {
		t.Fatalf("%d are still there", p.Len())
	}
	return l
}

func names(l []Request) string {
	var b strings.Builder
	for _, r := range l {
		b.WriteString(" " + strconv.Itoa(r.Caller) + "." + strconv.Itoa(r.Number) + r.Text)
	}
	return strings.TrimPrefix(b.String(), " ")
}

var (
	noCallers = []int{-1, 64, 65, math.MinInt, math.MaxInt}
	noNumbers = []int{0, -1, api.MaxBig + 1, math.MinInt, math.MaxInt}
)

// 8.1.

func TestLimits(t *testing.T) {
	if MaxBody != 4000 || Room != 24 || Most != 4 || Bytes != 9000 {
		t.Error(MaxBody, Room, Most, Bytes)
	}
}

func TestNewIsEmpty(t *testing.T) {
	p := New()
	if p == nil {
		t.Fatal("New: nil")
	}
	if p.Len() != 0 || len(p.Take()) != 0 {
		t.Error(p.Len(), p.Take())
	}
	for caller := range 64 {
		if p.Last(caller) != 0 || p.Has(caller, 1) || p.Has(caller, 0) {
			t.Error(caller, p.Last(caller))
		}
	}
	if q := New(); p == q {
		t.Error("one pool twice")
	}
}

func TestExample(t *testing.T) {
	p := New()
	for _, c := range []struct {
		number int
		text   string
		want   bool
	}{{5, "a", true}, {5, "b", false}, {6, "b", true}} {
		if is, err := p.Add(Request{1, c.number, c.text}); is != c.want || err != api.OK {
			t.Errorf("%v: %v, %v", c, is, err)
		}
	}
	if was, err := p.Done(1, 6); !was || err != api.OK {
		t.Error(was, err)
	}
	if is, err := p.Add(Request{1, 6, "c"}); is || err != api.OK {
		t.Error(is, err)
	}
}

func TestAddEdges(t *testing.T) {
	p := New()
	add(t, p, 0, 1, "")
	add(t, p, 63, api.MaxBig, strings.Repeat("x", MaxBody))
	if !p.Has(0, 1) || !p.Has(63, api.MaxBig) || p.Len() != 2 {
		t.Error(p.Len())
	}
}

func TestAddWrong(t *testing.T) {
	long := strings.Repeat("x", MaxBody+1)
	wrong := func(p *Pool, r Request, want api.Errno) {
		t.Helper()
		if is, err := p.Add(r); is || err != want {
			t.Errorf("Add(%d, %d, %d bytes): %v, %v", r.Caller, r.Number, len(r.Text), is, err)
		}
	}
	for _, p := range []*Pool{New(), full(t), nil} {
		before := p.Len()
		for _, caller := range noCallers {
			wrong(p, Request{caller, 1, ""}, api.ErrArg)
			wrong(p, Request{caller, 0, long}, api.ErrArg)
		}
		for _, number := range noNumbers {
			wrong(p, Request{60, number, ""}, api.ErrArg)
			wrong(p, Request{60, number, long}, api.ErrArg)
		}
		wrong(p, Request{60, 1, long}, api.ErrLong)
		if p.Len() != before {
			t.Errorf("%d are there, not %d", p.Len(), before)
		}
	}
}

func TestAddLongIsAheadOfFalse(t *testing.T) {
	p := filled(t, "a")
	if is, err := p.Add(Request{0, 5, strings.Repeat("x", MaxBody+1)}); is || err != api.ErrLong {
		t.Error(is, err)
	}
}

func TestAddNotAboveDone(t *testing.T) {
	p := New()
	if was, err := p.Done(7, 10); was || err != api.OK {
		t.Error(was, err)
	}
	for _, number := range []int{1, 9, 10} {
		if is, err := p.Add(Request{7, number, "x"}); is || err != api.OK || p.Len() != 0 {
			t.Errorf("%d: %v, %v", number, is, err)
		}
	}
	add(t, p, 7, 11, "x")
	add(t, p, 8, 1, "y")
}

func TestAddNotAboveWhatIsThere(t *testing.T) {
	p := filled(t, "a", "b")
	for _, number := range []int{1, 4, 5} {
		if is, err := p.Add(Request{0, number, "x"}); is || err != api.OK {
			t.Errorf("%d: %v, %v", number, is, err)
		}
	}
	if got := names(p.Take()); got != "0.5a 1.5b" {
		t.Error(got)
	}
}

func TestAddReplacesAndStandsBehind(t *testing.T) {
	p := filled(t, "a", "b", "c")
	add(t, p, 0, 6, "d")
	if got := names(p.Take()); got != "1.5b 2.5c 0.6d" || p.Len() != 3 {
		t.Error(got, p.Len())
	}
	add(t, p, 2, 9, "e")
	if got := names(p.Take()); got != "1.5b 0.6d 2.9e" || p.Len() != 3 {
		t.Error(got, p.Len())
	}
	if p.Has(0, 5) || p.Has(2, 5) || !p.Has(0, 6) || !p.Has(2, 9) {
		t.Error("Has")
	}
	if p.Last(0) != 0 || p.Last(2) != 0 {
		t.Error("what was replaced is not done")
	}
}

func TestAddFull(t *testing.T) {
	p := full(t)
	if is, err := p.Add(Request{40, 1, "x"}); is || err != api.ErrFull || p.Has(40, 1) {
		t.Error(is, err)
	}
	// False is told ahead of ErrFull, of what is there and of what is done.
	if is, err := p.Add(Request{3, 5, "x"}); is || err != api.OK {
		t.Error(is, err)
	}
	if _, err := p.Done(40, 3); err != api.OK {
		t.Error(err)
	}
	if is, err := p.Add(Request{40, 3, "x"}); is || err != api.OK {
		t.Error(is, err)
	}
	if is, err := p.Add(Request{40, 4, "x"}); is || err != api.ErrFull {
		t.Error(is, err)
	}
	add(t, p, 3, 6, "y")
	if p.Len() != Room {
		t.Error(p.Len())
	}
	l := drain(t, p)
	if len(l) != Room || l[0].Caller != 0 || l[3].Caller != 4 || l[Room-1] != (Request{3, 6, "y"}) {
		t.Error(names(l))
	}
}

func TestAddIsFreeAgain(t *testing.T) {
	p := full(t)
	if was, err := p.Done(0, 5); !was || err != api.OK {
		t.Error(was, err)
	}
	add(t, p, 40, 1, "x")
	if is, err := p.Add(Request{41, 1, "x"}); is || err != api.ErrFull {
		t.Error(is, err)
	}
	if was, err := p.Forget(40, 1); !was || err != api.OK {
		t.Error(was, err)
	}
	add(t, p, 41, 1, "x")
}

// 8.2.

func TestDone(t *testing.T) {
	p := filled(t, "a", "b", "c")
	done := func(caller, number int, want bool, last int) {
		t.Helper()
		if was, err := p.Done(caller, number); was != want || err != api.OK || p.Last(caller) != last {
			t.Errorf("Done(%d, %d): %v, %v; Last %d", caller, number, was, err, p.Last(caller))
		}
	}
	done(1, 4, false, 4) // below what is there
	if !p.Has(1, 5) || p.Len() != 3 {
		t.Error("5 is not done")
	}
	done(1, 3, false, 4) // the greatest stays
	done(1, 5, true, 5)
	done(1, 5, false, 5)
	done(2, 9, true, 9) // above what is there
	done(2, 6, false, 9)
	done(63, api.MaxBig, false, api.MaxBig)
	done(62, 1, false, 1)
	if got := names(p.Take()); got != "0.5a" || p.Len() != 1 || p.Last(0) != 0 {
		t.Error(got, p.Len(), p.Last(0))
	}
}

func TestForget(t *testing.T) {
	p := filled(t, "a", "b", "c")
	forget := func(caller, number int, want bool) {
		t.Helper()
		if was, err := p.Forget(caller, number); was != want || err != api.OK {
			t.Errorf("Forget(%d, %d): %v, %v", caller, number, was, err)
		}
	}
	for _, number := range []int{1, 4, 6, api.MaxBig} {
		forget(1, number, false)
	}
	forget(50, 5, false)
	if p.Len() != 3 {
		t.Error(p.Len())
	}
	forget(1, 5, true)
	forget(1, 5, false)
	if p.Last(1) != 0 || p.Has(1, 5) {
		t.Error("what is forgotten is not done")
	}
	if got := names(p.Take()); got != "0.5a 2.5c" {
		t.Error(got)
	}
	add(t, p, 1, 5, "d")
	if got := names(p.Take()); got != "0.5a 2.5c 1.5d" {
		t.Error(got)
	}
	add(t, p, 1, 8, "e")
	forget(1, 8, true)
	add(t, p, 1, 2, "f") // lower than the one that was forgotten
}

func TestDoneAndForgetWrong(t *testing.T) {
	p := filled(t, "a", "b")
	ask := func(p *Pool, caller, number int) {
		t.Helper()
		if was, err := p.Done(caller, number); was || err != api.ErrArg {
			t.Errorf("Done(%d, %d): %v, %v", caller, number, was, err)
		}
		if was, err := p.Forget(caller, number); was || err != api.ErrArg {
			t.Errorf("Forget(%d, %d): %v, %v", caller, number, was, err)
		}
	}
	for _, p := range []*Pool{p, nil} {
		for _, caller := range noCallers {
			ask(p, caller, 5)
			ask(p, caller, 0)
		}
		for _, number := range noNumbers {
			ask(p, 0, number)
		}
	}
	if got := names(p.Take()); got != "0.5a 1.5b" || p.Last(0) != 0 {
		t.Error(got, p.Last(0))
	}
}

func TestHasAndLast(t *testing.T) {
	p := filled(t, "a", "b")
	add(t, p, 63, api.MaxBig, "z")
	if _, err := p.Done(20, 17); err != api.OK {
		t.Fatal(err)
	}
	for caller := range 64 {
		for _, number := range []int{-1, 0, 1, 4, 5, 6, 17, api.MaxBig} {
			want := caller < 2 && number == 5 || caller == 63 && number == api.MaxBig
			if p.Has(caller, number) != want {
				t.Errorf("Has(%d, %d): %v", caller, number, !want)
			}
		}
		want := 0
		if caller == 20 {
			want = 17
		}
		if got := p.Last(caller); got != want {
			t.Errorf("Last(%d): %d", caller, got)
		}
	}
	for _, caller := range noCallers {
		if p.Has(caller, 5) || p.Last(caller) != 0 {
			t.Errorf("caller %d", caller)
		}
	}
	for _, number := range noNumbers {
		if p.Has(0, number) {
			t.Errorf("number %d", number)
		}
	}
}

// 8.3.

func TestTake(t *testing.T) {
	sized := func(sizes ...int) *Pool {
		var l []string
		for i, n := range sizes {
			l = append(l, strings.Repeat(string(rune('a'+i)), n))
		}
		return filled(t, l...)
	}
	for _, c := range []struct {
		p    *Pool
		want int
	}{
		{sized(1, 1, 1), 3},
		{sized(1, 1, 1, 1), 4},
		{sized(1, 1, 1, 1, 1), 4},
		{sized(0, 0, 0, 0, 0), 4},
		{sized(4000), 1},
		{sized(4000, 4000), 2},
		{sized(4000, 4000, 1000), 3},       // as many bytes as can be
		{sized(4000, 4000, 1001), 2},       // one more
		{sized(4000, 4000, 1001, 1), 2},    // what is behind it waits, too
		{sized(4000, 4000, 1000, 0), 4},    // nothing more
		{sized(4000, 4000, 1000, 1), 3},    // one more
		{sized(3000, 3000, 2999, 1, 1), 4}, // Most and Bytes at once
		{sized(1, 4000, 4000, 4000), 3},
		{full(t), 4},
	} {
		for range 2 { // they stay there
			l := c.p.Take()
			if len(l) != c.want {
				t.Errorf("%d are taken, not %d", len(l), c.want)
			}
			for i, r := range l {
				if r.Caller != i || r.Number != 5 || !c.p.Has(i, 5) || r != c.p.waiting[i] {
					t.Errorf("%d: %d %d", i, r.Caller, r.Number)
				}
			}
		}
	}
}

func TestText(t *testing.T) {
	for _, c := range []struct {
		l    []Request
		want string
	}{
		{nil, ""},
		{[]Request{}, ""},
		{[]Request{{1, 5, "b"}, {2, 6, "d"}}, "1:b,1:d,"},
		{[]Request{{-1, -1, ""}}, "0:,"}, // texts alone
		{[]Request{{0, 1, "1:a,"}, {}, {0, 1, "\x00\xff"}}, "4:1:a,,0:,2:\x00\xff,"},
		{make([]Request, 6), "0:,0:,0:,0:,0:,0:,"}, // more than a batch has
		{[]Request{{Text: strings.Repeat("y", 4001)}}, "4001:" + strings.Repeat("y", 4001) + ","},
	} {
		if got := Text(c.l); got != c.want {
			t.Errorf("%d: %q", len(c.l), got)
		}
	}
}

func TestTexts(t *testing.T) {
	most := strings.Repeat("x", MaxBody)
	for _, l := range [][]string{
		nil, {""}, {"b", "d"}, {"a", "a", "a", "a"}, {most, most, most, most}, {"1:a,", "\x00", "", most},
	} {
		got, err := Texts(nest.Pack(l))
		if err != api.OK || !slices.Equal(got, l) {
			t.Errorf("%d texts: %d, %v", len(l), len(got), err)
		}
	}
}

func TestTextsWrong(t *testing.T) {
	long := strings.Repeat("x", MaxBody+1)
	for _, s := range []string{
		"x", ",", ":", "1:a", "1:a,x", "2:a,", "01:a,", "-1:a,", "1:a,1:b", "\x00", strings.Repeat("9", 30) + ":",
		nest.Pack([]string{"", "", "", "", ""}),
		nest.Pack(make([]string, 1000)),
		nest.Pack([]string{long}),
		nest.Pack([]string{"a", "b", "c", long}),
		nest.Pack([]string{long, "a"}),
	} {
		if l, err := Texts(s); len(l) != 0 || err != api.ErrForm {
			t.Errorf("Texts(%.20q): %d texts, %v", s, len(l), err)
		}
	}
}

func TestTextsOfText(t *testing.T) {
	p := filled(t, "a", "", strings.Repeat("c", 4000), "d", "e")
	l := p.Take()
	texts, err := Texts(Text(l))
	if err != api.OK || len(texts) != len(l) {
		t.Fatal(len(texts), err)
	}
	for i, r := range l {
		if texts[i] != r.Text {
			t.Error(i)
		}
	}
}

func TestNilPool(t *testing.T) {
	var p *Pool
	if is, err := p.Add(Request{1, 1, "a"}); is || err != api.ErrFull {
		t.Error(is, err)
	}
	if was, err := p.Done(1, 1); was || err != api.OK {
		t.Error(was, err)
	}
	if was, err := p.Forget(1, 1); was || err != api.OK {
		t.Error(was, err)
	}
	if l := p.Take(); len(l) != 0 {
		t.Error(l)
	}
	if p.Has(1, 1) || p.Last(1) != 0 || p.Last(-1) != 0 || p.Len() != 0 {
		t.Error(p.Has(1, 1), p.Last(1), p.Len())
	}
}

// 8.4, against a plain list of all that was added.

type model struct {
	there []Request
	done  map[int]int
}

func (m *model) add(r Request) (bool, api.Errno) {
	at := slices.IndexFunc(m.there, func(x Request) bool { return x.Caller == r.Caller })
	if r.Number <= m.done[r.Caller] || at >= 0 && m.there[at].Number >= r.Number {
		return false, api.OK
	}
	if at < 0 && len(m.there) == 24 {
		return false, api.ErrFull
	}
	m.drop(func(x Request) bool { return x.Caller == r.Caller })
	m.there = append(m.there, r)
	return true, api.OK
}

func (m *model) drop(is func(Request) bool) bool {
	var left []Request
	for _, x := range m.there {
		if !is(x) {
			left = append(left, x)
		}
	}
	was := len(left) < len(m.there)
	m.there = left
	return was
}

func (m *model) take() []Request {
	for n := min(4, len(m.there)); ; n-- {
		bytes := 0
		for _, x := range m.there[:n] {
			bytes += len(x.Text)
		}
		if bytes <= 9000 {
			return m.there[:n]
		}
	}
}

func TestAgainstModel(t *testing.T) {
	rnd := rand.New(rand.NewSource(8))
	for round := range 40 {
		p, m := New(), &model{done: map[int]int{}}
		callers := 4 + round
		for step := range 600 {
			caller, number := rnd.Intn(callers), 1+step/20+rnd.Intn(8)
			what, want := false, false
			err, wantErr := api.OK, api.OK
			switch rnd.Intn(8) {
			case 0:
				what, err = p.Done(caller, number)
				m.done[caller] = max(m.done[caller], number)
				want = m.drop(func(x Request) bool { return x.Caller == caller && x.Number <= m.done[caller] })
			case 1:
				what, err = p.Forget(caller, number)
				want = m.drop(func(x Request) bool { return x.Caller == caller && x.Number == number })
			default:
				r := Request{caller, number, strings.Repeat("x", rnd.Intn(2)*rnd.Intn(4001)) + strconv.Itoa(step)}
				r.Text = r.Text[:min(len(r.Text), MaxBody)]
				what, err = p.Add(r)
				want, wantErr = m.add(r)
			}
			if what != want || err != wantErr {
				t.Fatalf("round %d, step %d: %v, %v, not %v, %v", round, step, what, err, want, wantErr)
			}
			if l := p.Take(); !slices.Equal(l, m.take()) || p.Len() != len(m.there) {
				t.Fatalf("round %d, step %d: Take: %d of %d", round, step, len(l), p.Len())
			}
			if p.Last(caller) != m.done[caller] {
				t.Fatalf("round %d, step %d: Last %d", round, step, p.Last(caller))
			}
		}
		for _, r := range m.there {
			if !p.Has(r.Caller, r.Number) {
				t.Fatalf("round %d: %v is gone", round, r)
			}
		}
	}
}

func TestDoneIsNeverTakenAgain(t *testing.T) {
	p := New()
	for number := 1; number <= 50; number++ {
		add(t, p, 9, number, "x")
		if was, err := p.Done(9, number); !was || err != api.OK {
			t.Fatal(was, err)
		}
		for again := 1; again <= number; again++ {
			if is, err := p.Add(Request{9, again, "y"}); is || err != api.OK || len(p.Take()) != 0 {
				t.Fatalf("%d is there again behind %d", again, number)
			}
		}
	}
}

// R3.

func TestTakeIsNewMemory(t *testing.T) {
	p := full(t)
	l := p.Take()
	l = l[:cap(l)]
	for i := range l {
		l[i] = Request{Caller: 50, Number: 1, Text: "spoilt"}
	}
	if got := names(p.Take()); got != "0.50 1.51 2.52 3.53" {
		t.Error(got)
	}
	l = p.Take()
	if _, err := p.Done(0, 5); err != api.OK {
		t.Fatal(err)
	}
	if got := names(l); got != "0.50 1.51 2.52 3.53" {
		t.Error(got)
	}
}

func TestTextsIsNewMemory(t *testing.T) {
	s := "1:a,1:b,"
	l, _ := Texts(s)
	l[0] = "spoilt"
	if again, err := Texts(s); err != api.OK || !slices.Equal(again, []string{"a", "b"}) {
		t.Error(again, err)
	}
}

func TestTextChangesNothing(t *testing.T) {
	l := make([]Request, 2, 5)
	l[0], l[1] = Request{1, 2, "a"}, Request{3, 4, "b"}
	spare := l[:5]
	spare[2] = Request{5, 6, "c"}
	if got := Text(l); got != "1:a,1:b," {
		t.Error(got)
	}
	if !slices.Equal(spare, []Request{{1, 2, "a"}, {3, 4, "b"}, {5, 6, "c"}, {}, {}}) {
		t.Error(spare)
	}
}

// What is gone is kept nowhere, and no more is kept than there is room for.

func TestNothingIsKept(t *testing.T) {
	p := full(t)
	for i := range 500 {
		add(t, p, i%Room, 6+i, strings.Repeat("x", 100))
	}
	for i := range Room {
		if was, err := p.Done(i, api.MaxBig); !was || err != api.OK {
			t.Fatal(was, err)
		}
	}
	if c := cap(p.waiting); c > 2*Room {
		t.Errorf("room for %d", c)
	}
	for _, r := range p.waiting[:cap(p.waiting)] {
		if r != (Request{}) {
			t.Error("a request that is gone is kept")
		}
	}
}

// Pools share nothing.
func TestPoolsAreApart(t *testing.T) {
	p, q := filled(t, "a"), New()
	if _, err := p.Done(9, 9); err != api.OK {
		t.Fatal(err)
	}
	if q.Len() != 0 || q.Last(9) != 0 {
		t.Error(q.Len(), q.Last(9))
	}
}
