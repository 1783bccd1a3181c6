package window

import (
	"math"
	"math/rand"
	"reflect"
	"strconv"
	"testing"

	"wapentake/api"
	"wapentake/cert"
	"wapentake/slot"
)

const (
	someTag = "0123456789abcdef"
	highest = api.MaxBig - Size
)

var noViews = []int{-1, api.MaxBig + 1, math.MinInt, math.MaxInt}

// made is a window of group 2 and f 1, of that low mark.
func made(t *testing.T, low int) *Window {
	t.Helper()
	w, err := New(2, 1)
	if w == nil || err != api.OK {
		t.Fatal(w, err)
	}
	if low > 0 {
		raised(t, w, low)
	}
	return w
}

func raised(t *testing.T, w *Window, low int) {
	t.Helper()
	if is, err := w.Raise(low); !is || err != api.OK {
		t.Fatalf("Raise(%d): %v, %v", low, is, err)
	}
}

func at(t *testing.T, w *Window, view, number int) *slot.Slot {
	t.Helper()
	s, err := w.At(view, number)
	if s == nil || err != api.OK {
		t.Fatalf("At(%d, %d): %v, %v", view, number, s, err)
	}
	return s
}

// some is a certificate of that text, with two tags.
func some(text string) cert.Cert {
	return cert.Cert{Text: text, Group: 2, Tags: []cert.Tag{{No: 0, Tag: someTag}, {No: 3, Tag: text}}}
}

func noted(t *testing.T, w *Window, view, number int, text string) {
	t.Helper()
	if is, err := w.Note(view, number, some(text)); !is || err != api.OK {
		t.Fatalf("Note(%d, %d): %v, %v", view, number, is, err)
	}
}

func wantBest(t *testing.T, w *Window, number, view int, text string) {
	t.Helper()
	if v, c, ok := w.Best(number); v != view || !reflect.DeepEqual(c, some(text)) || !ok {
		t.Errorf("Best(%d): %d, %v, %v, not %d, %q", number, v, c, ok, view, text)
	}
}

func wantNoBest(t *testing.T, w *Window, number int) {
	t.Helper()
	if v, c, ok := w.Best(number); v != 0 || c.Text != "" || c.Group != 0 || len(c.Tags) != 0 || ok {
		t.Errorf("Best(%d): %d, %v, %v, though there is none", number, v, c, ok)
	}
}

// outside are numbers that are not in a window of that low mark.
func outside(low int) []int {
	return []int{low, low + Size + 1, low - 1, low + 2*Size, 0, -1, math.MinInt, math.MaxInt}
}

// tells is all that a window tells, but of its slots.
func tells(w *Window) []any {
	l := []any{w.Low(), w.Slots()}
	for number := w.Low() - 20; number < w.Low()+20; number++ {
		v, c, ok := w.Best(number)
		l = append(l, w.Has(number), v, c.Text, ok)
	}
	return l
}

// 10.1.

func TestSize(t *testing.T) {
	if Size != 8 {
		t.Error(Size)
	}
}

func TestNew(t *testing.T) {
	for group := 0; group <= 4; group++ {
		for f := 0; f <= 3; f++ {
			w, err := New(group, f)
			if w == nil || err != api.OK {
				t.Fatalf("New(%d, %d): %v, %v", group, f, w, err)
			}
			if w.Low() != 0 || w.Slots() != 0 || w.Leave(api.MaxBig) != 0 {
				t.Errorf("New(%d, %d): %d, %d", group, f, w.Low(), w.Slots())
			}
			for number := -1; number <= 10; number++ {
				wantNoBest(t, w, number)
			}
		}
	}
}

func TestNewWrong(t *testing.T) {
	for _, c := range [][2]int{
		{-1, 0}, {5, 0}, {math.MinInt, 3}, {math.MaxInt, 3},
		{0, -1}, {4, 4}, {0, math.MinInt}, {4, math.MaxInt}, {5, 4}, {-1, -1},
	} {
		if w, err := New(c[0], c[1]); w != nil || err != api.ErrArg {
			t.Errorf("New(%d, %d): %v, %v", c[0], c[1], w, err)
		}
	}
}

func TestHas(t *testing.T) {
	for _, low := range []int{0, 1, 5, 8, 1000, highest} {
		w := made(t, low)
		for number := low + 1; number <= low+8; number++ {
			if !w.Has(number) {
				t.Errorf("low %d: %d is not in it", low, number)
			}
		}
		for _, number := range outside(low) {
			if w.Has(number) {
				t.Errorf("low %d: %d is in it", low, number)
			}
		}
	}
}

func TestExample(t *testing.T) {
	w := made(t, 0)
	none := func(number int) {
		t.Helper()
		if s, err := w.At(0, number); s != nil || err != api.ErrNone {
			t.Errorf("At(0, %d): %v, %v", number, s, err)
		}
	}
	at(t, w, 0, 8)
	none(9)
	raised(t, w, 4)
	none(4)
	at(t, w, 0, 12)
	none(13)
}

func TestAtIsOneSlotForEach(t *testing.T) {
	w := made(t, 40)
	seen := map[*slot.Slot]place{}
	for _, view := range []int{0, 1, 41, 48, api.MaxBig} {
		for number := 41; number <= 48; number++ {
			s := at(t, w, view, number)
			if old, ok := seen[s]; ok {
				t.Errorf("one slot of %v and of %d, %d", old, view, number)
			}
			seen[s] = place{view, number}
			if s.Votes(slot.Order) != 0 || s.Votes(slot.Settle) != 0 {
				t.Error("a new slot with votes")
			}
			if is, err := s.Vote(slot.Settle, 2, strconv.Itoa(len(seen)), someTag); !is || err != api.OK {
				t.Error(is, err)
			}
			if w.Slots() != len(seen) {
				t.Errorf("%d slots, not %d", w.Slots(), len(seen))
			}
		}
	}
	for s, p := range seen {
		if at(t, w, p.view, p.number) != s {
			t.Errorf("another slot of %v", p)
		}
	}
	if w.Slots() != len(seen) {
		t.Errorf("%d slots, not %d", w.Slots(), len(seen))
	}
}

// The slot of a view has its primary, the window's group, and n replicas.
func TestAtPrimary(t *testing.T) {
	for f := 0; f <= 3; f++ {
		n := 3*f + 1
		for _, view := range []int{0, 1, 2, 3, 4, 5, 9, 10, 11, 1001, api.MaxBig - 1, api.MaxBig} {
			w, err := New(f+1, f)
			if err != api.OK {
				t.Fatal(err)
			}
			s := at(t, w, view, 1)
			for no := range n {
				if is, err := s.Vote(slot.Order, no, "a", someTag); !is || err != api.OK {
					t.Fatal(is, err)
				}
				if _, ok := s.Proposal(); ok != (no >= view%n) {
					t.Errorf("f %d, view %d: the primary is not %d", f, view, view%n)
				}
			}
			if is, err := s.Vote(slot.Order, n, "a", someTag); is || err != api.ErrArg {
				t.Errorf("f %d: %v, %v", f, is, err)
			}
			if c, ok := s.Cert(slot.Order); c.Group != f+1 || !ok {
				t.Errorf("f %d: %v, %v", f, c, ok)
			}
		}
	}
}

func TestAtWrong(t *testing.T) {
	for _, low := range []int{0, 5, highest} {
		w := made(t, low)
		at(t, w, 0, low+1)
		before := tells(w)
		wrong := func(view, number int, want api.Errno) {
			t.Helper()
			if s, err := w.At(view, number); s != nil || err != want {
				t.Errorf("low %d: At(%d, %d): %v, %v, not %v", low, view, number, s, err, want)
			}
			if is, err := w.Note(view, number, some("x")); is || err != want {
				t.Errorf("low %d: Note(%d, %d): %v, %v, not %v", low, view, number, is, err, want)
			}
		}
		for _, view := range noViews {
			wrong(view, low+1, api.ErrArg)
			for _, number := range outside(low) {
				wrong(view, number, api.ErrArg)
				wrong(0, number, api.ErrNone)
				wrong(api.MaxBig, number, api.ErrNone)
			}
		}
		if !reflect.DeepEqual(tells(w), before) {
			t.Errorf("low %d: %v, not %v", low, tells(w), before)
		}
	}
}

// 10.2.

func TestNote(t *testing.T) {
	w := made(t, 0)
	for i, c := range []struct {
		view     int
		is       bool
		best     int
		bestText string
	}{
		{5, true, 5, "0"}, {5, false, 5, "0"}, {4, false, 5, "0"}, {0, false, 5, "0"},
		{6, true, 6, "4"}, {6, false, 6, "4"}, {5, false, 6, "4"},
		{api.MaxBig, true, api.MaxBig, "7"}, {api.MaxBig, false, api.MaxBig, "7"}, {6, false, api.MaxBig, "7"},
	} {
		if is, err := w.Note(c.view, 3, some(strconv.Itoa(i))); is != c.is || err != api.OK {
			t.Errorf("%d: %v, %v", i, is, err)
		}
		wantBest(t, w, 3, c.best, c.bestText)
	}
	if w.Slots() != 0 {
		t.Errorf("%d slots", w.Slots())
	}
}

func TestNoteOfViewNought(t *testing.T) {
	w := made(t, 0)
	noted(t, w, 0, 1, "a")
	wantBest(t, w, 1, 0, "a")
	if is, err := w.Note(0, 1, some("b")); is || err != api.OK {
		t.Error(is, err)
	}
	wantBest(t, w, 1, 0, "a")
	noted(t, w, 1, 1, "b")
	wantBest(t, w, 1, 1, "b")
}

// The same certificate of the same view is not noted once more.
func TestNoteTwice(t *testing.T) {
	w := made(t, 0)
	noted(t, w, 2, 8, "a")
	if is, err := w.Note(2, 8, some("a")); is || err != api.OK {
		t.Error(is, err)
	}
	wantBest(t, w, 8, 2, "a")
}

func TestNoteNumbersAreApart(t *testing.T) {
	w := made(t, 100)
	for number := 101; number <= 108; number++ {
		for other := 101; other <= 108; other++ {
			if other < number {
				wantBest(t, w, other, other%3, strconv.Itoa(other))
			} else {
				wantNoBest(t, w, other)
			}
		}
		noted(t, w, number%3, number, strconv.Itoa(number))
	}
	for _, number := range outside(100) {
		wantNoBest(t, w, number)
	}
}

// What a certificate has is not looked at.
func TestNoteOfAny(t *testing.T) {
	for i, c := range []cert.Cert{
		{},
		{Tags: []cert.Tag{}},
		{Text: "a", Group: -7},
		{Group: 99, Tags: []cert.Tag{{No: 5, Tag: "x"}, {No: -5}, {No: 5, Tag: "x"}}},
	} {
		w := made(t, 0)
		if is, err := w.Note(1, 1, c); !is || err != api.OK {
			t.Errorf("%d: %v, %v", i, is, err)
		}
		v, got, ok := w.Best(1)
		if v != 1 || got.Text != c.Text || got.Group != c.Group || len(got.Tags) != len(c.Tags) || !ok {
			t.Errorf("%d: %d, %v, %v", i, v, got, ok)
		}
		if is, err := w.Note(1, 1, some("b")); is || err != api.OK {
			t.Errorf("%d: %v, %v", i, is, err)
		}
	}
}

// 10.3.

func TestRaise(t *testing.T) {
	for low := 1; low <= 20; low++ {
		w := made(t, 0)
		slots := map[place]*slot.Slot{}
		for number := 1; number <= 8; number++ {
			for view := range 3 {
				slots[place{view, number}] = at(t, w, view, number)
			}
			noted(t, w, number, number, strconv.Itoa(number))
		}
		raised(t, w, low)
		left := max(8-low, 0)
		if w.Low() != low || w.Slots() != 3*left {
			t.Errorf("Raise(%d): %d, %d slots", low, w.Low(), w.Slots())
		}
		for number := 1; number <= 8; number++ {
			if number <= low {
				wantNoBest(t, w, number)
				continue
			}
			wantBest(t, w, number, number, strconv.Itoa(number))
			for view := range 3 {
				if at(t, w, view, number) != slots[place{view, number}] {
					t.Errorf("Raise(%d): another slot of %d, %d", low, view, number)
				}
			}
		}
		if w.Slots() != 3*left {
			t.Errorf("Raise(%d): %d slots", low, w.Slots())
		}
	}
}

func TestRaiseIsNotAbove(t *testing.T) {
	w := made(t, 6)
	at(t, w, 0, 7)
	noted(t, w, 0, 7, "a")
	before := tells(w)
	for _, low := range []int{0, 1, 5, 6} {
		if is, err := w.Raise(low); is || err != api.OK {
			t.Errorf("Raise(%d): %v, %v", low, is, err)
		}
	}
	if is, err := made(t, 0).Raise(0); is || err != api.OK {
		t.Error(is, err)
	}
	if !reflect.DeepEqual(tells(w), before) {
		t.Errorf("%v, not %v", tells(w), before)
	}
}

func TestRaiseEdges(t *testing.T) {
	w := made(t, 0)
	raised(t, w, 1)
	raised(t, w, highest-1)
	raised(t, w, highest)
	at(t, w, 0, api.MaxBig)
	noted(t, w, 0, api.MaxBig, "a")
	wantBest(t, w, api.MaxBig, 0, "a")
	if w.Low() != highest || w.Has(api.MaxBig+1) {
		t.Error(w.Low())
	}
}

func TestRaiseWrong(t *testing.T) {
	for _, w := range []*Window{made(t, 0), made(t, 5), made(t, highest), nil} {
		before := tells(w)
		for _, low := range []int{-1, highest + 1, api.MaxBig, math.MinInt, math.MaxInt} {
			if is, err := w.Raise(low); is || err != api.ErrArg {
				t.Errorf("Raise(%d): %v, %v", low, is, err)
			}
		}
		if !reflect.DeepEqual(tells(w), before) {
			t.Errorf("%v, not %v", tells(w), before)
		}
	}
}

func TestLeave(t *testing.T) {
	for _, c := range []struct{ view, gone int }{
		{math.MinInt, 0}, {-1, 0}, {0, 0}, {1, 8}, {2, 16}, {3, 16}, {7, 16}, {8, 24}, {api.MaxBig, 24}, {api.MaxBig + 1, 32}, {math.MaxInt, 32},
	} {
		w := made(t, 0)
		slots := map[place]*slot.Slot{}
		for number := 1; number <= 8; number++ {
			for _, view := range []int{0, 1, 7, api.MaxBig} {
				slots[place{view, number}] = at(t, w, view, number)
			}
			noted(t, w, 1, number, "a")
		}
		if got := w.Leave(c.view); got != c.gone || w.Slots() != 32-c.gone {
			t.Errorf("Leave(%d): %d, not %d; %d slots", c.view, got, c.gone, w.Slots())
		}
		if got := w.Leave(c.view); got != 0 {
			t.Errorf("Leave(%d) once more: %d", c.view, got)
		}
		for p, s := range slots {
			if same := at(t, w, p.view, p.number) == s; same != (p.view >= c.view) {
				t.Errorf("Leave(%d): %v: %v", c.view, p, same)
			}
		}
		// The best ones stay, whatever views they are of.
		for number := 1; number <= 8; number++ {
			wantBest(t, w, number, 1, "a")
		}
	}
}

// A nil window, and one that New did not make.

func TestNilWindow(t *testing.T) {
	var w *Window
	numbers := []int{math.MinInt, -1, 0, 1, 8, 9, api.MaxBig, math.MaxInt}
	for _, number := range numbers {
		for _, view := range noViews {
			if s, err := w.At(view, number); s != nil || err != api.ErrArg {
				t.Errorf("At(%d, %d): %v, %v", view, number, s, err)
			}
			if is, err := w.Note(view, number, some("a")); is || err != api.ErrArg {
				t.Errorf("Note(%d, %d): %v, %v", view, number, is, err)
			}
		}
		for _, view := range []int{0, 1, api.MaxBig} {
			if s, err := w.At(view, number); s != nil || err != api.ErrState {
				t.Errorf("At(%d, %d): %v, %v", view, number, s, err)
			}
			if is, err := w.Note(view, number, some("a")); is || err != api.ErrState {
				t.Errorf("Note(%d, %d): %v, %v", view, number, is, err)
			}
		}
		wantNoBest(t, w, number)
		if w.Has(number) || w.Leave(number) != 0 {
			t.Errorf("%d: %v", number, w.Has(number))
		}
	}
	for _, low := range []int{0, 1, highest} {
		if is, err := w.Raise(low); is || err != api.ErrState {
			t.Errorf("Raise(%d): %v, %v", low, is, err)
		}
	}
	if w.Low() != 0 || w.Slots() != 0 {
		t.Error(w.Low(), w.Slots())
	}
}

func TestZeroWindow(t *testing.T) {
	var w Window
	wantNoBest(t, &w, 1)
	if w.Leave(5) != 0 || w.Slots() != 0 {
		t.Error(w.Slots())
	}
	noted(t, &w, 0, 8, "a")
	at(t, &w, 0, 8)
	raised(t, &w, 8)
	if w.Slots() != 0 || w.Low() != 8 {
		t.Error(w.Slots(), w.Low())
	}
}

// 10.4.

func TestGoneComesNeverBack(t *testing.T) {
	rnd := rand.New(rand.NewSource(11))
	w := made(t, 0)
	for range 3000 {
		number := w.Low() - 20 + rnd.Intn(40)
		if rnd.Intn(10) == 0 {
			w.Raise(max(number, 0))
		}
		low := w.Low()
		_, atErr := w.At(rnd.Intn(5), number)
		_, noteErr := w.Note(rnd.Intn(5), number, some("a"))
		if number <= low && (atErr != api.ErrNone || noteErr != api.ErrNone) {
			t.Fatalf("low %d: %d is back", low, number)
		}
		count := 0
		for n := low - 40; n < low+40; n++ {
			if w.Has(n) {
				count++
			} else {
				wantNoBest(t, w, n)
			}
		}
		if count != Size || len(w.bests) > Size || w.Low() != low {
			t.Fatalf("low %d: %d numbers, %d best ones", low, count, len(w.bests))
		}
	}
	if w.Low() < 100 {
		t.Errorf("only raised to %d", w.Low())
	}
}

// model has what was done to a window, and goes through all of it each time.
type model struct {
	low   int
	slots map[place]*slot.Slot
	bests map[place]string
}

func (m *model) best(number int) (int, string, bool) {
	view, text := -1, ""
	for p, x := range m.bests {
		if p.number == number && p.number > m.low && p.view > view {
			view, text = p.view, x
		}
	}
	if view < 0 {
		return 0, "", false
	}
	return view, text, true
}

func (m *model) count() int {
	count := 0
	for p := range m.slots {
		if p.number > m.low {
			count++
		}
	}
	return count
}

func (m *model) leave(view int) int {
	count := m.count()
	for p := range m.slots {
		if p.view < view {
			delete(m.slots, p)
		}
	}
	return count - m.count()
}

func TestAgainstModel(t *testing.T) {
	rnd := rand.New(rand.NewSource(12))
	for round := range 60 {
		w, m := made(t, 0), &model{slots: map[place]*slot.Slot{}, bests: map[place]string{}}
		for step := range 300 {
			view, number := rnd.Intn(6), m.low+1+rnd.Intn(Size)
			switch rnd.Intn(12) {
			case 0:
				low := m.low - 2 + rnd.Intn(8)
				if is, err := w.Raise(max(low, 0)); is != (low > m.low) || err != api.OK {
					t.Fatalf("round %d, step %d: Raise(%d): %v, %v", round, step, low, is, err)
				}
				m.low = max(m.low, low)
			case 1:
				if got, want := w.Leave(view), m.leave(view); got != want {
					t.Fatalf("round %d, step %d: Leave(%d): %d, not %d", round, step, view, got, want)
				}
			case 2, 3, 4, 5:
				text := strconv.Itoa(step)
				v, _, ok := m.best(number)
				want := !ok || v < view
				if is, err := w.Note(view, number, some(text)); is != want || err != api.OK {
					t.Fatalf("round %d, step %d: Note(%d, %d): %v, %v", round, step, view, number, is, err)
				}
				if want {
					m.bests[place{view, number}] = text
				}
			default:
				s, old := at(t, w, view, number), m.slots[place{view, number}]
				if old != nil && s != old {
					t.Fatalf("round %d, step %d: another slot", round, step)
				}
				m.slots[place{view, number}] = s
			}
			if w.Low() != m.low || w.Slots() != m.count() {
				t.Fatalf("round %d, step %d: %d, %d, not %d, %d", round, step, w.Low(), w.Slots(), m.low, m.count())
			}
			for n := m.low - 2; n <= m.low+Size+1; n++ {
				v, text, ok := m.best(n)
				if got, c, is := w.Best(n); got != v || c.Text != text || is != ok {
					t.Fatalf("round %d, step %d: Best(%d): %d, %v, %v", round, step, n, got, c, is)
				}
			}
		}
	}
}

// R3.

func TestNoteKeepsNothing(t *testing.T) {
	w := made(t, 0)
	l := make([]cert.Tag, 2, 5)
	copy(l, some("a").Tags)
	spare := l[:5]
	spare[2] = cert.Tag{No: 9, Tag: "spare"}
	if is, err := w.Note(0, 1, cert.Cert{Text: "a", Group: 2, Tags: l}); !is || err != api.OK {
		t.Fatal(is, err)
	}
	_, c, _ := w.Best(1)
	_ = append(c.Tags, cert.Tag{No: 1, Tag: "more"})
	if l[1] != (cert.Tag{No: 3, Tag: "a"}) || spare[2] != (cert.Tag{No: 9, Tag: "spare"}) || spare[3] != (cert.Tag{}) {
		t.Error(spare)
	}
	for i := range spare {
		spare[i] = cert.Tag{No: 7, Tag: "spoilt"}
	}
	wantBest(t, w, 1, 0, "a")
}

func TestBestIsNewMemory(t *testing.T) {
	w := made(t, 0)
	noted(t, w, 0, 1, "a")
	_, c, _ := w.Best(1)
	_, d, _ := w.Best(1)
	l := c.Tags[:cap(c.Tags)]
	for i := range l {
		l[i] = cert.Tag{No: 7, Tag: "spoilt"}
	}
	if !reflect.DeepEqual(d, some("a")) {
		t.Error(d)
	}
	wantBest(t, w, 1, 0, "a")
	noted(t, w, 1, 1, "b")
	if !reflect.DeepEqual(d, some("a")) {
		t.Error(d)
	}
}

func TestWindowsAreApart(t *testing.T) {
	w, u := made(t, 0), made(t, 0)
	s := at(t, w, 0, 1)
	noted(t, w, 0, 1, "a")
	if at(t, u, 0, 1) == s {
		t.Error("one slot of two windows")
	}
	wantNoBest(t, u, 1)
	raised(t, w, 3)
	if u.Low() != 0 || u.Slots() != 1 {
		t.Error(u.Low(), u.Slots())
	}
}

// What is gone is kept nowhere.
func TestNothingIsKept(t *testing.T) {
	w := made(t, 0)
	for low := 8; low <= 800; low += 8 {
		for number := w.Low() + 1; number <= low; number++ {
			at(t, w, number, number)
			noted(t, w, number, number, "a")
		}
		raised(t, w, low)
		if len(w.slots) != 0 || len(w.bests) != 0 {
			t.Fatalf("low %d: %d slots, %d best ones", low, len(w.slots), len(w.bests))
		}
	}
}
