package bag

import (
	"math"
	"slices"
	"strconv"
	"strings"
	"testing"

	"wapentake/api"
)

// filled is a bag with an item of each text, from the text's place to end 1, since its place.
func filled(t *testing.T, texts ...string) *Bag {
	t.Helper()
	b := New()
	for i, s := range texts {
		if err := b.Put(Item{From: i, To: 1, Since: i, Text: s}); err != api.OK {
			t.Fatal(err)
		}
	}
	return b
}

// full is a bag with Room items, whose texts are their places.
func full(t *testing.T) *Bag {
	t.Helper()
	b := New()
	for i := range Room {
		if err := b.Put(Item{From: i % 64, To: i / 64 % 64, Since: i, Text: strconv.Itoa(i)}); err != api.OK {
			t.Fatal(i, err)
		}
	}
	return b
}

// all are the items, as See tells them.
func all(t *testing.T, b *Bag) []Item {
	t.Helper()
	var l []Item
	for i := range b.Len() {
		x, err := b.See(i)
		if err != api.OK {
			t.Fatalf("See(%d) of %d: %v", i, b.Len(), err)
		}
		l = append(l, x)
	}
	return l
}

func texts(t *testing.T, b *Bag) string {
	t.Helper()
	var l []string
	for _, x := range all(t, b) {
		l = append(l, x.Text)
	}
	return strings.Join(l, " ")
}

// noPlaces are places that a bag of n items has not.
func noPlaces(n int) []int {
	return []int{-1, n, n + 1, Room, math.MinInt, math.MaxInt}
}

// 5.1.

func TestLimits(t *testing.T) {
	if Room != 4096 {
		t.Error(Room)
	}
}

func TestNewIsEmpty(t *testing.T) {
	b := New()
	if b == nil {
		t.Fatal("New: nil")
	}
	if b.Len() != 0 || b.Dropped() != 0 || b.Older(math.MaxInt) != 0 || len(b.Between(0, 0)) != 0 {
		t.Error(b.Len(), b.Dropped(), b.Older(math.MaxInt), b.Between(0, 0))
	}
	if _, err := b.See(0); err != api.ErrNone {
		t.Error(err)
	}
	other := New()
	if b.Put(Item{}); other.Len() != 0 {
		t.Error("two new bags share an item")
	}
}

func TestExample(t *testing.T) {
	b := filled(t, "a", "b", "c")
	if x, err := b.Pick(1); x != (Item{From: 1, To: 1, Since: 1, Text: "b"}) || err != api.OK {
		t.Error(x, err)
	}
	if err := b.Copy(0); err != api.OK || texts(t, b) != "a c a" {
		t.Error(err, texts(t, b))
	}
}

func TestPutOfItems(t *testing.T) {
	long := strings.Repeat("x", api.MaxWire)
	want := []Item{
		{},
		{From: 63, To: 63, Since: math.MaxInt, Text: long},
		{From: 0, To: 63, Since: api.MaxBig + 1, Text: "\x00\xff"},
		{From: 63, To: 0, Since: 0, Text: ""},
		{From: 7, To: 7, Since: 5, Text: "7"},
		{From: 7, To: 7, Since: 5, Text: "7"}, // the same once more, and of an earlier moment than those ahead
	}
	b := New()
	for i, x := range want {
		if err := b.Put(x); err != api.OK || b.Len() != i+1 {
			t.Errorf("%d: %v, %d", i, err, b.Len())
		}
	}
	if got := all(t, b); !slices.Equal(got, want) {
		t.Error("other items, or in another order")
	}
}

func TestPutOfNoItems(t *testing.T) {
	long := strings.Repeat("x", api.MaxWire+1)
	wrong := []struct {
		x    Item
		want api.Errno
	}{
		{Item{From: -1}, api.ErrArg},
		{Item{From: 64}, api.ErrArg},
		{Item{From: math.MinInt}, api.ErrArg},
		{Item{From: math.MaxInt}, api.ErrArg},
		{Item{To: -1}, api.ErrArg},
		{Item{To: 64}, api.ErrArg},
		{Item{To: math.MinInt}, api.ErrArg},
		{Item{To: math.MaxInt}, api.ErrArg},
		{Item{Since: -1}, api.ErrArg},
		{Item{Since: math.MinInt}, api.ErrArg},
		{Item{From: -1, Text: long}, api.ErrArg},
		{Item{To: 64, Text: long}, api.ErrArg},
		{Item{Since: -1, Text: long}, api.ErrArg},
		{Item{Text: long}, api.ErrLong},
		{Item{From: 63, To: 63, Since: math.MaxInt, Text: long + long}, api.ErrLong},
	}
	// In a bag with room, in one without (where it is not counted), and in none.
	for name, b := range map[string]*Bag{"empty": New(), "some": filled(t, "a", "b"), "full": full(t), "nil": nil} {
		before := all(t, b)
		for i, w := range wrong {
			if err := b.Put(w.x); err != w.want {
				t.Errorf("%s, %d: %v", name, i, err)
			}
		}
		if !slices.Equal(all(t, b), before) || b.Dropped() != 0 {
			t.Errorf("%s: changed; dropped: %d", name, b.Dropped())
		}
	}
}

func TestFullBag(t *testing.T) {
	b := full(t)
	before := all(t, b)
	if b.Len() != Room || b.Dropped() != 0 {
		t.Fatal(b.Len(), b.Dropped())
	}
	if err := b.Put(Item{Text: "more"}); err != api.ErrFull || b.Dropped() != 1 {
		t.Error(err, b.Dropped())
	}
	for _, i := range []int{0, 17, Room - 1} {
		was := b.Dropped()
		if err := b.Copy(i); err != api.ErrFull || b.Dropped() != was+1 {
			t.Error(i, err, b.Dropped())
		}
	}
	for _, i := range noPlaces(Room) { // no such item, ahead of no room: not counted
		if err := b.Copy(i); err != api.ErrNone || b.Dropped() != 4 {
			t.Error(i, err, b.Dropped())
		}
	}
	if !slices.Equal(all(t, b), before) {
		t.Error("a full bag changed")
	}
	if _, err := b.Pick(5); err != api.OK || b.Len() != Room-1 {
		t.Error(err, b.Len())
	}
	if err := b.Copy(5); err != api.OK || b.Len() != Room {
		t.Error(err, b.Len())
	}
	if x, err := b.See(Room - 1); x.Text != "6" || err != api.OK {
		t.Error(x, err)
	}
	if err := b.Put(Item{}); err != api.ErrFull || b.Dropped() != 5 || b.Len() != Room {
		t.Error(err, b.Dropped(), b.Len())
	}
}

func TestSee(t *testing.T) {
	b := filled(t, "a", "b", "c")
	for range 2 { // it stays
		for i, s := range []string{"a", "b", "c"} {
			if x, err := b.See(i); x != (Item{From: i, To: 1, Since: i, Text: s}) || err != api.OK {
				t.Error(i, x, err)
			}
		}
	}
	for _, i := range noPlaces(3) {
		if x, err := b.See(i); x != (Item{}) || err != api.ErrNone {
			t.Error(i, x, err)
		}
	}
}

func TestPickOfNone(t *testing.T) {
	for _, s := range [][]string{nil, {"a"}, {"a", "b", "c"}} {
		b := filled(t, s...)
		for _, i := range noPlaces(len(s)) {
			if x, err := b.Pick(i); x != (Item{}) || err != api.ErrNone {
				t.Error(i, x, err)
			}
			if err := b.Copy(i); err != api.ErrNone {
				t.Error(i, err)
			}
		}
		if texts(t, b) != strings.Join(s, " ") || b.Dropped() != 0 {
			t.Error(texts(t, b), b.Dropped())
		}
	}
}

func TestCopyIsTheWholeItem(t *testing.T) {
	b := New()
	x := Item{From: 3, To: 63, Since: 9, Text: "x"}
	b.Put(Item{})
	b.Put(x)
	for n := range 3 {
		if err := b.Copy(1); err != api.OK || b.Len() != 3+n {
			t.Error(err, b.Len())
		}
	}
	if l := all(t, b); !slices.Equal(l, []Item{{}, x, x, x, x}) {
		t.Error(l)
	}
}

// 5.2.

func TestBetween(t *testing.T) {
	b := New()
	for _, p := range [][2]int{{0, 1}, {1, 0}, {0, 1}, {63, 63}, {0, 0}, {1, 1}, {0, 1}, {0, 63}} {
		b.Put(Item{From: p[0], To: p[1]})
	}
	cases := []struct {
		from, to int
		want     []int
	}{
		{0, 1, []int{0, 2, 6}},
		{1, 0, []int{1}},
		{63, 63, []int{3}},
		{0, 0, []int{4}},
		{1, 1, []int{5}},
		{0, 63, []int{7}},
		{63, 0, nil},
		{2, 2, nil},
		{-1, 1, nil},
		{0, 64, nil},
		{math.MinInt, math.MaxInt, nil},
	}
	for _, c := range cases {
		if got := b.Between(c.from, c.to); !slices.Equal(got, c.want) {
			t.Errorf("Between(%d, %d): %v", c.from, c.to, got)
		}
	}
	b.Pick(2)
	if got := b.Between(0, 1); !slices.Equal(got, []int{0, 5}) {
		t.Error("behind Pick(2):", got)
	}
	b.Copy(0)
	if got := b.Between(0, 1); !slices.Equal(got, []int{0, 5, 7}) {
		t.Error("behind Copy(0):", got)
	}
}

func TestBetweenIsNewMemory(t *testing.T) {
	b := filled(t, "a", "b")
	b.Copy(0)
	one, two := b.Between(0, 1), b.Between(0, 1)
	for i := range one[:cap(one)] {
		one[:cap(one)][i] = 9
	}
	if !slices.Equal(two, []int{0, 2}) || !slices.Equal(b.Between(0, 1), []int{0, 2}) {
		t.Error(two, b.Between(0, 1))
	}
}

func TestOlder(t *testing.T) {
	b := New()
	for _, since := range []int{5, 0, 7, 5, math.MaxInt} {
		b.Put(Item{Since: since})
	}
	for moment, want := range map[int]int{math.MinInt: 0, -1: 0, 0: 0, 1: 1, 5: 1, 6: 3, 7: 3, 8: 4, math.MaxInt: 4} {
		if got := b.Older(moment); got != want {
			t.Errorf("Older(%d): %d", moment, got)
		}
	}
}

func TestDroppedEndsAtItsLimit(t *testing.T) {
	b := full(t)
	b.dropped = 1<<40 - 1
	for _, call := range []func() api.Errno{
		func() api.Errno { return b.Put(Item{}) },
		func() api.Errno { return b.Put(Item{}) },
		func() api.Errno { return b.Copy(0) },
	} {
		if err := call(); err != api.ErrFull || b.Dropped() != 1<<40 {
			t.Error(err, b.Dropped())
		}
	}
}

func TestNilBag(t *testing.T) {
	var b *Bag
	if err := b.Put(Item{}); err != api.ErrFull {
		t.Error(err)
	}
	for _, i := range noPlaces(0) {
		if x, err := b.Pick(i); x != (Item{}) || err != api.ErrNone {
			t.Error(i, x, err)
		}
		if x, err := b.See(i); x != (Item{}) || err != api.ErrNone {
			t.Error(i, x, err)
		}
		if err := b.Copy(i); err != api.ErrNone {
			t.Error(i, err)
		}
	}
	if l := b.Between(0, 0); len(l) != 0 {
		t.Error(l)
	}
	if b.Older(math.MaxInt) != 0 || b.Len() != 0 || b.Dropped() != 0 {
		t.Error(b.Older(math.MaxInt), b.Len(), b.Dropped())
	}
}

// 5.3.

func TestPickLeavesTheOthersInOrder(t *testing.T) {
	for n := range 6 {
		for i := range n {
			b := filled(t, strings.Split("abcdef", "")[:n]...)
			want := all(t, b)
			x, err := b.Pick(i)
			if x != want[i] || err != api.OK {
				t.Error(n, i, x, err)
			}
			if got := all(t, b); !slices.Equal(got, slices.Delete(want, i, i+1)) {
				t.Error(n, i, got)
			}
		}
	}
}

func TestPickHoldsOnToNoText(t *testing.T) {
	b := filled(t, "a", "b", "c", "d")
	for range 4 {
		b.Pick(b.Len() / 2)
		for _, x := range b.items[b.Len():cap(b.items)] {
			if x != (Item{}) {
				t.Error("kept:", x)
			}
		}
	}
}

// TestBagAgainstAList holds a bag against a plain list, through many calls.
func TestBagAgainstAList(t *testing.T) {
	b := New()
	var list []Item
	dropped := 0
	seed := uint32(1)
	next := func(n int) int {
		seed = seed*1664525 + 1013904223
		return int(seed>>8) % n
	}
	put := func(x Item) api.Errno {
		if len(list) == Room {
			dropped++
			return api.ErrFull
		}
		list = append(list, x)
		return api.OK
	}
	for step := range 30000 {
		i := next(len(list)+2) - 1
		there := i >= 0 && i < len(list)
		want, err := Item{}, api.ErrNone
		switch kind := next(8); {
		case kind < 4 || step < 4000:
			x := Item{From: next(3), To: next(3), Since: next(100), Text: strconv.Itoa(step)}
			if err := b.Put(x); err != put(x) {
				t.Fatal(step, err)
			}
		case kind < 6:
			if there {
				err = put(list[i])
			}
			if got := b.Copy(i); got != err {
				t.Fatal(step, got, err)
			}
		default:
			if there {
				want, err = list[i], api.OK
				list = slices.Delete(list, i, i+1)
			}
			if x, got := b.Pick(i); x != want || got != err {
				t.Fatal(step, x, got)
			}
		}
		if b.Len() != len(list) || b.Dropped() != dropped {
			t.Fatal(step, b.Len(), b.Dropped())
		}
		if step%1000 == 0 && !slices.Equal(all(t, b), list) {
			t.Fatal(step, "other items")
		}
	}
	if dropped == 0 {
		t.Error("the bag was never full")
	}
}
