package roster

import (
	"math"
	"slices"
	"testing"

	"wapentake/api"
)

// rosters are all that there are.
func rosters() []Roster {
	var l []Roster
	for f := range 4 {
		for groups := 1; groups <= 4; groups++ {
			for clients := 1; clients <= 8; clients++ {
				l = append(l, Roster{F: f, Groups: groups, Clients: clients})
			}
		}
	}
	return l
}

// noRosters are some that are none, each by one of its fields at least.
func noRosters() []Roster {
	l := []Roster{{}, {F: -1}, {F: 4, Groups: 5, Clients: 9}}
	for _, f := range []int{-1, 4, math.MinInt, math.MaxInt} {
		l = append(l, Roster{F: f, Groups: 1, Clients: 1}, Roster{F: f, Groups: 4, Clients: 8})
	}
	for _, groups := range []int{-1, 0, 5, math.MinInt, math.MaxInt} {
		l = append(l, Roster{F: 0, Groups: groups, Clients: 1}, Roster{F: 3, Groups: groups, Clients: 8})
	}
	for _, clients := range []int{-1, 0, 9, math.MinInt, math.MaxInt} {
		l = append(l, Roster{F: 0, Groups: 1, Clients: clients}, Roster{F: 3, Groups: 4, Clients: clients})
	}
	return l
}

// parties are all of a roster, in the order of their ends.
func parties(r Roster) []api.Party {
	var l []api.Party
	for g := 0; g <= r.Groups; g++ {
		for no := range 3*r.F + 1 {
			l = append(l, api.Party{Group: g, No: no})
		}
	}
	for no := range r.Clients {
		l = append(l, api.Party{Group: -1, No: no})
	}
	return l
}

// strangers are parties that a roster has not.
func strangers(r Roster) []api.Party {
	n := 3*r.F + 1
	l := []api.Party{
		{Group: -2}, {Group: math.MinInt}, {Group: math.MaxInt}, {Group: r.Groups + 1}, {Group: r.Groups + 1, No: n - 1},
		{Group: -1, No: -1}, {Group: -1, No: r.Clients}, {Group: -1, No: math.MinInt}, {Group: -1, No: math.MaxInt},
	}
	for g := 0; g <= r.Groups; g++ {
		for _, no := range []int{-1, n, n + 1, math.MinInt, math.MaxInt} {
			l = append(l, api.Party{Group: g, No: no})
		}
	}
	return l
}

func noEnds(r Roster) []int {
	return []int{-1, len(parties(r)), len(parties(r)) + 1, math.MinInt, math.MaxInt}
}

// 7.1.

func TestCheck(t *testing.T) {
	for _, r := range rosters() {
		if err := Check(r); err != api.OK {
			t.Errorf("Check(%v): %v", r, err)
		}
	}
	for _, r := range noRosters() {
		if err := Check(r); err != api.ErrArg {
			t.Errorf("Check(%v): %v", r, err)
		}
	}
}

func TestHowMany(t *testing.T) {
	for f, want := range [][3]int{{1, 1, 1}, {4, 3, 2}, {7, 5, 3}, {10, 7, 4}} {
		r := Roster{F: f, Groups: 3, Clients: 5}
		if got := [3]int{r.N(), r.Need(), r.Some()}; got != want {
			t.Errorf("f %d: %v, not %v", f, got, want)
		}
	}
}

func TestEnds(t *testing.T) {
	for _, c := range []struct {
		r    Roster
		ends int
	}{
		{Roster{F: 0, Groups: 1, Clients: 1}, 3},
		{Roster{F: 1, Groups: 2, Clients: 2}, 14},
		{Roster{F: 3, Groups: 4, Clients: 8}, 58},
	} {
		if got := c.r.Ends(); got != c.ends {
			t.Errorf("%v: %d", c.r, got)
		}
	}
	for _, r := range rosters() {
		if got := r.Ends(); got != len(parties(r)) {
			t.Errorf("%v: %d", r, got)
		}
	}
}

func TestNoRoster(t *testing.T) {
	for _, r := range noRosters() {
		if r.N() != 0 || r.Need() != 0 || r.Some() != 0 || r.Ends() != 0 {
			t.Errorf("%v: %d %d %d %d", r, r.N(), r.Need(), r.Some(), r.Ends())
		}
		for _, x := range []int{math.MinInt, -2, -1, 0, 1, 9, api.MaxBig, math.MaxInt} {
			for _, p := range []api.Party{{Group: x}, {No: x}, {Group: -1, No: x}, {Group: x, No: x}} {
				if end, err := r.End(p); end != 0 || err != api.ErrArg {
					t.Errorf("%v: End(%v): %d, %v", r, p, end, err)
				}
				if l := r.Others(p); len(l) != 0 {
					t.Errorf("%v: Others(%v): %v", r, p, l)
				}
			}
			if p, err := r.Party(x); p != (api.Party{}) || err != api.ErrArg {
				t.Errorf("%v: Party(%d): %v, %v", r, x, p, err)
			}
			if no, err := r.Primary(x); no != 0 || err != api.ErrArg {
				t.Errorf("%v: Primary(%d): %d, %v", r, x, no, err)
			}
			if l := r.Group(x); len(l) != 0 {
				t.Errorf("%v: Group(%d): %v", r, x, l)
			}
		}
	}
}

// 7.2.

func TestEnd(t *testing.T) {
	for _, r := range rosters() {
		for want, p := range parties(r) {
			if end, err := r.End(p); end != want || err != api.OK {
				t.Errorf("%v: End(%v): %d, %v", r, p, end, err)
			}
		}
		for _, p := range strangers(r) {
			if end, err := r.End(p); end != 0 || err != api.ErrNone {
				t.Errorf("%v: End(%v): %d, %v", r, p, end, err)
			}
		}
	}
}

func TestParty(t *testing.T) {
	for _, r := range rosters() {
		for end, want := range parties(r) {
			if p, err := r.Party(end); p != want || err != api.OK {
				t.Errorf("%v: Party(%d): %v, %v", r, end, p, err)
			}
		}
		for _, end := range noEnds(r) {
			if p, err := r.Party(end); p != (api.Party{}) || err != api.ErrNone {
				t.Errorf("%v: Party(%d): %v, %v", r, end, p, err)
			}
		}
	}
}

func TestPrimary(t *testing.T) {
	for f := range 4 {
		r := Roster{F: f, Groups: 1, Clients: 1}
		for _, view := range []int{0, 1, 2, 3, 4, 5, 6, 7, 9, 10, 11, 999, api.MaxBig - 1, api.MaxBig} {
			if no, err := r.Primary(view); no != view%(3*f+1) || err != api.OK {
				t.Errorf("f %d: Primary(%d): %d, %v", f, view, no, err)
			}
		}
		for _, view := range []int{-1, api.MaxBig + 1, math.MinInt, math.MaxInt} {
			if no, err := r.Primary(view); no != 0 || err != api.ErrArg {
				t.Errorf("f %d: Primary(%d): %d, %v", f, view, no, err)
			}
		}
	}
}

func TestOthers(t *testing.T) {
	for _, r := range rosters() {
		all := parties(r)
		for _, p := range all {
			var want []int
			for end, q := range all {
				if p.Group >= 0 && q.Group == p.Group && q != p {
					want = append(want, end)
				}
			}
			if l := r.Others(p); !slices.Equal(l, want) {
				t.Errorf("%v: Others(%v): %v", r, p, l)
			}
		}
		for _, p := range strangers(r) {
			if l := r.Others(p); len(l) != 0 {
				t.Errorf("%v: Others(%v): %v", r, p, l)
			}
		}
	}
}

func TestGroup(t *testing.T) {
	for _, r := range rosters() {
		for g := 0; g <= r.Groups; g++ {
			var want []int
			for end, p := range parties(r) {
				if p.Group == g {
					want = append(want, end)
				}
			}
			if l := r.Group(g); !slices.Equal(l, want) {
				t.Errorf("%v: Group(%d): %v", r, g, l)
			}
		}
		for _, g := range []int{-2, -1, r.Groups + 1, math.MinInt, math.MaxInt} {
			if l := r.Group(g); len(l) != 0 {
				t.Errorf("%v: Group(%d): %v", r, g, l)
			}
		}
	}
}

func TestExample(t *testing.T) {
	r := Roster{F: 1, Groups: 2, Clients: 2}
	if r.Ends() != 14 {
		t.Error(r.Ends())
	}
	if l := r.Group(1); !slices.Equal(l, []int{4, 5, 6, 7}) {
		t.Error(l)
	}
	if l := r.Others(api.Party{Group: 1, No: 2}); !slices.Equal(l, []int{4, 5, 7}) {
		t.Error(l)
	}
	if end, err := r.End(api.Party{Group: -1, No: 1}); end != 13 || err != api.OK {
		t.Error(end, err)
	}
}

// 7.3.

func TestEachEndIsOneParty(t *testing.T) {
	for _, r := range rosters() {
		seen := map[api.Party]bool{}
		for end := range r.Ends() {
			p, err := r.Party(end)
			if err != api.OK || seen[p] {
				t.Errorf("%v: Party(%d): %v, %v", r, end, p, err)
			}
			seen[p] = true
			if back, err := r.End(p); back != end || err != api.OK {
				t.Errorf("%v: End(%v): %d, %v", r, p, back, err)
			}
		}
	}
}

func TestGroupsShareNoEnd(t *testing.T) {
	for _, r := range rosters() {
		var all []int
		for g := 0; g <= r.Groups; g++ {
			all = append(all, r.Group(g)...)
		}
		for i, end := range all {
			if i != end {
				t.Fatalf("%v: %v", r, all)
			}
		}
		if len(all)+r.Clients != r.Ends() {
			t.Errorf("%v: %d replicas", r, len(all))
		}
	}
}

// 7.4.

func TestEnoughAndEnough(t *testing.T) {
	for _, r := range rosters() {
		if common := 2*r.Need() - r.N(); common != r.F+1 {
			t.Errorf("%v: %d in common", r, common)
		}
		if r.Some()-r.F != 1 {
			t.Errorf("%v: Some %d", r, r.Some())
		}
		if r.Need() > r.N()-r.F {
			t.Errorf("%v: those that do as told are not enough", r)
		}
	}
}

// R3.

func TestAnswersAreNewMemory(t *testing.T) {
	r := Roster{F: 1, Groups: 2, Clients: 2}
	p := api.Party{Group: 2, No: 3}
	for _, ask := range []func() []int{
		func() []int { return r.Group(2) },
		func() []int { return r.Others(p) },
	} {
		first, want := ask(), ask()
		first = first[:cap(first)]
		for i := range first {
			first[i] = -7
		}
		if got := ask(); !slices.Equal(got, want) {
			t.Errorf("%v, not %v", got, want)
		}
	}
}
