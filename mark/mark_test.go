package mark

import (
	"math"
	"math/rand"
	"reflect"
	"strconv"
	"strings"
	"testing"

	"wapentake/api"
	"wapentake/cert"
	"wapentake/nest"
	"wapentake/seal"
)

const someTag = "0123456789abcdef"

var (
	noGroups  = []int{-1, 5, math.MinInt, math.MaxInt}
	noNumbers = []int{0, -1, api.MaxBig + 1, math.MinInt, math.MaxInt}
	noTags    = []string{"", "x", someTag[1:], someTag + "0"}
)

// made are marks without votes.
func made(t *testing.T, group, f int) *Marks {
	t.Helper()
	m, err := New(group, f)
	if m == nil || err != api.OK {
		t.Fatal(m, err)
	}
	return m
}

func textOf(t *testing.T, group, number int, state string) string {
	t.Helper()
	s, err := Text(group, number, state)
	if err != api.OK {
		t.Fatalf("Text(%d, %d, ..): %v", group, number, err)
	}
	return s
}

// tagOf is a tag that tells its replica and number.
func tagOf(no, number int) string {
	s := strconv.Itoa(no) + "of" + strconv.Itoa(number)
	return s + strings.Repeat(".", 16-len(s))
}

func told(t *testing.T, m *Marks, no, number int, state string, want bool) {
	t.Helper()
	if is, err := m.Vote(no, number, state, tagOf(no, number)); is != want || err != api.OK {
		t.Fatalf("Vote(%d, %d, %q): %v, %v, not %v", no, number, state, is, err, want)
	}
}

func adopt(t *testing.T, m *Marks, c cert.Cert, want bool) {
	t.Helper()
	if is, err := m.Adopt(c); is != want || err != api.OK {
		t.Fatalf("Adopt(%v): %v, %v, not %v", c, is, err, want)
	}
}

// certOf is the certificate that votes of these replicas make.
func certOf(t *testing.T, group, number int, state string, nos ...int) cert.Cert {
	t.Helper()
	c := cert.Cert{Text: textOf(t, group, number, state), Group: group}
	for _, no := range nos {
		c.Tags = append(c.Tags, cert.Tag{No: no, Tag: tagOf(no, number)})
	}
	return c
}

func wantStable(t *testing.T, m *Marks, number int, state string, want cert.Cert) {
	t.Helper()
	n, s, c := m.Stable()
	if n != number || s != state || !same(c, want) {
		t.Errorf("Stable: %d, %q, %v, not %d, %q, %v", n, s, c, number, state, want)
	}
}

func wantNone(t *testing.T, m *Marks) {
	t.Helper()
	wantStable(t, m, 0, "", cert.Cert{})
}

func same(c, d cert.Cert) bool {
	return c.Text == d.Text && c.Group == d.Group && len(c.Tags) == len(d.Tags) && (len(c.Tags) == 0 || reflect.DeepEqual(c.Tags, d.Tags))
}

// tells is all that marks tell.
func tells(m *Marks) []any {
	n, s, c := m.Stable()
	l := []any{n, s, c.Text, c.Group, len(c.Tags)}
	for _, x := range c.Tags {
		l = append(l, x)
	}
	for no := -2; no < 20; no++ {
		l = append(l, m.Of(no))
	}
	return l
}

// 11.1.

func TestText(t *testing.T) {
	for _, c := range []struct {
		group, number int
		state, want   string
	}{
		{1, 4, "s", "4:mark,1:1,1:4,1:s,"},
		{0, 1, "", "4:mark,1:0,1:1,0:,"},
		{4, api.MaxBig, "a,b:\x00\xff", "4:mark,1:4,13:1099511627776,6:a,b:\x00\xff,"},
		{2, 10, "4:mark,1:1,1:4,1:s,", "4:mark,1:2,2:10,19:4:mark,1:1,1:4,1:s,,"},
	} {
		if s, err := Text(c.group, c.number, c.state); s != c.want || err != api.OK {
			t.Errorf("Text(%d, %d, %q): %q, %v", c.group, c.number, c.state, s, err)
		}
		g, n, s, err := Read(c.want)
		if g != c.group || n != c.number || s != c.state || err != api.OK {
			t.Errorf("Read(%q): %d, %d, %q, %v", c.want, g, n, s, err)
		}
	}
}

// longest is the longest state of group 1 and number 4.
func longest() string {
	return strings.Repeat("x", api.MaxText-len("4:mark,1:1,1:4,")-len("29978:,"))
}

func TestTextLong(t *testing.T) {
	s, err := Text(1, 4, longest())
	if len(s) != 30000 || err != api.OK {
		t.Fatal(len(s), err)
	}
	if g, n, x, err := Read(s); g != 1 || n != 4 || x != longest() || err != api.OK {
		t.Error(g, n, len(x), err)
	}
	for _, state := range []string{longest() + "x", strings.Repeat("x", api.MaxText), strings.Repeat("x", 1<<21)} {
		if s, err := Text(1, 4, state); s != "" || err != api.ErrLong {
			t.Errorf("%d bytes: %d, %v", len(state), len(s), err)
		}
		long := nest.Pack([]string{"mark", "1", "4", state})
		if g, n, x, err := Read(long); g != 0 || n != 0 || x != "" || err != api.ErrForm {
			t.Errorf("%d bytes: %d, %d, %d, %v", len(long), g, n, len(x), err)
		}
	}
	// A greater number has more digits.
	if s, err := Text(1, 40, longest()); s != "" || err != api.ErrLong {
		t.Error(len(s), err)
	}
}

func TestTextWrong(t *testing.T) {
	for _, state := range []string{"", "s", strings.Repeat("x", api.MaxText+1)} {
		for _, group := range noGroups {
			if s, err := Text(group, 1, state); s != "" || err != api.ErrArg {
				t.Errorf("Text(%d, 1, ..): %q, %v", group, s, err)
			}
		}
		for _, number := range noNumbers {
			if s, err := Text(1, number, state); s != "" || err != api.ErrArg {
				t.Errorf("Text(1, %d, ..): %q, %v", number, s, err)
			}
		}
	}
}

func TestReadWrong(t *testing.T) {
	for _, s := range []string{
		"", "x", "4:mark,", "4:mark,1:1,1:4,", "4:mark,1:1,1:4,0:,0:,", "4:mark,1:1,1:4,0:,x", "4:mark,1:1,1:4,2:s,",
		"4:murk,1:1,1:4,0:,", "4:Mark,1:1,1:4,0:,", "0:,1:1,1:4,0:,", "04:mark,1:1,1:4,0:,", "5:order,1:1,1:4,0:,",
		"4:mark,1:5,1:4,0:,", "4:mark,2:-1,1:4,0:,", "4:mark,2:01,1:4,0:,", "4:mark,2:+1,1:4,0:,", "4:mark,0:,1:4,0:,", "4:mark,1:a,1:4,0:,", "4:mark,2:-0,1:4,0:,",
		"4:mark,1:1,1:0,0:,", "4:mark,1:1,2:-4,0:,", "4:mark,1:1,2:04,0:,", "4:mark,1:1,0:,0:,", "4:mark,1:1,1:x,0:,", "4:mark,1:1,13:1099511627777,0:,", "4:mark,1:1,20:99999999999999999999,0:,",
		"1:1,1:4,0:,", "1:1,4:mark,1:4,0:,",
	} {
		if g, n, x, err := Read(s); g != 0 || n != 0 || x != "" || err != api.ErrForm {
			t.Errorf("Read(%q): %d, %d, %q, %v", s, g, n, x, err)
		}
	}
}

// Whatever bytes they are: what is read is what the text is made of.
func TestReadOfAny(t *testing.T) {
	rnd := rand.New(rand.NewSource(1))
	good := []byte("4:mark,1:1,2:40,3:a:b,")
	taken := 0
	for range 20000 {
		b := append([]byte(nil), good...)
		for range 1 + rnd.Intn(3) {
			b[rnd.Intn(len(b))] = "0123459:,-amrk"[rnd.Intn(14)]
		}
		s := string(b[:len(b)-rnd.Intn(2)*rnd.Intn(len(b))])
		g, n, x, err := Read(s)
		if err == api.OK {
			taken++
			if again := textOf(t, g, n, x); again != s {
				t.Fatalf("%q is read, as %q", s, again)
			}
		} else if g != 0 || n != 0 || x != "" || err != api.ErrForm {
			t.Fatalf("Read(%q): %d, %d, %q, %v", s, g, n, x, err)
		}
	}
	if taken == 0 {
		t.Error("none was read")
	}
}

// 11.2.

func TestNew(t *testing.T) {
	for group := 0; group <= 4; group++ {
		for f := 0; f <= 3; f++ {
			m := made(t, group, f)
			wantNone(t, m)
			for no := -1; no < 20; no++ {
				if m.Of(no) != 0 {
					t.Errorf("New(%d, %d): Of(%d): %d", group, f, no, m.Of(no))
				}
			}
		}
	}
}

func TestNewWrong(t *testing.T) {
	for _, c := range [][2]int{
		{-1, 0}, {5, 0}, {math.MinInt, 3}, {math.MaxInt, 3},
		{0, -1}, {4, 4}, {0, math.MinInt}, {4, math.MaxInt}, {5, 4}, {-1, -1},
	} {
		if m, err := New(c[0], c[1]); m != nil || err != api.ErrArg {
			t.Errorf("New(%d, %d): %v, %v", c[0], c[1], m, err)
		}
	}
}

// Of each f just 2 f + 1 votes are enough, of whichever replicas.
func TestVoteEnough(t *testing.T) {
	rnd := rand.New(rand.NewSource(2))
	for f := 0; f <= 3; f++ {
		for range 20 {
			m := made(t, f, f)
			nos := rnd.Perm(3*f + 1)
			for i, no := range nos {
				told(t, m, no, 4, "s", i == 2*f)
				if i < 2*f {
					wantNone(t, m)
					continue
				}
				var rising []int
				for no := range 3*f + 1 {
					for _, x := range nos[:2*f+1] {
						if x == no {
							rising = append(rising, no)
						}
					}
				}
				wantStable(t, m, 4, "s", certOf(t, f, 4, "s", rising...))
			}
		}
	}
}

// The certificate of votes with the replicas' tags is one that cert takes.
func TestVoteCertificate(t *testing.T) {
	r, err := seal.New("seed")
	if err != api.OK {
		t.Fatal(err)
	}
	for f := 0; f <= 3; f++ {
		m := made(t, 3, f)
		text := textOf(t, 3, 8, "state")
		for no := 3 * f; no >= f; no-- {
			tag, err := r.Tag(api.Party{Group: 3, No: no}, text)
			if err != api.OK {
				t.Fatal(err)
			}
			if is, err := m.Vote(no, 8, "state", tag); is != (no == f) || err != api.OK {
				t.Fatalf("f %d: %v, %v", f, is, err)
			}
		}
		_, _, c := m.Stable()
		if err := cert.Check(r, c, 3*f+1, 2*f+1); err != api.OK {
			t.Errorf("f %d: %v", f, err)
		}
	}
}

func TestVoteStates(t *testing.T) {
	m := made(t, 1, 1)
	told(t, m, 0, 4, "a", false)
	told(t, m, 1, 4, "b", false)
	told(t, m, 2, 4, "a", false)
	told(t, m, 1, 4, "a", false) // the first one of this number counts
	wantNone(t, m)
	told(t, m, 3, 4, "a", true)
	wantStable(t, m, 4, "a", certOf(t, 1, 4, "a", 0, 2, 3))
	told(t, m, 1, 4, "a", false)
	wantStable(t, m, 4, "a", certOf(t, 1, 4, "a", 0, 2, 3))
}

// Votes of one state and unlike numbers are unlike; so are those of one number and states that are nearly the same.
func TestVoteUnlike(t *testing.T) {
	m := made(t, 1, 1)
	told(t, m, 0, 4, "a", false)
	told(t, m, 1, 5, "a", false)
	told(t, m, 2, 6, "a", false)
	told(t, m, 3, 7, "a", false)
	wantNone(t, m)
	m = made(t, 1, 1)
	told(t, m, 0, 4, "", false)
	told(t, m, 1, 4, "\x00", false)
	told(t, m, 2, 4, "a", false)
	told(t, m, 3, 4, "A", false)
	wantNone(t, m)
	m = made(t, 1, 1)
	told(t, m, 0, 4, "", false)
	told(t, m, 1, 4, "", false)
	told(t, m, 2, 4, "", true)
	wantStable(t, m, 4, "", certOf(t, 1, 4, "", 0, 1, 2))
}

// A vote of a lesser number, or of the same one, does not count; one of a greater number takes the place of the one that did.
func TestVoteGreatestCounts(t *testing.T) {
	m := made(t, 2, 1)
	told(t, m, 0, 8, "a", false)
	told(t, m, 0, 4, "a", false)
	told(t, m, 1, 4, "a", false)
	told(t, m, 2, 4, "a", false)
	wantNone(t, m)
	if m.Of(0) != 8 || m.Of(1) != 4 || m.Of(2) != 4 || m.Of(3) != 0 {
		t.Error(m.Of(0), m.Of(1), m.Of(2), m.Of(3))
	}
	told(t, m, 1, 5, "a", false) // so its vote for 4 counts no more
	told(t, m, 3, 4, "a", false)
	wantNone(t, m)
	told(t, m, 1, 8, "a", false)
	told(t, m, 3, 8, "a", true)
	wantStable(t, m, 8, "a", certOf(t, 2, 8, "a", 0, 1, 3))
}

func TestVoteTagOfTheFirst(t *testing.T) {
	m := made(t, 0, 1)
	told(t, m, 0, 4, "a", false)
	if is, err := m.Vote(0, 4, "a", someTag); is || err != api.OK {
		t.Error(is, err)
	}
	told(t, m, 1, 4, "a", false)
	told(t, m, 2, 4, "a", true)
	wantStable(t, m, 4, "a", certOf(t, 0, 4, "a", 0, 1, 2))
}

// Votes count also of numbers that are not above the stable one; but there is no new stable one of them.
func TestVoteNotAboveStable(t *testing.T) {
	for _, number := range []int{1, 7, 8} {
		m := made(t, 1, 1)
		adopt(t, m, certOf(t, 1, 8, "z", 5), true)
		for no := range 4 {
			told(t, m, no, number, "a", false)
			if m.Of(no) != number {
				t.Errorf("Of(%d): %d", no, m.Of(no))
			}
		}
		wantStable(t, m, 8, "z", certOf(t, 1, 8, "z", 5))
		told(t, m, 0, 9, "b", false)
		told(t, m, 1, 9, "b", false)
		told(t, m, 3, 9, "b", true)
		wantStable(t, m, 9, "b", certOf(t, 1, 9, "b", 0, 1, 3))
	}
}

func TestVoteEdges(t *testing.T) {
	m := made(t, 4, 0)
	told(t, m, 0, 1, "a", true)
	wantStable(t, m, 1, "a", certOf(t, 4, 1, "a", 0))
	told(t, m, 0, 1, "b", false)
	told(t, m, 0, api.MaxBig, "b", true)
	wantStable(t, m, api.MaxBig, "b", certOf(t, 4, api.MaxBig, "b", 0))
	m = made(t, 1, 3)
	for no := range 10 {
		told(t, m, no, 4, longest(), no == 6)
	}
	if n, s, c := m.Stable(); n != 4 || s != longest() || len(c.Text) != api.MaxText || len(c.Tags) != 7 {
		t.Error(n, len(s), len(c.Text), len(c.Tags))
	}
}

func TestVoteWrong(t *testing.T) {
	long := longest() + "x"
	for f := 0; f <= 3; f++ {
		m := made(t, 1, f)
		for no := range 3*f + 1 {
			told(t, m, no, 4, "s", no == 2*f)
		}
		before := tells(m)
		wrong := func(no, number int, state, tag string, want api.Errno) {
			t.Helper()
			if is, err := m.Vote(no, number, state, tag); is || err != want {
				t.Errorf("Vote(%d, %d, %d bytes, %q): %v, %v, not %v", no, number, len(state), tag, is, err, want)
			}
		}
		for _, tag := range append(noTags, someTag) {
			for _, no := range []int{-1, 3*f + 1, 16, math.MinInt, math.MaxInt} {
				wrong(no, 8, "a", tag, api.ErrArg)
				wrong(no, 0, "a", tag, api.ErrArg)
				wrong(no, 8, long, tag, api.ErrArg)
			}
			for _, number := range noNumbers {
				wrong(0, number, "a", tag, api.ErrArg)
				wrong(3*f, number, long, tag, api.ErrArg)
			}
			wrong(0, 8, long+"x", tag, api.ErrLong)
			wrong(0, 4, long, tag, api.ErrLong) // also where it would not count
		}
		for _, tag := range noTags {
			wrong(0, 8, "a", tag, api.ErrForm)
			wrong(3*f, 1, "a", tag, api.ErrForm)
		}
		if !reflect.DeepEqual(tells(m), before) {
			t.Errorf("f %d: %v, not %v", f, tells(m), before)
		}
	}
}

// 11.3.

func TestAdopt(t *testing.T) {
	m := made(t, 2, 1)
	now := certOf(t, 2, 4, "0", 0)
	for i, c := range []struct {
		number int
		is     bool
	}{{4, true}, {4, false}, {3, false}, {5, true}, {1, false}, {5, false}, {api.MaxBig - 1, true}, {api.MaxBig, true}, {api.MaxBig, false}, {6, false}} {
		given := certOf(t, 2, c.number, strconv.Itoa(i), i)
		adopt(t, m, given, c.is)
		if c.is {
			now = given
		}
		_, number, state, err := Read(now.Text)
		if err != api.OK {
			t.Fatal(err)
		}
		wantStable(t, m, number, state, now)
	}
}

// One that was adopted takes the place of one that votes made, and the other way round.
func TestAdoptAndVote(t *testing.T) {
	m := made(t, 1, 0)
	told(t, m, 0, 4, "a", true)
	adopt(t, m, certOf(t, 1, 4, "b", 0), false)
	wantStable(t, m, 4, "a", certOf(t, 1, 4, "a", 0))
	adopt(t, m, certOf(t, 1, 5, "b", 3), true)
	wantStable(t, m, 5, "b", certOf(t, 1, 5, "b", 3))
	told(t, m, 0, 5, "a", false)
	told(t, m, 0, 6, "a", true)
	wantStable(t, m, 6, "a", certOf(t, 1, 6, "a", 0))
}

// Tags are not looked at: none, too few, those of nobody.
func TestAdoptAnyTags(t *testing.T) {
	text := textOf(t, 1, 4, "s")
	for i, tags := range [][]cert.Tag{
		nil, {}, {{No: 0, Tag: someTag}}, {{No: 5, Tag: "x"}, {No: -5}, {No: 5, Tag: "x"}}, make([]cert.Tag, 40),
	} {
		m := made(t, 1, 1)
		c := cert.Cert{Text: text, Group: 1, Tags: tags}
		adopt(t, m, c, true)
		if n, s, got := m.Stable(); n != 4 || s != "s" || !same(got, c) {
			t.Errorf("%d: %d, %q, %v", i, n, s, got)
		}
	}
}

// Nobody's vote is one behind Adopt.
func TestAdoptIsNoVote(t *testing.T) {
	m := made(t, 1, 1)
	adopt(t, m, certOf(t, 1, 4, "s", 0, 1, 2), true)
	for no := range 4 {
		if m.Of(no) != 0 {
			t.Errorf("Of(%d): %d", no, m.Of(no))
		}
	}
}

func TestAdoptWrong(t *testing.T) {
	m := made(t, 1, 1)
	adopt(t, m, certOf(t, 1, 4, "s", 0, 1, 2), true)
	before := tells(m)
	other, own, low := textOf(t, 2, 8, "s"), textOf(t, 1, 8, "s"), textOf(t, 2, 1, "s")
	for i, c := range []cert.Cert{
		{},
		{Group: 1},
		{Text: "s", Group: 1},
		{Text: "4:mark,1:1,1:8,1:s,x", Group: 1},
		{Text: "4:mark,1:1,2:08,1:s,", Group: 1},
		{Text: "6:settle,1:1,1:0,1:8,1:s,", Group: 1},
		{Text: nest.Pack([]string{"mark", "1", "8", longest() + "x"}), Group: 1},
		{Text: other, Group: 1},
		{Text: other, Group: 2},
		{Text: low, Group: 2},
		{Text: own, Group: 2},
		{Text: own, Group: 0},
		{Text: own, Group: -1},
		{Text: own, Group: math.MaxInt},
		{Text: textOf(t, 1, 1, "s"), Group: 2}, // also where it would not be adopted
	} {
		c.Tags = []cert.Tag{{No: 0, Tag: someTag}, {No: 1, Tag: someTag}, {No: 2, Tag: someTag}}
		if is, err := m.Adopt(c); is || err != api.ErrForm {
			t.Errorf("%d: %v, %v", i, is, err)
		}
	}
	if !reflect.DeepEqual(tells(m), before) {
		t.Errorf("%v, not %v", tells(m), before)
	}
}

func TestOf(t *testing.T) {
	for f := 0; f <= 3; f++ {
		m := made(t, 1, f)
		for no := range 3*f + 1 {
			told(t, m, no, no+1, "s", f == 0)
		}
		for no := -3; no < 20; no++ {
			want := 0
			if no >= 0 && no <= 3*f {
				want = no + 1
			}
			if m.Of(no) != want {
				t.Errorf("f %d: Of(%d): %d", f, no, m.Of(no))
			}
		}
		for _, no := range []int{math.MinInt, math.MaxInt} {
			if m.Of(no) != 0 {
				t.Errorf("f %d: Of(%d): %d", f, no, m.Of(no))
			}
		}
	}
}

// Nil marks, and ones that New did not make.

func TestNilMarks(t *testing.T) {
	var m *Marks
	for _, number := range append(noNumbers, 1, 4, api.MaxBig) {
		for _, tag := range append(noTags, someTag) {
			for _, state := range []string{"", "s", longest() + "x"} {
				for _, no := range []int{-1, math.MinInt} {
					if is, err := m.Vote(no, number, state, tag); is || err != api.ErrArg {
						t.Errorf("Vote(%d, %d, .., %q): %v, %v", no, number, tag, is, err)
					}
				}
				for _, no := range []int{0, 3, 9, 10, math.MaxInt} {
					if is, err := m.Vote(no, number, state, tag); is || err != api.ErrState {
						t.Errorf("Vote(%d, %d, .., %q): %v, %v", no, number, tag, is, err)
					}
				}
			}
		}
	}
	for _, c := range []cert.Cert{{}, certOf(t, 0, 4, "s", 0), certOf(t, 1, 4, "s", 0), {Text: "x", Group: 9}} {
		if is, err := m.Adopt(c); is || err != api.ErrState {
			t.Errorf("Adopt(%v): %v, %v", c, is, err)
		}
	}
	wantNone(t, m)
	for _, no := range []int{math.MinInt, -1, 0, 1, 10, math.MaxInt} {
		if m.Of(no) != 0 {
			t.Errorf("Of(%d): %d", no, m.Of(no))
		}
	}
}

func TestZeroMarks(t *testing.T) {
	var m Marks
	wantNone(t, &m)
	told(t, &m, 0, 4, "s", true)
	wantStable(t, &m, 4, "s", certOf(t, 0, 4, "s", 0))
	adopt(t, &m, certOf(t, 0, 8, "z", 7), true)
	if m.Of(0) != 4 || m.Of(1) != 0 {
		t.Error(m.Of(0), m.Of(1))
	}
}

// 11.4.

func TestStableNeverFalls(t *testing.T) {
	rnd := rand.New(rand.NewSource(3))
	for f := 0; f <= 3; f++ {
		m, last, rises := made(t, 1, f), 0, 0
		for range 4000 {
			number := max(1, last-5+rnd.Intn(10))
			state := strconv.Itoa(rnd.Intn(2))
			var is bool
			if rnd.Intn(50) == 0 {
				is, _ = m.Adopt(cert.Cert{Text: textOf(t, rnd.Intn(2), number, state), Group: rnd.Intn(2)})
			} else {
				is, _ = m.Vote(rnd.Intn(3*f+3)-1, number, state, tagOf(0, number))
			}
			now, s, c := m.Stable()
			if is != (now > last) || now < last || is && (now != number || s != state || c.Text != textOf(t, 1, number, state)) {
				t.Fatalf("f %d: from %d to %d, %q: %v", f, last, now, s, is)
			}
			if is {
				rises++
			}
			last = now
		}
		if rises < 5 {
			t.Errorf("f %d: it rose %d times", f, rises)
		}
	}
}

// Two watchers are told one state of each number by those that do as told, and anything by f others: where both have a stable one of one number, it is of one state.
func TestOneStateOfANumber(t *testing.T) {
	rnd := rand.New(rand.NewSource(4))
	for f := 1; f <= 3; f++ {
		both := 0
		for range 400 {
			truth := make([]string, 3*f+1)
			for no := f; no <= 3*f; no++ {
				truth[no] = strconv.Itoa(rnd.Intn(2) * rnd.Intn(2))
			}
			var states [2]string
			var numbers [2]int
			for i := range 2 {
				m := made(t, 1, f)
				for _, no := range rnd.Perm(3*f + 1) {
					state := truth[no]
					if no < f {
						state = strconv.Itoa(i) // the f tell each watcher something else
					}
					if _, err := m.Vote(no, 4, state, tagOf(no, 4)); err != api.OK {
						t.Fatal(err)
					}
				}
				numbers[i], states[i], _ = m.Stable()
			}
			if numbers[0] == 4 && numbers[1] == 4 {
				both++
				if states[0] != states[1] {
					t.Fatalf("f %d: %q", f, states)
				}
			}
		}
		if both == 0 {
			t.Errorf("f %d: there were never two", f)
		}
	}
}

// model has all votes and certificates that came, and goes through all of them each time.
type model struct {
	f      int
	votes  [][]said // by replicas, all that came
	number int
	state  string
}

// counts is the vote of a replica that counts.
func (m *model) counts(no int) said {
	var best said
	for _, v := range m.votes[no] {
		if v.number > best.number {
			best = v
		}
	}
	return best
}

func (m *model) vote(no, number int, state string) bool {
	m.votes[no] = append(m.votes[no], said{number, state})
	count := 0
	for other := range m.votes {
		if m.counts(other) == (said{number, state}) {
			count++
		}
	}
	if number <= m.number || count < 2*m.f+1 {
		return false
	}
	m.number, m.state = number, state
	return true
}

func TestAgainstModel(t *testing.T) {
	rnd := rand.New(rand.NewSource(5))
	for round := range 60 {
		f := round % 4
		m, x := made(t, 1, f), &model{f: f, votes: make([][]said, 3*f+1)}
		for step := range 300 {
			no, number, state := rnd.Intn(3*f+1), max(1, step/30-2+rnd.Intn(4)), strconv.Itoa(rnd.Intn(4)/3)
			if rnd.Intn(60) == 0 {
				want := number > x.number
				adopt(t, m, certOf(t, 1, number, state, no), want)
				if want {
					x.number, x.state = number, state
				}
			} else {
				told(t, m, no, number, state, x.vote(no, number, state))
			}
			n, s, _ := m.Stable()
			if n != x.number || s != x.state || m.Of(no) != x.counts(no).number {
				t.Fatalf("round %d, step %d: %d, %q, not %d, %q", round, step, n, s, x.number, x.state)
			}
		}
	}
}

// R3.

func TestAdoptKeepsNothing(t *testing.T) {
	m := made(t, 1, 1)
	want := certOf(t, 1, 4, "s", 0, 1)
	l := make([]cert.Tag, 2, 5)
	copy(l, want.Tags)
	spare := l[:5]
	spare[2] = cert.Tag{No: 9, Tag: "spare"}
	adopt(t, m, cert.Cert{Text: want.Text, Group: 1, Tags: l}, true)
	_, _, c := m.Stable()
	_ = append(c.Tags, cert.Tag{No: 1, Tag: "more"})
	if !reflect.DeepEqual(l, want.Tags) || spare[2] != (cert.Tag{No: 9, Tag: "spare"}) || spare[3] != (cert.Tag{}) {
		t.Error(spare)
	}
	for i := range spare {
		spare[i] = cert.Tag{No: 7, Tag: "spoilt"}
	}
	wantStable(t, m, 4, "s", want)
}

func TestStableIsNewMemory(t *testing.T) {
	m := made(t, 1, 1)
	for no := range 3 {
		told(t, m, no, 4, "s", no == 2)
	}
	want := certOf(t, 1, 4, "s", 0, 1, 2)
	_, _, c := m.Stable()
	_, _, d := m.Stable()
	l := c.Tags[:cap(c.Tags)]
	for i := range l {
		l[i] = cert.Tag{No: 7, Tag: "spoilt"}
	}
	if !same(d, want) {
		t.Error(d)
	}
	wantStable(t, m, 4, "s", want)
	for no := range 3 {
		told(t, m, no, 8, "t", no == 2)
	}
	if !same(d, want) {
		t.Error(d)
	}
}

func TestMarksAreApart(t *testing.T) {
	m, u := made(t, 1, 0), made(t, 1, 0)
	told(t, m, 0, 4, "s", true)
	wantNone(t, u)
	if u.Of(0) != 0 {
		t.Error(u.Of(0))
	}
}
