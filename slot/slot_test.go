package slot

import (
	"math"
	"math/rand"
	"reflect"
	"slices"
	"strconv"
	"strings"
	"testing"

	"wapentake/api"
	"wapentake/cert"
	"wapentake/seal"
)

var (
	kindsThere = []int{Order, Settle}
	noKinds    = []int{0, 3, -1, 4, math.MinInt, math.MaxInt}
	long       = strings.Repeat("x", api.MaxText+1)
	longest    = strings.Repeat("x", api.MaxText)
)

// tag is some tag, another one for each replica.
func tag(no int) string {
	return "a tag of no. " + strconv.Itoa(100+no)
}

func made(t *testing.T, group, f, primary int) *Slot {
	t.Helper()
	s, err := New(group, f, primary)
	if s == nil || err != api.OK {
		t.Fatalf("New(%d, %d, %d): %v, %v", group, f, primary, s, err)
	}
	return s
}

// voted has a replica's vote count.
func voted(t *testing.T, s *Slot, kind, no int, text string) {
	t.Helper()
	if is, err := s.Vote(kind, no, text, tag(no)); !is || err != api.OK {
		t.Fatalf("Vote(%d, %d): %v, %v", kind, no, is, err)
	}
}

// filled is a slot of group 2 in which the replicas told these texts, in their order (- is none).
func filled(t *testing.T, f, primary, kind int, texts ...string) *Slot {
	t.Helper()
	s := made(t, 2, f, primary)
	for no, text := range texts {
		if text != "-" {
			voted(t, s, kind, no, text)
		}
	}
	return s
}

// certified is the certificate of those replicas, of group 2.
func certified(text string, nos ...int) cert.Cert {
	c := cert.Cert{Text: text, Group: 2}
	for _, no := range nos {
		c.Tags = append(c.Tags, cert.Tag{No: no, Tag: tag(no)})
	}
	return c
}

func wantCert(t *testing.T, s *Slot, kind int, want cert.Cert) {
	t.Helper()
	if c, ok := s.Cert(kind); !ok || !reflect.DeepEqual(c, want) {
		t.Errorf("Cert(%d): %v, %v, not %v", kind, c, ok, want)
	}
}

func wantNoCert(t *testing.T, s *Slot, kind int) {
	t.Helper()
	if c, ok := s.Cert(kind); ok || c.Text != "" || c.Group != 0 || len(c.Tags) != 0 {
		t.Errorf("Cert(%d): %v, %v, though there is none", kind, c, ok)
	}
}

func wantNoVote(t *testing.T, s *Slot, kind, no int) {
	t.Helper()
	if text, tag, ok := s.Own(kind, no); text != "" || tag != "" || ok {
		t.Errorf("Own(%d, %d): %q, %q, %v, though there is none", kind, no, text, tag, ok)
	}
}

// tells is all that a slot tells.
func tells(s *Slot) []any {
	text, ok := s.Proposal()
	l := []any{text, ok}
	for kind := range 4 {
		c, ok := s.Cert(kind)
		l = append(l, s.Votes(kind), c.Text, c.Group, slices.Concat(c.Tags, []cert.Tag{}), ok)
		for no := -1; no <= 10; no++ {
			text, tag, ok := s.Own(kind, no)
			l = append(l, text, tag, ok)
		}
	}
	return l
}

// 9.1.

func TestKinds(t *testing.T) {
	if Order != 1 || Settle != 2 {
		t.Error(Order, Settle)
	}
}

func TestNew(t *testing.T) {
	for group := 0; group <= 4; group++ {
		for f := 0; f <= 3; f++ {
			for primary := 0; primary <= 3*f; primary++ {
				s := made(t, group, f, primary)
				if text, ok := s.Proposal(); text != "" || ok {
					t.Errorf("Proposal: %q, %v", text, ok)
				}
				for _, kind := range kindsThere {
					wantNoCert(t, s, kind)
					if s.Votes(kind) != 0 {
						t.Errorf("Votes(%d): %d", kind, s.Votes(kind))
					}
					for no := -1; no <= 10; no++ {
						wantNoVote(t, s, kind, no)
					}
				}
			}
		}
	}
}

func TestNewWrong(t *testing.T) {
	wrong := func(group, f, primary int) {
		t.Helper()
		if s, err := New(group, f, primary); s != nil || err != api.ErrArg {
			t.Errorf("New(%d, %d, %d): %v, %v", group, f, primary, s, err)
		}
	}
	for _, group := range []int{-1, 5, math.MinInt, math.MaxInt} {
		wrong(group, 1, 0)
	}
	for _, f := range []int{-1, 4, math.MinInt, math.MaxInt, math.MaxInt/3 + 1} {
		wrong(0, f, 0)
		wrong(0, f, 3)
	}
	for f := 0; f <= 3; f++ {
		for _, primary := range []int{-1, 3*f + 1, math.MinInt, math.MaxInt} {
			wrong(4, f, primary)
		}
	}
}

func TestVoteOfEach(t *testing.T) {
	for f := 0; f <= 3; f++ {
		for _, kind := range kindsThere {
			s := made(t, 0, f, 0)
			for no := 0; no <= 3*f; no++ {
				voted(t, s, kind, no, "t"+strconv.Itoa(no))
				if s.Votes(kind) != no+1 || s.Votes(Order+Settle-kind) != 0 {
					t.Errorf("f %d: %d of %d", f, s.Votes(kind), no+1)
				}
			}
		}
	}
}

func TestVoteTheFirstCounts(t *testing.T) {
	for _, kind := range kindsThere {
		s := filled(t, 1, 1, kind, "-", "a", "b")
		before := tells(s)
		for _, no := range []int{1, 2} {
			for _, text := range []string{"a", "b", "c", ""} {
				for _, x := range []string{tag(no), tag(0)} {
					if is, err := s.Vote(kind, no, text, x); is || err != api.OK {
						t.Errorf("Vote(%d, %d, %q): %v, %v", kind, no, text, is, err)
					}
				}
			}
		}
		if !reflect.DeepEqual(tells(s), before) {
			t.Errorf("kind %d: %v, not %v", kind, tells(s), before)
		}
	}
}

func TestVoteKindsAreApart(t *testing.T) {
	s := filled(t, 1, 0, Order, "a", "a")
	voted(t, s, Settle, 0, "b")
	voted(t, s, Settle, 3, "b")
	for no, want := range [][2]string{{"a", "b"}, {"a", ""}, {"", ""}, {"", "b"}} {
		order, _, _ := s.Own(Order, no)
		settle, _, _ := s.Own(Settle, no)
		if order != want[0] || settle != want[1] {
			t.Errorf("%d: %q, %q", no, order, settle)
		}
	}
}

func TestVoteEdges(t *testing.T) {
	s := made(t, 4, 3, 9)
	voted(t, s, Order, 0, "")
	voted(t, s, Order, 9, longest)
	odd := "\x00\xff" + strings.Repeat("\x00", 14)
	if is, err := s.Vote(Settle, 9, "\x00\xff", odd); !is || err != api.OK {
		t.Error(is, err)
	}
	if text, x, ok := s.Own(Order, 0); text != "" || x != tag(0) || !ok {
		t.Errorf("%q, %q, %v", text, x, ok)
	}
	if text, ok := s.Proposal(); text != longest || !ok {
		t.Errorf("%d bytes, %v", len(text), ok)
	}
	if text, x, ok := s.Own(Settle, 9); text != "\x00\xff" || x != odd || !ok {
		t.Errorf("%q, %q, %v", text, x, ok)
	}
}

func TestVoteWrong(t *testing.T) {
	noTags := []string{"", "x", tag(0)[:15], tag(0) + "x", strings.Repeat("x", 32)}
	for f := 0; f <= 3; f++ {
		s := made(t, 1, f, 0)
		voted(t, s, Order, 0, "a")
		before := tells(s)
		wrong := func(kind, no int, text, x string, want api.Errno) {
			t.Helper()
			if is, err := s.Vote(kind, no, text, x); is || err != want {
				t.Errorf("f %d: Vote(%d, %d, %d bytes, %q): %v, %v", f, kind, no, len(text), x, is, err)
			}
		}
		for _, kind := range noKinds {
			wrong(kind, 0, "a", tag(0), api.ErrArg)
			wrong(kind, -1, long, "", api.ErrArg)
		}
		for _, kind := range kindsThere {
			for _, no := range []int{-1, 3*f + 1, 10, 15, math.MinInt, math.MaxInt} {
				wrong(kind, no, "a", tag(0), api.ErrArg)
				wrong(kind, no, long, "", api.ErrArg)
			}
			// What is wrong is told ahead of a vote that is there already.
			for no := 0; no <= 3*f; no++ {
				wrong(kind, no, long, tag(no), api.ErrLong)
				wrong(kind, no, long, "", api.ErrLong)
				for _, x := range noTags {
					wrong(kind, no, "a", x, api.ErrForm)
					wrong(kind, no, longest, x, api.ErrForm)
				}
			}
		}
		if !reflect.DeepEqual(tells(s), before) {
			t.Errorf("f %d: %v, not %v", f, tells(s), before)
		}
		for no := 1; no <= 3*f; no++ {
			voted(t, s, Order, no, "b")
		}
	}
}

// 9.2.

func TestProposal(t *testing.T) {
	for f := 0; f <= 3; f++ {
		for primary := 0; primary <= 3*f; primary++ {
			s := made(t, 0, f, primary)
			for no := 0; no <= 3*f; no++ {
				voted(t, s, Settle, no, "s")
				if no != primary {
					voted(t, s, Order, no, "o")
				}
			}
			if text, ok := s.Proposal(); text != "" || ok {
				t.Errorf("f %d, primary %d: %q, %v", f, primary, text, ok)
			}
			voted(t, s, Order, primary, "p")
			if text, ok := s.Proposal(); text != "p" || !ok {
				t.Errorf("f %d, primary %d: %q, %v", f, primary, text, ok)
			}
		}
	}
}

func TestProposalOfNoBytes(t *testing.T) {
	s := filled(t, 1, 2, Order, "a", "b", "")
	if text, ok := s.Proposal(); text != "" || !ok {
		t.Errorf("%q, %v", text, ok)
	}
}

func TestVotes(t *testing.T) {
	s := filled(t, 2, 0, Order, "a", "-", "b", "-", "a")
	voted(t, s, Settle, 6, "")
	if s.Votes(Order) != 3 || s.Votes(Settle) != 1 {
		t.Error(s.Votes(Order), s.Votes(Settle))
	}
	for _, kind := range noKinds {
		if s.Votes(kind) != 0 {
			t.Errorf("Votes(%d): %d", kind, s.Votes(kind))
		}
	}
}

func TestOwn(t *testing.T) {
	texts := []string{"a", "-", "b", "", "-"}
	for _, kind := range kindsThere {
		s := filled(t, 2, 1, kind, texts...)
		for no, want := range texts {
			if want == "-" {
				wantNoVote(t, s, kind, no)
			} else if text, x, ok := s.Own(kind, no); text != want || x != tag(no) || !ok {
				t.Errorf("Own(%d, %d): %q, %q, %v", kind, no, text, x, ok)
			}
			wantNoVote(t, s, Order+Settle-kind, no)
		}
	}
}

func TestOwnOfNone(t *testing.T) {
	s := filled(t, 1, 0, Order, "a", "a", "a", "a")
	for _, kind := range kindsThere {
		for _, no := range []int{-1, 4, 9, 10, math.MinInt, math.MaxInt} {
			wantNoVote(t, s, kind, no)
		}
	}
	for _, kind := range noKinds {
		for _, no := range []int{-1, 0, 3, 4, math.MaxInt} {
			wantNoVote(t, s, kind, no)
		}
	}
}

// 9.3.

func TestExample(t *testing.T) {
	s := filled(t, 1, 0, Order, "a", "a", "a")
	wantCert(t, s, Order, certified("a", 0, 1, 2))
}

func TestCertOfEnough(t *testing.T) {
	for _, kind := range kindsThere {
		for f := 0; f <= 3; f++ {
			s := made(t, 2, f, 3*f)
			var nos []int
			for no := 3 * f; no >= 0; no-- {
				if len(nos) < 2*f+1 {
					wantNoCert(t, s, kind)
				}
				voted(t, s, kind, no, "a")
				nos = append([]int{no}, nos...)
				if len(nos) >= 2*f+1 {
					wantCert(t, s, kind, certified("a", nos...))
				}
				wantNoCert(t, s, Order+Settle-kind)
			}
		}
	}
}

func TestCertOfEachGroup(t *testing.T) {
	for group := 0; group <= 4; group++ {
		s := made(t, group, 0, 0)
		for _, kind := range kindsThere {
			voted(t, s, kind, 0, "a")
			if c, ok := s.Cert(kind); c.Group != group || !ok {
				t.Errorf("group %d, kind %d: %v, %v", group, kind, c, ok)
			}
		}
	}
}

func TestCertOrderIsOfTheProposal(t *testing.T) {
	s := filled(t, 1, 1, Order, "b", "-", "b", "b")
	wantNoCert(t, s, Order)
	voted(t, s, Order, 1, "a")
	wantNoCert(t, s, Order)

	s = filled(t, 1, 1, Order, "b", "-", "b", "a")
	wantNoCert(t, s, Order)
	voted(t, s, Order, 1, "b")
	wantCert(t, s, Order, certified("b", 0, 1, 2))

	wantNoCert(t, filled(t, 1, 0, Order, "a", "a", "b", "b"), Order)
	wantCert(t, filled(t, 1, 0, Order, "", "", "b", ""), Order, certified("", 0, 1, 3))
	wantNoCert(t, filled(t, 1, 0, Order, "", "", "-", "-"), Order)
}

func TestCertSettleIsOfAnyText(t *testing.T) {
	wantCert(t, filled(t, 1, 1, Settle, "b", "a", "b", "b"), Settle, certified("b", 0, 2, 3))
	wantCert(t, filled(t, 1, 0, Settle, "a", "b", "b", "b"), Settle, certified("b", 1, 2, 3))
	wantCert(t, filled(t, 1, 0, Settle, "-", "", "", ""), Settle, certified("", 1, 2, 3))
	wantNoCert(t, filled(t, 1, 0, Settle, "a", "a", "b", "b"), Settle)
	wantNoCert(t, filled(t, 1, 0, Settle, "a", "a", "-", "b"), Settle)
	wantNoCert(t, filled(t, 1, 0, Settle, "", "", "-", "-"), Settle)
	wantNoCert(t, filled(t, 2, 0, Settle, "a", "a", "b", "b", "c", "c", "c"), Settle)

	// What was proposed says nothing.
	s := filled(t, 1, 0, Order, "a", "a", "a", "a")
	for no := range 3 {
		voted(t, s, Settle, no, "b")
	}
	wantCert(t, s, Settle, certified("b", 0, 1, 2))
}

func TestCertTextsAreComparedWhole(t *testing.T) {
	for _, kind := range kindsThere {
		wantNoCert(t, filled(t, 1, 0, kind, longest, longest, longest[:api.MaxText-1]+"y"), kind)
		wantNoCert(t, filled(t, 1, 0, kind, "a", "a", "a\x00"), kind)
		wantNoCert(t, filled(t, 1, 0, kind, "a", "a", "A"), kind)
	}
}

func TestCertOfNoKind(t *testing.T) {
	s := made(t, 2, 0, 0)
	voted(t, s, Order, 0, "a")
	voted(t, s, Settle, 0, "a")
	for _, kind := range noKinds {
		wantNoCert(t, s, kind)
	}
}

func TestCertIsTaken(t *testing.T) {
	ring, err := seal.New("seed")
	if err != api.OK {
		t.Fatal(err)
	}
	s := made(t, 3, 1, 2)
	for _, no := range []int{3, 0, 2} {
		x, err := ring.Tag(api.Party{Group: 3, No: no}, "text")
		if err != api.OK {
			t.Fatal(err)
		}
		for _, kind := range kindsThere {
			if is, err := s.Vote(kind, no, "text", x); !is || err != api.OK {
				t.Fatal(is, err)
			}
		}
	}
	for _, kind := range kindsThere {
		c, ok := s.Cert(kind)
		if err := cert.Check(ring, c, 4, 3); err != api.OK || !ok {
			t.Errorf("kind %d: %v, %v", kind, err, ok)
		}
	}
}

// A nil slot, and one that New did not make.

func TestNilSlot(t *testing.T) {
	var s *Slot
	for _, c := range []struct {
		kind, no  int
		text, tag string
		want      api.Errno
	}{
		{0, -1, long, "", api.ErrArg},
		{3, 0, "a", tag(0), api.ErrArg},
		{Order, -1, long, "", api.ErrArg},
		{Settle, math.MinInt, "a", tag(0), api.ErrArg},
		{Order, 0, long, "", api.ErrLong},
		{Settle, 99, long, tag(0), api.ErrLong},
		{Order, 0, "a", "x", api.ErrForm},
		{Settle, 10, longest, "", api.ErrForm},
		{Order, 0, "a", tag(0), api.ErrState},
		{Settle, 9, "", tag(0), api.ErrState},
		{Order, 10, longest, tag(0), api.ErrState},
		{Settle, math.MaxInt, "a", tag(0), api.ErrState},
	} {
		if is, err := s.Vote(c.kind, c.no, c.text, c.tag); is || err != c.want {
			t.Errorf("Vote(%d, %d, %d bytes, %q): %v, %v, not %v", c.kind, c.no, len(c.text), c.tag, is, err, c.want)
		}
	}
	if text, ok := s.Proposal(); text != "" || ok {
		t.Errorf("%q, %v", text, ok)
	}
	for _, kind := range slices.Concat(kindsThere, noKinds) {
		wantNoCert(t, s, kind)
		if s.Votes(kind) != 0 {
			t.Errorf("Votes(%d): %d", kind, s.Votes(kind))
		}
		for _, no := range []int{math.MinInt, -1, 0, 9, 10, math.MaxInt} {
			wantNoVote(t, s, kind, no)
		}
	}
}

func TestZeroSlot(t *testing.T) {
	var s Slot
	wantNoCert(t, &s, Order)
	wantNoCert(t, &s, Settle)
	if is, err := s.Vote(Order, 1, "a", tag(1)); is || err != api.ErrArg {
		t.Error(is, err)
	}
	voted(t, &s, Order, 0, "a")
	if c, ok := s.Cert(Order); c.Text != "a" || len(c.Tags) != 1 || !ok {
		t.Error(c, ok)
	}
}

// 9.4.

// heard is a slot of what the replicas told one of several, as some of it came.
func heard(t *testing.T, rnd *rand.Rand, f, primary int, told [2][]string) *Slot {
	t.Helper()
	s := made(t, 2, f, primary)
	for k, kind := range kindsThere {
		for _, no := range rnd.Perm(3*f + 1) {
			if rnd.Intn(8) > 0 {
				voted(t, s, kind, no, told[k][no])
			}
		}
	}
	return s
}

func TestOneTextAtMost(t *testing.T) {
	rnd := rand.New(rand.NewSource(9))
	both := 0
	for range 30000 {
		f := rnd.Intn(4)
		odd := rnd.Perm(3*f + 1)[:f]
		primary := rnd.Intn(3*f + 1)
		var first, second [2][]string
		for k := range kindsThere {
			for range 3*f + 1 {
				first[k] = append(first[k], string("ab"[rnd.Intn(5)/4]))
			}
			second[k] = slices.Clone(first[k])
			for _, no := range odd {
				second[k][no] = string("ab"[rnd.Intn(2)])
			}
		}
		s, u := heard(t, rnd, f, primary, first), heard(t, rnd, f, primary, second)
		for _, kind := range kindsThere {
			c, ok := s.Cert(kind)
			d, also := u.Cert(kind)
			if ok && also {
				both++
			}
			if ok && also && c.Text != d.Text {
				t.Fatalf("f %d, kind %d: %v and %v", f, kind, c, d)
			}
		}
	}
	if both < 1000 {
		t.Errorf("only %d times both had one", both)
	}
}

// All that four replicas may have told two others, of which one tells unlike things.
func TestOneTextAtMostOfFour(t *testing.T) {
	texts := []string{"-", "a", "b"}
	for n := range 81 {
		told := []string{texts[n%3], texts[n/3%3], texts[n/9%3], texts[n/27]}
		for odd := range 4 {
			for _, text := range texts {
				other := slices.Clone(told)
				other[odd] = text
				for primary := range 4 {
					for _, kind := range kindsThere {
						c, ok := filled(t, 1, primary, kind, told...).Cert(kind)
						d, also := filled(t, 1, primary, kind, other...).Cert(kind)
						if ok && also && c.Text != d.Text {
							t.Fatalf("kind %d, primary %d: %v, %v", kind, primary, told, other)
						}
					}
				}
			}
		}
	}
}

// model has a slot's votes as they came, and tells what the promises' words say of them.
type model []struct {
	kind, no  int
	text, tag string
}

func (m model) own(kind, no int) (string, string, bool) {
	for _, v := range m {
		if v.kind == kind && v.no == no {
			return v.text, v.tag, true
		}
	}
	return "", "", false
}

func (m model) cert(f, primary, kind int) (cert.Cert, bool) {
	for _, text := range []string{"", "a", "b"} {
		c := cert.Cert{Text: text, Group: 2}
		for no := range 3*f + 1 {
			if x, tag, ok := m.own(kind, no); ok && x == text {
				c.Tags = append(c.Tags, cert.Tag{No: no, Tag: tag})
			}
		}
		proposal, _, ok := m.own(Order, primary)
		if len(c.Tags) >= 2*f+1 && (kind == Settle || ok && proposal == text) {
			return c, true
		}
	}
	return cert.Cert{}, false
}

func TestAgainstModel(t *testing.T) {
	rnd := rand.New(rand.NewSource(10))
	for round := range 2000 {
		f := round % 4
		primary := rnd.Intn(3*f + 1)
		s, m := made(t, 2, f, primary), model(nil)
		for range 40 {
			kind, no := 1+rnd.Intn(2), rnd.Intn(3*f+1)
			text := []string{"a", "a", "a", "a", "b", ""}[rnd.Intn(6)]
			_, _, there := m.own(kind, no)
			m = append(m, model{{kind, no, text, tag(no)}}...)
			if is, err := s.Vote(kind, no, text, tag(no)); is == there || err != api.OK {
				t.Fatalf("round %d: %v, %v", round, is, err)
			}
			c, ok := s.Cert(kind)
			want, also := m.cert(f, primary, kind)
			if ok != also || !reflect.DeepEqual(c, want) {
				t.Fatalf("round %d: %v, %v, not %v, %v", round, c, ok, want, also)
			}
		}
		for _, kind := range kindsThere {
			for no := range 3*f + 1 {
				text, x, ok := s.Own(kind, no)
				if a, b, c := m.own(kind, no); text != a || x != b || ok != c {
					t.Fatalf("round %d: Own(%d, %d): %q, %q, %v", round, kind, no, text, x, ok)
				}
			}
		}
	}
}

// R3.

func TestCertIsNewMemory(t *testing.T) {
	for _, kind := range kindsThere {
		s := filled(t, 1, 0, kind, "a", "a", "a")
		c, _ := s.Cert(kind)
		d, _ := s.Cert(kind)
		l := c.Tags[:cap(c.Tags)]
		for i := range l {
			l[i] = cert.Tag{No: 7, Tag: "spoilt"}
		}
		if !reflect.DeepEqual(d, certified("a", 0, 1, 2)) {
			t.Error(d)
		}
		wantCert(t, s, kind, certified("a", 0, 1, 2))
		voted(t, s, kind, 3, "a")
		if !reflect.DeepEqual(d, certified("a", 0, 1, 2)) {
			t.Error(d)
		}
		wantCert(t, s, kind, certified("a", 0, 1, 2, 3))
	}
}

// R6.

func TestAskingChangesNothing(t *testing.T) {
	s := filled(t, 2, 3, Settle, "a", "b", "a", "a", "-", "a", "a")
	voted(t, s, Order, 3, "p")
	before := tells(s)
	for range 3 {
		if !reflect.DeepEqual(tells(s), before) {
			t.Error(tells(s), before)
		}
	}
}

func TestSlotsAreApart(t *testing.T) {
	s, u := made(t, 2, 1, 0), made(t, 2, 1, 0)
	voted(t, s, Order, 0, "a")
	if u.Votes(Order) != 0 {
		t.Error(u.Votes(Order))
	}
}
