package cert

import (
	"math"
	"math/bits"
	"reflect"
	"slices"
	"strings"
	"testing"

	"wapentake/api"
	"wapentake/nest"
	"wapentake/seal"
)

const (
	someTag  = "0123456789abcdef"
	otherTag = "\x00:,\xff456789abcdef"
)

func mustRing(t *testing.T, seed string) *seal.Ring {
	t.Helper()
	r, err := seal.New(seed)
	if err != api.OK {
		t.Fatal(err)
	}
	return r
}

func mustSign(t *testing.T, r *seal.Ring, group, no int, text string) seal.Signed {
	t.Helper()
	s, err := r.Sign(api.Party{Group: group, No: no}, text)
	if err != api.OK {
		t.Fatal(err)
	}
	return s
}

// signedBy is a certificate with the tags of these replicas, whose numbers rise.
func signedBy(t *testing.T, r *seal.Ring, text string, group int, nos ...int) Cert {
	t.Helper()
	c := Cert{Text: text, Group: group}
	for _, no := range nos {
		c.Tags = append(c.Tags, Tag{No: no, Tag: mustSign(t, r, group, no, text).Tag})
	}
	return c
}

// same tells whether two certificates are; a list without an element may be nil or empty.
func same(c, d Cert) bool {
	return c.Text == d.Text && c.Group == d.Group && slices.Equal(c.Tags, d.Tags)
}

func isZero(c Cert) bool {
	return c.Text == "" && c.Group == 0 && len(c.Tags) == 0
}

// faulty are no certificates, each with the first thing that is wrong.
func faulty() []struct {
	c    Cert
	want api.Errno
} {
	up := func(nos ...int) []Tag {
		var l []Tag
		for _, no := range nos {
			l = append(l, Tag{No: no, Tag: someTag})
		}
		return l
	}
	short := Tag{No: 3, Tag: "short"}
	return []struct {
		c    Cert
		want api.Errno
	}{
		{Cert{Group: -1}, api.ErrArg},
		{Cert{Group: -2}, api.ErrArg},
		{Cert{Group: 5}, api.ErrArg},
		{Cert{Group: math.MinInt}, api.ErrArg},
		{Cert{Group: math.MaxInt}, api.ErrArg},
		{Cert{Group: -1, Tags: up(16)}, api.ErrArg},
		{Cert{Group: 5, Tags: up(1, 1)}, api.ErrArg},
		{Cert{Group: 5, Tags: []Tag{short}}, api.ErrArg},
		{Cert{Tags: up(-1)}, api.ErrWho},
		{Cert{Tags: up(16)}, api.ErrWho},
		{Cert{Tags: up(math.MinInt)}, api.ErrWho},
		{Cert{Tags: up(math.MaxInt)}, api.ErrWho},
		{Cert{Tags: up(0, 15, 16)}, api.ErrWho},
		{Cert{Tags: up(3, -1)}, api.ErrWho}, // it does not rise, either
		{Cert{Tags: []Tag{{No: 16, Tag: "short"}}}, api.ErrWho},
		{Cert{Tags: up(0, 0)}, api.ErrSame},
		{Cert{Tags: up(15, 15)}, api.ErrSame},
		{Cert{Tags: up(1, 0)}, api.ErrSame},
		{Cert{Tags: up(0, 2, 1)}, api.ErrSame},
		{Cert{Tags: up(0, 1, 2, 0)}, api.ErrSame},
		{Cert{Tags: []Tag{{No: 3, Tag: someTag}, short}}, api.ErrSame},
		{Cert{Tags: []Tag{{No: 0, Tag: ""}}}, api.ErrForm},
		{Cert{Tags: []Tag{{No: 0, Tag: someTag[1:]}}}, api.ErrForm},
		{Cert{Tags: []Tag{{No: 0, Tag: someTag + "0"}}}, api.ErrForm},
		{Cert{Tags: []Tag{{No: 0, Tag: someTag}, short}}, api.ErrForm},
		{Cert{Tags: []Tag{short, {No: 16, Tag: someTag}}}, api.ErrForm}, // each tag in turn
		{Cert{Tags: []Tag{short, {No: 3, Tag: someTag}}}, api.ErrForm},
		{Cert{Tags: append(up(1, 1), Tag{No: 16, Tag: someTag})}, api.ErrSame},
	}
}

// some are certificates of all kinds of groups and texts.
func some() []Cert {
	var all []Tag
	for no := range 16 {
		all = append(all, Tag{No: no, Tag: otherTag})
	}
	var l []Cert
	for group := range api.MaxGroups + 1 {
		for _, text := range []string{"", "a", "1:a,", "\x00\xff", strings.Repeat("x", api.MaxText+1)} {
			for _, tags := range [][]Tag{nil, {}, all[:1], all[15:], all[3:9], all, {all[0], all[7], all[15]}} {
				l = append(l, Cert{Text: text, Group: group, Tags: tags})
			}
		}
	}
	return l
}

// 4.1.

func TestEncode(t *testing.T) {
	cases := []struct {
		c    Cert
		want string
	}{
		{Cert{Text: "a", Group: 2, Tags: []Tag{{1, someTag}}}, "1:a,1:2,1:1,16:" + someTag + ","},
		{Cert{}, "0:,1:0,"},
		{Cert{Text: "1:a,", Group: 4, Tags: []Tag{}}, "4:1:a,,1:4,"},
		{Cert{Text: "", Group: 0, Tags: []Tag{{0, otherTag}, {15, someTag}}}, "0:,1:0,1:0,16:" + otherTag + ",2:15,16:" + someTag + ","},
	}
	for _, c := range cases {
		if b, err := Encode(c.c); b != c.want || err != api.OK {
			t.Errorf("Encode(%v): %q, %v", c.c, b, err)
		}
	}
	for i, x := range faulty() {
		if b, err := Encode(x.c); b != "" || err != x.want {
			t.Errorf("%d: Encode(%v): %q, %v", i, x.c, b, err)
		}
	}
}

func TestDecodeOfNoCertificate(t *testing.T) {
	wrong := []string{
		"", "x", "1:a,", "1:a,1:2", "1:a,1:2,,", "1:a,1:2,1:1,", "1:a,0:,", "1:a,1:x,", "1:a,2:02,", "1:a,2:-1,", "1:a,2:-0,", "1:a,2:+1,", "1:a,1:5,",
		"01:a,1:2,", "1:a,20:99999999999999999999,",
		nest.Pack([]string{"2", "a"}),
		nest.Pack([]string{"a", "2", "1", someTag, "2"}),
		nest.Pack([]string{"a", "2", someTag, "1"}),
		nest.Pack([]string{"a", "2", "", someTag}),
		nest.Pack([]string{"a", "2", "01", someTag}),
		nest.Pack([]string{"a", "2", "x", someTag}),
		nest.Pack([]string{"a", "2", "-0", someTag}),
		nest.Pack([]string{"a", "2", "1", someTag, "x", someTag}),
		nest.Pack([]string{"a", "2", nest.Pack([]string{"1", someTag})}),
		nest.Pack([]string{nest.Pack([]string{"a", "2"})}),
	}
	for _, x := range faulty() {
		l := []string{x.c.Text, nest.Num(x.c.Group)}
		for _, tag := range x.c.Tags {
			l = append(l, nest.Num(tag.No), tag.Tag)
		}
		wrong = append(wrong, nest.Pack(l))
	}
	for _, b := range wrong {
		if c, err := Decode(b); !isZero(c) || err != api.ErrForm {
			t.Errorf("Decode(%q): %v, %v", b, c, err)
		}
	}
}

func TestCount(t *testing.T) {
	if n := Count(Cert{}); n != 0 {
		t.Errorf("Count of no tags: %d", n)
	}
	if n := Count(Cert{Tags: []Tag{}}); n != 0 {
		t.Errorf("Count of an empty list: %d", n)
	}
	for _, c := range some() {
		if n := Count(c); n != len(c.Tags) {
			t.Errorf("Count of %d tags: %d", len(c.Tags), n)
		}
	}
	// It has no error to answer, so it counts what is no certificate's, too.
	if n := Count(Cert{Group: 9, Tags: []Tag{{16, ""}, {16, ""}}}); n != 2 {
		t.Errorf("Count of two wrong tags: %d", n)
	}
}

// 4.2.

func TestAdd(t *testing.T) {
	a, b, c := Tag{0, "a" + someTag[1:]}, Tag{7, "b" + someTag[1:]}, Tag{15, "c" + someTag[1:]}
	cases := []struct {
		have []Tag
		add  Tag
		want []Tag
	}{
		{nil, b, []Tag{b}},
		{[]Tag{}, b, []Tag{b}},
		{[]Tag{b, c}, a, []Tag{a, b, c}},
		{[]Tag{a, c}, b, []Tag{a, b, c}},
		{[]Tag{a, b}, c, []Tag{a, b, c}},
	}
	for _, x := range cases {
		s := seal.Signed{Who: api.Party{Group: 3, No: x.add.No}, Text: "text", Tag: x.add.Tag}
		d, err := Add(Cert{Text: "text", Group: 3, Tags: x.have}, s)
		if !same(d, Cert{Text: "text", Group: 3, Tags: x.want}) || err != api.OK {
			t.Errorf("Add(%v, %v): %v, %v", x.have, x.add, d, err)
		}
	}
}

func TestAddRefuses(t *testing.T) {
	c := Cert{Text: "a", Group: 2, Tags: []Tag{{1, someTag}, {3, someTag}}}
	signed := func(group, no int, text, tag string) seal.Signed {
		return seal.Signed{Who: api.Party{Group: group, No: no}, Text: text, Tag: tag}
	}
	cases := []struct {
		s    seal.Signed
		want api.Errno
	}{
		{signed(2, -1, "a", someTag), api.ErrArg},
		{signed(2, 16, "a", someTag), api.ErrArg},
		{signed(-2, 0, "a", someTag), api.ErrArg},
		{signed(5, 0, "a", someTag), api.ErrArg},
		{signed(5, 16, "b", "short"), api.ErrArg},
		{signed(1, 2, "a", someTag), api.ErrWho},
		{signed(3, 2, "a", someTag), api.ErrWho},
		{signed(-1, 2, "a", someTag), api.ErrWho}, // a client
		{signed(1, 1, "b", "short"), api.ErrWho},
		{signed(2, 2, "b", someTag), api.ErrForm},
		{signed(2, 2, "", someTag), api.ErrForm},
		{signed(2, 2, "a", ""), api.ErrForm},
		{signed(2, 2, "a", someTag[1:]), api.ErrForm},
		{signed(2, 2, "a", someTag+"0"), api.ErrForm},
		{signed(2, 1, "b", someTag), api.ErrForm}, // ahead of ErrSame
		{signed(2, 1, "a", "short"), api.ErrForm},
		{signed(2, 1, "a", someTag), api.ErrSame},
		{signed(2, 3, "a", someTag), api.ErrSame},
		{signed(2, 3, "a", otherTag), api.ErrSame},
	}
	for i, x := range cases {
		if d, err := Add(c, x.s); !isZero(d) || err != x.want {
			t.Errorf("%d: Add(%v): %v, %v", i, x.s, d, err)
		}
	}
	for i, x := range faulty() {
		for _, s := range []seal.Signed{signed(x.c.Group, 14, x.c.Text, someTag), signed(9, 99, "b", "")} {
			if d, err := Add(x.c, s); !isZero(d) || err != x.want {
				t.Errorf("faulty %d: Add(%v, %v): %v, %v", i, x.c, s, d, err)
			}
		}
	}
}

// Add does not look whose tag it is: another's is added, and Check finds it.
func TestAddDoesNotCheck(t *testing.T) {
	r := mustRing(t, "s")
	s := mustSign(t, r, 2, 1, "a")
	s.Who.No = 2
	c, err := Add(signedBy(t, r, "a", 2, 0), s)
	if Count(c) != 2 || err != api.OK {
		t.Errorf("Add: %v, %v", c, err)
	}
	if err := Check(r, c, 4, 1); err != api.ErrTag {
		t.Errorf("Check: %v", err)
	}
}

// R3: neither the list nor its spare room is changed or shared.
func TestAddLeavesWhatItIsGiven(t *testing.T) {
	room := []Tag{{1, someTag}, {5, someTag}, {9, otherTag}, {10, otherTag}}
	before := slices.Clone(room)
	for no := range 16 {
		c := Cert{Text: "a", Group: 1, Tags: room[:2]}
		d, err := Add(c, seal.Signed{Who: api.Party{Group: 1, No: no}, Text: "a", Tag: otherTag})
		if !slices.Equal(room, before) {
			t.Fatalf("Add of %d has changed what it was given: %v", no, room)
		}
		if err != api.OK {
			continue
		}
		all := d.Tags[:cap(d.Tags)]
		for i := range all {
			all[i] = Tag{No: 99, Tag: "changed"}
		}
		if !slices.Equal(room, before) {
			t.Fatalf("Add of %d has answered what it was given: %v", no, room)
		}
	}
}

func TestNothingIsChanged(t *testing.T) {
	r := mustRing(t, "s")
	for _, c := range append(some(), signedBy(t, r, "a", 1, 0, 2, 3)) {
		before := Cert{Text: c.Text, Group: c.Group, Tags: slices.Clone(c.Tags)}
		Encode(c)
		Count(c)
		Check(r, c, 16, 1)
		Check(r, c, 4, 3)
		if !reflect.DeepEqual(c, before) {
			t.Errorf("%v was %v", c, before)
		}
	}
}

// 4.3.

func TestCheck(t *testing.T) {
	r := mustRing(t, "s")
	for f := range api.MaxFaults + 1 {
		n := 3*f + 1
		for group := range api.MaxGroups + 1 {
			var nos []int
			for no := range n {
				nos = append(nos, no)
			}
			c := signedBy(t, r, "text", group, nos...)
			for need := 1; need <= n; need++ {
				if err := Check(r, c, n, need); err != api.OK {
					t.Errorf("Check of all %d, %d needed: %v", n, need, err)
				}
				fewer := Cert{Text: c.Text, Group: c.Group, Tags: c.Tags[n-need:]}
				if err := Check(r, fewer, n, need); err != api.OK {
					t.Errorf("Check of %d, all needed: %v", need, err)
				}
				fewer.Tags = fewer.Tags[1:]
				if err := Check(r, fewer, n, need); err != api.ErrFew {
					t.Errorf("Check of %d, %d needed: %v", need-1, need, err)
				}
			}
		}
	}
}

func TestCheckOfAll(t *testing.T) {
	r := mustRing(t, "")
	c := signedBy(t, r, "", 4, 0, 1, 2, 3, 4, 5, 6, 7, 8, 9, 10, 11, 12, 13, 14, 15)
	if err := Check(r, c, 16, 16); err != api.OK {
		t.Error(err)
	}
	if err := Check(r, c, 15, 15); err != api.ErrWho {
		t.Error(err)
	}
	if err := Check(r, signedBy(t, r, "", 4, 0), 1, 1); err != api.OK {
		t.Error(err)
	}
}

// TestCheckOrder: of several things that are wrong the first one is told.
func TestCheckOrder(t *testing.T) {
	r := mustRing(t, "s")
	right := signedBy(t, r, "a", 2, 0, 2, 3)
	forged := signedBy(t, r, "a", 2, 0, 2, 3)
	forged.Tags[1].Tag = otherTag
	ranges := [][2]int{{0, 1}, {-1, 1}, {17, 1}, {math.MinInt, 1}, {math.MaxInt, 1}, {4, 0}, {4, -1}, {4, 5}, {4, math.MinInt}, {4, math.MaxInt}, {0, 0}, {16, 17}, {17, 17}}
	for _, x := range ranges {
		for _, ring := range []*seal.Ring{r, nil} {
			for _, c := range []Cert{right, forged, {}, {Group: 9}, {Tags: []Tag{{16, ""}}}} {
				if err := Check(ring, c, x[0], x[1]); err != api.ErrArg {
					t.Errorf("Check(%v, %d, %d): %v", c, x[0], x[1], err)
				}
			}
		}
	}
	for i, x := range faulty() {
		for _, ring := range []*seal.Ring{r, nil} {
			for _, n := range []int{1, 16} {
				if err := Check(ring, x.c, n, n); err != x.want {
					t.Errorf("faulty %d: Check(%v): %v", i, x.c, err)
				}
			}
		}
	}
	cases := []struct {
		ring    *seal.Ring
		c       Cert
		n, need int
		want    api.Errno
	}{
		{r, right, 3, 1, api.ErrWho},
		{r, right, 3, 3, api.ErrWho},
		{r, right, 1, 1, api.ErrWho},
		{r, forged, 3, 3, api.ErrWho}, // a number too high stands behind a wrong tag
		{nil, right, 3, 3, api.ErrWho},
		{r, forged, 4, 3, api.ErrTag},
		{r, forged, 4, 4, api.ErrTag}, // too few, too
		{r, forged, 4, 1, api.ErrTag}, // enough others are right
		{nil, right, 4, 3, api.ErrState},
		{nil, forged, 4, 4, api.ErrState},
		{r, right, 4, 4, api.ErrFew},
		{r, Cert{}, 1, 1, api.ErrFew},
		{nil, Cert{}, 1, 1, api.ErrFew}, // there is no tag to ask the ring for
		{r, right, 4, 3, api.OK},
	}
	for i, x := range cases {
		if err := Check(x.ring, x.c, x.n, x.need); err != x.want {
			t.Errorf("%d: Check(%v, %d, %d): %v", i, x.c, x.n, x.need, err)
		}
	}
}

// TestCheckOfEachTag: a wrong one is found wherever it stands, whoever's it is.
func TestCheckOfEachTag(t *testing.T) {
	r := mustRing(t, "s")
	for i := range 4 {
		others := []string{
			otherTag,
			mustSign(t, r, 2, (i+1)%4, "a").Tag,
			mustSign(t, r, 1, i, "a").Tag,
			mustSign(t, r, -1, i, "a").Tag,
			mustSign(t, r, 2, i, "b").Tag,
			mustSign(t, mustRing(t, "t"), 2, i, "a").Tag,
		}
		for _, tag := range others {
			c := signedBy(t, r, "a", 2, 0, 1, 2, 3)
			c.Tags[i].Tag = tag
			if err := Check(r, c, 4, 3); err != api.ErrTag {
				t.Errorf("Check of the tag %x at %d: %v", tag, i, err)
			}
		}
	}
	c := signedBy(t, r, "a", 2, 0, 1, 2)
	for _, wrong := range []Cert{{"b", 2, c.Tags}, {"", 2, c.Tags}, {"a", 1, c.Tags}} {
		if err := Check(r, wrong, 4, 3); err != api.ErrTag {
			t.Errorf("Check(%v): %v", wrong, err)
		}
	}
}

// 4.4.

func TestDecodeUndoesEncode(t *testing.T) {
	seen := map[string]Cert{}
	for _, c := range some() {
		b, err := Encode(c)
		if err != api.OK {
			t.Errorf("Encode: %v", err)
		}
		if d, there := seen[b]; there && !same(c, d) {
			t.Errorf("two certificates have the bytes %.60q", b)
		}
		seen[b] = c
		if d, err := Decode(b); !same(c, d) || err != api.OK {
			t.Errorf("Decode(%.60q): %v", b, err)
		}
	}
}

// TestDecodeOfNearBytes: whatever is decoded has just the bytes it was decoded of, and all else is ErrForm.
func TestDecodeOfNearBytes(t *testing.T) {
	const letters = "0123456789:,-+ ax"
	decoded := 0
	check := func(b string) {
		c, err := Decode(b)
		if err != api.OK {
			if !isZero(c) || err != api.ErrForm {
				t.Errorf("Decode(%q): %v, %v", b, c, err)
			}
			return
		}
		decoded++
		if again, err := Encode(c); again != b || err != api.OK {
			t.Errorf("Decode(%q): %v, which has the bytes %q, %v", b, c, again, err)
		}
	}
	for _, c := range []Cert{{}, {"1:a,", 4, []Tag{{9, someTag}, {10, someTag}}}} {
		b, _ := Encode(c)
		for i := range len(b) + 1 {
			for _, x := range []byte(letters) {
				check(b[:i] + string(x) + b[i:])
				if i < len(b) {
					check(b[:i] + string(x) + b[i+1:])
				}
			}
			if i < len(b) {
				check(b[:i] + b[i+1:])
			}
		}
	}
	if decoded == 0 {
		t.Error("no bytes near were decoded")
	}
}

// TestOrderOfAdding adds five replicas' tags in each order.
func TestOrderOfAdding(t *testing.T) {
	r := mustRing(t, "s")
	nos := []int{0, 3, 7, 10, 15}
	want := signedBy(t, r, "a", 2, nos...)
	orders := 0
	var grow func(c Cert, left []int)
	grow = func(c Cert, left []int) {
		if len(left) == 0 {
			orders++
			if !same(c, want) {
				t.Errorf("added in another order: %v", c)
			}
			return
		}
		for i, no := range left {
			d, err := Add(c, mustSign(t, r, 2, no, "a"))
			if err != api.OK {
				t.Fatal(err)
			}
			grow(d, slices.Delete(slices.Clone(left), i, i+1))
		}
	}
	grow(Cert{Text: "a", Group: 2}, nos)
	if orders != 120 {
		t.Errorf("%d orders", orders)
	}
}

// 4.5.

// TestQuorums holds any two certificates that Check takes against each other.
func TestQuorums(t *testing.T) {
	r := mustRing(t, "s")
	for f := range api.MaxFaults + 1 {
		n := 3*f + 1
		var sets []uint
		for set := range uint(1) << n {
			c := Cert{Text: "a", Group: 1}
			for no := range n {
				if set>>no&1 != 0 {
					c, _ = Add(c, mustSign(t, r, 1, no, "a"))
				}
			}
			if Check(r, c, n, 2*f+1) == api.OK {
				sets = append(sets, set)
			}
		}
		if len(sets) == 0 {
			t.Errorf("f %d: no set is enough", f)
		}
		for _, a := range sets {
			for _, b := range sets {
				if bits.OnesCount(a&b) < f+1 {
					t.Errorf("f %d: %b and %b have too few in common", f, a, b)
				}
			}
		}
	}
}

// P1: bytes of any kind.

func FuzzDecode(f *testing.F) {
	f.Add("1:a,1:2,1:1,16:" + someTag + ",")
	f.Add("0:,1:0,")
	f.Add("999999999:")
	r, _ := seal.New("s")
	f.Fuzz(func(t *testing.T, b string) {
		c, err := Decode(b)
		if err != api.OK {
			if !isZero(c) || err != api.ErrForm {
				t.Errorf("Decode(%q): %v, %v", b, c, err)
			}
			return
		}
		if again, err := Encode(c); again != b || err != api.OK {
			t.Errorf("Decode(%q): %v, which has the bytes %q, %v", b, c, again, err)
		}
		Check(r, c, 16, 1)
	})
}
