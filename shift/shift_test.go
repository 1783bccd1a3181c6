package shift

import (
	"math"
	"math/rand"
	"reflect"
	"strconv"
	"strings"
	"testing"

	"wapentake/api"
	"wapentake/cert"
	"wapentake/mark"
	"wapentake/nest"
	"wapentake/seal"
	"wapentake/window"
)

const someTag = "0123456789abcdef"

var (
	noGroups  = []int{-1, 5, math.MinInt, math.MaxInt}
	noFaults  = []int{-1, 4, math.MinInt, math.MaxInt}
	noViews   = []int{-1, api.MaxBig + 1, math.MinInt, math.MaxInt}
	noNumbers = []int{0, -1, api.MaxBig + 1, math.MinInt, math.MaxInt}
)

func ring(t *testing.T) *seal.Ring {
	t.Helper()
	r, err := seal.New("seed")
	if err != api.OK {
		t.Fatal(err)
	}
	return r
}

// signed is the certificate of a text with the tags of that many replicas of a group, from replica first on.
func signed(t *testing.T, r *seal.Ring, group int, text string, first, count int) cert.Cert {
	t.Helper()
	c := cert.Cert{Text: text, Group: group}
	for no := first; no < first+count; no++ {
		tag, err := r.Tag(api.Party{Group: group, No: no}, text)
		if err != api.OK {
			t.Fatal(err)
		}
		c.Tags = append(c.Tags, cert.Tag{No: no, Tag: tag})
	}
	return c
}

func orderOf(t *testing.T, group, view, number int, batch string) string {
	t.Helper()
	s, err := Order(group, view, number, batch)
	if err != api.OK {
		t.Fatalf("Order(%d, %d, %d, ..): %v", group, view, number, err)
	}
	return s
}

func markOf(t *testing.T, group, number int, state string) string {
	t.Helper()
	s, err := mark.Text(group, number, state)
	if err != api.OK {
		t.Fatal(err)
	}
	return s
}

// bestOf is a best one of group 1 and f 1, with enough tags.
func bestOf(t *testing.T, r *seal.Ring, number, view int, batch string) Best {
	t.Helper()
	return Best{Number: number, View: view, Cert: signed(t, r, 1, orderOf(t, 1, view, number, batch), 0, 3)}
}

// changeOf is a change of group 1 and f 1 to view 3, that is right if its best ones are.
func changeOf(t *testing.T, r *seal.Ring, low int, l ...Best) Change {
	t.Helper()
	c := Change{View: 3, Low: low, Bests: l}
	if low > 0 {
		c.Mark = signed(t, r, 1, markOf(t, 1, low, "state"), 0, 3)
	}
	return c
}

// plain is a best one whose certificate has no tags.
func plain(t *testing.T, number, view int, batch string) Best {
	t.Helper()
	return Best{Number: number, View: view, Cert: cert.Cert{Text: orderOf(t, 1, 0, 1, batch), Group: 1}}
}

func sameCert(c, d cert.Cert) bool {
	return c.Text == d.Text && c.Group == d.Group && len(c.Tags) == len(d.Tags) && (len(c.Tags) == 0 || reflect.DeepEqual(c.Tags, d.Tags))
}

func sameChange(c, d Change) bool {
	if c.View != d.View || c.Low != d.Low || !sameCert(c.Mark, d.Mark) || len(c.Bests) != len(d.Bests) {
		return false
	}
	for i, b := range c.Bests {
		if e := d.Bests[i]; b.Number != e.Number || b.View != e.View || !sameCert(b.Cert, e.Cert) {
			return false
		}
	}
	return true
}

// 12.1.

func TestOrderAndSettle(t *testing.T) {
	for _, c := range []struct {
		group, view, number int
		batch, behind       string
	}{
		{1, 2, 5, "a", "1:1,1:2,1:5,1:a,"},
		{0, 0, 1, "", "1:0,1:0,1:1,0:,"},
		{4, api.MaxBig, api.MaxBig, "a,b:\x00\xff", "1:4,13:1099511627776,13:1099511627776,6:a,b:\x00\xff,"},
	} {
		for kind, call := range map[string]func(int, int, int, string) (string, api.Errno){"order": Order, "settle": Settle} {
			want := strconv.Itoa(len(kind)) + ":" + kind + "," + c.behind
			if s, err := call(c.group, c.view, c.number, c.batch); s != want || err != api.OK {
				t.Errorf("%s: %q, %v, not %q", kind, s, err, want)
			}
			said, err := Read(want)
			if said != (Said{Kind: kind, Group: c.group, View: c.view, Number: c.number, Batch: c.batch}) || err != api.OK {
				t.Errorf("Read(%q): %v, %v", want, said, err)
			}
		}
	}
}

// longest is the longest batch of a kind, of group 1, view 2 and number 5.
func longest(kind string) string {
	head := nest.Pack([]string{kind, "1", "2", "5"})
	return strings.Repeat("x", api.MaxText-len(head)-len("29970:,"))
}

func TestTextsLong(t *testing.T) {
	for kind, call := range map[string]func(int, int, int, string) (string, api.Errno){"order": Order, "settle": Settle} {
		s, err := call(1, 2, 5, longest(kind))
		if len(s) != 30000 || err != api.OK {
			t.Fatal(kind, len(s), err)
		}
		if said, err := Read(s); said.Batch != longest(kind) || said.Kind != kind || err != api.OK {
			t.Error(kind, len(said.Batch), err)
		}
		for _, batch := range []string{longest(kind) + "x", strings.Repeat("x", api.MaxText), strings.Repeat("x", 1<<21)} {
			if s, err := call(1, 2, 5, batch); s != "" || err != api.ErrLong {
				t.Errorf("%s of %d bytes: %d, %v", kind, len(batch), len(s), err)
			}
			if said, err := Read(nest.Pack([]string{kind, "1", "2", "5", batch})); said != (Said{}) || err != api.ErrForm {
				t.Errorf("%s of %d bytes: %v", kind, len(batch), err)
			}
		}
		if s, err := call(1, 2, 50, longest(kind)); s != "" || err != api.ErrLong {
			t.Error(kind, len(s), err)
		}
	}
}

func TestTextsWrong(t *testing.T) {
	for _, call := range []func(int, int, int, string) (string, api.Errno){Order, Settle} {
		wrong := func(group, view, number int, batch string) {
			t.Helper()
			if s, err := call(group, view, number, batch); s != "" || err != api.ErrArg {
				t.Errorf("%d, %d, %d: %q, %v", group, view, number, s, err)
			}
		}
		for _, batch := range []string{"", "a", strings.Repeat("x", api.MaxText+1)} {
			for _, group := range noGroups {
				wrong(group, 0, 1, batch)
			}
			for _, view := range noViews {
				wrong(1, view, 1, batch)
			}
			for _, number := range noNumbers {
				wrong(1, 0, number, batch)
			}
		}
	}
}

func TestReadWrong(t *testing.T) {
	for _, s := range []string{
		"", "x", "5:order,", "5:order,1:1,1:2,1:5,", "5:order,1:1,1:2,1:5,0:,0:,", "5:order,1:1,1:2,1:5,0:,x", "5:order,1:1,1:2,1:5,2:a,",
		"5:Order,1:1,1:2,1:5,0:,", "4:mark,1:1,1:2,1:5,0:,", "0:,1:1,1:2,1:5,0:,", "7:settled,1:1,1:2,1:5,0:,", "05:order,1:1,1:2,1:5,0:,",
		"5:order,1:5,1:2,1:5,0:,", "5:order,2:-1,1:2,1:5,0:,", "5:order,2:01,1:2,1:5,0:,", "5:order,1:x,1:2,1:5,0:,", "5:order,0:,1:2,1:5,0:,", "5:order,2:+1,1:2,1:5,0:,",
		"5:order,1:1,2:-1,1:5,0:,", "5:order,1:1,2:02,1:5,0:,", "5:order,1:1,1:x,1:5,0:,", "5:order,1:1,0:,1:5,0:,", "5:order,1:1,13:1099511627777,1:5,0:,", "5:order,1:1,2:-0,1:5,0:,",
		"6:settle,1:1,1:2,1:0,0:,", "6:settle,1:1,1:2,2:-5,0:,", "6:settle,1:1,1:2,2:05,0:,", "6:settle,1:1,1:2,1:x,0:,", "6:settle,1:1,1:2,0:,0:,", "6:settle,1:1,1:2,13:1099511627777,0:,", "6:settle,1:1,1:2,20:99999999999999999999,0:,",
		markOf(t, 1, 4, "s"),
	} {
		if said, err := Read(s); said != (Said{}) || err != api.ErrForm {
			t.Errorf("Read(%q): %v, %v", s, said, err)
		}
	}
}

// spoil is s with some bytes that are others, or fewer.
func spoil(rnd *rand.Rand, s string) string {
	b := []byte(s)
	for range rnd.Intn(3) {
		b[rnd.Intn(len(b))] = "0123459:,-oxs"[rnd.Intn(13)]
	}
	if rnd.Intn(4) == 0 {
		i := rnd.Intn(len(b))
		b = append(b[:i], b[i+rnd.Intn(len(b)-i):]...)
	}
	return string(b)
}

func TestReadOfAny(t *testing.T) {
	rnd := rand.New(rand.NewSource(1))
	taken := 0
	for range 20000 {
		s := spoil(rnd, "6:settle,1:1,2:10,2:40,3:a:b,")
		said, err := Read(s)
		if err != api.OK {
			if said != (Said{}) || err != api.ErrForm {
				t.Fatalf("Read(%q): %v, %v", s, said, err)
			}
			continue
		}
		taken++
		if again, err := Settle(said.Group, said.View, said.Number, said.Batch); again != s || said.Kind != "settle" || err != api.OK {
			t.Fatalf("%q is read, as %q, %v", s, again, err)
		}
	}
	if taken == 0 {
		t.Error("none was read")
	}
}

// 12.2.

func TestEncode(t *testing.T) {
	zero := "7:0:,1:0,,"
	tagged := cert.Cert{Text: "a", Group: 2, Tags: []cert.Tag{{No: 1, Tag: someTag}}}
	one := "32:1:a,1:2,1:1,16:" + someTag + ",,"
	for _, c := range []struct {
		change Change
		want   string
	}{
		{Change{View: 1}, "1:1,1:0," + zero},
		{Change{View: 1, Bests: []Best{}, Mark: cert.Cert{Tags: []cert.Tag{}}}, "1:1,1:0," + zero},
		{Change{View: api.MaxBig, Low: api.MaxBig, Mark: tagged}, "13:1099511627776,13:1099511627776," + one},
		{Change{View: 3, Low: 4, Mark: tagged, Bests: []Best{{Number: 5, View: 1, Cert: tagged}, {Number: 7}}}, "1:3,1:4," + one + "1:5,1:1," + one + "1:7,1:0," + zero},
		// What numbers and views best ones have, is not asked here.
		{Change{View: 1, Bests: []Best{{Number: -5, View: 9}, {Number: -5, View: -1}}}, "1:1,1:0," + zero + "2:-5,1:9," + zero + "2:-5,2:-1," + zero},
		{Change{View: 1, Bests: []Best{{Number: math.MinInt, View: math.MaxInt}}}, "1:1,1:0," + zero + "20:-9223372036854775808,19:9223372036854775807," + zero},
		{Change{View: 1, Bests: make([]Best, 8)}, "1:1,1:0," + zero + strings.Repeat("1:0,1:0,"+zero, 8)},
	} {
		if s, err := Encode(c.change); s != c.want || err != api.OK {
			t.Errorf("Encode(%v): %q, %v, not %q", c.change, s, err, c.want)
		}
		if d, err := Decode(c.want); !sameChange(d, c.change) || err != api.OK {
			t.Errorf("Decode(%q): %v, %v", c.want, d, err)
		}
	}
}

func TestEncodeWrong(t *testing.T) {
	who := cert.Cert{Tags: []cert.Tag{{No: 16, Tag: someTag}}}
	twice := cert.Cert{Tags: []cert.Tag{{No: 2, Tag: someTag}, {No: 2, Tag: someTag}}}
	short := cert.Cert{Tags: []cert.Tag{{No: 2, Tag: "x"}}}
	none := cert.Cert{Group: 5, Tags: who.Tags}
	for i, c := range []struct {
		change Change
		want   api.Errno
	}{
		{Change{}, api.ErrArg},
		{Change{View: -1}, api.ErrArg},
		{Change{View: api.MaxBig + 1}, api.ErrArg},
		{Change{View: math.MinInt}, api.ErrArg},
		{Change{View: 1, Low: -1}, api.ErrArg},
		{Change{View: 1, Low: api.MaxBig + 1}, api.ErrArg},
		{Change{View: 1, Low: math.MaxInt}, api.ErrArg},
		{Change{View: 1, Bests: make([]Best, 9)}, api.ErrArg},
		{Change{View: 1, Bests: make([]Best, 9), Mark: who}, api.ErrArg},
		{Change{View: 0, Mark: who}, api.ErrArg},
		{Change{View: 1, Mark: none}, api.ErrArg},
		{Change{View: 1, Mark: who}, api.ErrWho},
		{Change{View: 1, Mark: twice}, api.ErrSame},
		{Change{View: 1, Mark: short}, api.ErrForm},
		{Change{View: 1, Mark: short, Bests: []Best{{Cert: none}}}, api.ErrForm},
		{Change{View: 1, Bests: []Best{{Cert: none}, {Cert: who}}}, api.ErrArg},
		{Change{View: 1, Bests: []Best{{Cert: who}, {Cert: none}}}, api.ErrWho},
		{Change{View: 1, Bests: []Best{{}, {Cert: twice}, {Cert: who}}}, api.ErrSame},
		{Change{View: 1, Bests: []Best{{}, {}, {Cert: short}}}, api.ErrForm},
	} {
		if s, err := Encode(c.change); s != "" || err != c.want {
			t.Errorf("%d: %q, %v, not %v", i, s, err, c.want)
		}
	}
}

func TestDecodeWrong(t *testing.T) {
	zero := "7:0:,1:0,,"
	best := "1:5,1:1," + zero
	for _, s := range []string{
		"", "x", "1:1,", "1:1,1:0,", "1:1,1:0," + zero + "x", "1:1,1:0," + zero + "1:5,", "1:1,1:0," + zero + "1:5,1:1,", "1:1,1:0," + zero + best + "0:,",
		"1:0,1:0," + zero, "2:-1,1:0," + zero, "2:01,1:0," + zero, "0:,1:0," + zero, "1:x,1:0," + zero, "13:1099511627777,1:0," + zero, "2:+1,1:0," + zero,
		"1:1,2:-1," + zero, "1:1,2:00," + zero, "1:1,0:," + zero, "1:1,1:x," + zero, "1:1,13:1099511627777," + zero, "1:1,2:-0," + zero,
		"1:1,1:0,0:,", "1:1,1:0,1:x,", "1:1,1:0,7:0:,1:5,,", "1:1,1:0,8:0:,2:00,,", "1:1,1:0,11:0:,1:0,1:0,,", "1:1,1:0,17:0:,1:0,1:0,3:abc,,",
		"1:1,1:0," + zero + "2:05,1:1," + zero, "1:1,1:0," + zero + "0:,1:1," + zero, "1:1,1:0," + zero + "1:5,1:x," + zero, "1:1,1:0," + zero + "1:5,1:1,7:0:,1:5,,",
		"1:1,1:0," + zero + "20:99999999999999999999,1:1," + zero,
		"1:1,1:0," + zero + strings.Repeat(best, 9), "1:1,1:0," + zero + strings.Repeat(best, 1000),
		strings.Repeat("0:,", 3000),
	} {
		if c, err := Decode(s); !sameChange(c, Change{}) || err != api.ErrForm {
			t.Errorf("Decode(%q): %v, %v", s[:min(len(s), 100)], c, err)
		}
	}
	if c, err := Decode("1:1,1:0," + zero + strings.Repeat(best, 8)); len(c.Bests) != 8 || err != api.OK {
		t.Error(c, err)
	}
}

func TestDecodeOfAny(t *testing.T) {
	rnd := rand.New(rand.NewSource(2))
	tagged := cert.Cert{Text: "a:b", Group: 2, Tags: []cert.Tag{{No: 1, Tag: someTag}, {No: 10, Tag: someTag}}}
	good, err := Encode(Change{View: 10, Low: 4, Mark: tagged, Bests: []Best{{Number: 5, View: 1, Cert: tagged}, {Number: 6}}})
	if err != api.OK {
		t.Fatal(err)
	}
	taken := 0
	for range 20000 {
		s := spoil(rnd, good)
		c, err := Decode(s)
		if err != api.OK {
			if !sameChange(c, Change{}) || err != api.ErrForm {
				t.Fatalf("Decode(%q): %v, %v", s, c, err)
			}
			continue
		}
		taken++
		if again, err := Encode(c); again != s || err != api.OK {
			t.Fatalf("%q is decoded, as %q, %v", s, again, err)
		}
	}
	if taken == 0 {
		t.Error("none was decoded")
	}
}

// 12.3.

func TestCheck(t *testing.T) {
	r := ring(t)
	var full []Best
	for number := 5; number <= 12; number++ {
		full = append(full, bestOf(t, r, number, number%3, "a"))
	}
	for i, c := range []Change{
		changeOf(t, r, 0),
		{View: 1},
		{View: 1, Bests: []Best{}, Mark: cert.Cert{Tags: []cert.Tag{}}},
		{View: api.MaxBig},
		changeOf(t, r, 4),
		changeOf(t, r, 0, bestOf(t, r, 1, 0, "")),
		changeOf(t, r, 0, bestOf(t, r, 8, 2, "")),
		changeOf(t, r, 0, bestOf(t, r, 1, 2, "a"), bestOf(t, r, 8, 0, "b")),
		changeOf(t, r, 4, bestOf(t, r, 5, 0, ""), bestOf(t, r, 12, 2, "")),
		changeOf(t, r, 4, full...),
		changeOf(t, r, api.MaxBig),
		changeOf(t, r, api.MaxBig-1, bestOf(t, r, api.MaxBig, 2, "a")),
	} {
		if err := Check(r, 1, 1, c); err != api.OK {
			t.Errorf("%d: %v", i, err)
		}
	}
}

// Of each group and f: 2 f + 1 tags are enough, one less is too few, and replicas are those below 3 f + 1.
func TestCheckEnough(t *testing.T) {
	r := ring(t)
	for group := 0; group <= 4; group++ {
		for f := 0; f <= 3; f++ {
			state, text := markOf(t, group, 4, "s"), orderOf(t, group, 0, 6, "a")
			for _, c := range []struct {
				first, count int
				want         api.Errno
			}{
				{0, 2*f + 1, api.OK}, {f, 2*f + 1, api.OK}, {0, 3*f + 1, api.OK},
				{0, 2 * f, api.ErrFew}, {f + 1, 2 * f, api.ErrFew}, {0, 0, api.ErrFew},
				{f + 1, 2*f + 1, api.ErrWho}, {3*f + 1, 1, api.ErrWho},
			} {
				given, enough := signed(t, r, group, state, c.first, c.count), signed(t, r, group, state, 0, 2*f+1)
				if err := Check(r, group, f, Change{View: 1, Low: 4, Mark: given}); err != c.want {
					t.Errorf("group %d, f %d: %d tags of a mark: %v, not %v", group, f, c.count, err, c.want)
				}
				best := Best{Number: 6, Cert: signed(t, r, group, text, c.first, c.count)}
				for _, change := range []Change{{View: 1, Bests: []Best{best}}, {View: 1, Low: 4, Mark: enough, Bests: []Best{best}}} {
					if err := Check(r, group, f, change); err != c.want {
						t.Errorf("group %d, f %d: %d tags of a best one: %v, not %v", group, f, c.count, err, c.want)
					}
				}
			}
		}
	}
}

func TestCheckArguments(t *testing.T) {
	r := ring(t)
	good := changeOf(t, r, 4, bestOf(t, r, 5, 0, "a"))
	wrong := func(group, f int, c Change) {
		t.Helper()
		for _, x := range []*seal.Ring{r, nil} {
			if err := Check(x, group, f, c); err != api.ErrArg {
				t.Errorf("Check(.., %d, %d, %v): %v", group, f, c, err)
			}
		}
	}
	for _, c := range []Change{good, {}, {View: 1, Mark: cert.Cert{Text: "x"}}} {
		for _, group := range noGroups {
			wrong(group, 1, c)
		}
		for _, f := range noFaults {
			wrong(1, f, c)
		}
	}
	bad := func(change func(*Change)) {
		t.Helper()
		c := good
		c.Bests = append([]Best(nil), c.Bests...)
		change(&c)
		wrong(1, 1, c)
	}
	bad(func(c *Change) { c.View = 0 })
	bad(func(c *Change) { c.View = api.MaxBig + 1 })
	bad(func(c *Change) { c.Low = -1 })
	bad(func(c *Change) { c.Low = api.MaxBig + 1 })
	bad(func(c *Change) { c.Bests = make([]Best, 9) })
	bad(func(c *Change) { c.Mark.Group = 5 })
	bad(func(c *Change) { c.Mark.Group, c.Low = 5, 0 }) // ahead of ErrForm
	bad(func(c *Change) { c.Bests[0].Cert.Group = -1 })
	bad(func(c *Change) { c.Bests[0].Cert.Group, c.Mark.Tags = -1, nil }) // ahead of ErrFew
	// But where Encode tells another error first, that stands at its place.
	c := good
	c.Mark.Tags = []cert.Tag{{No: 16, Tag: someTag}}
	c.Bests = []Best{{Number: 5, Cert: cert.Cert{Group: 9}}}
	if err := Check(r, 1, 1, c); err != api.ErrWho {
		t.Error(err)
	}
	c.Low = 0
	if err := Check(r, 1, 1, c); err != api.ErrForm {
		t.Error(err)
	}
}

func TestCheckMark(t *testing.T) {
	r := ring(t)
	text := markOf(t, 1, 4, "s")
	good := signed(t, r, 1, text, 0, 3)
	forged := signed(t, r, 1, text, 0, 3)
	forged.Tags[1].Tag = forged.Tags[0].Tag
	twice := signed(t, r, 1, text, 0, 3)
	twice.Tags[2].No = 1
	short := signed(t, r, 1, text, 0, 3)
	short.Tags[2].Tag = "x"
	moved := good
	moved.Group = 2 // whose replicas' tags these are not
	unlike := signed(t, r, 1, markOf(t, 1, 4, "t"), 0, 3)
	unlike.Text = text
	few := signed(t, r, 1, "x", 0, 2)
	for i, c := range []struct {
		low  int
		mark cert.Cert
		want api.Errno
	}{
		{4, good, api.OK},
		{0, good, api.ErrForm},
		{0, cert.Cert{Text: text}, api.ErrForm},
		{0, cert.Cert{Group: 1}, api.ErrForm},
		{0, cert.Cert{Tags: []cert.Tag{{}}}, api.ErrForm},
		{0, cert.Cert{Tags: good.Tags}, api.ErrForm},
		{0, few, api.ErrForm},
		{4, cert.Cert{}, api.ErrFew},
		{4, forged, api.ErrTag},
		{4, twice, api.ErrSame},
		{4, short, api.ErrForm},
		{4, moved, api.ErrTag},
		{4, unlike, api.ErrTag},
		{4, few, api.ErrFew},
		{3, good, api.ErrForm},
		{5, good, api.ErrForm},
		{4, signed(t, r, 1, "x", 0, 3), api.ErrForm},
		{4, signed(t, r, 1, text+"x", 0, 3), api.ErrForm},
		{4, signed(t, r, 1, orderOf(t, 1, 0, 4, "s"), 0, 3), api.ErrForm},
		{4, signed(t, r, 1, markOf(t, 2, 4, "s"), 0, 3), api.ErrForm},
		{4, signed(t, r, 2, text, 0, 3), api.ErrForm},
		{4, signed(t, r, 2, markOf(t, 2, 4, "s"), 0, 3), api.ErrForm},
	} {
		change := Change{View: 3, Low: c.low, Mark: c.mark}
		if err := Check(r, 1, 1, change); err != c.want {
			t.Errorf("%d: %v, not %v", i, err, c.want)
		}
		// The mark is looked at ahead of best ones.
		change.Bests = []Best{{Number: c.low + 1}}
		want := c.want
		if want == api.OK {
			want = api.ErrFew
		}
		if err := Check(r, 1, 1, change); err != want {
			t.Errorf("%d: with a best one: %v, not %v", i, err, want)
		}
	}
}

func TestCheckBest(t *testing.T) {
	r := ring(t)
	good := bestOf(t, r, 5, 1, "a")
	with := func(number, view int, c cert.Cert) Best { return Best{Number: number, View: view, Cert: c} }
	forged := signed(t, r, 1, good.Cert.Text, 0, 3)
	forged.Tags[2].Tag = someTag
	twice := signed(t, r, 1, good.Cert.Text, 0, 3)
	twice.Tags[1].No = 0
	settled, err := Settle(1, 1, 5, "a")
	if err != api.OK {
		t.Fatal(err)
	}
	for i, c := range []struct {
		bests []Best
		want  api.Errno
	}{
		{[]Best{good}, api.OK},
		// Numbers from 5 to 12, rising.
		{[]Best{bestOf(t, r, 4, 1, "a")}, api.ErrForm},
		{[]Best{bestOf(t, r, 13, 1, "a")}, api.ErrForm},
		{[]Best{with(0, 1, cert.Cert{})}, api.ErrForm},
		{[]Best{with(math.MinInt, 1, good.Cert)}, api.ErrForm},
		{[]Best{with(math.MaxInt, 1, good.Cert)}, api.ErrForm},
		{[]Best{good, good}, api.ErrForm},
		{[]Best{good, bestOf(t, r, 5, 0, "b")}, api.ErrForm},
		{[]Best{bestOf(t, r, 6, 1, "a"), good}, api.ErrForm},
		{[]Best{bestOf(t, r, 12, 1, "a"), bestOf(t, r, 5, 1, "a")}, api.ErrForm},
		// Views from 0 to 2.
		{[]Best{bestOf(t, r, 5, 2, "a")}, api.OK},
		{[]Best{bestOf(t, r, 5, 3, "a")}, api.ErrForm},
		{[]Best{bestOf(t, r, 5, 4, "a")}, api.ErrForm},
		{[]Best{with(5, -1, good.Cert)}, api.ErrForm},
		{[]Best{with(5, math.MinInt, good.Cert)}, api.ErrForm},
		{[]Best{with(5, math.MaxInt, good.Cert)}, api.ErrForm},
		// Its number and view come ahead of its certificate, that ahead of what its text says.
		{[]Best{with(4, 1, forged)}, api.ErrForm},
		{[]Best{with(5, 3, forged)}, api.ErrForm},
		{[]Best{with(5, 1, forged)}, api.ErrTag},
		{[]Best{with(6, 0, forged)}, api.ErrTag},
		{[]Best{with(5, 1, twice)}, api.ErrSame},
		{[]Best{with(5, 1, cert.Cert{})}, api.ErrFew},
		{[]Best{with(5, 1, signed(t, r, 1, "x", 1, 2))}, api.ErrFew},
		{[]Best{with(5, 1, signed(t, r, 1, "x", 2, 3))}, api.ErrWho},
		{[]Best{with(6, 1, good.Cert)}, api.ErrForm},
		{[]Best{with(5, 0, good.Cert)}, api.ErrForm},
		{[]Best{with(5, 2, good.Cert)}, api.ErrForm},
		{[]Best{with(5, 1, signed(t, r, 1, "x", 0, 3))}, api.ErrForm},
		{[]Best{with(5, 1, signed(t, r, 1, "", 0, 3))}, api.ErrForm},
		{[]Best{with(5, 1, signed(t, r, 1, settled, 0, 3))}, api.ErrForm},
		{[]Best{with(5, 1, signed(t, r, 1, markOf(t, 1, 5, "a"), 0, 3))}, api.ErrForm},
		{[]Best{with(5, 1, signed(t, r, 1, orderOf(t, 2, 1, 5, "a"), 0, 3))}, api.ErrForm},
		{[]Best{with(5, 1, signed(t, r, 2, orderOf(t, 1, 1, 5, "a"), 0, 3))}, api.ErrForm},
		{[]Best{with(5, 1, signed(t, r, 2, orderOf(t, 2, 1, 5, "a"), 0, 3))}, api.ErrForm},
		// Each in turn.
		{[]Best{good, with(6, 1, forged), with(7, 9, cert.Cert{})}, api.ErrTag},
		{[]Best{good, with(7, 9, cert.Cert{}), with(8, 1, forged)}, api.ErrForm},
		{[]Best{good, bestOf(t, r, 7, 0, "c"), with(8, 1, cert.Cert{})}, api.ErrFew},
	} {
		if err := Check(r, 1, 1, changeOf(t, r, 4, c.bests...)); err != c.want {
			t.Errorf("%d: %v, not %v", i, err, c.want)
		}
	}
}

func TestCheckNilRing(t *testing.T) {
	r := ring(t)
	for i, c := range []struct {
		change Change
		want   api.Errno
	}{
		{Change{}, api.ErrArg},
		{changeOf(t, r, 0), api.OK}, // there is no tag to be checked
		{changeOf(t, r, 4), api.ErrState},
		{changeOf(t, r, 0, bestOf(t, r, 1, 0, "a")), api.ErrState},
		{changeOf(t, r, 0, bestOf(t, r, 9, 0, "a")), api.ErrForm},
		{Change{View: 1, Low: 4}, api.ErrFew},
		{Change{View: 1, Low: 0, Mark: cert.Cert{Text: "x"}}, api.ErrForm},
	} {
		if err := Check(nil, 1, 1, c.change); err != c.want {
			t.Errorf("%d: %v, not %v", i, err, c.want)
		}
	}
	other, err := seal.New("another seed")
	if err != api.OK {
		t.Fatal(err)
	}
	if err := Check(other, 1, 1, changeOf(t, r, 4)); err != api.ErrTag {
		t.Error(err)
	}
}

// 12.4.

func wantPlan(t *testing.T, l []Change, low int, batches ...string) {
	t.Helper()
	got, fills := Plan(l)
	if got != low || len(fills) != len(batches) {
		t.Errorf("Plan: %d, %v, not %d, %q", got, fills, low, batches)
		return
	}
	for i, batch := range batches {
		if fills[i] != (Fill{Number: low + 1 + i, Batch: batch}) {
			t.Errorf("Plan: %v, not %d, %q", fills, low, batches)
		}
	}
}

func TestPlanExample(t *testing.T) {
	for _, l := range [][]Change{
		{{Low: 4, Bests: []Best{plain(t, 5, 1, "a"), plain(t, 5, 2, "b"), plain(t, 7, 0, "c")}}},
		{{Low: 4, Bests: []Best{plain(t, 5, 1, "a")}}, {Bests: []Best{plain(t, 5, 2, "b")}}, {Low: 4, Bests: []Best{plain(t, 7, 0, "c")}}},
		{{Bests: []Best{plain(t, 7, 0, "c"), plain(t, 5, 2, "b")}}, {Low: 3}, {Low: 4, Bests: []Best{plain(t, 5, 1, "a")}}},
	} {
		wantPlan(t, l, 4, "b", "", "c")
	}
}

func TestPlanLow(t *testing.T) {
	wantPlan(t, nil, 0)
	wantPlan(t, []Change{}, 0)
	wantPlan(t, []Change{{}}, 0)
	wantPlan(t, []Change{{View: 9, Low: 3}, {View: 2, Low: 7}, {Low: 5}}, 7)
	wantPlan(t, []Change{{Low: -1}, {Low: math.MinInt}}, 0)
	wantPlan(t, []Change{{Low: api.MaxBig}}, api.MaxBig)
	wantPlan(t, []Change{{Low: api.MaxBig + 1}, {Low: 3}}, api.MaxBig)
	wantPlan(t, []Change{{Low: math.MaxInt}}, api.MaxBig)
	wantPlan(t, []Change{{Low: math.MaxInt, Bests: []Best{plain(t, math.MaxInt, 0, "x"), plain(t, api.MaxBig+1, 0, "y")}}}, api.MaxBig, "y", "", "", "", "", "", "", "")
}

func TestPlanNumbers(t *testing.T) {
	// What is not above the low one is left out; so is what is more than 8 above it, but that there is something there.
	l := []Change{{Low: 4, Bests: []Best{plain(t, 4, 9, "x"), plain(t, 1, 9, "x"), plain(t, -3, 9, "x"), plain(t, math.MinInt, 9, "x")}}}
	wantPlan(t, l, 4)
	wantPlan(t, append(l, Change{Bests: []Best{plain(t, 5, 0, "a")}}), 4, "a")
	wantPlan(t, append(l, Change{Bests: []Best{plain(t, 12, 0, "h")}}), 4, "", "", "", "", "", "", "", "h")
	wantPlan(t, append(l, Change{Bests: []Best{plain(t, 13, 0, "i"), plain(t, 6, 0, "b")}}), 4, "", "b", "", "", "", "", "", "")
	wantPlan(t, append(l, Change{Bests: []Best{plain(t, math.MaxInt, 0, "i")}}), 4, "", "", "", "", "", "", "", "")
	wantPlan(t, []Change{{Bests: []Best{plain(t, 0, 0, "x"), plain(t, 1, 0, "a"), plain(t, 2, 0, "b")}}}, 0, "a", "b")
}

// Of one view it is the first change's, and in that the first one; a greater view goes ahead, wherever it stands.
func TestPlanViews(t *testing.T) {
	a, b, c := plain(t, 1, 3, "a"), plain(t, 1, 3, "b"), plain(t, 1, 4, "c")
	of := func(l ...Best) Change { return Change{Bests: l} }
	wantPlan(t, []Change{of(a), of(b)}, 0, "a")
	wantPlan(t, []Change{of(b), of(a)}, 0, "b")
	wantPlan(t, []Change{of(a, b)}, 0, "a")
	wantPlan(t, []Change{of(b, a)}, 0, "b")
	wantPlan(t, []Change{of(a), of(c), of(b)}, 0, "c")
	wantPlan(t, []Change{of(c), of(a), of(b)}, 0, "c")
	wantPlan(t, []Change{of(b), of(a, c)}, 0, "c")
	// Also of views that no change has that is right.
	wantPlan(t, []Change{of(plain(t, 1, -5, "x"), plain(t, 1, -4, "y"))}, 0, "y")
	wantPlan(t, []Change{of(plain(t, 1, math.MinInt, "x"))}, 0, "x")
	wantPlan(t, []Change{of(plain(t, 1, -1, "x")), of(plain(t, 1, math.MaxInt, "y"))}, 0, "y")
}

// What a best one's text says counts, if it says anything; one that says nothing stands for the empty batch, also ahead of one of a lesser view.
func TestPlanTexts(t *testing.T) {
	settled, err := Settle(4, 7, 9, "s")
	if err != api.OK {
		t.Fatal(err)
	}
	of := func(view int, text string) Best {
		return Best{Number: 1, View: view, Cert: cert.Cert{Text: text, Group: 77}}
	}
	good := orderOf(t, 1, 0, 1, "a")
	for text, want := range map[string]string{
		good:    "a",
		settled: "s",
		"":      "",
		"x":     "",
		nest.Pack([]string{"order", "1", "0", "0", "a"}):                        "",
		nest.Pack([]string{"order", "1", "0", "1", strings.Repeat("x", 1<<15)}): "",
		markOf(t, 1, 1, "a"): "",
	} {
		wantPlan(t, []Change{{Bests: []Best{of(0, text)}}}, 0, want)
		wantPlan(t, []Change{{Bests: []Best{of(0, good)}}, {Bests: []Best{of(1, text)}}}, 0, want)
		wantPlan(t, []Change{{Bests: []Best{of(1, good)}}, {Bests: []Best{of(0, text)}}}, 0, "a")
	}
}

// 12.5.

// log is what one replica holds: its stable number, and of numbers behind it the best order's view and batch.
type log struct {
	low   int
	bests map[int]Said
}

// settledLogs are logs of a group in which 2 f + 1 replicas at least hold the order of number 5 and view 5 with batch X, or one of a greater view with the same batch, or are beyond it; all others hold what they like of lesser views.
func settledLogs(rnd *rand.Rand, f int) []log {
	l := make([]log, 3*f+1)
	holds := map[int]int{}
	for _, no := range rnd.Perm(3*f + 1)[:2*f+1] {
		holds[no] = 1
	}
	for no := range l {
		l[no] = log{low: rnd.Intn(5), bests: map[int]Said{}}
		for number := l[no].low + 1; number <= l[no].low+window.Size; number++ {
			if rnd.Intn(2) == 0 {
				view := rnd.Intn(5)
				l[no].bests[number] = Said{View: view, Number: number, Batch: "of" + strconv.Itoa(view)}
			}
		}
		if holds[no] == 1 || rnd.Intn(4) == 0 {
			l[no].bests[5] = Said{View: 5 + rnd.Intn(2)*rnd.Intn(3), Number: 5, Batch: "X"}
		}
		if rnd.Intn(40) == 0 {
			l[no].low = 5 + rnd.Intn(3)
		}
	}
	return l
}

// tellsOf is the change that a replica with such a log tells.
func tellsOf(t *testing.T, l log) Change {
	t.Helper()
	c := Change{View: 9, Low: l.low}
	for number := l.low + 1; number <= l.low+window.Size; number++ {
		if s, ok := l.bests[number]; ok {
			text := orderOf(t, 1, s.View, s.Number, s.Batch)
			c.Bests = append(c.Bests, Best{Number: number, View: s.View, Cert: cert.Cert{Text: text, Group: 1}})
		}
	}
	return c
}

// lie is what a replica may tell that does not do as told: what it has certificates of, which is what others held, in any choice.
func lie(t *testing.T, rnd *rand.Rand, l []log) Change {
	t.Helper()
	made := log{low: l[rnd.Intn(len(l))].low, bests: map[int]Said{}}
	for number := made.low + 1; number <= made.low+window.Size; number++ {
		if s, ok := l[rnd.Intn(len(l))].bests[number]; ok && rnd.Intn(2) == 0 {
			made.bests[number] = s
		}
	}
	return tellsOf(t, made)
}

func TestNothingSettledIsLost(t *testing.T) {
	rnd := rand.New(rand.NewSource(3))
	for f := 0; f <= 3; f++ {
		kept := 0
		for range 1000 {
			l := settledLogs(rnd, f)
			odd := rnd.Perm(3*f + 1)[:f]
			var changes []Change
			for _, no := range rnd.Perm(3*f + 1)[:2*f+1] {
				c := tellsOf(t, l[no])
				for _, x := range odd {
					if x == no {
						c = lie(t, rnd, l)
					}
				}
				changes = append(changes, c)
			}
			low, fills := Plan(changes)
			if low >= 5 {
				continue
			}
			kept++
			if len(fills) < 5-low || fills[4-low] != (Fill{Number: 5, Batch: "X"}) {
				t.Fatalf("f %d: %d, %v", f, low, fills)
			}
		}
		if kept < 100 {
			t.Errorf("f %d: only %d plans have the number", f, kept)
		}
	}
}

// The plan as the chapter says it, number by number.
func slowPlan(l []Change) (int, []Fill) {
	low, greatest := 0, 0
	for _, c := range l {
		if c.Low > low {
			low = c.Low
		}
		for _, b := range c.Bests {
			if b.Number > greatest {
				greatest = b.Number
			}
		}
	}
	var fills []Fill
	for number := low + 1; number <= greatest && number <= low+8; number++ {
		fill := Fill{Number: number}
		for view := 20; view >= 0 && fill.Batch == ""; view-- {
			for i := len(l) - 1; i >= 0; i-- {
				for j := len(l[i].Bests) - 1; j >= 0; j-- {
					if b := l[i].Bests[j]; b.Number == number && b.View == view {
						said, _ := Read(b.Cert.Text)
						fill.Batch = said.Batch
					}
				}
			}
		}
		fills = append(fills, fill)
	}
	return low, fills
}

func TestPlanAgainstModel(t *testing.T) {
	rnd := rand.New(rand.NewSource(4))
	for range 2000 {
		var l []Change
		for i := range rnd.Intn(8) {
			c := Change{Low: rnd.Intn(6)}
			for j := range rnd.Intn(6) {
				c.Bests = append(c.Bests, plain(t, rnd.Intn(20), rnd.Intn(4), strconv.Itoa(10*i+j)+"x"))
			}
			l = append(l, c)
		}
		low, fills := Plan(l)
		wantLow, want := slowPlan(l)
		if low != wantLow || len(fills) != len(want) || len(want) > 0 && !reflect.DeepEqual(fills, want) {
			t.Fatalf("%v: %d, %v, not %d, %v", l, low, fills, wantLow, want)
		}
	}
}

// R3.

// spared is a change of which each list has spare room with something in it.
func spared(t *testing.T, r *seal.Ring) Change {
	t.Helper()
	c := changeOf(t, r, 4, bestOf(t, r, 5, 1, "a"), bestOf(t, r, 7, 0, "c"))
	c.Mark.Tags = append(c.Mark.Tags, cert.Tag{No: 9, Tag: "spare"})[:3]
	c.Bests = append(c.Bests, Best{Number: 99, View: 99})[:2]
	for i := range c.Bests {
		c.Bests[i].Cert.Tags = append(c.Bests[i].Cert.Tags, cert.Tag{No: 9, Tag: "spare"})[:3]
	}
	return c
}

func TestNothingIsChanged(t *testing.T) {
	r := ring(t)
	c, want := spared(t, r), spared(t, r)
	if err := Check(r, 1, 1, c); err != api.OK {
		t.Fatal(err)
	}
	if _, err := Encode(c); err != api.OK {
		t.Fatal(err)
	}
	l := []Change{c, {Low: 99}}[:1]
	if low, fills := Plan(l); low != 4 || len(fills) != 3 {
		t.Fatal(low, fills)
	}
	if l[:2][1].Low != 99 || !reflect.DeepEqual(c.Bests[:3], want.Bests[:3]) || !reflect.DeepEqual(c.Mark.Tags[:4], want.Mark.Tags[:4]) {
		t.Error(c)
	}
	for i := range c.Bests {
		if !reflect.DeepEqual(c.Bests[i].Cert.Tags[:4], want.Bests[i].Cert.Tags[:4]) {
			t.Error(c.Bests[i])
		}
	}
}

// What is decoded shares nothing, neither one list with another nor one call's with the next one's.
func TestDecodeIsNewMemory(t *testing.T) {
	r := ring(t)
	want := spared(t, r)
	s, err := Encode(want)
	if err != api.OK {
		t.Fatal(err)
	}
	c, _ := Decode(s)
	d, _ := Decode(s)
	lists := []*[]cert.Tag{&c.Mark.Tags, &c.Bests[0].Cert.Tags, &c.Bests[1].Cert.Tags}
	for i, l := range lists {
		all := (*l)[:cap(*l)]
		for j := range all {
			all[j] = cert.Tag{No: 70 + i, Tag: "spoilt"}
		}
		for k, other := range lists[:i] {
			if (*other)[0].No != 70+k {
				t.Errorf("list %d shares with list %d", i, k)
			}
		}
	}
	for i := range c.Bests[:cap(c.Bests)] {
		c.Bests[:cap(c.Bests)][i] = Best{Number: 77}
	}
	if !sameChange(d, want) {
		t.Error(d)
	}
}

func TestPlanIsNewMemory(t *testing.T) {
	l := []Change{{Low: 4, Bests: []Best{plain(t, 5, 1, "a"), plain(t, 7, 0, "c")}}}
	_, fills := Plan(l)
	for i := range fills[:cap(fills)] {
		fills[:cap(fills)][i] = Fill{Number: 77, Batch: "spoilt"}
	}
	wantPlan(t, l, 4, "a", "", "c")
}
