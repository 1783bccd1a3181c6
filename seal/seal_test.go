package seal

import (
	"encoding/hex"
	"math"
	"slices"
	"strings"
	"testing"

	"wapentake/api"
	"wapentake/blake"
	"wapentake/nest"
)

// parties are all that there are.
func parties() []api.Party {
	var l []api.Party
	for group := -1; group <= api.MaxGroups; group++ {
		for no := range 16 {
			l = append(l, api.Party{Group: group, No: no})
		}
	}
	return l
}

// strangers are none.
func strangers() []api.Party {
	return []api.Party{
		{Group: -2, No: 0}, {Group: api.MaxGroups + 1, No: 0}, {Group: 0, No: -1}, {Group: 0, No: 16},
		{Group: -1, No: 16}, {Group: 4, No: -1}, {Group: -2, No: 16}, {Group: 5, No: 16},
		{Group: math.MinInt, No: 0}, {Group: math.MaxInt, No: 0}, {Group: 0, No: math.MinInt}, {Group: 0, No: math.MaxInt},
	}
}

func texts() []string {
	return []string{"", "a", "text", "1:0,1:3,", "\x00\xff", strings.Repeat("x", 64), strings.Repeat("y", api.MaxText+1)}
}

func mustRing(t *testing.T, seed string) *Ring {
	t.Helper()
	r, err := New(seed)
	if r == nil || err != api.OK {
		t.Fatalf("New(%q): %v, %v", seed, r, err)
	}
	return r
}

func mustSign(t *testing.T, r *Ring, who api.Party, text string) Signed {
	t.Helper()
	s, err := r.Sign(who, text)
	if err != api.OK {
		t.Fatalf("Sign(%v, %.20q): %v", who, text, err)
	}
	return s
}

// 3.1.

func TestName(t *testing.T) {
	cases := []struct {
		p    api.Party
		want string
	}{
		{api.Party{Group: 0, No: 3}, "1:0,1:3,"},
		{api.Party{Group: -1, No: 0}, "2:-1,1:0,"},
		{api.Party{Group: -1, No: 15}, "2:-1,2:15,"},
		{api.Party{Group: 4, No: 15}, "1:4,2:15,"},
		{api.Party{Group: 2, No: 10}, "1:2,2:10,"},
	}
	for _, c := range cases {
		if name, err := Name(c.p); name != c.want || err != api.OK {
			t.Errorf("Name(%v): %q, %v", c.p, name, err)
		}
	}
	for _, p := range strangers() {
		if name, err := Name(p); name != "" || err != api.ErrArg {
			t.Errorf("Name(%v): %q, %v", p, name, err)
		}
	}
}

func TestPartyUndoesName(t *testing.T) {
	seen := map[string]bool{}
	for _, p := range parties() {
		name, err := Name(p)
		if err != api.OK || seen[name] {
			t.Errorf("Name(%v): %q, %v", p, name, err)
		}
		seen[name] = true
		if q, err := Party(name); q != p || err != api.OK {
			t.Errorf("Party(%q): %v, %v", name, q, err)
		}
	}
}

func TestPartyOfNoName(t *testing.T) {
	wrong := []string{
		"", "x", "1:0", "1:0,", "1:0,1:0", "1:0,1:0,,", "1:0,1:0,1:0,", "1:0,1:0,0:,", "0:,0:,", "0:,1:0,", "1:0,0:,",
		"2:00,1:0,", "1:0,2:00,", "2:-0,1:0,", "1:0,2:-0,", "2:+1,1:0,", "1:0,2:+1,", "01:0,1:0,", "1:0,01:0,",
		"2: 0,1:0,", "1:a,1:0,", "1:0,1:a,", "8:1:0,1:3,,", "1:0,1:3, ", " 1:0,1:3,",
		"1:0,20:99999999999999999999,", "20:99999999999999999999,1:0,",
	}
	for _, p := range strangers() {
		wrong = append(wrong, nest.Pack([]string{nest.Num(p.Group), nest.Num(p.No)}))
	}
	for _, name := range wrong {
		if p, err := Party(name); p != (api.Party{}) || err != api.ErrForm {
			t.Errorf("Party(%q): %v, %v", name, p, err)
		}
	}
}

// TestPartyOfNearNames changes, drops and adds one byte of every name: only names are names.
func TestPartyOfNearNames(t *testing.T) {
	names := map[string]api.Party{}
	for _, p := range parties() {
		names[nest.Pack([]string{nest.Num(p.Group), nest.Num(p.No)})] = p
	}
	for name := range names {
		near(name, "0123456789:,-+ ax", func(s string) {
			want, there := names[s]
			p, err := Party(s)
			if p != want || (err == api.OK) != there || !there && err != api.ErrForm {
				t.Errorf("Party(%q): %v, %v", s, p, err)
			}
		})
	}
}

// near calls f with every text that is one byte off s.
func near(s, letters string, f func(string)) {
	for i := range len(s) + 1 {
		if i < len(s) {
			f(s[:i] + s[i+1:])
		}
		for _, b := range []byte(letters) {
			f(s[:i] + string(b) + s[i:])
			if i < len(s) {
				f(s[:i] + string(b) + s[i+1:])
			}
		}
	}
}

// 3.2.

func TestNew(t *testing.T) {
	for size := range 33 {
		mustRing(t, strings.Repeat("\xff", size))
	}
	for _, size := range []int{33, 34, 64, 1000} {
		if r, err := New(strings.Repeat("s", size)); r != nil || err != api.ErrLong {
			t.Errorf("New of %d bytes: %v, %v", size, r, err)
		}
	}
}

// The tags below were made by another program of BLAKE2s.
func TestTag(t *testing.T) {
	seed32 := make([]byte, 32)
	for i := range seed32 {
		seed32[i] = byte(i)
	}
	long := strings.Repeat("x", 30001)
	cases := []struct {
		seed string
		who  api.Party
		text string
		want string
	}{
		{"", api.Party{Group: 0, No: 3}, "", "f6b4257393efc7dfd951ea44c8f78b39"},
		{"", api.Party{Group: 0, No: 3}, "text", "b1168fa93750e27148bec22a02b9b072"},
		{"", api.Party{Group: -1, No: 0}, long, "7a5b6979db510d1153429eb93553f2c0"},
		{"seed", api.Party{Group: 0, No: 3}, "", "1edf34daa409e2d50156c51461d9854c"},
		{"seed", api.Party{Group: 0, No: 3}, "text", "b3c73a66d27bb5915367e9cf6e59cad2"},
		{"seed", api.Party{Group: -1, No: 0}, "text", "362f126cd8b596e3fd351f4a0c540ee0"},
		{"seed", api.Party{Group: 4, No: 15}, "text", "887857621590842f84dfb7afd3f13d9f"},
		{"seed", api.Party{Group: 4, No: 15}, long, "c16c9567c1e6da33174c8716270c6032"},
		{string(seed32), api.Party{Group: -1, No: 0}, "text", "62945a1680a848cfa8fe9877276f2f0e"},
		{string(seed32), api.Party{Group: 4, No: 15}, "", "9bd24951f38bc8f0def6c1b4679d890b"},
		{string(seed32), api.Party{Group: 4, No: 15}, long, "6c23c6ebb86f6aa6da0f36212abf52c1"},
	}
	for _, c := range cases {
		r := mustRing(t, c.seed)
		tag, err := r.Tag(c.who, c.text)
		if hex.EncodeToString([]byte(tag)) != c.want || err != api.OK {
			t.Errorf("%q: Tag(%v, %.20q): %x, %v", c.seed, c.who, c.text, tag, err)
		}
	}
}

func TestTagIsTheSums(t *testing.T) {
	for _, seed := range []string{"", "\x00", "seed", strings.Repeat("s", 32)} {
		r := mustRing(t, seed)
		for _, p := range parties() {
			for _, text := range texts()[:5] {
				key, _ := blake.Sum(seed, nest.Pack([]string{nest.Num(p.Group), nest.Num(p.No)}))
				sum, _ := blake.Sum(key, text)
				if tag, err := r.Tag(p, text); tag != sum[:16] || err != api.OK {
					t.Errorf("%q: Tag(%v, %q): %x, %v", seed, p, text, tag, err)
				}
			}
		}
	}
}

func TestTagsDiffer(t *testing.T) {
	seen := map[string]bool{}
	count := 0
	for _, seed := range []string{"", "a", "a\x00"} {
		r := mustRing(t, seed)
		for _, p := range parties() {
			for _, text := range []string{"", "a", "b"} {
				tag, _ := r.Tag(p, text)
				seen[tag] = true
				count++
			}
		}
	}
	if len(seen) != count {
		t.Errorf("%d seeds, parties and texts have %d tags", count, len(seen))
	}
}

func TestSign(t *testing.T) {
	r := mustRing(t, "seed")
	for _, p := range parties() {
		for _, text := range texts() {
			tag, _ := r.Tag(p, text)
			want := Signed{Who: p, Text: text, Tag: tag}
			if s, err := r.Sign(p, text); s != want || err != api.OK {
				t.Errorf("Sign(%v, %.20q): %v, %v", p, text, s, err)
			}
		}
	}
}

func TestStrangersSignNothing(t *testing.T) {
	for _, r := range []*Ring{mustRing(t, "seed"), nil} {
		for _, p := range strangers() {
			if tag, err := r.Tag(p, "text"); tag != "" || err != api.ErrArg {
				t.Errorf("Tag(%v): %q, %v", p, tag, err)
			}
			if s, err := r.Sign(p, "text"); s != (Signed{}) || err != api.ErrArg {
				t.Errorf("Sign(%v): %v, %v", p, s, err)
			}
			for _, tag := range []string{"", "short", strings.Repeat("t", 16)} {
				if err := r.Check(Signed{Who: p, Text: "text", Tag: tag}); err != api.ErrArg {
					t.Errorf("Check(%v, %q): %v", p, tag, err)
				}
			}
		}
	}
}

func TestNilRing(t *testing.T) {
	var none *Ring
	for _, p := range parties() {
		if tag, err := none.Tag(p, "text"); tag != "" || err != api.ErrState {
			t.Errorf("Tag(%v): %q, %v", p, tag, err)
		}
		if s, err := none.Sign(p, "text"); s != (Signed{}) || err != api.ErrState {
			t.Errorf("Sign(%v): %v, %v", p, s, err)
		}
		for _, tag := range []string{"", "short", strings.Repeat("t", 16)} {
			if err := none.Check(Signed{Who: p, Text: "text", Tag: tag}); err != api.ErrState {
				t.Errorf("Check(%v, %q): %v", p, tag, err)
			}
		}
	}
}

func TestCheckRefuses(t *testing.T) {
	r := mustRing(t, "seed")
	for _, p := range parties() {
		s := mustSign(t, r, p, "text")
		tags := []string{"", s.Tag[:15], s.Tag + "\x00", s.Tag + s.Tag, strings.Repeat("\x00", 16), s.Tag[1:] + s.Tag[:1]}
		for i := range len(s.Tag) {
			b := []byte(s.Tag)
			b[i] ^= 1
			tags = append(tags, string(b))
		}
		for _, tag := range tags {
			if err := r.Check(Signed{Who: p, Text: s.Text, Tag: tag}); err != api.ErrTag {
				t.Errorf("Check of the tag %x in place of %x: %v", tag, s.Tag, err)
			}
		}
		for _, text := range []string{"", "tex", "texT", "text\x00"} {
			if err := r.Check(Signed{Who: p, Text: text, Tag: s.Tag}); err != api.ErrTag {
				t.Errorf("Check of the text %q: %v", text, err)
			}
		}
		for _, q := range parties() {
			if err := r.Check(Signed{Who: q, Text: s.Text, Tag: s.Tag}); (err == api.OK) != (p == q) {
				t.Errorf("Check of %v's tag as %v's: %v", p, q, err)
			}
		}
		if err := mustRing(t, "seee").Check(s); err != api.ErrTag {
			t.Errorf("Check by another ring: %v", err)
		}
	}
}

// A tag of 32 bytes, the whole sum, is no tag.
func TestCheckOfTheWholeSum(t *testing.T) {
	r := mustRing(t, "seed")
	p := api.Party{Group: 1, No: 2}
	key, _ := blake.Sum("seed", "1:1,1:2,")
	sum, _ := blake.Sum(key, "text")
	if err := r.Check(Signed{Who: p, Text: "text", Tag: sum}); err != api.ErrTag {
		t.Error(err)
	}
}

// 3.3.

func TestEncode(t *testing.T) {
	tag := "0123456789abcdef"
	s := Signed{Who: api.Party{Group: -1, No: 12}, Text: "a,b", Tag: tag}
	if b, err := Encode(s); b != "10:2:-1,2:12,,3:a,b,16:"+tag+"," || err != api.OK {
		t.Errorf("Encode: %q, %v", b, err)
	}
	for _, p := range strangers() {
		for _, tag := range []string{tag, "short", ""} {
			if b, err := Encode(Signed{Who: p, Text: "a", Tag: tag}); b != "" || err != api.ErrArg {
				t.Errorf("Encode(%v, %q): %q, %v", p, tag, b, err)
			}
		}
	}
	for _, size := range []int{0, 1, 15, 17, 32} {
		if b, err := Encode(Signed{Text: "a", Tag: strings.Repeat("t", size)}); b != "" || err != api.ErrForm {
			t.Errorf("Encode of a tag of %d bytes: %q, %v", size, b, err)
		}
	}
}

func TestDecodeUndoesEncode(t *testing.T) {
	for _, p := range parties() {
		for _, text := range texts() {
			// No ring made this tag: neither call asks for that.
			s := Signed{Who: p, Text: text, Tag: "\x000123,:789abcd\xff\n"}
			b, err := Encode(s)
			if err != api.OK {
				t.Errorf("Encode(%v): %v", p, err)
			}
			if u, err := Decode(b); u != s || err != api.OK {
				t.Errorf("Decode(%.40q): %v, %v", b, u, err)
			}
		}
	}
}

func TestDecodeOfNothingSigned(t *testing.T) {
	tag := "0123456789abcdef"
	wrong := []string{
		"", "x", "8:1:0,1:3,,1:a,16:" + tag, "8:1:0,1:3,,1:a,16:" + tag + ",,",
		nest.Pack([]string{"1:0,1:3,", "a"}),
		nest.Pack([]string{"1:0,1:3,", "a", tag, ""}),
		nest.Pack([]string{"1:0,1:3,", "a", tag, tag}),
		nest.Pack([]string{"0", "3", "a", tag}),
		nest.Pack([]string{"a", "1:0,1:3,", tag}),
		nest.Pack([]string{"", "a", tag}),
		nest.Pack([]string{"1:0,1:3", "a", tag}),
		nest.Pack([]string{"2:00,1:3,", "a", tag}),
		nest.Pack([]string{"1:0,1:3,", "a", ""}),
		nest.Pack([]string{"1:0,1:3,", "a", tag[1:]}),
		nest.Pack([]string{"1:0,1:3,", "a", tag + "0"}),
		nest.Pack([]string{nest.Pack([]string{"1:0,1:3,", "a", tag})}),
		"08:1:0,1:3,,1:a,16:" + tag + ",",
	}
	for _, p := range strangers() {
		name := nest.Pack([]string{nest.Num(p.Group), nest.Num(p.No)})
		wrong = append(wrong, nest.Pack([]string{name, "a", tag}))
	}
	for _, b := range wrong {
		if s, err := Decode(b); s != (Signed{}) || err != api.ErrForm {
			t.Errorf("Decode(%q): %v, %v", b, s, err)
		}
	}
}

// TestDecodeOfNearBytes: whatever is decoded has just the bytes it was decoded of, and all else is ErrForm.
func TestDecodeOfNearBytes(t *testing.T) {
	decoded := 0
	for _, p := range []api.Party{{Group: -1, No: 15}, {Group: 0, No: 3}, {Group: 4, No: 10}} {
		b, _ := Encode(Signed{Who: p, Text: "1:a,", Tag: "0123456789abcdef"})
		near(b, "0123456789:,-+ ax", func(b string) {
			s, err := Decode(b)
			if err != api.OK {
				if s != (Signed{}) || err != api.ErrForm {
					t.Errorf("Decode(%q): %v, %v", b, s, err)
				}
				return
			}
			decoded++
			if again, err := Encode(s); again != b || err != api.OK {
				t.Errorf("Decode(%q): %v, which has the bytes %q, %v", b, s, again, err)
			}
		})
	}
	if decoded == 0 {
		t.Error("no bytes near were decoded")
	}
}

// 3.4.

func TestSignedIsCheckedAndDecoded(t *testing.T) {
	for _, seed := range []string{"", "seed", strings.Repeat("s", 32)} {
		r := mustRing(t, seed)
		for _, p := range parties() {
			for _, text := range texts()[:6] {
				s := mustSign(t, r, p, text)
				if err := r.Check(s); err != api.OK {
					t.Errorf("Check(%v): %v", s, err)
				}
				b, err := Encode(s)
				if err != api.OK {
					t.Errorf("Encode(%v): %v", s, err)
				}
				u, err := Decode(b)
				if u != s || err != api.OK {
					t.Errorf("Decode(%q): %v, %v", b, u, err)
				}
				if err := r.Check(u); err != api.OK {
					t.Errorf("Check(%v), decoded: %v", u, err)
				}
			}
		}
	}
}

// R6, and R4: whatever was asked between, a ring tells the same.

func TestRingTellsTheSame(t *testing.T) {
	r := mustRing(t, "seed")
	tell := func() []string {
		var l []string
		for _, p := range parties() {
			s := mustSign(t, r, p, "text")
			l = append(l, s.Tag)
		}
		return l
	}
	before := tell()
	for _, p := range strangers() {
		r.Tag(p, "other")
		r.Sign(p, "other")
		r.Check(Signed{Who: p})
	}
	r.Check(Signed{})
	if !slices.Equal(before, tell()) || !slices.Equal(before, tell()) {
		t.Error("a ring's tags have changed")
	}
	other := mustRing(t, "seed")
	if err := other.Check(mustSign(t, r, api.Party{}, "text")); err != api.OK {
		t.Errorf("Check by another ring of the same seed: %v", err)
	}
}

// P1: bytes of any kind.

func FuzzDecode(f *testing.F) {
	f.Add("8:1:0,1:3,,1:a,16:0123456789abcdef,")
	f.Add("1:0,1:3,")
	f.Add("999999999:")
	f.Fuzz(func(t *testing.T, b string) {
		if s, err := Decode(b); err == api.OK {
			if again, err := Encode(s); again != b || err != api.OK {
				t.Errorf("Decode(%q): %v, which has the bytes %q, %v", b, s, again, err)
			}
		} else if s != (Signed{}) || err != api.ErrForm {
			t.Errorf("Decode(%q): %v, %v", b, s, err)
		}
		if p, err := Party(b); err == api.OK {
			if again, err := Name(p); again != b || err != api.OK {
				t.Errorf("Party(%q): %v, of the name %q, %v", b, p, again, err)
			}
		} else if p != (api.Party{}) || err != api.ErrForm {
			t.Errorf("Party(%q): %v, %v", b, p, err)
		}
	})
}
