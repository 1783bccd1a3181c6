package nest

import (
	"math"
	"regexp"
	"slices"
	"strconv"
	"strings"
	"testing"

	"wapentake/api"
)

const letters = "012:,-a"

// shortTexts calls f with every text of at most size of the letters.
func shortTexts(size int, f func(string)) {
	var grow func(s string)
	grow = func(s string) {
		f(s)
		if len(s) == size {
			return
		}
		for i := range len(letters) {
			grow(s + letters[i:i+1])
		}
	}
	grow("")
}

// shortLists calls f with every list, of texts of the letters, whose text has at most size bytes.
func shortLists(size int, f func([]string)) {
	var grow func(l []string, room int)
	grow = func(l []string, room int) {
		f(l)
		if room < 3 {
			return
		}
		shortTexts(room-3, func(s string) {
			grow(append(slices.Clone(l), s), room-3-len(s))
		})
	}
	grow(nil, size)
}

func TestPack(t *testing.T) {
	cases := []struct {
		l    []string
		want string
	}{
		{nil, ""},
		{[]string{}, ""},
		{[]string{""}, "0:,"},
		{[]string{"ab", ""}, "2:ab,0:,"},
		{[]string{"ab", "", "1:x,"}, "2:ab,0:,4:1:x,,"},
		{[]string{"\x00\xff", "é"}, "2:\x00\xff,2:é,"},
		{[]string{"123456789", "1234567890"}, "9:123456789,10:1234567890,"},
	}
	for _, c := range cases {
		if s := Pack(c.l); s != c.want {
			t.Errorf("Pack(%q): %q", c.l, s)
		}
	}
}

func TestTake(t *testing.T) {
	right := []struct{ s, text, rest string }{
		{"2:ab,rest", "ab", "rest"},
		{"0:,", "", ""},
		{"0:,,", "", ","},
		{"1:,,", ",", ""},
		{"3:1:,,x", "1:,", "x"},
		{"10:0123456789,0:,", "0123456789", "0:,"},
		{"1:\xff,\x00", "\xff", "\x00"},
	}
	for _, c := range right {
		if text, rest, err := Take(c.s); text != c.text || rest != c.rest || err != api.OK {
			t.Errorf("Take(%q): %q, %q, %v", c.s, text, rest, err)
		}
	}
	wrong := []string{
		"", "a", "2", "2:", "2:a", "2:ab", "3:ab,", "2:abc", "1:ab,", "02:ab,", "00:,", "-1:,", "-0:,", "+1:a,", ":,", ",",
		" 1:a,", "1 :a,", "1;a,", "0x1:a,", "1_0:0123456789,", "1234567890:a,", "999999999:a,", "0000000001:a,",
		"9223372036854775807:a,", "9223372036854775808:a,", "18446744073709551617:a,", "٣:abc,",
	}
	for _, s := range wrong {
		if text, rest, err := Take(s); text != "" || rest != "" || err != api.ErrForm {
			t.Errorf("Take(%q): %q, %q, %v", s, text, rest, err)
		}
	}
}

// TestTakeShort holds Take, at all short texts, against the document's words as a pattern.
func TestTakeShort(t *testing.T) {
	head := regexp.MustCompile(`^(0|[1-9][0-9]{0,8}):`)
	shortTexts(7, func(s string) {
		wantText, wantRest, want := "", "", api.ErrForm
		if m := head.FindStringSubmatch(s); m != nil {
			size, _ := strconv.Atoi(m[1])
			if behind := s[len(m[0]):]; len(behind) > size && behind[size] == ',' {
				wantText, wantRest, want = behind[:size], behind[size+1:], api.OK
			}
		}
		if text, rest, err := Take(s); text != wantText || rest != wantRest || err != want {
			t.Errorf("Take(%q): %q, %q, %v", s, text, rest, err)
		}
	})
}

func TestTakeDigits(t *testing.T) {
	text := strings.Repeat("x", 100000000)
	if got, rest, err := Take(Pack([]string{text}) + "y"); got != text || rest != "y" || err != api.OK {
		t.Errorf("Take of a length of 9 digits: %d bytes, %q, %v", len(got), rest, err)
	}
	// The bound itself is tried at shorter lengths: a text of 10 digits' length would need 10^9 bytes.
	ten := "10:0123456789,"
	if _, _, err := first(ten, 1); err != api.ErrForm {
		t.Errorf("a digit too many: %v", err)
	}
	if got, _, err := first(ten, 2); got != "0123456789" || err != api.OK {
		t.Errorf("as many digits as may be: %q, %v", got, err)
	}
	if takeDigits != 9 {
		t.Errorf("Take: %d digits", takeDigits)
	}
}

func TestUnpack(t *testing.T) {
	right := []struct {
		s    string
		want []string
	}{
		{"", nil},
		{"0:,", []string{""}},
		{"0:,0:,", []string{"", ""}},
		{"2:ab,0:,4:1:x,,", []string{"ab", "", "1:x,"}},
		{"1:,,1::,", []string{",", ":"}},
	}
	for _, c := range right {
		if l, err := Unpack(c.s); !slices.Equal(l, c.want) || err != api.OK {
			t.Errorf("Unpack(%q): %q, %v", c.s, l, err)
		}
	}
	wrong := []string{
		"a", ",", ":,", "2:ab", "02:ab,", "3:ab,", "-1:,", "2:ab,x", "1 :a,", "1234567890:a,", "0:,0:", "0:,,", "0:,0:, ",
		"2:ab,3:ab,", "99999999999999999999:a,",
	}
	for _, s := range wrong {
		if l, err := Unpack(s); len(l) != 0 || err != api.ErrForm {
			t.Errorf("Unpack(%q): %q, %v", s, l, err)
		}
	}
}

// TestOneText: of all short texts just those of lists are unpacked, each to the list that it is the text of.
func TestOneText(t *testing.T) {
	const size = 7
	lists := map[string][]string{}
	shortLists(size, func(l []string) {
		s := Pack(l)
		if old, there := lists[s]; there {
			t.Errorf("%q and %q have the text %q", old, l, s)
		}
		lists[s] = l
	})
	shortTexts(size, func(s string) {
		want, there := lists[s]
		l, err := Unpack(s)
		if !slices.Equal(l, want) || there != (err == api.OK) || !there && err != api.ErrForm {
			t.Errorf("Unpack(%q): %q, %v", s, l, err)
		}
	})
}

func TestPackedIsUnpacked(t *testing.T) {
	var all []string
	together := ""
	for size := range 300 {
		l := []string{strings.Repeat("z", size), together[len(together)/2:], ""}
		s := Pack(l)
		if got, err := Unpack(s); !slices.Equal(got, l) || err != api.OK {
			t.Fatalf("Unpack of %d texts: %v", len(l), err)
		}
		all, together = append(all, l...), together+s
		if len(together) > 1<<20 {
			break
		}
	}
	if Pack(all) != together {
		t.Error("lists one behind the other have another text")
	}
	if l, err := Unpack(together); !slices.Equal(l, all) || err != api.OK {
		t.Errorf("Unpack of texts one behind the other: %v", err)
	}
}

func TestNum(t *testing.T) {
	cases := []struct {
		n    int
		text string
	}{
		{0, "0"}, {7, "7"}, {-1, "-1"}, {-17, "-17"}, {10, "10"}, {100000, "100000"}, {api.MaxBig, "1099511627776"},
		{math.MaxInt64, "9223372036854775807"}, {math.MinInt64, "-9223372036854775808"},
	}
	for _, c := range cases {
		if s := Num(c.n); s != c.text {
			t.Errorf("Num(%d): %q", c.n, s)
		}
		if n, err := ToNum(c.text); n != c.n || err != api.OK {
			t.Errorf("ToNum(%q): %d, %v", c.text, n, err)
		}
	}
	wrong := []string{
		"", "-", "--1", "01", "00", "-0", "-01", "+1", "+0", " 1", "1 ", "1\n", "1.0", "1e3", "1_0", "0x1", "a", "1a", "1\x00", "٣",
		"9223372036854775808", "-9223372036854775809", "18446744073709551616", "100000000000000000000000",
		strings.Repeat("9", 5000), strings.Repeat("0", 5000),
	}
	for _, s := range wrong {
		if n, err := ToNum(s); n != 0 || err != api.ErrForm {
			t.Errorf("ToNum(%q): %d, %v", s, n, err)
		}
	}
}

func TestNumShort(t *testing.T) {
	number := regexp.MustCompile(`^(0|-?[1-9][0-9]*)$`)
	shortTexts(5, func(s string) {
		n, err := ToNum(s)
		if number.MatchString(s) {
			if err != api.OK || Num(n) != s {
				t.Errorf("ToNum(%q): %d, %v", s, n, err)
			}
		} else if err != api.ErrForm || n != 0 {
			t.Errorf("ToNum(%q): %d, %v", s, n, err)
		}
	})
}

func TestDeep(t *testing.T) {
	cases := []struct {
		s    string
		want int
	}{
		{"", 0}, {"ab", 0}, {",", 0}, {"3:ab,", 0}, {"3:0:,,x", 0}, {"3:0:,,02:ab,", 0},
		{"0:,", 1}, {"2:ab,0:,", 1}, {"3:ab:,", 1}, {"4:0:,x,", 1},
		{"3:0:,,", 2}, {"2:ab,3:0:,,2:ab,", 2}, {"3:0:,,0:,", 2},
		{"6:3:0:,,,", 3}, {"0:,6:3:0:,,,3:0:,,", 3}, {"7:3:0:,,x,", 1},
	}
	for _, c := range cases {
		if n := Deep(c.s); n != c.want {
			t.Errorf("Deep(%q): %d", c.s, n)
		}
	}
}

// slowDeep is the promise's own words.
func slowDeep(s string) int {
	l, err := Unpack(s)
	if s == "" || err != api.OK {
		return 0
	}
	deepest := 0
	for _, text := range l {
		deepest = max(deepest, slowDeep(text))
	}
	return deepest + 1
}

func TestDeepOfNested(t *testing.T) {
	shortTexts(7, func(s string) {
		if n := Deep(s); n != slowDeep(s) {
			t.Errorf("Deep(%q): %d", s, n)
		}
	})
	s := ""
	for i := range 200 {
		s = Pack([]string{"x", s, Pack([]string{"y"}), s[len(s)/2:]})
		if n := Deep(s); n != i+2 || n != slowDeep(s) {
			t.Fatalf("Deep of %d lists in each other: %d", i+2, n)
		}
		if len(s) > 100000 {
			break
		}
	}
}

// nestedText is a text of lists of one text each, so deep.
func nestedText(depth int) string {
	heads, size := make([]string, depth), 0
	for i := range heads {
		heads[i] = strconv.Itoa(size) + ":"
		size += len(heads[i]) + 1
	}
	slices.Reverse(heads)
	return strings.Join(heads, "") + strings.Repeat(",", depth)
}

// TestVeryDeep: a call in a call for each list would need a stack of gigabytes.
func TestVeryDeep(t *testing.T) {
	const depth = 4000000
	s := nestedText(depth)
	if n := Deep(s); n != depth {
		t.Errorf("Deep of %d lists in each other: %d", depth, n)
	}
	if n := Deep(s[:len(s)-1]); n != 0 {
		t.Errorf("Deep of what is no list: %d", n)
	}
}

func TestArgumentsStay(t *testing.T) {
	room := []string{"a", "b", "spare", "room"}
	l := room[:2]
	Pack(l)
	if !slices.Equal(room, []string{"a", "b", "spare", "room"}) {
		t.Errorf("Pack changed its argument: %q", room)
	}
}

func TestAnswersAreNew(t *testing.T) {
	const s = "1:a,1:b,1:c,"
	one, _ := Unpack(s)
	two, _ := Unpack(s)
	one[0] = "changed"
	one = append(one[:2], "changed")
	if !slices.Equal(two, []string{"a", "b", "c"}) {
		t.Errorf("two answers share memory: %q, %q", one, two)
	}
}
