package blake

import (
	"encoding/hex"
	"slices"
	"strings"
	"testing"

	"wapentake/api"
)

// textOf and keyOf are what the sums below were made of, by another program of BLAKE2s.
func textOf(size int) string {
	b := make([]byte, size)
	for i := range b {
		b[i] = byte(7*i + size)
	}
	return string(b)
}

func keyOf(size int) string {
	b := make([]byte, size)
	for i := range b {
		b[i] = byte(i)
	}
	return string(b)
}

func mustSum(t *testing.T, key, text string) string {
	t.Helper()
	s, err := Sum(key, text)
	if len(s) != 32 || err != api.OK {
		t.Fatalf("Sum(%d bytes, %d bytes): %x, %v", len(key), len(text), s, err)
	}
	return s
}

func TestSumOfABC(t *testing.T) {
	const want = "508c5e8c327c14e2e1a72ba34eeb452f37458b209ed63a294d999b4c86675982"
	if s := hex.EncodeToString([]byte(mustSum(t, "", "abc"))); s != want {
		t.Errorf("Sum: %s", s)
	}
}

func TestSum(t *testing.T) {
	cases := []struct {
		key, text int
		want      string
	}{
		{0, 0, "69217a3079908094e11121d042354a7c1f55b6482ca1a51e1b250dfd1ed0eef9"},
		{0, 1, "fc87f4f1d721942d282aa61989c069b290d1447d20d4b811430f47ea0edf9991"},
		{0, 63, "5c9eb3e5acf93799a68777f27cdde8e90cb16d511b7983a875ac5dbfa8aca778"},
		{0, 64, "85de17b4e2581889b98b948346a970b5291b5d2a2a8ee75b1aa2bbb02b98b211"},
		{0, 65, "1c1a9619a26d7cd550199567e5c316eb3db33d96c29790a6c68ba7f1ee8a8803"},
		{0, 128, "46bf7abf397f8c8f86566279cba2505c9d255be7409760dc327ae520faaf356a"},
		{0, 129, "030e44da1226be0765e3ff31a849aca32cb20222ac3dc32ff10670dc95b22534"},
		{0, 1000, "802d01c1238627f67baee29885006cfaab1f07890532935a1ae9354d318df150"},
		{1, 0, "cdcf93dac5437c31bf1e79a8398fbbddd1cef4427428ced165264455a9c48a95"},
		{1, 1, "b5ba075e3c4beb77a80a5ee34cc7806049524d5c60696e4d26dfe63e04e0a8bb"},
		{31, 63, "797bf0256657b1bba6b840f172816c3db86f91ccf52d2d32f877bf67e3129500"},
		{32, 0, "48a8997da407876b3d79c0d92325ad3b89cbb754d86ab71aee047ad345fd2c49"},
		{32, 1, "09bc37a9299f3c678db55bc9964eaae34f83b16a5dca296eb36c95a6837a5924"},
		{32, 64, "553903ba3e4bde49f11fd6e52fd44a979fda065191baf3d24aa86224309f3f15"},
		{32, 65, "6ca63e65668ea7df8ca89635b08c71e09734af02d13963fdcfd0dc5d2c305189"},
		{32, 128, "42faca8ba5fbf3ee4a803ed44db2763f4e5202f4dc49b03dc5f2331aab756569"},
		{16, 30000, "624a080881cd23e302a0858eb7e14c0b99f08060fe388e8db4bb5103acfc2a99"},
	}
	for _, c := range cases {
		s := mustSum(t, keyOf(c.key), textOf(c.text))
		if hex.EncodeToString([]byte(s)) != c.want {
			t.Errorf("Sum(%d bytes, %d bytes): %x", c.key, c.text, s)
		}
	}
}

// TestAllSizes: the sum of the sums of all keys' sizes and of texts around the blocks' ends.
func TestAllSizes(t *testing.T) {
	const want = "be4b6b64b6fa07a433c7291a72e0a5b759896f475bd6600ed0fcb95e102ee95c"
	var all strings.Builder
	for key := range 33 {
		for text := range 200 {
			all.WriteString(mustSum(t, keyOf(key), textOf(text)))
		}
	}
	if s := mustSum(t, "", all.String()); hex.EncodeToString([]byte(s)) != want {
		t.Errorf("the sum of all sums: %x", s)
	}
}

func TestKeyCounts(t *testing.T) {
	sums := map[string]string{}
	for _, key := range []string{"", "\x00", "\x00\x00", "k", "k\x00", strings.Repeat("\x00", 32)} {
		s := mustSum(t, key, "text")
		if old, there := sums[s]; there {
			t.Errorf("the keys %q and %q have one sum", old, key)
		}
		sums[s] = key
	}
}

func TestLongKey(t *testing.T) {
	for _, size := range []int{33, 64, 65, 1000} {
		if s, err := Sum(keyOf(size), "text"); s != "" || err != api.ErrLong {
			t.Errorf("Sum with a key of %d bytes: %x, %v", size, s, err)
		}
		for _, l := range [][]string{nil, {"text"}, {"te", "xt"}} {
			if s, err := Parts(keyOf(size), l); s != "" || err != api.ErrLong {
				t.Errorf("Parts with a key of %d bytes: %x, %v", size, s, err)
			}
		}
	}
}

func TestNoParts(t *testing.T) {
	for _, key := range []string{"", "k", keyOf(32)} {
		want := mustSum(t, key, "")
		for _, l := range [][]string{nil, {}, {""}, {"", "", ""}} {
			if s, err := Parts(key, l); s != want || err != api.OK {
				t.Errorf("Parts(%q, %q): %x, %v", key, l, s, err)
			}
		}
	}
}

func TestCutsSayNothing(t *testing.T) {
	text := textOf(200)
	for _, key := range []string{"", "k", keyOf(32)} {
		want := mustSum(t, key, text)
		for from := range len(text) + 1 {
			for _, to := range []int{from, (from + len(text)) / 2, len(text)} {
				l := []string{text[:from], text[from:to], "", text[to:]}
				if s, err := Parts(key, l); s != want || err != api.OK {
					t.Fatalf("Parts cut at %d and %d: %x, %v", from, to, s, err)
				}
			}
		}
		if s, err := Parts(key, strings.Split(text, "")); s != want || err != api.OK {
			t.Errorf("Parts of single bytes: %x, %v", s, err)
		}
	}
}

// TestPlaces: the order of parts counts, and each byte of a text.
func TestPlaces(t *testing.T) {
	ab, _ := Parts("", []string{"a", "b"})
	if ba, _ := Parts("", []string{"b", "a"}); ab == ba {
		t.Error("the order of the parts says nothing")
	}
	text := []byte(textOf(130))
	sums := map[string]int{mustSum(t, "", string(text)): -1}
	for i := range text {
		text[i] ^= 1
		s := mustSum(t, "", string(text))
		if old, there := sums[s]; there {
			t.Errorf("bytes %d and %d turned have one sum", old, i)
		}
		sums[s] = i
		text[i] ^= 1
	}
}

func TestArgumentsStay(t *testing.T) {
	room := []string{"a", "b", "spare", "room"}
	first, _ := Parts("k", room[:2])
	second, _ := Parts("k", room[:2])
	if first != second || !slices.Equal(room, []string{"a", "b", "spare", "room"}) {
		t.Errorf("Parts changed its argument: %q", room)
	}
}
