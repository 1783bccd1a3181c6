package table

import (
	"math"
	"math/rand"
	"slices"
	"sort"
	"strconv"
	"strings"
	"testing"

	"wapentake/api"
	"wapentake/nest"
)

var (
	longKey   = strings.Repeat("k", api.MaxKey)
	longValue = strings.Repeat("v", api.MaxValue)
	noKinds   = []int{0, 6, -1, math.MinInt, math.MaxInt}
)

func tells(t *testing.T, x *Table, o Op, want string) {
	t.Helper()
	if s, err := x.Do(o); s != want || err != api.OK {
		t.Fatalf("Do(%v): %q, %v, not %q", o, s, err, want)
	}
}

// refuses also looks whether the table is as it was.
func refuses(t *testing.T, x *Table, o Op, want api.Errno) {
	t.Helper()
	text, size := x.Text(), x.Len()
	if s, err := x.Do(o); s != "" || err != want {
		t.Errorf("Do(%v): %q, %v, not %v", o, s, err, want)
	}
	if x.Text() != text || x.Len() != size {
		t.Errorf("Do(%v): %q, not %q any more", o, x.Text(), text)
	}
}

// holds looks for just these keys and values, in turn.
func holds(t *testing.T, x *Table, want ...string) {
	t.Helper()
	if s := x.Text(); s != nest.Pack(want) || x.Len() != len(want)/2 {
		t.Errorf("%q, %d rows, not %q", s, x.Len(), want)
	}
	for i := 0; i < len(want); i += 2 {
		tells(t, x, Op{Kind: Get, Key: want[i]}, want[i+1])
	}
}

func made(t *testing.T, l ...string) *Table {
	t.Helper()
	x := New()
	for i := 0; i < len(l); i += 2 {
		tells(t, x, Op{Kind: Put, Key: l[i], Value: l[i+1]}, "")
	}
	return x
}

func loaded(t *testing.T, text string) *Table {
	t.Helper()
	x, err := Load(text)
	if x == nil || err != api.OK {
		t.Fatalf("Load(%q): %v, %v", text, x, err)
	}
	return x
}

// numbered is the i'th of keys that rise.
func numbered(i int) string {
	return "n" + strconv.Itoa(10+i)
}

// full is a table with as many rows as can be.
func full(t *testing.T) *Table {
	t.Helper()
	x := New()
	for i := range api.MaxRows {
		tells(t, x, Op{Kind: Put, Key: numbered(i), Value: strconv.Itoa(i)}, "")
	}
	return x
}

// 13.1.

func TestCheck(t *testing.T) {
	for _, key := range []string{"k", "\x00", "\xff", " ", longKey} {
		for _, value := range []string{"", "v", "\x00\xff", longValue} {
			for _, o := range []Op{
				{Kind: Get, Key: key},
				{Kind: Put, Key: key, Value: value},
				{Kind: Append, Key: key, Value: value},
				{Kind: Delete, Key: key},
				{Kind: Swap, Key: key, Value: value},
				{Kind: Swap, Key: key, Value: value, Old: value},
				{Kind: Swap, Key: key, Old: value},
			} {
				if err := Check(o); err != api.OK {
					t.Errorf("Check(%v): %v", o, err)
				}
			}
		}
	}
}

// wrongOps are operations that are none, with what Check tells of them.
func wrongOps() map[Op]api.Errno {
	l := map[Op]api.Errno{
		{Kind: Get, Key: "k", Value: "v"}:                  api.ErrForm,
		{Kind: Delete, Key: "k", Value: "v"}:               api.ErrForm,
		{Kind: Get, Key: "k", Value: "v", Old: "v"}:        api.ErrForm,
		{Kind: Delete, Key: longKey, Value: longValue}:     api.ErrForm,
		{Kind: Get, Key: longKey, Old: longValue}:          api.ErrForm,
		{Kind: Get, Key: "k", Old: "v"}:                    api.ErrForm,
		{Kind: Put, Key: "k", Old: "v"}:                    api.ErrForm,
		{Kind: Put, Key: "k", Value: "v", Old: "v"}:        api.ErrForm,
		{Kind: Append, Key: "k", Value: "v", Old: "v"}:     api.ErrForm,
		{Kind: Delete, Key: "k", Old: "v"}:                 api.ErrForm,
		{Kind: Put, Key: longKey, Value: "v", Old: "\x00"}: api.ErrForm,
	}
	for kind := Get; kind <= Swap; kind++ {
		for _, value := range []string{"", "v", longValue + "v"} {
			for _, old := range []string{"", "v", longValue + "v"} {
				for _, key := range []string{"", longKey + "k", strings.Repeat("k", 1000)} {
					l[Op{Kind: kind, Key: key, Value: value, Old: old}] = api.ErrRow
				}
			}
			l[Op{Kind: kind, Key: "k", Value: value, Old: longValue + "v"}] = api.ErrRow
			l[Op{Kind: kind, Key: "k", Value: longValue + "v", Old: value}] = api.ErrRow
		}
	}
	for _, kind := range noKinds {
		for _, key := range []string{"", "k", longKey + "k"} {
			for _, value := range []string{"", "v", longValue + "v"} {
				l[Op{Kind: kind, Key: key, Value: value}] = api.ErrArg
				l[Op{Kind: kind, Key: key, Value: value, Old: value}] = api.ErrArg
			}
		}
	}
	return l
}

func TestCheckWrong(t *testing.T) {
	for o, want := range wrongOps() {
		if err := Check(o); err != want {
			t.Errorf("Check(%v): %v, not %v", o, err, want)
		}
	}
}

// 13.2.

func TestDoWrong(t *testing.T) {
	for _, x := range []*Table{New(), made(t, "k", "v"), full(t)} {
		for o, want := range wrongOps() {
			refuses(t, x, o, want)
		}
	}
}

func TestExample(t *testing.T) {
	x := New()
	tells(t, x, Op{Kind: Put, Key: "k", Value: "a"}, "")
	tells(t, x, Op{Kind: Append, Key: "k", Value: "b"}, "ab")
	tells(t, x, Op{Kind: Swap, Key: "k", Old: "ab", Value: "c"}, "ab")
	tells(t, x, Op{Kind: Get, Key: "k"}, "c")
	if s := x.Text(); s != "1:k,1:c," {
		t.Errorf("%q", s)
	}
}

func TestGet(t *testing.T) {
	x := made(t, "b", "1", "a", "", "d", longValue)
	refuses(t, x, Op{Kind: Get, Key: "c"}, api.ErrNone)
	refuses(t, x, Op{Kind: Get, Key: "bb"}, api.ErrNone)
	refuses(t, x, Op{Kind: Get, Key: "B"}, api.ErrNone)
	refuses(t, x, Op{Kind: Get, Key: "e"}, api.ErrNone)
	refuses(t, New(), Op{Kind: Get, Key: "a"}, api.ErrNone)
	holds(t, x, "a", "", "b", "1", "d", longValue)
}

func TestPut(t *testing.T) {
	x := New()
	tells(t, x, Op{Kind: Put, Key: "k", Value: "a"}, "")
	tells(t, x, Op{Kind: Put, Key: "k", Value: longValue}, "a")
	tells(t, x, Op{Kind: Put, Key: "k"}, longValue)
	holds(t, x, "k", "")
	tells(t, x, Op{Kind: Put, Key: "k", Value: "b"}, "")
	tells(t, x, Op{Kind: Put, Key: longKey, Value: "c"}, "")
	holds(t, x, "k", "b", longKey, "c")
}

func TestAppend(t *testing.T) {
	x := made(t, "a", "1", "z", "2")
	tells(t, x, Op{Kind: Append, Key: "k"}, "")
	holds(t, x, "a", "1", "k", "", "z", "2")
	tells(t, x, Op{Kind: Append, Key: "k", Value: "xy"}, "xy")
	tells(t, x, Op{Kind: Append, Key: "k", Value: "z"}, "xyz")
	tells(t, x, Op{Kind: Append, Key: "k"}, "xyz")
	tells(t, x, Op{Kind: Append, Key: "j", Value: "w"}, "w")
	holds(t, x, "a", "1", "j", "w", "k", "xyz", "z", "2")
}

func TestAppendLong(t *testing.T) {
	x := made(t, "k", "ab")
	refuses(t, x, Op{Kind: Append, Key: "k", Value: longValue[1:]}, api.ErrLong)
	refuses(t, x, Op{Kind: Append, Key: "k", Value: longValue}, api.ErrLong)
	tells(t, x, Op{Kind: Append, Key: "k", Value: longValue[2:]}, "ab"+longValue[2:])
	refuses(t, x, Op{Kind: Append, Key: "k", Value: "x"}, api.ErrLong)
	tells(t, x, Op{Kind: Append, Key: "k"}, "ab"+longValue[2:])
	tells(t, x, Op{Kind: Append, Key: "j", Value: longValue}, longValue)
	holds(t, x, "j", longValue, "k", "ab"+longValue[2:])
}

func TestDelete(t *testing.T) {
	x := made(t, "a", "1", "b", "", "c", "3", "d", "4")
	tells(t, x, Op{Kind: Delete, Key: "b"}, "")
	refuses(t, x, Op{Kind: Delete, Key: "b"}, api.ErrNone)
	holds(t, x, "a", "1", "c", "3", "d", "4")
	tells(t, x, Op{Kind: Delete, Key: "d"}, "4")
	holds(t, x, "a", "1", "c", "3")
	tells(t, x, Op{Kind: Delete, Key: "a"}, "1")
	refuses(t, x, Op{Kind: Get, Key: "a"}, api.ErrNone)
	tells(t, x, Op{Kind: Put, Key: "a", Value: "5"}, "")
	holds(t, x, "a", "5", "c", "3")
	tells(t, x, Op{Kind: Delete, Key: "c"}, "3")
	tells(t, x, Op{Kind: Delete, Key: "a"}, "5")
	holds(t, x)
	refuses(t, x, Op{Kind: Delete, Key: "a"}, api.ErrNone)
}

func TestSwap(t *testing.T) {
	x := made(t, "j", "", "k", "a")
	refuses(t, x, Op{Kind: Swap, Key: "i", Value: "b"}, api.ErrNone) // no row is not an empty value
	refuses(t, x, Op{Kind: Swap, Key: "i", Value: "b", Old: "a"}, api.ErrNone)
	for _, old := range []string{"", "b", "A", "aa", longValue} {
		refuses(t, x, Op{Kind: Swap, Key: "k", Value: "b", Old: old}, api.ErrState)
	}
	refuses(t, x, Op{Kind: Swap, Key: "j", Value: "b", Old: "a"}, api.ErrState)
	tells(t, x, Op{Kind: Swap, Key: "k", Value: longValue, Old: "a"}, "a")
	tells(t, x, Op{Kind: Swap, Key: "k", Value: longValue, Old: longValue}, longValue)
	tells(t, x, Op{Kind: Swap, Key: "k", Old: longValue}, longValue)
	tells(t, x, Op{Kind: Swap, Key: "j", Value: "b"}, "")
	holds(t, x, "j", "b", "k", "")
}

func TestFull(t *testing.T) {
	x := full(t)
	for _, key := range []string{"a", "z", numbered(3) + "x"} {
		refuses(t, x, Op{Kind: Put, Key: key, Value: "v"}, api.ErrFull)
		refuses(t, x, Op{Kind: Put, Key: key}, api.ErrFull)
		refuses(t, x, Op{Kind: Append, Key: key, Value: longValue}, api.ErrFull)
		refuses(t, x, Op{Kind: Append, Key: key}, api.ErrFull)
		refuses(t, x, Op{Kind: Get, Key: key}, api.ErrNone)
		refuses(t, x, Op{Kind: Delete, Key: key}, api.ErrNone)
		refuses(t, x, Op{Kind: Swap, Key: key, Value: "v"}, api.ErrNone)
	}
	tells(t, x, Op{Kind: Put, Key: numbered(0), Value: "v"}, "0")
	tells(t, x, Op{Kind: Append, Key: numbered(15), Value: "v"}, "15v")
	tells(t, x, Op{Kind: Swap, Key: numbered(7), Value: "v", Old: "7"}, "7")
	refuses(t, x, Op{Kind: Append, Key: numbered(7), Value: longValue}, api.ErrLong)
	tells(t, x, Op{Kind: Delete, Key: numbered(4)}, "4")
	if x.Len() != 15 {
		t.Error(x.Len())
	}
	tells(t, x, Op{Kind: Append, Key: "z", Value: "v"}, "v")
	refuses(t, x, Op{Kind: Put, Key: numbered(4)}, api.ErrFull)
}

// 13.3.

func TestText(t *testing.T) {
	x := New()
	holds(t, x)
	if x.Text() != "" {
		t.Errorf("%q", x.Text())
	}
	for _, key := range []string{"b", "\xff", "a", "B", "ab", "\x00", "é", "a\x00", "10", "9"} {
		tells(t, x, Op{Kind: Put, Key: key, Value: key + "!"}, "")
	}
	want := "1:\x00,2:\x00!,2:10,3:10!,1:9,2:9!,1:B,2:B!,1:a,2:a!,2:a\x00,3:a\x00!,2:ab,3:ab!,1:b,2:b!,2:é,3:é!,1:\xff,2:\xff!,"
	if s := x.Text(); s != want {
		t.Errorf("%q", s)
	}
}

func TestLoad(t *testing.T) {
	for _, l := range [][]string{
		nil,
		{"k", "v"},
		{"k", ""},
		{"a", "1:x,", "b", ","},
		{"\x00", "1", "\x00\x00", "2", "\xff", "3"},
		{longKey, longValue},
		{longKey[1:], "", longKey, ""},
	} {
		holds(t, loaded(t, nest.Pack(l)), l...)
	}
	x := full(t)
	y := loaded(t, x.Text())
	if y.Text() != x.Text() || y.Len() != api.MaxRows {
		t.Errorf("%q", y.Text())
	}
}

func TestLoadWrong(t *testing.T) {
	over := full(t).Text() + nest.Pack([]string{"z", ""})
	lists := []string{
		nest.Pack([]string{longKey + "k", "v"}), nest.Pack([]string{"k", longValue + "v"}), over, over + over,
		nest.Pack([]string{"a", "", "b"}), nest.Pack([]string{"a", "", "", ""}), nest.Pack([]string{"", "", "a", ""}),
		nest.Pack([]string{"a", "", "a", ""}), nest.Pack([]string{"b", "", "a", ""}), nest.Pack([]string{"ab", "", "a", ""}),
		nest.Pack([]string{"a", "", "c", "", "b", ""}), nest.Pack([]string{"9", "", "10", ""}), nest.Pack([]string{"\xff", "", "\x00", ""}),
		nest.Pack([]string{nest.Pack([]string{"k", "v"})}),
	}
	for _, s := range append(lists, "x", "1:k,", "1:k,1:v", "1:k,1:v,x", "01:k,1:v,", "1:k,2:v,", "0:,", "0:,0:,", " ", "1:k,1:v,,", "1:k1:v,") {
		if x, err := Load(s); x != nil || err != api.ErrForm {
			t.Errorf("Load(%q): %v, %v", s, x, err)
		}
	}
}

// Of all lists of up to five short texts just those of rows are loaded, and each of them is the text of what was loaded.
func TestLoadAllShort(t *testing.T) {
	texts := []string{"", "a", "b", "ab", longKey + "c"}
	var grow func(l []string)
	grow = func(l []string) {
		text := nest.Pack(l)
		right := len(l)%2 == 0
		for i := 0; i < len(l); i += 2 {
			right = right && l[i] != "" && len(l[i]) <= api.MaxKey && (i == 0 || l[i-2] < l[i])
		}
		x, err := Load(text)
		if right != (err == api.OK) || right != (x != nil) || right && x.Text() != text || !right && err != api.ErrForm {
			t.Errorf("Load(%q): %v, %v", text, x, err)
		}
		if len(l) == 5 {
			return
		}
		for _, s := range texts {
			grow(append(slices.Clone(l), s))
		}
	}
	grow(nil)
}

// A nil table, and one that New did not make.

func TestNilTable(t *testing.T) {
	var x *Table
	for o, want := range wrongOps() {
		refuses(t, x, o, want)
	}
	for kind := Get; kind <= Swap; kind++ {
		refuses(t, x, Op{Kind: kind, Key: "k"}, api.ErrState)
	}
	if x.Text() != "" || x.Len() != 0 {
		t.Error(x.Text(), x.Len())
	}
}

func TestZeroTable(t *testing.T) {
	var x Table
	holds(t, &x)
	refuses(t, &x, Op{Kind: Get, Key: "k"}, api.ErrNone)
	tells(t, &x, Op{Kind: Append, Key: "k", Value: "v"}, "v")
	holds(t, &x, "k", "v")
}

func TestTablesAreApart(t *testing.T) {
	x := full(t)
	text := x.Text()
	y, z := loaded(t, text), loaded(t, text)
	tells(t, y, Op{Kind: Delete, Key: numbered(3)}, "3")
	tells(t, y, Op{Kind: Put, Key: numbered(4), Value: "v"}, "4")
	tells(t, y, Op{Kind: Put, Key: "a", Value: "v"}, "")
	if x.Text() != text || z.Text() != text || New().Len() != 0 {
		t.Errorf("%q, %q", x.Text(), z.Text())
	}
}

// 13.4, and all of 13.2 in runs.

// model has rows as a map.
type model map[string]string

func (m model) do(o Op) (string, api.Errno) {
	had, there := m[o.Key]
	none := map[bool]api.Errno{true: api.OK, false: api.ErrNone}[there]
	room := api.OK
	if !there && len(m) == 16 {
		room = api.ErrFull
	}
	switch o.Kind {
	case Get:
		return had, none
	case Delete:
		delete(m, o.Key)
		return had, none
	case Put:
		if room != api.OK {
			return "", room
		}
		m[o.Key] = o.Value
		return had, api.OK
	case Append:
		if room != api.OK {
			return "", room
		}
		if len(had)+len(o.Value) > 64 {
			return "", api.ErrLong
		}
		m[o.Key] = had + o.Value
		return m[o.Key], api.OK
	}
	if !there {
		return "", none
	}
	if had != o.Old {
		return "", api.ErrState
	}
	m[o.Key] = o.Value
	return had, api.OK
}

func (m model) text() string {
	var keys, l []string
	for key := range m {
		keys = append(keys, key)
	}
	sort.Strings(keys)
	for _, key := range keys {
		l = append(l, key, m[key])
	}
	return nest.Pack(l)
}

func randomOp(rnd *rand.Rand, m model) Op {
	o := Op{Kind: 1 + rnd.Intn(5), Key: string(rune('a'+rnd.Intn(5))) + strings.Repeat("x", rnd.Intn(4))}
	if o.Kind == Delete && rnd.Intn(2) == 0 {
		o.Kind = Put // so that tables become full
	}
	if o.Kind == Put || o.Kind == Append || o.Kind == Swap {
		o.Value = strings.Repeat(string(rune('a'+rnd.Intn(3))), rnd.Intn(33)*rnd.Intn(3))
	}
	if o.Kind == Swap && rnd.Intn(4) > 0 {
		o.Old = m[o.Key]
	}
	return o
}

func TestAgainstModel(t *testing.T) {
	rnd := rand.New(rand.NewSource(1))
	met := map[api.Errno]int{}
	for round := range 40 {
		m, x := model{}, New()
		var y *Table // of the text of x, anew now and then
		for step := range 400 {
			if step%20 == 0 {
				y = loaded(t, x.Text())
			}
			o := randomOp(rnd, m)
			want, wantErr := m.do(o)
			s, err := x.Do(o)
			u, uErr := y.Do(o)
			if s != want || err != wantErr || u != want || uErr != wantErr {
				t.Fatalf("round %d, step %d: Do(%v): %q, %v and %q, %v, not %q, %v", round, step, o, s, err, u, uErr, want, wantErr)
			}
			if x.Text() != m.text() || y.Text() != m.text() || x.Len() != len(m) || y.Len() != len(m) {
				t.Fatalf("round %d, step %d: Do(%v): %q and %q, not %q", round, step, o, x.Text(), y.Text(), m.text())
			}
			met[err]++
		}
	}
	for _, err := range []api.Errno{api.OK, api.ErrNone, api.ErrFull, api.ErrLong, api.ErrState} {
		if met[err] < 20 {
			t.Errorf("%v came %d times", err, met[err])
		}
	}
}
