package memo

import (
	"math"
	"math/rand"
	"strings"
	"testing"

	"wapentake/api"
	"wapentake/mark"
	"wapentake/nest"
	"wapentake/seal"
	"wapentake/shift"
)

const someTag = "0123456789abcdef"

var (
	replica = api.Party{Group: 1, No: 2}
	client  = api.Party{Group: -1, No: 3}
)

func ring(t *testing.T) *seal.Ring {
	t.Helper()
	r, err := seal.New("seed")
	if err != api.OK {
		t.Fatal(err)
	}
	return r
}

// row is what the chapter's table says of a kind: who may tell it, from where on its numbers are (none: -1), whether it has a text, a tag.
type row struct {
	kind         int
	anyone       bool
	view, number int
	text, tag    bool
}

// rows has the numbers of the kinds as the chapter gives them.
var rows = []row{
	{kind: 1, anyone: true, view: -1, number: -1, text: true},
	{kind: 2, view: 0, number: 1, text: true, tag: true},
	{kind: 3, view: 0, number: 1, text: true, tag: true},
	{kind: 4, view: -1, number: 1, text: true, tag: true},
	{kind: 5, view: 1, number: -1, text: true, tag: true},
	{kind: 6, view: 1, number: -1, text: true},
	{kind: 7, view: -1, number: -1, text: true},
	{kind: 8, view: 0, number: 0, tag: true},
	{kind: 9, view: 0, number: 1, text: true, tag: true},
	{kind: 10, view: -1, number: -1, text: true, tag: true},
	{kind: 11, view: -1, number: -1, text: true, tag: true},
	{kind: 12, anyone: true, view: -1, number: 0},
}

// least is the memo of a kind all of whose fields are as low as they may be.
func (x row) least() Memo {
	m := Memo{Kind: x.kind, From: replica, View: max(x.view, 0), Number: max(x.number, 0)}
	if x.tag {
		m.Tag = someTag
	}
	return m
}

// full is one with something in each field that its kind has.
func (x row) full() Memo {
	m := x.least()
	if x.view >= 0 {
		m.View = 7
	}
	if x.number >= 0 {
		m.Number = 9
	}
	if x.text {
		m.Text = "text"
	}
	return m
}

func wantCheck(t *testing.T, m Memo, want api.Errno) {
	t.Helper()
	short := m
	if len(short.Text) > 100 {
		short.Text = short.Text[:100] + ".."
	}
	if err := Check(m); err != want {
		t.Errorf("Check(%+v): %v, not %v", short, err, want)
	}
	if b, err := Encode(m); err != want || (want != api.OK) != (b == "") {
		t.Errorf("Encode(%+v): %v, not %v", short, err, want)
	}
	if want != api.OK {
		if err := Verify(nil, m); err != want {
			t.Errorf("Verify(%+v): %v, not %v", short, err, want)
		}
	}
}

// 19.1.

func TestKinds(t *testing.T) {
	for i, kind := range []int{Ask, Order, Settle, Mark, Change, Begin, Stable, Status, Reply, Config, Claim, Want} {
		if kind != i+1 {
			t.Errorf("kind %d is %d", i+1, kind)
		}
	}
}

func TestCheckKind(t *testing.T) {
	for _, kind := range []int{0, -1, 13, 99, math.MinInt, math.MaxInt} {
		// What else is wrong is not told first.
		for _, m := range []Memo{{Kind: kind}, {Kind: kind, From: replica, Tag: someTag}, {Kind: kind, From: api.Party{Group: 9}, View: -1}} {
			wantCheck(t, m, api.ErrArg)
			if text, err := Said(m); text != "" || err != api.ErrArg {
				t.Errorf("Said(%+v): %q, %v", m, text, err)
			}
			if x, err := Sign(nil, m); x != (Memo{}) || err != api.ErrArg {
				t.Errorf("Sign(%+v): %+v, %v", m, x, err)
			}
		}
	}
}

func TestCheckFrom(t *testing.T) {
	for _, x := range rows {
		m := x.full()
		for _, from := range []api.Party{{Group: -2}, {Group: 5}, {Group: 1, No: -1}, {Group: 1, No: 16}, {Group: -1, No: 16}, {Group: math.MaxInt}, {Group: 0, No: math.MinInt}} {
			m.From = from
			wantCheck(t, m, api.ErrArg)
			m.View = -1
			wantCheck(t, m, api.ErrArg)
			m.View = x.full().View
		}
		for _, from := range []api.Party{{Group: 0, No: 0}, {Group: 4, No: 15}} {
			m.From = from
			wantCheck(t, m, api.OK)
		}
		want := api.ErrArg
		if x.anyone {
			want = api.OK
		}
		for _, from := range []api.Party{client, {Group: -1, No: 0}, {Group: -1, No: 15}} {
			m.From = from
			wantCheck(t, m, want)
		}
	}
}

func TestCheckNumbers(t *testing.T) {
	for _, x := range rows {
		for _, n := range []int{math.MinInt, -1, 0, 1, 2, api.MaxBig, api.MaxBig + 1, math.MaxInt} {
			as := func(least int) api.Errno {
				if least < 0 && n == 0 || least >= 0 && n >= least && n <= api.MaxBig {
					return api.OK
				}
				return api.ErrForm
			}
			m := x.full()
			m.View = n
			wantCheck(t, m, as(x.view))
			m = x.full()
			m.Number = n
			wantCheck(t, m, as(x.number))
		}
	}
}

func TestCheckText(t *testing.T) {
	for _, x := range rows {
		m := x.least()
		wantCheck(t, m, api.OK)
		for _, size := range []int{1, api.MaxText, api.MaxText + 1, api.MaxWire / 2, api.MaxWire/2 + 1, api.MaxWire} {
			m.Text = strings.Repeat("x", size)
			want := api.ErrForm
			if x.text && size <= api.MaxWire/2 {
				want = api.OK
			}
			wantCheck(t, m, want)
		}
	}
}

func TestCheckTag(t *testing.T) {
	for _, x := range rows {
		for _, size := range []int{0, 1, 15, 16, 17, 32} {
			m := x.full()
			m.Tag = strings.Repeat("t", size)
			want := api.ErrForm
			if x.tag && size == 16 || !x.tag && size == 0 {
				want = api.OK
			}
			wantCheck(t, m, want)
		}
	}
}

func TestSaid(t *testing.T) {
	order, _ := shift.Order(1, 7, 9, "text")
	settle, _ := shift.Settle(1, 7, 9, "text")
	marked, _ := mark.Text(1, 9, "text")
	want := []string{
		Order:  order,
		Settle: settle,
		Mark:   marked,
		Change: nest.Pack([]string{"memo", "5", "1", "7", "0", "text"}),
		Status: nest.Pack([]string{"memo", "8", "1", "7", "9", ""}),
		Reply:  nest.Pack([]string{"memo", "9", "1", "7", "9", "text"}),
		Config: "text",
		Claim:  "text",
		Want:   "",
	}
	for _, x := range rows {
		m := x.full()
		for _, tag := range []string{m.Tag, ""} {
			m.Tag = tag
			text, err := Said(m)
			if x.tag && (text != want[x.kind] || err != api.OK) || !x.tag && (text != "" || err != api.ErrNone) {
				t.Errorf("Said(%+v): %q, %v", m, text, err)
			}
		}
	}
}

// Of a kind without a tag ErrNone comes first, whatever else is wrong; of the others Check's errors, but for a tag that is not there.
func TestSaidFaults(t *testing.T) {
	for _, x := range rows {
		for _, spoil := range []struct {
			how  func(*Memo)
			want api.Errno
		}{
			{func(m *Memo) { m.From.Group = 9 }, api.ErrArg},
			{func(m *Memo) { m.From = client }, api.ErrArg},
			{func(m *Memo) { m.From.No, m.View = -1, -1 }, api.ErrArg},
			{func(m *Memo) { m.View = -1 }, api.ErrForm},
			{func(m *Memo) { m.Number = api.MaxBig + 1 }, api.ErrForm},
			{func(m *Memo) { m.Text = strings.Repeat("x", api.MaxWire/2+1) }, api.ErrForm},
			{func(m *Memo) { m.Tag = "short" }, api.ErrForm},
			{func(m *Memo) { m.Tag = someTag + "x" }, api.ErrForm},
		} {
			m := x.full()
			spoil.how(&m)
			want := spoil.want
			if !x.tag {
				want = api.ErrNone
			}
			if text, err := Said(m); text != "" || err != want {
				t.Errorf("Said(kind %d, %v): %q, %v, not %v", x.kind, m.From, text, err, want)
			}
		}
	}
}

// What shift and mark take for too long can't be said; a text of its own, and one that is signed as it is, may be longer than that.
func TestSaidLong(t *testing.T) {
	for _, x := range rows {
		if !x.tag || !x.text {
			continue
		}
		m := x.full()
		m.Text = strings.Repeat("x", api.MaxText)
		want := api.OK
		if x.kind == Order || x.kind == Settle || x.kind == Mark {
			want = api.ErrLong
		}
		if _, err := Said(m); err != want {
			t.Errorf("Said(kind %d): %v, not %v", x.kind, err, want)
		}
		if y, err := Sign(ring(t), m); err != want || want != api.OK && y != (Memo{}) {
			t.Errorf("Sign(kind %d): %v, not %v", x.kind, err, want)
		}
		if err := Verify(nil, m); want != api.OK && err != want {
			t.Errorf("Verify(kind %d): %v, not %v", x.kind, err, want)
		}
	}
}

// 19.2.

func TestSign(t *testing.T) {
	r := ring(t)
	for _, x := range rows {
		m := x.full()
		want := m
		if x.tag {
			text, _ := Said(m)
			want.Tag, _ = r.Tag(replica, text)
		}
		// A tag that is there is no matter.
		for _, tag := range []string{m.Tag, ""} {
			m.Tag = tag
			got, err := Sign(r, m)
			if got != want || err != api.OK {
				t.Errorf("Sign(%+v): %+v, %v", m, got, err)
			}
		}
	}
}

func TestSignFaults(t *testing.T) {
	r := ring(t)
	for _, x := range rows {
		for _, spoil := range []struct {
			how  func(*Memo)
			want api.Errno
		}{
			{func(m *Memo) { m.From.Group = 9 }, api.ErrArg},
			{func(m *Memo) { m.View = -1 }, api.ErrForm},
			{func(m *Memo) { m.Number = -1 }, api.ErrForm},
			{func(m *Memo) { m.Text = strings.Repeat("x", api.MaxWire) }, api.ErrForm},
			{func(m *Memo) { m.Tag = "short" }, api.ErrForm},
		} {
			m := x.full()
			spoil.how(&m)
			for _, by := range []*seal.Ring{r, nil} {
				if got, err := Sign(by, m); got != (Memo{}) || err != spoil.want {
					t.Errorf("Sign(kind %d): %v, not %v", x.kind, err, spoil.want)
				}
			}
		}
	}
}

func TestVerify(t *testing.T) {
	r := ring(t)
	for _, x := range rows {
		m, err := Sign(r, x.full())
		if err != api.OK {
			t.Fatal(err)
		}
		if err := Verify(r, m); err != api.OK {
			t.Errorf("Verify(%+v): %v", m, err)
		}
		if !x.tag {
			continue
		}
		for i, spoil := range []func(*Memo){
			func(m *Memo) { m.Tag = someTag },
			func(m *Memo) { m.Tag = m.Tag[:15] + string([]byte{m.Tag[15] ^ 1}) },
			func(m *Memo) { m.From.No++ },
			func(m *Memo) { m.From.Group++ },
			func(m *Memo) { m.View += min(x.view+1, 1) },
			func(m *Memo) { m.Number += min(x.number+1, 1) },
			func(m *Memo) { m.Text += strings.Repeat("x", len(m.Text)/4) },
		} {
			y := m
			spoil(&y)
			if err := Verify(r, y); y != m && err != api.ErrTag {
				t.Errorf("kind %d, %d: %v", x.kind, i, err)
			}
		}
	}
}

// An order's tag is no settlement's, and what has a text of its own is of its kind alone. (A configuration and a claim are signed as they are, and are told apart by their texts.)
func TestVerifyOtherKinds(t *testing.T) {
	r := ring(t)
	isPlain := func(kind int) bool { return kind == Config || kind == Claim }
	for _, x := range rows {
		m, _ := Sign(r, x.full())
		for _, y := range rows {
			other := y.full()
			other.Tag = m.Tag
			want := api.ErrTag
			if x.kind == y.kind || isPlain(x.kind) && isPlain(y.kind) {
				want = api.OK
			}
			if err := Verify(r, other); x.tag && y.tag && err != want {
				t.Errorf("%d as %d: %v, not %v", x.kind, y.kind, err, want)
			}
		}
	}
}

func TestNilRing(t *testing.T) {
	for _, x := range rows {
		want := api.OK
		if x.tag {
			want = api.ErrState
		}
		m := x.full()
		if got, err := Sign(nil, m); err != want || want == api.OK && got != m || want != api.OK && got != (Memo{}) {
			t.Errorf("Sign(nil, kind %d): %+v, %v", x.kind, got, err)
		}
		if err := Verify(nil, m); err != want {
			t.Errorf("Verify(nil, kind %d): %v", x.kind, err)
		}
	}
}

// 19.3.

func TestEncode(t *testing.T) {
	s, err := Encode(Memo{Kind: Want, From: api.Party{Group: -1}, Number: 3})
	if s != "2:12,9:2:-1,1:0,,1:0,1:3,0:,0:," || err != api.OK {
		t.Errorf("%q, %v", s, err)
	}
	s, err = Encode(Memo{Kind: Status, From: replica, View: 70, Number: 9, Tag: someTag})
	if s != "1:8,8:1:1,1:2,,2:70,1:9,0:,16:"+someTag+"," || err != api.OK {
		t.Errorf("%q, %v", s, err)
	}
}

func TestDecode(t *testing.T) {
	for _, x := range rows {
		for _, m := range []Memo{x.least(), x.full()} {
			b, err := Encode(m)
			if err != api.OK {
				t.Fatal(err)
			}
			if got, err := Decode(b); got != m || err != api.OK {
				t.Errorf("Decode(%q): %+v, %v", b, got, err)
			}
		}
	}
	long := Memo{Kind: Ask, From: client, Text: strings.Repeat("\x00", api.MaxWire/2)}
	b, _ := Encode(long)
	if len(b) > api.MaxWire {
		t.Errorf("%d bytes", len(b))
	}
	if got, err := Decode(b); got != long || err != api.OK {
		t.Error(err)
	}
}

func TestDecodeFaults(t *testing.T) {
	name := "1:1,1:2,"
	good := []string{"2", name, "7", "9", "text", someTag}
	if _, err := Decode(nest.Pack(good)); err != api.OK {
		t.Fatal(err)
	}
	bad := []string{"", "x", nest.Pack(good) + "x", nest.Pack(good) + "0:,", nest.Pack(good[:5]), nest.Pack(append(good, "")), nest.Pack(good)[1:]}
	for i, l := range [][]string{
		{"0", "1", "7", "8", "13", "-2", "02", "+2", "", "x", "2 ", "99999999999999999999"},
		{"", "1:1,", "1:9,1:2,", "1:1,2:16,", "2:-1,1:2,", "2:01,1:2,", "1:1,1:2,0:,", "1:x,1:2,"},
		{"", "-1", "07", "x", "1099511627777", "99999999999999999999"},
		{"", "0", "-1", "09", "x", "1099511627777"},
		{strings.Repeat("x", api.MaxWire/2+1)},
		{"", "short", someTag + "x"},
	} {
		for _, s := range l {
			spoilt := append([]string(nil), good...)
			spoilt[i] = s
			bad = append(bad, nest.Pack(spoilt))
		}
	}
	for _, b := range bad {
		if m, err := Decode(b); m != (Memo{}) || err != api.ErrForm {
			t.Errorf("Decode(%.80q): %+v, %v", b, m, err)
		}
	}
}

// 19.4.

// some is a memo of a kind with what it may have, at random.
func some(rnd *rand.Rand, x row) Memo {
	m := x.least()
	m.Tag = ""
	m.From = api.Party{Group: rnd.Intn(5), No: rnd.Intn(16)}
	if x.anyone && rnd.Intn(2) == 0 {
		m.From.Group = -1
	}
	if x.view >= 0 {
		m.View += rnd.Intn(1 << rnd.Intn(40))
	}
	if x.number >= 0 {
		m.Number += rnd.Intn(1 << rnd.Intn(40))
	}
	if x.text {
		b := make([]byte, rnd.Intn(200))
		rnd.Read(b)
		m.Text = string(b)
	}
	return m
}

func TestSignedIsVerifiedEncodedDecoded(t *testing.T) {
	r := ring(t)
	rnd := rand.New(rand.NewSource(1))
	for range 300 {
		for _, x := range rows {
			m, err := Sign(r, some(rnd, x))
			if err != api.OK {
				t.Fatal(err)
			}
			b, err := Encode(m)
			if err != api.OK {
				t.Fatal(err)
			}
			y, err := Decode(b)
			if y != m || err != api.OK {
				t.Fatalf("%+v: %+v, %v", m, y, err)
			}
			if err := Verify(r, y); err != api.OK {
				t.Fatalf("%+v: %v", y, err)
			}
		}
	}
}

// P1, and that bytes of a memo are those of just one.
func TestDecodeIsTotal(t *testing.T) {
	rnd := rand.New(rand.NewSource(2))
	taken := 0
	for range 20000 {
		m := some(rnd, rows[rnd.Intn(len(rows))])
		if rows[m.Kind-1].tag {
			m.Tag = someTag
		}
		s, err := Encode(m)
		if err != api.OK {
			t.Fatal(err)
		}
		b := []byte(s)
		for range rnd.Intn(3) {
			b[rnd.Intn(len(b))] = "0123456789:,-x"[rnd.Intn(14)]
		}
		got, err := Decode(string(b))
		if err != api.OK {
			if got != (Memo{}) || err != api.ErrForm {
				t.Fatalf("%q: %+v, %v", b, got, err)
			}
			continue
		}
		taken++
		if same, err := Encode(got); same != string(b) || err != api.OK {
			t.Fatalf("%q: %q, %v", b, same, err)
		}
	}
	if taken < 1000 {
		t.Errorf("only %d were memos", taken)
	}
}

// R6.
func TestSameCallTellsTheSame(t *testing.T) {
	r := ring(t)
	for _, x := range rows {
		m := x.full()
		a, _ := Sign(r, m)
		b, _ := Sign(r, m)
		if a != b {
			t.Errorf("%+v, %+v", a, b)
		}
		if Verify(r, a) != Verify(r, a) {
			t.Error(x.kind)
		}
	}
}
