package shard

import (
	"math"
	"math/rand"
	"reflect"
	"strings"
	"testing"

	"wapentake/api"
	"wapentake/nest"
	"wapentake/table"
)

var (
	longValue = strings.Repeat("v", api.MaxValue)
	noClients = []int{-1, 8, 9, math.MinInt, math.MaxInt}
	noNumbers = []int{0, -1, api.MaxBig + 1, math.MinInt, math.MaxInt}
	statuses  = []int{Absent, Serving, Frozen, Pulling}
)

func put(key, value string) table.Op {
	return table.Op{Kind: table.Put, Key: key, Value: value}
}

func appendTo(key, value string) table.Op {
	return table.Op{Kind: table.Append, Key: key, Value: value}
}

func get(key string) table.Op {
	return table.Op{Kind: table.Get, Key: key}
}

func right(t *testing.T, err api.Errno) {
	t.Helper()
	if err != api.OK {
		t.Fatal(err)
	}
}

func tells(t *testing.T, s *Shard, client, number int, o table.Op, want Answer, now bool) {
	t.Helper()
	if a, is, err := s.Do(client, number, o); a != want || is != now || err != api.OK {
		t.Errorf("Do(%d, %d, %v): %v, %v, %v, not %v, %v", client, number, o, a, is, err, want, now)
	}
}

func refuses(t *testing.T, s *Shard, client, number int, o table.Op, want api.Errno) {
	t.Helper()
	text := s.Text()
	if a, is, err := s.Do(client, number, o); a != (Answer{}) || is || err != want {
		t.Errorf("Do(%d, %d, %v): %v, %v, %v, not %v", client, number, o, a, is, err, want)
	}
	is(t, s, text)
}

// is looks for a shard's text, and what goes with it.
func is(t *testing.T, s *Shard, text string) {
	t.Helper()
	l, err := nest.Unpack(text)
	if err != api.OK || len(l) != 2 {
		t.Fatalf("%q: %v", text, err)
	}
	if s.Text() != text || nest.Num(s.Status()) != l[0] || s.Content() != l[1] {
		t.Errorf("%q, status %d, content %q, not %q", s.Text(), s.Status(), s.Content(), text)
	}
}

func textOf(status int, content string) string {
	return nest.Pack([]string{nest.Num(status), content})
}

func loaded(t *testing.T, text string) *Shard {
	t.Helper()
	s, err := Load(text)
	if s == nil || err != api.OK {
		t.Fatalf("Load(%q): %v, %v", text, s, err)
	}
	return s
}

// some is a shard of that status, with a row and two clients, if it has a content.
func some(t *testing.T, status int) *Shard {
	t.Helper()
	s := New()
	switch status {
	case Pulling:
		right(t, s.Pull())
	case Serving, Frozen:
		right(t, s.Begin())
		tells(t, s, 2, 7, put("k", "a"), Answer{}, true)
		tells(t, s, 5, 3, get("j"), Answer{Err: api.ErrNone}, true)
	}
	if status == Frozen {
		right(t, s.Freeze())
	}
	return s
}

// someContent is the content of some.
const someContent = "8:1:k,1:a,,1:2,1:7,1:0,0:,1:5,1:3,1:6,0:,"

// 14.1.

func TestStatuses(t *testing.T) {
	if Absent != 0 || Serving != 1 || Frozen != 2 || Pulling != 3 {
		t.Error(Absent, Serving, Frozen, Pulling)
	}
	s := New()
	is(t, s, "1:0,0:,")
	right(t, s.Begin())
	is(t, s, "1:1,3:0:,,")
	right(t, s.Freeze())
	is(t, s, "1:2,3:0:,,")
	right(t, s.Drop())
	is(t, s, "1:0,0:,")
	right(t, s.Pull())
	is(t, s, "1:3,0:,")
	right(t, s.Install("0:,"))
	is(t, s, "1:1,3:0:,,")
}

// Of each status each step that is not one from there is refused, and changes nothing.
func TestSteps(t *testing.T) {
	steps := []struct {
		name     string
		from, to int
		content  string // behind it, if it has one
		do       func(s *Shard) api.Errno
	}{
		{"Begin", Absent, Serving, "0:,", (*Shard).Begin},
		{"Pull", Absent, Pulling, "", (*Shard).Pull},
		{"Freeze", Serving, Frozen, someContent, (*Shard).Freeze},
		{"Drop", Frozen, Absent, "", (*Shard).Drop},
		{"Install", Pulling, Serving, someContent, func(s *Shard) api.Errno { return s.Install(someContent) }},
		{"Install of none", -1, 0, "", func(s *Shard) api.Errno {
			if s.Status() == Pulling {
				return api.ErrState // TestInstallWrong has it
			}
			return s.Install("x") // its state is looked at first
		}},
	}
	for _, status := range statuses {
		for _, step := range steps {
			s := some(t, status)
			before := s.Text()
			err := step.do(s)
			if status != step.from {
				if err != api.ErrState {
					t.Errorf("%s of status %d: %v", step.name, status, err)
				}
				is(t, s, before)
				continue
			}
			if err != api.OK {
				t.Errorf("%s of status %d: %v", step.name, status, err)
			}
			is(t, s, textOf(step.to, step.content))
		}
	}
}

// What was dropped is not there when the shard begins, or is pulled, again.
func TestDropForgets(t *testing.T) {
	s := some(t, Frozen)
	right(t, s.Drop())
	right(t, s.Begin())
	is(t, s, "1:1,3:0:,,")
	tells(t, s, 2, 1, get("k"), Answer{Err: api.ErrNone}, true)
	s = some(t, Frozen)
	right(t, s.Drop())
	right(t, s.Pull())
	right(t, s.Install("8:1:k,1:b,,"))
	tells(t, s, 5, 1, get("k"), Answer{Value: "b"}, true)
	tells(t, s, 2, 1, get("k"), Answer{Value: "b"}, true)
}

func TestInstall(t *testing.T) {
	for _, content := range rightContents() {
		s := some(t, Pulling)
		if err := s.Install(content); err != api.OK {
			t.Errorf("Install(%q): %v", content, err)
		}
		is(t, s, textOf(Serving, content))
	}
	s := some(t, Pulling)
	right(t, s.Install(someContent))
	tells(t, s, 2, 7, put("k", "z"), Answer{}, false)
	tells(t, s, 5, 3, put("k", "z"), Answer{Err: api.ErrNone}, false)
	refuses(t, s, 2, 6, get("k"), api.ErrNone)
	tells(t, s, 2, 8, get("k"), Answer{Value: "a"}, true)
}

func TestInstallWrong(t *testing.T) {
	for _, content := range wrongContents() {
		s := some(t, Pulling)
		if err := s.Install(content); err != api.ErrForm {
			t.Errorf("Install(%q): %v", content, err)
		}
		is(t, s, "1:3,0:,")
		right(t, s.Install("0:,"))
	}
}

// allClients are the texts of clients of a content that has all of them.
func allClients() []string {
	var l []string
	for client := range api.MaxTables {
		l = append(l, nest.Num(client), nest.Num(100-client), "0", "v")
	}
	return l
}

// fullTable is the text of a table with as many rows as can be.
func fullTable() string {
	var l []string
	for i := range api.MaxRows {
		l = append(l, "key"+nest.Num(10+i), longValue)
	}
	return nest.Pack(l)
}

func rightContents() []string {
	lists := [][]string{
		{""},
		{"1:k,1:a,"},
		{"1:k,0:,"},
		{"", "0", "1", "0", ""},
		{"", "7", "1099511627776", "999", longValue},
		{"1:k,1:a,", "3", "10", "1", "x"}, // beside an error may stand a value: the chapter rules none out
		{"", "0", "5", "0", "1:x,", "7", "4", "130", ""},
		append([]string{""}, allClients()...),
		append([]string{fullTable()}, allClients()...),
	}
	l := []string{someContent}
	for _, x := range lists {
		l = append(l, nest.Pack(x))
	}
	return l
}

func wrongContents() []string {
	l := []string{"", "x", "0:", "1:k,1:a,", "0:,x", "00:,", "8:1:k,1:a,", someContent[1:], someContent + "x", someContent[:len(someContent)-1]}
	for _, t := range []string{"x", "1:k,", "0:,1:a,", "1:k,1:a,1:j,1:b,", "1:k,1:a,1:k,1:b,", "01:k,1:a,", fullTable() + "1:z,0:,"} {
		l = append(l, nest.Pack([]string{t}), nest.Pack([]string{t, "0", "1", "0", ""}))
	}
	for i, texts := range [][]string{
		{"", "-1", "8", "00", "01", "+1", " 1", "1 ", "x", "-0", "9223372036854775807", "99999999999999999999"},
		{"", "0", "-1", "1099511627777", "05", "+5", "5x", "99999999999999999999"},
		{"", "-1", "1000", "00", "06", "+6", "x", "99999999999999999999"},
		{longValue + "v", strings.Repeat("v", 1000)},
	} {
		for _, text := range texts {
			x := []string{"", "3", "5", "6", "v"}
			x[1+i] = text
			l = append(l, nest.Pack(x), nest.Pack(append([]string{"", "0", "5", "0", "v"}, x[1:]...)))
		}
	}
	for _, x := range [][]string{
		{"", "0"}, {"", "0", "1"}, {"", "0", "1", "0"}, {"", "0", "1", "0", "", ""}, {"0", "1", "0", ""},
		{"", "0", "1", "0", "", "1", "1", "0"},
		{"", "1", "5", "0", "v", "1", "6", "0", "v"},                     // a client twice
		{"", "1", "5", "0", "v", "0", "6", "0", "v"},                     // clients that fall
		{"", "0", "5", "0", "v", "7", "6", "0", "v", "3", "6", "0", "v"}, // one that falls behind some that rise
		append(append([]string{""}, allClients()...), "8", "1", "0", ""), // one too many
		append(append([]string{""}, allClients()...), "7", "1", "0", ""), // the last one twice
		append(append([]string{""}, allClients()...), allClients()...),   // all of them twice
		{"", nest.Pack([]string{"0", "1", "0", ""})},                     // clients as lists
		{"", nest.Pack([]string{"0", "1", "0", ""}), "", "", ""},         // likewise
	} {
		l = append(l, nest.Pack(x))
	}
	return l
}

// 14.2.

func TestExample(t *testing.T) {
	s := New()
	right(t, s.Begin())
	tells(t, s, 0, 5, put("k", "a"), Answer{}, true)
	tells(t, s, 0, 5, put("k", "b"), Answer{}, false)
	tells(t, s, 1, 1, get("k"), Answer{Value: "a"}, true)
	right(t, s.Freeze())
	refuses(t, s, 0, 6, put("k", "b"), api.ErrState)
	refuses(t, s, 0, 5, put("k", "a"), api.ErrState)
}

func TestDoNumbers(t *testing.T) {
	s := some(t, Serving)
	for client := range api.MaxTables {
		if client != 2 && client != 5 {
			tells(t, s, client, 7, appendTo("x", nest.Num(client)), Answer{Value: "013467"[:strings.Index("013467", nest.Num(client))+1]}, true)
		}
	}
	refuses(t, s, 2, 6, put("k", "b"), api.ErrNone)
	refuses(t, s, 2, 1, put("k", "b"), api.ErrNone)
	refuses(t, s, 2, 6, table.Op{}, api.ErrNone)
	tells(t, s, 2, 7, put("k", "b"), Answer{}, false)
	tells(t, s, 2, 7, get("k"), Answer{}, false)
	tells(t, s, 2, 7, table.Op{}, Answer{}, false)
	tells(t, s, 2, 8, put("k", "b"), Answer{Value: "a"}, true)
	tells(t, s, 2, 8, put("k", "c"), Answer{Value: "a"}, false)
	tells(t, s, 2, api.MaxBig, get("k"), Answer{Value: "b"}, true) // numbers may be left out
	tells(t, s, 2, api.MaxBig, put("k", "c"), Answer{Value: "b"}, false)
	refuses(t, s, 2, api.MaxBig-1, put("k", "c"), api.ErrNone)
	refuses(t, s, 2, 8, put("k", "b"), api.ErrNone)
	tells(t, s, 5, 4, get("k"), Answer{Value: "b"}, true)
	tells(t, s, 5, 4, get("x"), Answer{Value: "b"}, false)
	tells(t, s, 0, 8, get("x"), Answer{Value: "013467"}, true)
}

// What the table refuses is an answer too, also where it is no operation: the number is done with it.
func TestDoTableErrors(t *testing.T) {
	s := New()
	right(t, s.Begin())
	for i, c := range []struct {
		o    table.Op
		want api.Errno
	}{
		{get("k"), api.ErrNone},
		{table.Op{}, api.ErrArg},
		{table.Op{Kind: 6, Key: "k"}, api.ErrArg},
		{put("", "v"), api.ErrRow},
		{put("k", longValue+"v"), api.ErrRow},
		{table.Op{Kind: table.Get, Key: "k", Value: "v"}, api.ErrForm},
		{table.Op{Kind: table.Swap, Key: "k"}, api.ErrNone},
		{table.Op{Kind: table.Delete, Key: "k"}, api.ErrNone},
	} {
		tells(t, s, 3, 10+i, c.o, Answer{Err: c.want}, true)
		tells(t, s, 3, 10+i, put("k", "v"), Answer{Err: c.want}, false)
		refuses(t, s, 3, 9+i, put("k", "v"), api.ErrNone)
		is(t, s, textOf(Serving, nest.Pack([]string{"", "3", nest.Num(10 + i), nest.Num(int(c.want)), ""})))
	}
	tells(t, s, 0, 1, put("k", longValue), Answer{}, true)
	tells(t, s, 0, 2, appendTo("k", "x"), Answer{Err: api.ErrLong}, true)
	tells(t, s, 0, 3, table.Op{Kind: table.Swap, Key: "k"}, Answer{Err: api.ErrState}, true)
	for i := range api.MaxRows - 1 {
		tells(t, s, 0, 4+i, put("key"+nest.Num(i), ""), Answer{}, true)
	}
	tells(t, s, 0, 30, put("x", ""), Answer{Err: api.ErrFull}, true)
	tells(t, s, 0, 30, get("k"), Answer{Err: api.ErrFull}, false)
	tells(t, s, 0, 31, get("k"), Answer{Value: longValue}, true)
}

func TestDoWrong(t *testing.T) {
	for _, status := range statuses {
		s := some(t, status)
		for _, o := range []table.Op{{}, put("k", "z"), get("k")} {
			for _, client := range noClients {
				for _, number := range append(noNumbers, 1, 7, api.MaxBig) {
					refuses(t, s, client, number, o, api.ErrArg)
				}
			}
			for _, number := range noNumbers {
				for client := range api.MaxTables {
					refuses(t, s, client, number, o, api.ErrArg)
				}
			}
		}
	}
}

// 14.5.

func TestOnlyServingDoes(t *testing.T) {
	for _, status := range []int{Absent, Frozen, Pulling} {
		s := some(t, status)
		for _, o := range []table.Op{{}, put("k", "z"), get("k"), {Kind: table.Delete, Key: "k"}} {
			for client := range api.MaxTables {
				for _, number := range []int{1, 3, 6, 7, 8, api.MaxBig} {
					refuses(t, s, client, number, o, api.ErrState)
				}
			}
		}
	}
}

// 14.3.

func TestContent(t *testing.T) {
	for status, want := range []string{"", someContent, someContent, ""} {
		is(t, some(t, status), textOf(status, want))
	}
	s := New()
	right(t, s.Begin())
	for _, client := range []int{7, 0, 3} {
		tells(t, s, client, 10-client, appendTo("k", nest.Num(client)), Answer{Value: "703"[:strings.Index("703", nest.Num(client))+1]}, true)
	}
	is(t, s, textOf(Serving, "10:1:k,3:703,,1:0,2:10,1:0,2:70,1:3,1:7,1:0,3:703,1:7,1:3,1:0,1:7,"))
}

func TestLoad(t *testing.T) {
	for _, status := range statuses {
		s := some(t, status)
		is(t, loaded(t, s.Text()), s.Text())
	}
	for _, content := range rightContents() {
		for _, status := range []int{Serving, Frozen} {
			text := textOf(status, content)
			is(t, loaded(t, text), text)
		}
	}
}

func TestLoadWrong(t *testing.T) {
	l := []string{"", "x", "1:0,", "0:,", "0:,0:,", "1:0,0:,0:,", "1:0,0:,x", "1:0,0:", "01:0,0:,", "1:1,0:,", "1:2,0:,", someContent}
	for _, content := range wrongContents() {
		l = append(l, textOf(Serving, content), textOf(Frozen, content))
	}
	for _, content := range append(rightContents(), "x", " ") {
		l = append(l, textOf(Absent, content), textOf(Pulling, content))
	}
	for _, status := range []string{"", "-1", "4", "00", "01", "+1", "-0", "x", "1x", "99999999999999999999"} {
		l = append(l, nest.Pack([]string{status, ""}), nest.Pack([]string{status, "0:,"}), nest.Pack([]string{status, someContent}))
	}
	for _, text := range l {
		if s, err := Load(text); s != nil || err != api.ErrForm {
			t.Errorf("Load(%q): %v, %v", text, s, err)
		}
	}
}

// Bytes that are changed, lost or added here and there: what is loaded has just that text.
func TestLoadSpoilt(t *testing.T) {
	rnd := rand.New(rand.NewSource(2))
	text := some(t, Serving).Text()
	for range 20000 {
		b := []byte(text)
		for range 1 + rnd.Intn(2) {
			i, x := rnd.Intn(len(b)), "0123456789:,ka\x00-"[rnd.Intn(16)]
			switch rnd.Intn(3) {
			case 0:
				b[i] = x
			case 1:
				b = append(b[:i], b[i+1:]...)
			case 2:
				b = append(b[:i:i], append([]byte{x}, b[i:]...)...)
			}
		}
		s, err := Load(string(b))
		if err == api.OK && s.Text() != string(b) || err != api.OK && (err != api.ErrForm || s != nil) {
			t.Fatalf("Load(%q): %v, %v", b, s, err)
		}
	}
}

// A nil shard, and one that New did not make.

func TestNilShard(t *testing.T) {
	var s *Shard
	is(t, s, New().Text())
	is(t, s, "1:0,0:,")
	for _, err := range []api.Errno{s.Begin(), s.Pull(), s.Freeze(), s.Drop(), s.Install(""), s.Install("x"), s.Install(someContent)} {
		if err != api.ErrState {
			t.Error(err)
		}
	}
	for _, o := range []table.Op{{}, put("k", "v")} {
		for _, client := range noClients {
			refuses(t, s, client, 1, o, api.ErrArg)
		}
		for _, number := range noNumbers {
			refuses(t, s, 0, number, o, api.ErrArg)
		}
		refuses(t, s, 0, 1, o, api.ErrState)
		refuses(t, s, 7, api.MaxBig, o, api.ErrState)
	}
}

func TestZeroShard(t *testing.T) {
	var s Shard
	is(t, &s, "1:0,0:,")
	right(t, s.Begin())
	tells(t, &s, 0, 1, put("k", "v"), Answer{}, true)
	tells(t, &s, 0, 2, get("k"), Answer{Value: "v"}, true)
}

func TestShardsAreApart(t *testing.T) {
	s := some(t, Serving)
	u, v := loaded(t, s.Text()), some(t, Pulling)
	right(t, v.Install(s.Content()))
	before := s.Text()
	for _, x := range []*Shard{u, v} {
		tells(t, x, 2, 8, put("k", "z"), Answer{Value: "a"}, true)
		tells(t, x, 0, 1, put("j", "z"), Answer{}, true)
		is(t, s, before)
	}
	is(t, New(), "1:0,0:,")
}

// 14.4.

// world has some shards, of which one at a time has what there is, and tells of each client's numbers what was answered first.
type world struct {
	shards  []*Shard
	at      int
	rows    map[string]string
	numbers [api.MaxTables]int
	answers [api.MaxTables]Answer
}

// ask appends for a client; it is done only of a number that is greater than all of that client's.
func (w *world) ask(t *testing.T, client, number int, key, value string) {
	t.Helper()
	want, now, err := Answer{}, false, api.OK
	switch {
	case number < w.numbers[client]:
		err = api.ErrNone
	case number == w.numbers[client]:
		want = w.answers[client]
	default:
		now = true
		if want.Value = w.rows[key] + value; len(want.Value) > api.MaxValue {
			want = Answer{Err: api.ErrLong}
		} else {
			w.rows[key] = want.Value
		}
		w.numbers[client], w.answers[client] = number, want
	}
	for i, s := range w.shards {
		a, did, bad := s.Do(client, number, appendTo(key, value))
		if i != w.at && (a != (Answer{}) || did || bad != api.ErrState) || i == w.at && (a != want || did != now || bad != err) {
			t.Fatalf("shard %d of %d, client %d, number %d: %v, %v, %v, not %v, %v, %v", i, w.at, client, number, a, did, bad, want, now, err)
		}
	}
}

// move hands what there is to another shard; till it is installed, nobody does anything.
func (w *world) move(t *testing.T, to int) {
	t.Helper()
	from, next := w.shards[w.at], w.shards[to]
	right(t, from.Freeze())
	right(t, next.Pull())
	for _, s := range w.shards {
		refuses(t, s, 0, w.numbers[0]+1, appendTo("a", "x"), api.ErrState)
	}
	content := from.Content()
	right(t, next.Install(content))
	if err := next.Install(content); err != api.ErrState {
		t.Fatal(err)
	}
	right(t, from.Drop())
	w.at = to
}

func TestOnce(t *testing.T) {
	rnd := rand.New(rand.NewSource(3))
	for range 30 {
		w := &world{shards: []*Shard{New(), New(), New()}, rows: map[string]string{}}
		right(t, w.shards[0].Begin())
		for range 400 {
			client := rnd.Intn(api.MaxTables)
			number := max(1, w.numbers[client]-2+rnd.Intn(5))
			switch rnd.Intn(10) {
			case 0:
				w.move(t, (w.at+1+rnd.Intn(2))%3)
			case 1:
				w.shards[w.at] = loaded(t, w.shards[w.at].Text())
			default:
				w.ask(t, client, number, string(rune('a'+rnd.Intn(12))), strings.Repeat("v", rnd.Intn(9)))
			}
		}
	}
}

// What is loaded of its text does all that follows alike.
func TestLoadedDoesAlike(t *testing.T) {
	rnd := rand.New(rand.NewSource(4))
	for range 200 {
		s := some(t, statuses[rnd.Intn(4)])
		u := loaded(t, s.Text())
		for range 60 {
			step, client, number := rnd.Intn(9), rnd.Intn(10)-1, rnd.Intn(12)
			o := table.Op{Kind: rnd.Intn(7), Key: string(rune('a' + rnd.Intn(3))), Value: "ab"[:rnd.Intn(3)]}
			l := did(s, step, client, number, o)
			if m := did(u, step, client, number, o); !reflect.DeepEqual(l, m) {
				t.Fatalf("step %d: %v, not %v", step, m, l)
			}
			u = loaded(t, u.Text())
		}
	}
}

// did is all that a step tells.
func did(s *Shard, step, client, number int, o table.Op) []any {
	var l []any
	switch step {
	case 0:
		l = append(l, s.Begin())
	case 1:
		l = append(l, s.Pull())
	case 2:
		l = append(l, s.Freeze())
	case 3:
		l = append(l, s.Drop())
	case 4:
		l = append(l, s.Install(someContent))
	default:
		a, now, err := s.Do(client, number, o)
		l = append(l, a, now, err)
	}
	return append(l, s.Status(), s.Content(), s.Text())
}
