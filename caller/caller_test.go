package caller

import (
	"math"
	"reflect"
	"slices"
	"strings"
	"testing"

	"wapentake/api"
	"wapentake/chain"
	"wapentake/memo"
	"wapentake/nest"
	"wapentake/order"
	"wapentake/peer"
	"wapentake/roster"
	"wapentake/seal"
	"wapentake/shard"
	"wapentake/stock"
	"wapentake/table"
)

const seed = "seed"

func ring(t *testing.T) *seal.Ring {
	t.Helper()
	r, err := seal.New(seed)
	if err != api.OK {
		t.Fatal(err)
	}
	return r
}

// signed is a memo with its party's tag.
func signed(t *testing.T, m memo.Memo) memo.Memo {
	t.Helper()
	m, err := memo.Sign(ring(t), m)
	if err != api.OK {
		t.Fatal(m.Kind, err)
	}
	return m
}

func bytesOf(t *testing.T, m memo.Memo) string {
	t.Helper()
	b, err := memo.Encode(m)
	if err != api.OK {
		t.Fatal(m.Kind, err)
	}
	return b
}

func configText(t *testing.T, c chain.Config) string {
	t.Helper()
	s, err := chain.Text(c)
	if err != api.OK {
		t.Fatal(err)
	}
	return s
}

// keyOf is one of some keys of a shard.
func keyOf(i, which int) string {
	for n := 0; ; n++ {
		if k := "k" + nest.Num(n); stock.Place(k) == i {
			if which == 0 {
				return k
			}
			which--
		}
	}
}

// replyText is what a Reply tells.
func replyText(met int, err api.Errno, value string, num int) string {
	return nest.Pack([]string{nest.Num(met), nest.Num(int(err)), value, nest.Num(num)})
}

// The configurations of a chain that joins group 1, then 2, then 4, which no roster here has.
var (
	first  = chain.Config{Num: 1, Groups: []int{1}, Owner: [api.Shards]int{1, 1, 1, 1}}
	second = chain.Config{Num: 2, Groups: []int{1, 2}, Owner: [api.Shards]int{2, 2, 1, 1}}
	third  = chain.Config{Num: 3, Groups: []int{1, 2, 4}, Owner: [api.Shards]int{4, 2, 1, 1}}
)

var (
	get  = table.Op{Kind: table.Get, Key: keyOf(0, 0)}
	join = chain.Command{Kind: chain.Join, Group: 1}
)

// desk is one caller that a test talks to, as everybody else.
type desk struct {
	t  *testing.T
	x  roster.Roster
	no int
	c  *Caller
}

// newDesk has client 1 of a roster of 3 groups.
func newDesk(t *testing.T, f int) desk {
	t.Helper()
	d := desk{t: t, x: roster.Roster{F: f, Groups: 3, Clients: 3}, no: 1}
	c, err := New(d.x, d.no, seed)
	if err != api.OK {
		t.Fatal(err)
	}
	d.c = c
	return d
}

// hear has the caller hear a memo as it is. It sends nothing.
func (d desk) hear(m memo.Memo) {
	d.t.Helper()
	if out := d.c.Hear(bytesOf(d.t, m)); len(out) > 0 {
		d.t.Errorf("Hear of a memo of kind %d sends %d letters", m.Kind, len(out))
	}
}

func (d desk) config(no int, c chain.Config) {
	d.t.Helper()
	d.hear(signed(d.t, memo.Memo{Kind: memo.Config, From: api.Party{Group: controller, No: no}, Text: configText(d.t, c)}))
}

// hearConfigs has it hear just enough replicas tell configurations, one behind the other.
func (d desk) hearConfigs(l ...chain.Config) {
	d.t.Helper()
	for _, c := range l {
		for no := range d.x.Need() {
			d.config(no, c)
		}
	}
}

// replyOf is the reply of a replica to the caller's last request.
func (d desk) replyOf(group, no int, text string) memo.Memo {
	return memo.Memo{Kind: memo.Reply, From: api.Party{Group: group, No: no}, View: d.no, Number: d.c.number, Text: text}
}

func (d desk) reply(group, no int, text string) {
	d.t.Helper()
	d.hear(signed(d.t, d.replyOf(group, no, text)))
}

func (d desk) ask(o table.Op, want int) {
	d.t.Helper()
	if n, err := d.c.Ask(o); n != want || err != api.OK {
		d.t.Fatalf("Ask: %d, %v, not %d", n, err, want)
	}
}

func (d desk) rule(x chain.Command, want int) {
	d.t.Helper()
	if n, err := d.c.Rule(x); n != want || err != api.OK {
		d.t.Fatalf("Rule: %d, %v, not %d", n, err, want)
	}
}

// letters are those with which a memo of the caller's goes to a group.
func (d desk) letters(m memo.Memo, group int) []peer.Out {
	d.t.Helper()
	m.From = api.Party{Group: -1, No: d.no}
	var out []peer.Out
	for no := range d.x.N() {
		out = append(out, peer.Out{To: group*d.x.N() + no, Text: bytesOf(d.t, m)})
	}
	return out
}

// asks are the letters with which a group is asked for something, wants those with which the controller's is for a configuration.
func (d desk) asks(o order.Order, group int) []peer.Out {
	d.t.Helper()
	o.Client = d.no
	text, err := order.Text(ring(d.t), o)
	if err != api.OK {
		d.t.Fatal(err)
	}
	return d.letters(memo.Memo{Kind: memo.Ask, Text: text}, group)
}

func (d desk) asksOp(number int, o table.Op, group int) []peer.Out {
	d.t.Helper()
	return d.asks(order.Order{Kind: order.Do, Number: number, Op: o}, group)
}

func (d desk) asksCommand(number int, x chain.Command) []peer.Out {
	d.t.Helper()
	return d.asks(order.Order{Kind: order.Rule, Number: number, Command: x}, controller)
}

func (d desk) wants(num int) []peer.Out {
	d.t.Helper()
	return d.letters(memo.Memo{Kind: memo.Want, Number: num}, controller)
}

// tick has it tick, and tells whether it sends just these letters.
func (d desk) tick(want ...[]peer.Out) {
	d.t.Helper()
	got, all := d.c.Tick(), slices.Concat(want...)
	if !slices.Equal(got, all) {
		d.t.Errorf("Tick: %s, not %s", show(got), show(all))
	}
}

// fourth has it tick till the next fourth tick behind one.
func (d desk) fourth(want ...[]peer.Out) {
	d.t.Helper()
	for range 3 {
		d.tick()
	}
	d.tick(want...)
}

func show(out []peer.Out) string {
	var b strings.Builder
	for _, o := range out {
		m, _ := memo.Decode(o.Text)
		b.WriteString(" to " + nest.Num(o.To) + ": " + nest.Pack([]string{nest.Num(m.Kind), nest.Num(m.From.No), nest.Num(m.Number), m.Text}))
	}
	return b.String()
}

func (d desk) wantOpen(want bool) {
	d.t.Helper()
	if got := d.c.Open(); got != want {
		d.t.Errorf("Open: %v", got)
	}
}

func (d desk) wantAnswer(number int, a shard.Answer) {
	d.t.Helper()
	if n, got, ok := d.c.Answer(); n != number || got != a || ok != (number > 0) {
		d.t.Errorf("Answer: %d, %v, %v, not %d, %v", n, got, ok, number, a)
	}
}

func (d desk) wantConfig(want chain.Config) {
	d.t.Helper()
	if got := d.c.Config(); !reflect.DeepEqual(got, want) {
		d.t.Errorf("Config: %v, not %v", got, want)
	}
}

// 23.1.

func TestNew(t *testing.T) {
	good := roster.Roster{F: 1, Groups: 2, Clients: 3}
	long := strings.Repeat("x", 33)
	for i, c := range []struct {
		x    roster.Roster
		no   int
		seed string
		want api.Errno
	}{
		{good, 0, "", api.OK},
		{good, 2, long[:32], api.OK},
		{roster.Roster{F: 3, Groups: 4, Clients: 8}, 7, "s", api.OK},
		{good, 0, long, api.ErrLong},
		{good, 3, "s", api.ErrArg},
		{good, -1, "s", api.ErrArg},
		{good, math.MaxInt, "s", api.ErrArg},
		{good, math.MinInt, long, api.ErrArg},
		{good, 3, long, api.ErrArg},
		{roster.Roster{}, 0, "", api.ErrArg},
		{roster.Roster{F: 4, Groups: 2, Clients: 1}, 0, "", api.ErrArg},
		{roster.Roster{F: 1, Groups: 5, Clients: 1}, 0, "", api.ErrArg},
		{roster.Roster{F: 1, Groups: 2, Clients: 9}, 0, "", api.ErrArg},
		{roster.Roster{F: 1, Groups: 2, Clients: 0}, 0, long, api.ErrArg},
	} {
		d, err := New(c.x, c.no, c.seed)
		if err != c.want || (d == nil) != (c.want != api.OK) {
			t.Errorf("%d: %v, not %v", i, err, c.want)
		}
		if d != nil {
			n, a, ok := d.Answer()
			if n != 0 || a != (shard.Answer{}) || ok || d.Open() || !reflect.DeepEqual(d.Config(), chain.Config{}) {
				t.Errorf("%d: it has asked, or heard something", i)
			}
		}
	}
}

// badOps are operations that are none, with what is told of them.
func badOps() map[table.Op]api.Errno {
	return map[table.Op]api.Errno{
		{}:                               api.ErrArg,
		{Kind: table.Swap + 1, Key: "k"}: api.ErrArg,
		{Kind: -1}:                       api.ErrArg,
		{Kind: table.Get}:                api.ErrRow,
		{Kind: table.Put, Key: "12345678901234567"}:                 api.ErrRow,
		{Kind: table.Put, Key: "k", Value: strings.Repeat("v", 65)}: api.ErrRow,
		{Kind: table.Swap, Key: "k", Old: strings.Repeat("v", 65)}:  api.ErrRow,
		{Kind: table.Get, Key: "k", Value: "v"}:                     api.ErrForm,
		{Kind: table.Put, Key: "k", Old: "v"}:                       api.ErrForm,
	}
}

// What is wrong by itself is told first, then that a request is open, then that there is no number more.
func TestAskErrors(t *testing.T) {
	open, last, openLast := newDesk(t, 1), newDesk(t, 1), newDesk(t, 1)
	open.ask(get, 1)
	last.c.number, openLast.c.number = api.MaxBig, api.MaxBig-1
	openLast.ask(get, api.MaxBig)
	for _, c := range []struct {
		c    *Caller
		want api.Errno // of what is right by itself
	}{
		{newDesk(t, 1).c, api.OK},
		{open.c, api.ErrState},
		{last.c, api.ErrLast},
		{openLast.c, api.ErrState},
		{nil, api.ErrState},
		{&Caller{}, api.ErrState},
	} {
		for o, want := range badOps() {
			if n, err := c.c.Ask(o); n != 0 || err != want {
				t.Errorf("Ask of %v: %d, %v, not %v", o, n, err, want)
			}
		}
		for _, kind := range []int{0, 4, -1, math.MinInt, math.MaxInt} {
			if n, err := c.c.Rule(chain.Command{Kind: kind, Group: 1}); n != 0 || err != api.ErrArg {
				t.Errorf("Rule of kind %d: %d, %v", kind, n, err)
			}
		}
		if c.want == api.OK {
			continue
		}
		if n, err := c.c.Ask(get); n != 0 || err != c.want {
			t.Errorf("Ask: %d, %v, not %v", n, err, c.want)
		}
		if n, err := c.c.Rule(join); n != 0 || err != c.want {
			t.Errorf("Rule: %d, %v, not %v", n, err, c.want)
		}
	}
}

// A call that is refused changes nothing: the next tick is none that it was not, the number is not used, what was open stays so.
func TestRefused(t *testing.T) {
	d := newDesk(t, 0)
	refuse := func() {
		t.Helper()
		d.c.Ask(table.Op{})
		d.c.Rule(chain.Command{})
		if d.c.Open() {
			d.c.Ask(table.Op{Kind: table.Put, Key: "other"})
			d.c.Rule(join)
		}
	}
	refuse()
	d.wantOpen(false)
	d.tick()
	refuse()
	d.tick()
	d.tick()
	d.tick(d.wants(1))
	d.hearConfigs(first)
	d.ask(get, 1)
	refuse()
	d.tick(d.asksOp(1, get, 1), d.wants(2))
	refuse()
	d.wantOpen(true)
	d.fourth(d.asksOp(1, get, 1), d.wants(2))
	d.reply(1, 0, replyText(stock.Done, 0, "v", 1))
	d.wantAnswer(1, shard.Answer{Value: "v"})
	refuse()
	d.wantAnswer(1, shard.Answer{Value: "v"})
	d.fourth(d.wants(2))
	d.rule(join, 2)
}

// Each request has a number of its own, one more than the last one, of operations and commands together, up to MaxBig.
func TestNumbers(t *testing.T) {
	d := newDesk(t, 0)
	for n := 1; n <= 6; n += 2 {
		d.ask(get, n)
		d.wantOpen(true)
		d.reply(1, 0, replyText(stock.Done, api.ErrNone, "", 1))
		d.wantOpen(false)
		d.wantAnswer(n, shard.Answer{Err: api.ErrNone})
		d.rule(join, n+1)
		d.wantOpen(true)
		d.reply(0, 0, replyText(stock.Done, api.ErrGroup, "", 1))
		d.wantOpen(false)
		d.wantAnswer(n+1, shard.Answer{Err: api.ErrGroup})
	}
	d.c.number = api.MaxBig - 1
	d.rule(join, api.MaxBig)
	d.tick(d.asksCommand(api.MaxBig, join), d.wants(1))
	d.reply(0, 0, replyText(stock.Done, 0, "", 1))
	d.wantAnswer(api.MaxBig, shard.Answer{})
	if n, err := d.c.Ask(get); n != 0 || err != api.ErrLast {
		t.Errorf("Ask: %d, %v", n, err)
	}
	if n, err := d.c.Rule(join); n != 0 || err != api.ErrLast {
		t.Errorf("Rule: %d, %v", n, err)
	}
	d.wantOpen(false)
}

// 23.2, ticks.

// Who asks for nothing wants the next configuration at each fourth tick, f 0 to 3.
func TestTicks(t *testing.T) {
	for f := range 4 {
		d := newDesk(t, f)
		for range 3 {
			d.fourth(d.wants(1))
		}
		d.hearConfigs(first)
		d.fourth(d.wants(2))
		d.hearConfigs(second, third)
		d.fourth(d.wants(4))
	}
}

// Whenever it is asked for something, the next tick is a fourth one, and then every fourth behind it.
func TestTickBehindAsk(t *testing.T) {
	for phase := range 9 {
		for _, op := range []bool{true, false} {
			d := newDesk(t, 1)
			d.hearConfigs(first)
			for range phase {
				d.c.Tick()
			}
			var ask []peer.Out
			if op {
				d.ask(get, 1)
				ask = d.asksOp(1, get, 1)
			} else {
				d.rule(join, 1)
				ask = d.asksCommand(1, join)
			}
			d.tick(ask, d.wants(2))
			d.fourth(ask, d.wants(2))
			d.fourth(ask, d.wants(2))
		}
	}
}

// An operation goes to the owner of its key's shard, by the caller's configuration, if there is one, and the roster has it.
func TestOwnerIsAsked(t *testing.T) {
	for f := range 2 {
		for i := range api.Shards {
			o := table.Op{Kind: table.Swap, Key: keyOf(i, 1), Value: "v", Old: "o"}
			d := newDesk(t, f)
			d.ask(o, 1)
			d.tick(d.wants(1))
			for _, c := range []chain.Config{first, second, third} {
				d.hearConfigs(c)
				if owner := c.Owner[i]; owner <= d.x.Groups {
					d.fourth(d.asksOp(1, o, owner), d.wants(c.Num+1))
				} else {
					d.fourth(d.wants(c.Num + 1))
				}
			}
		}
	}
}

// A command goes to the controller's as it is, whatever group and shard it names, and whoever owns anything.
func TestControllerIsAsked(t *testing.T) {
	for _, x := range []chain.Command{join, {Kind: chain.Leave, Group: 4}, {Kind: chain.Move, Group: 2, Shard: 3}, {Kind: chain.Move, Group: math.MinInt, Shard: math.MaxInt}, {Kind: chain.Join, Shard: -1}} {
		d := newDesk(t, 1)
		d.rule(x, 1)
		d.tick(d.asksCommand(1, x), d.wants(1))
		d.hearConfigs(first)
		d.fourth(d.asksCommand(1, x), d.wants(2))
	}
}

// What was answered is asked for no more.
func TestAnsweredIsNotAsked(t *testing.T) {
	d := newDesk(t, 0)
	d.hearConfigs(first)
	d.ask(get, 1)
	d.tick(d.asksOp(1, get, 1), d.wants(2))
	d.reply(1, 0, replyText(stock.Done, 0, "v", 1))
	d.fourth(d.wants(2))
	d.rule(join, 2)
	d.tick(d.asksCommand(2, join), d.wants(2))
	d.reply(0, 0, replyText(stock.Done, 0, "", 1))
	d.fourth(d.wants(2))
}

// 23.2, configurations.

// 2 f + 1 replicas of the controller's are enough, one less is not, and one that says it twice is one.
func TestConfig(t *testing.T) {
	for f := range 4 {
		d := newDesk(t, f)
		for _, c := range []chain.Config{first, second, third} {
			was := d.c.Config()
			for no := d.x.N() - 1; no > d.x.N()-d.x.Need(); no-- {
				d.config(no, c)
				d.config(no, c)
				d.wantConfig(was)
			}
			d.config(0, c)
			d.wantConfig(c)
		}
	}
}

// Only the next one is the caller's: what comes too early, or late, is not.
func TestConfigsInTurn(t *testing.T) {
	d := newDesk(t, 1)
	d.hearConfigs(second)
	d.wantConfig(chain.Config{})
	// These said a greater number: what they say of a lesser one counts no more.
	d.hearConfigs(first)
	d.wantConfig(chain.Config{})

	d = newDesk(t, 1)
	d.config(3, second)
	d.hearConfigs(first)
	d.wantConfig(first)
	d.config(0, second)
	d.wantConfig(first)
	d.config(1, second)
	d.wantConfig(second)
	d.hearConfigs(first, chain.Config{}, second)
	d.wantConfig(second)
	d.hearConfigs(chain.Config{Num: api.MaxBig, Groups: []int{1}, Owner: first.Owner})
	d.wantConfig(second)
}

// Of unlike configurations of the same number none is the caller's, unless enough say it.
func TestUnlikeConfigs(t *testing.T) {
	other := chain.Config{Num: 1, Groups: []int{2}, Owner: [api.Shards]int{2, 2, 2, 2}}
	d := newDesk(t, 1)
	d.config(0, first)
	d.config(1, other)
	d.config(2, other)
	d.config(0, other)
	d.wantConfig(chain.Config{})
	d.config(3, other)
	d.wantConfig(other)
}

// What is no configuration of a replica of the controller's, told by itself, is nothing.
func TestConfigsThatAreNone(t *testing.T) {
	for i, change := range []func(m *memo.Memo){
		func(m *memo.Memo) { m.From.Group = 1 },
		func(m *memo.Memo) { m.From.No = 4 },
		func(m *memo.Memo) { m.Text = "x" },
		func(m *memo.Memo) { m.Text = "" },
		func(m *memo.Memo) { m.Kind = memo.Claim },
		func(m *memo.Memo) { m.Tag = "0123456789abcdef" },
	} {
		d := newDesk(t, 1)
		d.config(0, first)
		d.config(1, first)
		m := signed(t, memo.Memo{Kind: memo.Config, From: api.Party{Group: controller, No: 2}, Text: configText(t, first)})
		tag := m.Tag
		change(&m)
		if m.Tag == tag {
			m = signed(t, m)
		}
		d.hear(m)
		d.wantConfig(chain.Config{})
		d.config(3, first)
		if d.wantConfig(first); t.Failed() {
			t.Fatal(i)
		}
	}
}

// 23.2, replies.

// f + 1 replicas of a group that say the same are enough, f are not: of an operation of any group of shards, of a command of the controller's.
func TestReply(t *testing.T) {
	for f := range 4 {
		for group := range 4 {
			d := newDesk(t, f)
			want := shard.Answer{Err: api.ErrState, Value: "v"}
			if group == controller {
				d.rule(join, 1)
			} else {
				d.ask(get, 1)
			}
			for no := d.x.N() - 1; no >= d.x.N()-f; no-- {
				d.reply(group, no, replyText(stock.Done, want.Err, want.Value, 7))
				d.reply(group, no, replyText(stock.Done, want.Err, want.Value, 7))
				d.wantOpen(true)
				d.wantAnswer(0, shard.Answer{})
			}
			d.reply(group, 0, replyText(stock.Done, want.Err, want.Value, 7))
			d.wantOpen(false)
			d.wantAnswer(1, want)
		}
	}
}

// What is no reply to the open request, of one that may answer it, is not kept, even if all replicas of a group say it.
func TestRepliesThatAreNone(t *testing.T) {
	good := replyText(stock.Done, 0, "v", 1)
	for i, c := range []struct {
		op     bool
		change func(m *memo.Memo)
	}{
		{true, func(m *memo.Memo) { m.Tag = "0123456789abcdef" }},
		{true, func(m *memo.Memo) { m.From.Group = 0 }},
		{true, func(m *memo.Memo) { m.From.Group = 4 }},
		{true, func(m *memo.Memo) { m.From.No += 4 }},
		{true, func(m *memo.Memo) { m.From.No += 12 }},
		{true, func(m *memo.Memo) { m.View = 0 }},
		{true, func(m *memo.Memo) { m.View = 2 }},
		{true, func(m *memo.Memo) { m.View = api.MaxBig }},
		{true, func(m *memo.Memo) { m.Number = 1 }},
		{true, func(m *memo.Memo) { m.Number = 3 }},
		{true, func(m *memo.Memo) { m.Number = api.MaxBig }},
		{false, func(m *memo.Memo) { m.Tag = "0123456789abcdef" }},
		{false, func(m *memo.Memo) { m.From.Group = 1 }},
		{false, func(m *memo.Memo) { m.From.Group = 3 }},
		{false, func(m *memo.Memo) { m.From.Group = 4 }},
		{false, func(m *memo.Memo) { m.From.No += 4 }},
		{false, func(m *memo.Memo) { m.View = 0 }},
		{false, func(m *memo.Memo) { m.Number = 1 }},
	} {
		d := newDesk(t, 1)
		d.rule(join, 1)
		d.reply(0, 2, replyText(stock.Done, 0, "", 0))
		d.reply(0, 3, replyText(stock.Done, 0, "", 0))
		group := controller
		if c.op {
			group = 1
			d.ask(get, 2)
		} else {
			d.rule(join, 2)
		}
		d.reply(group, 0, good)
		for no := range 4 {
			m := signed(t, d.replyOf(group, no, good))
			tag := m.Tag
			if c.change(&m); m.Tag == tag {
				m = signed(t, m)
			}
			d.hear(m)
			d.wantOpen(true)
			d.wantAnswer(1, shard.Answer{})
		}
		d.reply(group, 3, good)
		d.wantOpen(false)
		if d.wantAnswer(2, shard.Answer{Value: "v"}); t.Failed() {
			t.Fatal(i)
		}
	}
}

// Replies count together only if their texts are the same to the letter.
func TestUnlikeReplies(t *testing.T) {
	for group := range 2 {
		d := newDesk(t, 1)
		if group == controller {
			d.rule(join, 1)
		} else {
			d.ask(get, 1)
		}
		for no, text := range []string{
			replyText(stock.Done, 0, "v", 1),
			replyText(stock.Done, 0, "w", 1),
			replyText(stock.Done, api.ErrNone, "v", 1),
			replyText(stock.Done, 0, "v", 2),
		} {
			d.reply(group, no, text)
			d.wantOpen(true)
		}
		d.reply(group, 0, replyText(stock.Done, 0, "v", 2))
		d.wantOpen(false)
		d.wantAnswer(1, shard.Answer{Value: "v"})
	}
}

// f replicas of each of all groups say the same: nobody is believed.
func TestRepliesOfUnlikeGroups(t *testing.T) {
	for f := 1; f < 4; f++ {
		d := newDesk(t, f)
		d.ask(get, 1)
		for group := 1; group <= 3; group++ {
			for no := range f {
				d.reply(group, no, replyText(stock.Done, 0, "v", 1))
			}
		}
		d.wantOpen(true)
		d.reply(2, f, replyText(stock.Done, 0, "v", 1))
		d.wantOpen(false)
	}
}

// Of a replica the last reply counts.
func TestLastReplyCounts(t *testing.T) {
	d := newDesk(t, 1)
	d.ask(get, 1)
	a, b := replyText(stock.Done, 0, "a", 1), replyText(stock.Done, 0, "b", 1)
	d.reply(1, 0, a)
	d.reply(1, 0, b)
	d.reply(1, 1, a)
	d.wantOpen(true)
	d.reply(1, 0, b)
	d.reply(1, 0, a)
	d.wantOpen(false)
	d.wantAnswer(1, shard.Answer{Value: "a"})
}

// What a group met that it could not do is no answer: its replies are let go, those of other groups are not.
func TestNotDone(t *testing.T) {
	good := replyText(stock.Done, 0, "v", 1)
	for _, bad := range []string{
		replyText(stock.Wrong, 0, "", 1),
		replyText(stock.Stale, 0, "", 1),
		replyText(3, 0, "v", 1),
		replyText(-1, 0, "v", 1),
		"",
		"x",
		nest.Pack([]string{"0", "0", "v"}),
		nest.Pack([]string{"0", "0", "v", "1", ""}),
		nest.Pack([]string{"00", "0", "v", "1"}),
		nest.Pack([]string{"", "0", "v", "1"}),
		nest.Pack([]string{"0", "x", "v", "1"}),
		nest.Pack([]string{"0", "0", "v", "x"}),
		good + "x",
		strings.Repeat("x", api.MaxWire/2),
	} {
		for _, no := range []int{0, 3} {
			d := newDesk(t, 1)
			d.ask(get, 1)
			d.reply(1, no, good)
			d.reply(2, 0, good)
			d.reply(1, 1, bad)
			d.reply(1, 2, bad)
			d.wantOpen(true)
			d.wantAnswer(0, shard.Answer{})
			// Of group 1 the good one is gone, and so are those two.
			d.reply(1, 3-no, good)
			d.wantOpen(true)
			d.reply(1, 1, bad)
			d.wantOpen(true)
			d.reply(2, 3, good)
			d.wantOpen(false)
			d.wantAnswer(1, shard.Answer{Value: "v"})
		}

		d := newDesk(t, 1)
		d.ask(get, 1)
		for range 3 {
			d.reply(1, 1, bad)
			d.reply(1, 2, bad)
			d.wantOpen(true)
		}
		d.reply(1, 1, good)
		d.reply(1, 2, good)
		d.wantOpen(false)
	}
}

// The example 7 of the whole: the former owner meets Wrong; the next one is asked with the same number.
func TestFormerOwner(t *testing.T) {
	d := newDesk(t, 1)
	d.hearConfigs(first)
	d.ask(get, 1)
	d.tick(d.asksOp(1, get, 1), d.wants(2))
	for no := range 3 {
		d.reply(1, no, replyText(stock.Wrong, 0, "", 2))
	}
	d.fourth(d.asksOp(1, get, 1), d.wants(2))
	d.hearConfigs(second)
	d.fourth(d.asksOp(1, get, 2), d.wants(3))
	d.reply(2, 0, replyText(stock.Done, 0, "v", 2))
	d.reply(2, 1, replyText(stock.Done, 0, "v", 2))
	d.wantAnswer(1, shard.Answer{Value: "v"})
}

// Replies to a request that is not open (any more, or not yet) count for none.
func TestRepliesAtOtherTimes(t *testing.T) {
	d := newDesk(t, 1)
	text := replyText(stock.Done, 0, "v", 1)
	ahead := d.replyOf(1, 0, text)
	ahead.Number = 1
	d.hear(signed(t, ahead))
	d.ask(get, 1)
	d.reply(1, 1, text)
	d.wantOpen(true)
	d.reply(1, 0, text)
	d.wantOpen(false)
	d.reply(1, 2, text)
	d.reply(1, 3, text)
	d.wantAnswer(1, shard.Answer{Value: "v"})
	late := signed(t, d.replyOf(1, 2, text))
	d.ask(get, 2)
	d.hear(late)
	d.reply(1, 3, text)
	d.wantOpen(true)
	d.wantAnswer(1, shard.Answer{Value: "v"})
	d.reply(1, 0, text)
	d.wantAnswer(2, shard.Answer{Value: "v"})

	// What a group said of an operation does not count for the next one, which has another number, nor of two groups.
	d.ask(get, 3)
	d.reply(1, 0, text)
	d.reply(2, 0, text)
	d.reply(3, 0, text)
	d.reply(3, 1, text)
	d.wantOpen(false)
	d.ask(get, 4)
	d.reply(1, 1, text)
	d.reply(2, 1, text)
	d.wantOpen(true)
	if n := len(d.c.answers); n != 2 {
		t.Errorf("%d answers are kept", n)
	}
}

// Example 1.
func TestExample(t *testing.T) {
	d := newDesk(t, 0)
	d.hearConfigs(first)
	d.ask(get, 1)
	d.reply(1, 0, replyText(stock.Done, 0, "v", 1))
	d.wantOpen(false)
	d.wantAnswer(1, shard.Answer{Value: "v"})
}

// What is none, or is not for a caller, does nothing, and sends nothing.
func TestHearNothing(t *testing.T) {
	a, b := newDesk(t, 1), newDesk(t, 1)
	for _, d := range []desk{a, b} {
		d.hearConfigs(first)
		d.ask(get, 1)
		d.tick(d.asksOp(1, get, 1), d.wants(2))
		d.reply(1, 0, replyText(stock.Done, 0, "v", 1))
	}
	good := bytesOf(t, signed(t, a.replyOf(1, 1, replyText(stock.Done, 0, "v", 1))))
	noise := []string{"", "x", "0:,", good + " ", good[:len(good)-1], good + good, strings.Repeat("x", api.MaxWire+1), nest.Pack(make([]string, 6))}
	from := api.Party{Group: 1, No: 1}
	for kind := memo.Ask; kind <= memo.Want; kind++ {
		m := memo.Memo{Kind: kind, From: from}
		switch kind {
		case memo.Config, memo.Reply:
			continue
		case memo.Order, memo.Settle:
			m.View, m.Number = 1, 1
		case memo.Mark, memo.Want:
			m.Number = 1
		case memo.Change, memo.Begin:
			m.View = 1
		}
		noise = append(noise, bytesOf(t, signed(t, m)))
	}
	for _, s := range noise {
		if out := a.c.Hear(s); len(out) != 0 {
			t.Errorf("%.40q: %d letters", s, len(out))
		}
	}
	for _, d := range []desk{a, b} {
		d.wantOpen(true)
		d.wantConfig(first)
		d.fourth(d.asksOp(1, get, 1), d.wants(2))
		d.reply(1, 2, replyText(stock.Done, 0, "v", 1))
		d.wantAnswer(1, shard.Answer{Value: "v"})
	}
}

// A nil caller, and one that New did not make.
func TestNil(t *testing.T) {
	d := newDesk(t, 0)
	d.ask(get, 1)
	reply := bytesOf(t, signed(t, d.replyOf(1, 0, replyText(stock.Done, 0, "v", 1))))
	config := bytesOf(t, signed(t, memo.Memo{Kind: memo.Config, Text: configText(t, first)}))
	for _, c := range []*Caller{nil, {}} {
		for range 9 {
			if out := c.Tick(); len(out) != 0 {
				t.Errorf("Tick: %d letters", len(out))
			}
		}
		for _, s := range []string{"", "x", reply, config} {
			if out := c.Hear(s); len(out) != 0 {
				t.Errorf("Hear: %d letters", len(out))
			}
		}
		n, a, ok := c.Answer()
		if n != 0 || a != (shard.Answer{}) || ok || c.Open() || !reflect.DeepEqual(c.Config(), chain.Config{}) {
			t.Error("it has something")
		}
		if n, err := c.Ask(get); n != 0 || err != api.ErrState {
			t.Error(n, err)
		}
		if n, err := c.Rule(join); n != 0 || err != api.ErrState {
			t.Error(n, err)
		}
	}
}

// R3: what is handed out is new memory.
func TestNewMemory(t *testing.T) {
	d := newDesk(t, 1)
	d.hearConfigs(first, second)
	c := d.c.Config()
	groups := c.Groups[:cap(c.Groups)]
	for i := range groups {
		groups[i] = 9
	}
	d.wantConfig(second)
	d.ask(get, 1)
	out := d.c.Tick()
	clear(out[:cap(out)])
	d.fourth(d.asksOp(1, get, 2), d.wants(3))
}
