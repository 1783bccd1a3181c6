package caller

import (
	"math/rand"
	"reflect"
	"strings"
	"testing"

	"wapentake/api"
	"wapentake/chain"
	"wapentake/memo"
	"wapentake/moot"
	"wapentake/nest"
	"wapentake/order"
	"wapentake/peer"
	"wapentake/proof"
	"wapentake/roster"
	"wapentake/shard"
	"wapentake/shift"
	"wapentake/stock"
	"wapentake/table"
	"wapentake/ward"
)

// What odd replicas do.
const (
	silent       = iota // nothing, nor do they hear anything
	lieToCallers        // as told, but callers are told what they like, too
	lieToAll            // so is everybody
)

// asked is a client's number.
type asked struct{ client, number int }

// world is all groups and callers, whose letters are delivered as a test has it. Its ends are the roster's.
type world struct {
	t       *testing.T
	rnd     *rand.Rand
	x       roster.Roster
	wards   []*ward.Ward
	odd     []bool // which of them do not do as told
	oddly   int    // what these do
	callers []*Caller
	letters []peer.Out
	seen    []string // what odd replicas heard

	now    int
	calls  []proof.Call
	points []proof.Point
	places map[asked]int          // of calls
	did    map[asked]shard.Answer // what replicas that do as told did
	looked []int                  // of each ward how much of its log was looked at

	lies, answers, configs, wrongs int // how many there were
}

func newWorld(t *testing.T, f, groups, callers int, chance int64) *world {
	t.Helper()
	x := roster.Roster{F: f, Groups: groups, Clients: callers}
	w := &world{t: t, rnd: rand.New(rand.NewSource(chance)), x: x, places: map[asked]int{}, did: map[asked]shard.Answer{}}
	for end := range (groups + 1) * x.N() {
		who, _ := x.Party(end)
		r, err := ward.New(x, who, seed)
		if err != api.OK {
			t.Fatal(err)
		}
		w.wards, w.odd, w.looked = append(w.wards, r), append(w.odd, false), append(w.looked, 0)
	}
	for no := range callers {
		c, err := New(x, no, seed)
		if err != api.OK {
			t.Fatal(err)
		}
		w.callers = append(w.callers, c)
	}
	return w
}

// haveOdd has f replicas of each group not do as told.
func (w *world) haveOdd(oddly int) {
	w.oddly = oddly
	for group := range w.x.Groups + 1 {
		for _, no := range w.rnd.Perm(w.x.N())[:w.x.F] {
			w.odd[group*w.x.N()+no] = true
		}
	}
}

// hear has an end hear a letter, tick has it tick; both look at what came of it.
func (w *world) hear(o peer.Out) {
	w.t.Helper()
	w.now++
	no := o.To - len(w.wards)
	switch {
	case o.To < 0 || no >= len(w.callers):
		w.t.Fatalf("a letter to end %d", o.To)
	case no >= 0:
		w.callerHears(no, o.Text)
	case !w.odd[o.To] || w.oddly != silent:
		if w.odd[o.To] {
			w.seen = append(w.seen, o.Text)
		}
		w.letters = append(w.letters, w.wards[o.To].Hear(o.Text)...)
		w.look(o.To)
	}
}

func (w *world) tick(end int) {
	w.t.Helper()
	w.now++
	if no := end - len(w.wards); no >= 0 {
		w.letters = append(w.letters, w.callers[no].Tick()...)
	} else if !w.odd[end] || w.oddly != silent {
		w.letters = append(w.letters, w.wards[end].Tick()...)
		w.look(end)
	}
}

// look keeps what a replica that does as told did, and when it was done first.
func (w *world) look(end int) {
	w.t.Helper()
	if w.odd[end] {
		return
	}
	l := w.wards[end].Peer().Log()
	for _, d := range l[w.looked[end]:] {
		o, _, err := order.Read(d.Text)
		if err != api.OK {
			w.t.Fatal(err)
		}
		if d.Met != stock.Done {
			w.wrongs++
			continue
		}
		at := asked{o.Client, o.Number}
		if had, ok := w.did[at]; ok && had != d.Answer {
			w.t.Fatalf("end %d did %v: %v, not %v", end, at, d.Answer, had)
		} else if !ok && o.Kind == order.Do {
			w.points = append(w.points, proof.Point{At: w.now, Client: o.Client, Number: o.Number, Answer: d.Answer})
		}
		w.did[at] = d.Answer
	}
	w.looked[end] = len(l)
}

// callerHears is 23.3: what a caller takes for an answer is what a replica that does as told did; its configuration is the one that it was, or the next one of the controller's.
func (w *world) callerHears(no int, text string) {
	w.t.Helper()
	c := w.callers[no]
	wasOpen, was := c.Open(), c.Config()
	if out := c.Hear(text); len(out) > 0 {
		w.t.Fatal("a caller sends something for what it hears")
	}
	if is := c.Config(); !reflect.DeepEqual(is, was) {
		if want, err := w.controller().Get(was.Num + 1); err != api.OK || !reflect.DeepEqual(is, want) {
			w.t.Fatalf("behind %v caller %d has %v, not %v", was, no, is, want)
		}
		w.configs++
	}
	if c.Open() == wasOpen {
		return
	}
	number, a, ok := c.Answer()
	did, done := w.did[asked{no, number}]
	if c.Open() || !ok || number != c.number || !done || a != did {
		w.t.Fatalf("caller %d takes %d %v for an answer, not %v, %v", no, number, a, did, done)
	}
	w.answers++
	if i, ok := w.places[asked{no, number}]; ok {
		w.calls[i].To, w.calls[i].Answer = w.now, a
	}
}

// controller is the moot of a controller's replica that does as told, the one with the longest chain.
func (w *world) controller() *moot.Moot {
	var best *moot.Moot
	for end := range w.x.N() {
		m := w.wards[end].Peer().Moot()
		if !w.odd[end] && (best == nil || m.Last().Num > best.Last().Num) {
			best = m
		}
	}
	return best
}

// isSettled tells whether all replicas that do as told have the last configuration, and each shard is just where that has it.
func (w *world) isSettled() bool {
	last := w.controller().Last()
	for end := w.x.N(); end < len(w.wards); end++ {
		s := w.wards[end].Peer().Stock()
		if w.odd[end] {
			continue
		}
		for i, owner := range last.Owner {
			want := shard.Absent
			if owner == end/w.x.N() {
				want = shard.Serving
			}
			if s.Config().Num != last.Num || s.Status(i) != want {
				return false
			}
		}
	}
	return true
}

func (w *world) isAnswered() bool {
	for _, c := range w.callers {
		if c.Open() {
			return false
		}
	}
	return true
}

// ask has a caller ask for some operation, if none of its is open.
func (w *world) ask(no int) {
	kind := 1 + w.rnd.Intn(table.Swap)
	o := table.Op{Kind: kind, Key: keyOf(w.rnd.Intn(api.Shards), w.rnd.Intn(2))}
	if kind != table.Get && kind != table.Delete {
		o.Value = strings.Repeat("v", w.rnd.Intn(3))
	}
	if kind == table.Swap {
		o.Old = strings.Repeat("v", w.rnd.Intn(3))
	}
	w.askFor(no, o)
}

func (w *world) askFor(no int, o table.Op) {
	w.now++
	if n, err := w.callers[no].Ask(o); err == api.OK {
		w.places[asked{no, n}] = len(w.calls)
		w.calls = append(w.calls, proof.Call{Client: no, Number: n, Op: o, From: w.now, To: -1})
	}
}

// rule has a caller ask for a command. None of its is to be open.
func (w *world) rule(no int, x chain.Command) {
	w.t.Helper()
	w.now++
	if _, err := w.callers[no].Rule(x); err != api.OK {
		w.t.Fatal(err)
	}
}

// round has all ends tick, and all letters be delivered, the first one first; odd replicas tell what they like.
func (w *world) round() {
	w.t.Helper()
	w.lie()
	for end := range w.x.Ends() {
		w.tick(end)
	}
	for len(w.letters) > 0 {
		o := w.letters[0]
		w.letters = w.letters[1:]
		w.hear(o)
	}
}

// rough has a round go by in which, besides, clocks do not go alike, and letters are lost, doubled or late.
func (w *world) rough() {
	w.t.Helper()
	w.lie()
	for end := range w.x.Ends() {
		if w.rnd.Intn(8) > 0 {
			w.tick(end)
		}
	}
	var late []peer.Out
	for len(w.letters) > 0 {
		i := w.rnd.Intn(min(len(w.letters), 20))
		o := w.letters[i]
		w.letters[i] = w.letters[0]
		w.letters = w.letters[1:]
		switch w.rnd.Intn(16) {
		case 0: // it is lost
		case 1:
			w.hear(o)
			w.letters = append(w.letters, o)
		case 2:
			late = append(late, o)
		default:
			w.hear(o)
		}
	}
	w.letters = late
}

// lie has odd replicas tell what they like.
func (w *world) lie() {
	for end := range w.wards {
		if !w.odd[end] || w.oddly == silent {
			continue
		}
		for no := range w.callers {
			if w.rnd.Intn(2) == 0 {
				w.lieToCaller(end, no)
			}
		}
		if w.oddly == lieToAll && w.rnd.Intn(3) == 0 {
			w.lieToWards(end)
		}
	}
}

// lieToCaller has an odd replica tell a caller something. All odd ones of a group tell the same answers.
func (w *world) lieToCaller(end, no int) {
	who, _ := w.x.Party(end)
	c := w.callers[no]
	m := memo.Memo{Kind: memo.Reply, From: who, View: no, Number: max(1, c.number)}
	m.Text = []string{
		replyText(stock.Done, 0, "lie", 1),
		replyText(stock.Done, api.ErrNone, "", c.Config().Num),
		replyText(stock.Wrong, 0, "", 1),
		"x",
	}[w.rnd.Intn(4)]
	if who.Group == controller && w.rnd.Intn(2) == 0 {
		x, err := chain.Next(c.Config(), w.someCommand())
		if err != api.OK {
			return
		}
		m = memo.Memo{Kind: memo.Config, From: who, Text: configText(w.t, x)}
	}
	m = signed(w.t, m)
	if w.rnd.Intn(4) == 0 {
		m.From.No = w.rnd.Intn(w.x.N()) // whose tag it is not, if it is another one
	}
	w.lies++
	w.letters = append(w.letters, peer.Out{To: len(w.wards) + no, Text: bytesOf(w.t, m)})
}

// lieToWards has an odd replica tell some others something, signed by itself, or what it heard.
func (w *world) lieToWards(end int) {
	b := w.someLie(end)
	if len(w.seen) > 0 && w.rnd.Intn(3) == 0 {
		b = w.seen[w.rnd.Intn(len(w.seen))]
	}
	w.lies++
	for to := range w.wards {
		if to != end && w.rnd.Intn(3) == 0 {
			w.letters = append(w.letters, peer.Out{To: to, Text: b})
		}
	}
}

func (w *world) someLie(end int) string {
	who, _ := w.x.Party(end)
	p := w.wards[end].Peer()
	view, _ := p.View()
	claim := stock.Claim{Num: max(0, w.controller().Last().Num+w.rnd.Intn(3)-1), Shard: w.rnd.Intn(api.Shards)}
	m := memo.Memo{From: who}
	switch w.rnd.Intn(4) {
	case 0:
		claim.Content = []string{"", "x", "0:,", nest.Pack([]string{nest.Pack([]string{"k", "lie"})})}[w.rnd.Intn(4)]
		m.Kind, m.Text = memo.Claim, claimText(w.t, claim)
	case 1:
		claim.Took = true
		m.Kind, m.Text = memo.Claim, claimText(w.t, claim)
	case 2:
		m.Kind, m.View, m.Number = memo.Order+w.rnd.Intn(2), view, p.Done()+1
	case 3:
		text, err := shift.Encode(shift.Change{View: view + 1})
		if err != api.OK {
			w.t.Fatal(err)
		}
		m.Kind, m.View, m.Text = memo.Change, view+1, text
	}
	return bytesOf(w.t, signed(w.t, m))
}

func claimText(t *testing.T, c stock.Claim) string {
	t.Helper()
	s, err := stock.ClaimText(c)
	if err != api.OK {
		t.Fatal(err)
	}
	return s
}

// someCommand is one that may be right for the last configuration.
func (w *world) someCommand() chain.Command {
	c := chain.Command{Kind: 1 + w.rnd.Intn(chain.Move), Group: 1 + w.rnd.Intn(w.x.Groups)}
	if c.Kind == chain.Move {
		c.Shard = w.rnd.Intn(api.Shards)
	}
	return c
}
