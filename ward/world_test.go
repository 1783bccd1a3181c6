package ward

import (
	"math/rand"
	"strings"
	"testing"

	"wapentake/api"
	"wapentake/cert"
	"wapentake/chain"
	"wapentake/haul"
	"wapentake/memo"
	"wapentake/moot"
	"wapentake/nest"
	"wapentake/order"
	"wapentake/peer"
	"wapentake/roster"
	"wapentake/shard"
	"wapentake/shift"
	"wapentake/stock"
	"wapentake/table"
)

// moved is a shard as a configuration's number has it.
type moved struct{ num, shard int }

// request is a client's number.
type request struct{ client, number int }

// world is all groups, whose letters are delivered as a test has it, and clients that ask them.
type world struct {
	t       *testing.T
	rnd     *rand.Rand
	x       roster.Roster
	wards   []*Ward // by their ends
	odd     []bool  // which of them do not do as told
	mute    bool    // what odd replicas would send if they did as told is lost
	letters []peer.Out
	seen    []string // what odd replicas heard
	lies    int

	numbers []int         // of each client its last request's
	open    []order.Order // of each client what it asks for; of kind 0, if nothing
	said    []map[api.Party]string

	frozen  map[moved]string // what a shard was when it was frozen
	served  map[moved]int    // by which group
	equal   int              // how often a shard was seen to be served with what it was when it was frozen
	looked  []int            // of each end how much of its log was looked at
	tables  [api.Shards]*table.Table
	answers map[request]shard.Answer
}

func newWorld(t *testing.T, f, groups int, chance int64) *world {
	t.Helper()
	x := roster.Roster{F: f, Groups: groups, Clients: 4}
	w := &world{t: t, rnd: rand.New(rand.NewSource(chance)), x: x, frozen: map[moved]string{}, served: map[moved]int{}, answers: map[request]shard.Answer{}}
	for end := range (groups + 1) * x.N() {
		who, _ := x.Party(end)
		ward, err := New(x, who, seed)
		if err != api.OK {
			t.Fatal(err)
		}
		w.wards, w.odd, w.looked = append(w.wards, ward), append(w.odd, false), append(w.looked, 0)
	}
	for range x.Clients {
		w.numbers, w.open, w.said = append(w.numbers, 0), append(w.open, order.Order{}), append(w.said, map[api.Party]string{})
	}
	for i := range w.tables {
		w.tables[i] = table.New()
	}
	return w
}

// haveOdd has f replicas of each group not do as told.
func (w *world) haveOdd() {
	for group := range w.x.Groups + 1 {
		for _, no := range w.rnd.Perm(w.x.N())[:w.x.F] {
			w.odd[group*w.x.N()+no] = true
		}
	}
}

// hear has a replica hear a letter, tick has it tick; both look at what came of it.
func (w *world) hear(o peer.Out) {
	w.t.Helper()
	if w.odd[o.To] {
		w.seen = append(w.seen, o.Text)
	}
	w.send(o.To, w.wards[o.To].Hear(o.Text))
}

func (w *world) tick(end int) {
	w.t.Helper()
	w.send(end, w.wards[end].Tick())
}

func (w *world) send(from int, out []peer.Out) {
	w.t.Helper()
	w.look(from)
	for _, o := range out {
		switch client := o.To - len(w.wards); {
		case w.mute && w.odd[from]:
		case client >= w.x.Clients || o.To < 0:
			w.t.Fatalf("a letter to end %d", o.To)
		case client >= 0:
			w.reply(client, o.Text)
		default:
			w.letters = append(w.letters, o)
		}
	}
}

// look holds what a replica that does as told has, and did, against what others had and did.
func (w *world) look(end int) {
	w.t.Helper()
	p := w.wards[end].Peer()
	if w.odd[end] || p.Stock() == nil {
		return
	}
	did := w.lookLog(end)
	group, num := end/w.x.N(), p.Stock().Config().Num
	for i := range api.Shards {
		at := moved{num, i}
		switch p.Stock().Status(i) {
		case shard.Frozen:
			claim, _ := p.Stock().Hand(i)
			if had, ok := w.frozen[at]; ok && had != claim.Content {
				w.t.Fatalf("end %d has %v frozen as %q, not %q", end, at, claim.Content, had)
			}
			w.frozen[at] = claim.Content
		case shard.Serving:
			had, ok := w.served[at]
			if ok && had != group {
				w.t.Fatalf("groups %d and %d serve %v", had, group, at)
			}
			w.served[at] = group
			if !ok && !did {
				w.lookContent(end, at)
			}
		}
	}
}

// lookContent asks of a shard that is served by a number for the first time, if it was frozen by this number, that it is what it was then.
func (w *world) lookContent(end int, at moved) {
	w.t.Helper()
	last, frozen := w.frozen[at]
	if w.movedTo(at) != frozen {
		w.t.Fatalf("end %d serves %v: it was frozen: %v", end, at, frozen)
	}
	if !frozen {
		return
	}
	if got := content(w.t, w.wards[end].Peer().Stock(), at.shard); got != last {
		w.t.Fatalf("end %d serves %v with %q, not %q", end, at, got, last)
	}
	w.equal++
}

// movedTo tells whether a shard came by a number from a group to another one.
func (w *world) movedTo(at moved) bool {
	m := w.controller()
	was, err := m.Get(at.num - 1)
	is, errIs := m.Get(at.num)
	if err != api.OK || errIs != api.OK {
		w.t.Fatal(at, err, errIs)
	}
	return was.Owner[at.shard] != 0 && was.Owner[at.shard] != is.Owner[at.shard]
}

// lookLog holds what a replica did newly against one map, on which each client's number is done once: whether it did anything.
func (w *world) lookLog(end int) bool {
	w.t.Helper()
	l := w.wards[end].Peer().Log()
	did := false
	for _, d := range l[w.looked[end]:] {
		o, _, err := order.Read(d.Text)
		if err != api.OK || d.Met != stock.Done {
			continue
		}
		did = true
		r := request{o.Client, o.Number}
		want, ok := w.answers[r]
		if !ok {
			want.Value, want.Err = w.tables[stock.Place(o.Op.Key)].Do(o.Op)
			w.answers[r] = want
		}
		if d.Answer != want {
			w.t.Fatalf("end %d answered %v with %v, not %v", end, o, d.Answer, want)
		}
	}
	w.looked[end] = len(l)
	return did
}

// controller is the moot of a controller's replica that does as told, the one with the longest chain.
func (w *world) controller() *moot.Moot {
	var best *moot.Moot
	for end := range w.x.N() {
		m := w.wards[end].Peer().Moot()
		if !w.odd[end] && (best == nil || m.Last().Num > best.Last().Num) {
			best = m
		}
	}
	return best
}

// reply has a client hear a reply; it believes what f + 1 replicas of a group say.
func (w *world) reply(client int, text string) {
	w.t.Helper()
	m, err := memo.Decode(text)
	if err != api.OK || memo.Verify(ring(w.t), m) != api.OK {
		w.t.Fatal(err)
	}
	if m.Kind != memo.Reply || m.Number != w.numbers[client] || w.open[client].Kind == 0 {
		return
	}
	w.said[client][m.From] = m.Text
	count := 0
	for who, s := range w.said[client] {
		if who.Group == m.From.Group && s == m.Text {
			count++
		}
	}
	if count >= w.x.Some() && strings.HasPrefix(m.Text, nest.Pack([]string{nest.Num(stock.Done)})) {
		w.believe(client, m.Text)
	}
}

// believe has a client take what it was told for the answer: of an operation what one map would have told.
func (w *world) believe(client int, text string) {
	w.t.Helper()
	l, err := nest.Unpack(text)
	if err != api.OK || len(l) != 4 {
		w.t.Fatal(text, err)
	}
	want, ok := w.answers[request{client, w.numbers[client]}]
	if w.open[client].Kind == order.Do && (!ok || l[1] != nest.Num(int(want.Err)) || l[2] != want.Value) {
		w.t.Fatalf("client %d is told %q, not %v, %v", client, text, want, ok)
	}
	w.open[client] = order.Order{}
}

// Clients: one that rules, two that ask for operations, and one that asks all groups for something whoever has it.
const (
	ruler   = 0
	askers  = 2
	busyOne = 3
)

// ask has a client ask for an operation, if it does not wait for an answer, and then ask those for it who are to have it.
func (w *world) ask(client int) {
	if w.open[client].Kind == 0 {
		kind := 1 + w.rnd.Intn(table.Swap)
		o := table.Op{Kind: kind, Key: keyOf(w.rnd.Intn(api.Shards), w.rnd.Intn(2))}
		if kind != table.Get && kind != table.Delete {
			o.Value = strings.Repeat("v", w.rnd.Intn(3))
		}
		w.request(client, order.Order{Kind: order.Do, Op: o})
	}
	group := controller
	if o := w.open[client]; o.Kind == order.Do {
		group = w.controller().Last().Owner[stock.Place(o.Op.Key)]
		if group == 0 {
			return
		}
	}
	text := askOf(w.t, w.open[client])
	for _, end := range w.x.Group(group) {
		w.letters = append(w.letters, peer.Out{To: end, Text: text})
	}
}

// again has all clients that wait for an answer ask again.
func (w *world) again() {
	for client, o := range w.open {
		if o.Kind != 0 {
			w.ask(client)
		}
	}
}

// someAsk has a client ask for an operation.
func (w *world) someAsk() {
	w.ask(1 + w.rnd.Intn(askers))
}

// rule has a client ask for a command.
func (w *world) rule(c chain.Command) {
	w.request(ruler, order.Order{Kind: order.Rule, Command: c})
	w.ask(ruler)
}

// busy has all groups be asked for something that changes nothing. A group that has nothing to do does not find out that one of its replicas lags behind.
func (w *world) busy() {
	w.request(busyOne, order.Order{Kind: order.Rule})
	w.ask(busyOne)
	w.request(busyOne, order.Order{Kind: order.Do, Op: table.Op{Kind: table.Get, Key: keyOf(w.rnd.Intn(api.Shards), 0)}})
	text := askOf(w.t, w.open[busyOne])
	for end := w.x.N(); end < len(w.wards); end++ {
		w.letters = append(w.letters, peer.Out{To: end, Text: text})
	}
	w.open[busyOne] = order.Order{}
}

func (w *world) request(client int, o order.Order) {
	w.numbers[client]++
	o.Client, o.Number = client, w.numbers[client]
	w.open[client] = o
	clear(w.said[client])
}

// round has all replicas that do as told tick, and all letters to them be delivered; the others are silent.
func (w *world) round() {
	w.t.Helper()
	for end := range w.wards {
		if !w.odd[end] {
			w.tick(end)
		}
	}
	for len(w.letters) > 0 {
		o := w.letters[0]
		w.letters = w.letters[1:]
		if !w.odd[o.To] {
			w.hear(o)
		}
	}
}

// rough has a round go by in which clocks do not go alike, letters are lost, doubled or late, and odd replicas tell what they like.
func (w *world) rough() {
	w.t.Helper()
	for end := range w.wards {
		if w.rnd.Intn(8) > 0 {
			w.tick(end)
		}
		if w.odd[end] && w.rnd.Intn(3) == 0 {
			w.lie(end)
		}
	}
	w.mute = w.rnd.Intn(2) == 0
	var late []peer.Out
	for len(w.letters) > 0 {
		i := w.rnd.Intn(min(len(w.letters), 20))
		o := w.letters[i]
		w.letters[i] = w.letters[0]
		w.letters = w.letters[1:]
		switch w.rnd.Intn(16) {
		case 0: // it is lost
		case 1:
			w.hear(o)
			w.letters = append(w.letters, o)
		case 2:
			late = append(late, o)
		default:
			w.hear(o)
		}
	}
	w.letters = late
	w.mute = false
}

// lie has an odd replica tell some others what it likes, signed by itself, or what it heard.
func (w *world) lie(end int) {
	b, ok := w.someLie(end)
	if !ok {
		return
	}
	w.lies++
	for to := range w.wards {
		if to != end && w.rnd.Intn(3) == 0 {
			w.letters = append(w.letters, peer.Out{To: to, Text: b})
		}
	}
}

func (w *world) someLie(end int) (string, bool) {
	who, _ := w.x.Party(end)
	m := memo.Memo{From: who}
	p := w.wards[end].Peer()
	view, _ := p.View()
	last := w.controller().Last()
	num := max(0, last.Num+w.rnd.Intn(3)-1)
	switch w.rnd.Intn(10) {
	case 0, 1:
		contents := []string{"", "x", "0:,", nest.Pack([]string{nest.Pack([]string{"k", "lie"})}), w.frozen[moved{num, 0}]}
		m.Kind, m.Text = memo.Claim, claimText(w.t, stock.Claim{Num: num, Shard: w.rnd.Intn(api.Shards), Content: contents[w.rnd.Intn(len(contents))]})
	case 2:
		m.Kind, m.Text = memo.Claim, claimText(w.t, stock.Claim{Took: true, Num: num, Shard: w.rnd.Intn(api.Shards)})
	case 3:
		c, err := chain.Next(last, w.someCommand())
		if err != api.OK {
			c = chain.Config{Num: last.Num + 1}
		}
		m.Kind, m.Text = memo.Config, configText(w.t, c)
	case 4:
		from, _ := w.x.Party(w.rnd.Intn(w.x.Ends()))
		m = memo.Memo{Kind: memo.Want, From: from, Number: num}
	case 5:
		m.Kind, m.Text = memo.Ask, w.someOrder(end, num)
	case 6:
		m.Kind, m.View, m.Number = memo.Order+w.rnd.Intn(2), view, p.Done()+1
		m.Text = nest.Pack([]string{w.someOrder(end, num)})
	case 7:
		m.Kind, m.View, m.Text = memo.Change, view+1, emptyChange(w.t, view+1)
	default:
		if len(w.seen) == 0 {
			return "", false
		}
		return w.seen[w.rnd.Intn(len(w.seen))], true
	}
	return signed(w.t, m), true
}

// someOrder is one of which an odd replica has the certificate, or would like to have it.
func (w *world) someOrder(end, num int) string {
	topic, i := w.rnd.Intn(3), w.rnd.Intn(api.Shards)
	kind := []int{haul.Rule: order.Advance, haul.Hand: order.Install, haul.Took: order.Drop}[topic]
	if topic == haul.Rule {
		i = 0
	}
	c, ok := w.wards[end].haul.Cert(topic, i, num)
	if !ok {
		who, _ := w.x.Party(end)
		text := claimText(w.t, stock.Claim{Took: topic == haul.Took, Num: num, Shard: i})
		tag, _ := ring(w.t).Tag(who, text)
		c = cert.Cert{Text: text, Group: who.Group, Tags: []cert.Tag{{No: who.No, Tag: tag}}}
	}
	return orderText(w.t, order.Order{Kind: kind, Cert: c})
}

// someCommand is one that may be right for the last configuration.
func (w *world) someCommand() chain.Command {
	c := chain.Command{Kind: 1 + w.rnd.Intn(chain.Move), Group: 1 + w.rnd.Intn(w.x.Groups)}
	if c.Kind == chain.Move {
		c.Shard = w.rnd.Intn(api.Shards)
	}
	return c
}

// rightCommand is one that is.
func (w *world) rightCommand() chain.Command {
	for {
		c := w.someCommand()
		if _, err := chain.Next(w.controller().Last(), c); err == api.OK {
			return c
		}
	}
}

func emptyChange(t *testing.T, view int) string {
	t.Helper()
	s, err := shift.Encode(shift.Change{View: view})
	if err != api.OK {
		t.Fatal(err)
	}
	return s
}
