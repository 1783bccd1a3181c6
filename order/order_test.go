package order

import (
	"math"
	"math/rand"
	"slices"
	"strings"
	"testing"

	"wapentake/api"
	"wapentake/batch"
	"wapentake/cert"
	"wapentake/chain"
	"wapentake/nest"
	"wapentake/roster"
	"wapentake/seal"
	"wapentake/stock"
	"wapentake/table"
)

const someTag = "0123456789abcdef"

// noKinds are no kinds of orders, noClients no clients' numbers, noNumbers none of what a client asks.
var (
	noKinds   = []int{0, -1, 6, math.MinInt, math.MaxInt}
	noClients = []int{-1, api.MaxTables, 15, math.MinInt, math.MaxInt}
	noNumbers = []int{0, -1, api.MaxBig + 1, math.MinInt, math.MaxInt}
)

func ring(t *testing.T) *seal.Ring {
	t.Helper()
	r, err := seal.New("seed")
	if err != api.OK {
		t.Fatal(err)
	}
	return r
}

func tagOf(t *testing.T, group, no int, text string) string {
	t.Helper()
	tag, err := ring(t).Tag(api.Party{Group: group, No: no}, text)
	if err != api.OK {
		t.Fatal(err)
	}
	return tag
}

// signed is the certificate of a text with the tags of that many replicas of a group, from replica first on.
func signed(t *testing.T, group int, text string, first, count int) cert.Cert {
	t.Helper()
	c := cert.Cert{Text: text, Group: group}
	for no := first; no < first+count; no++ {
		c.Tags = append(c.Tags, cert.Tag{No: no, Tag: tagOf(t, group, no, text)})
	}
	return c
}

func configText(t *testing.T, num int) string {
	t.Helper()
	s, err := chain.Text(chain.Config{Num: num, Groups: []int{1}, Owner: [api.Shards]int{1, 1, 1, 1}})
	if err != api.OK {
		t.Fatal(err)
	}
	return s
}

func handText(t *testing.T, num, shard int, content string) string {
	t.Helper()
	s, err := stock.ClaimText(stock.Claim{Num: num, Shard: shard, Content: content})
	if err != api.OK {
		t.Fatal(err)
	}
	return s
}

func tookText(t *testing.T, num, shard int) string {
	t.Helper()
	s, err := stock.ClaimText(stock.Claim{Took: true, Num: num, Shard: shard})
	if err != api.OK {
		t.Fatal(err)
	}
	return s
}

func do(client, number int) Order {
	return Order{Kind: Do, Client: client, Number: number, Op: table.Op{Kind: table.Put, Key: "k", Value: "v"}}
}

func rule(client, number int) Order {
	return Order{Kind: Rule, Client: client, Number: number, Command: chain.Command{Kind: chain.Move, Group: 2, Shard: 3}}
}

// some are an order of each kind, for group 1 (of Rule 0) of f 1.
func some(t *testing.T) []Order {
	t.Helper()
	return []Order{
		do(3, 5), rule(2, 7),
		{Kind: Advance, Cert: signed(t, 0, configText(t, 4), 0, 3)},
		{Kind: Install, Cert: signed(t, 2, handText(t, 4, 1, "0:,"), 0, 3)},
		{Kind: Drop, Cert: signed(t, 2, tookText(t, 4, 1), 0, 3)},
	}
}

func sameCert(c, d cert.Cert) bool {
	return c.Text == d.Text && c.Group == d.Group && slices.Equal(c.Tags, d.Tags)
}

func same(o, p Order) bool {
	return o.Kind == p.Kind && o.Client == p.Client && o.Number == p.Number && o.Op == p.Op && o.Command == p.Command && sameCert(o.Cert, p.Cert)
}

func isZero(o Order) bool {
	return same(o, Order{})
}

func made(t *testing.T, o Order) string {
	t.Helper()
	s, err := Text(ring(t), o)
	if err != api.OK {
		t.Fatalf("Text(%v): %v", o, err)
	}
	return s
}

// asked is a text as of an order that a client signed, whatever was signed, and whoever it was.
func asked(t *testing.T, who api.Party, l ...string) string {
	t.Helper()
	s, err := ring(t).Sign(who, nest.Pack(l))
	if err != api.OK {
		t.Fatal(err)
	}
	return bytesOf(t, s)
}

func bytesOf(t *testing.T, s seal.Signed) string {
	t.Helper()
	b, err := seal.Encode(s)
	if err != api.OK {
		t.Fatal(err)
	}
	return nest.Pack([]string{"ask", b})
}

func client(no int) api.Party { return api.Party{Group: -1, No: no} }

// 18.1.

func TestConstants(t *testing.T) {
	if Do != 1 || Rule != 2 || Advance != 3 || Install != 4 || Drop != 5 {
		t.Error(Do, Rule, Advance, Install, Drop)
	}
}

func TestTextSigned(t *testing.T) {
	for _, c := range []struct {
		o    Order
		name string
		said string
	}{
		{do(3, 5), "2:-1,1:3,", "2:do,1:5,1:2,1:k,1:v,0:,"},
		{Order{Kind: Do, Number: 1, Op: table.Op{Kind: table.Get, Key: "a:,"}}, "2:-1,1:0,", "2:do,1:1,1:1,3:a:,,0:,0:,"},
		{Order{Kind: Do, Client: 7, Number: api.MaxBig, Op: table.Op{Kind: table.Swap, Key: "k", Value: "\x00", Old: "old"}}, "2:-1,1:7,", "2:do,13:1099511627776,1:5,1:k,1:\x00,3:old,"},
		{Order{Kind: Do, Number: 2, Op: table.Op{Kind: table.Append, Key: "k"}}, "2:-1,1:0,", "2:do,1:2,1:3,1:k,0:,0:,"},
		{Order{Kind: Do, Number: 2, Op: table.Op{Kind: table.Delete, Key: "k"}}, "2:-1,1:0,", "2:do,1:2,1:4,1:k,0:,0:,"},
		{rule(2, 7), "2:-1,1:2,", "4:rule,1:7,1:3,1:2,1:3,"},
		{Order{Kind: Rule, Number: 1}, "2:-1,1:0,", "4:rule,1:1,1:0,1:0,1:0,"},
		{Order{Kind: Rule, Client: 7, Number: api.MaxBig, Command: chain.Command{Kind: -1, Group: math.MinInt, Shard: math.MaxInt}}, "2:-1,1:7,", "4:rule,13:1099511627776,2:-1,20:-9223372036854775808,19:9223372036854775807,"},
	} {
		tag := tagOf(t, -1, c.o.Client, c.said)
		want := nest.Pack([]string{"ask", nest.Pack([]string{c.name, c.said, tag})})
		if s, err := Text(ring(t), c.o); s != want || err != api.OK {
			t.Errorf("Text(%v): %q, %v, not %q", c.o, s, err, want)
		}
		if o, got, err := Read(want); !same(o, c.o) || got != tag || err != api.OK {
			t.Errorf("Read(%q): %v, %q, %v", want, o, got, err)
		}
	}
}

// Certificates' texts, groups and tags are not looked at here, but for their form.
func TestTextCertified(t *testing.T) {
	for kind, head := range map[int]string{Advance: "7:advance,", Install: "7:install,", Drop: "4:drop,"} {
		for _, c := range []struct {
			c    cert.Cert
			want string
		}{
			{cert.Cert{}, "7:0:,1:0,,"},
			{cert.Cert{Tags: []cert.Tag{}}, "7:0:,1:0,,"},
			{cert.Cert{Text: "a", Group: 4}, "8:1:a,1:4,,"},
			{cert.Cert{Text: "a", Group: 2, Tags: []cert.Tag{{No: 1, Tag: someTag}}}, "32:1:a,1:2,1:1,16:" + someTag + ",,"},
		} {
			o := Order{Kind: kind, Cert: c.c}
			for _, r := range []*seal.Ring{ring(t), nil} {
				if s, err := Text(r, o); s != head+c.want || err != api.OK {
					t.Errorf("Text(%v): %q, %v, not %q", o, s, err, head+c.want)
				}
			}
			if p, tag, err := Read(head + c.want); !same(p, o) || tag != "" || err != api.OK {
				t.Errorf("Read(%q): %v, %q, %v", head+c.want, p, tag, err)
			}
		}
	}
}

// notText tells an order that is none: Text tells why, whatever ring there is, and nobody is its caller.
func notText(t *testing.T, o Order, want api.Errno) {
	t.Helper()
	for _, r := range []*seal.Ring{ring(t), nil} {
		if s, err := Text(r, o); s != "" || err != want {
			t.Errorf("Text(%v): %q, %v, not %v", o, s, err, want)
		}
	}
	if who, number := Caller(o); who != 0 || number != 0 {
		t.Errorf("Caller(%v): %d, %d", o, who, number)
	}
}

// What is wrong is told in the document's order: kind, client and number; fields of other kinds; the operation, or the certificate; the ring.
func TestTextArguments(t *testing.T) {
	for _, kind := range noKinds {
		for _, o := range append(some(t), Order{}) {
			o.Kind = kind
			notText(t, o, api.ErrArg)
		}
	}
	for _, o := range []Order{do(3, 5), rule(2, 7)} {
		for _, spoil := range []func(*Order){func(o *Order) {}, func(o *Order) { o.Op.Old = "x" }, func(o *Order) { o.Command.Kind = 9 }, func(o *Order) { o.Cert.Group = 9 }} {
			for _, n := range noClients {
				x := o
				x.Client = n
				spoil(&x)
				notText(t, x, api.ErrArg)
			}
			for _, n := range noNumbers {
				x := o
				x.Number = n
				spoil(&x)
				notText(t, x, api.ErrArg)
			}
		}
	}
}

func TestTextOtherFields(t *testing.T) {
	put := map[string][]func(*Order){
		"client":  {func(o *Order) { o.Client = 1 }, func(o *Order) { o.Client = -1 }, func(o *Order) { o.Client = 99 }},
		"number":  {func(o *Order) { o.Number = 1 }, func(o *Order) { o.Number = -1 }, func(o *Order) { o.Number = math.MaxInt }},
		"op":      {func(o *Order) { o.Op.Kind = 1 }, func(o *Order) { o.Op.Key = "k" }, func(o *Order) { o.Op.Value = "v" }, func(o *Order) { o.Op.Old = "o" }},
		"command": {func(o *Order) { o.Command.Kind = 1 }, func(o *Order) { o.Command.Group = 1 }, func(o *Order) { o.Command.Shard = -1 }},
		"cert":    {func(o *Order) { o.Cert.Text = "x" }, func(o *Order) { o.Cert.Group = 1 }, func(o *Order) { o.Cert.Group = -1 }, func(o *Order) { o.Cert.Tags = make([]cert.Tag, 1) }},
	}
	not := map[int][]string{Do: {"command", "cert"}, Rule: {"op", "cert"}}
	for _, kind := range []int{Advance, Install, Drop} {
		not[kind] = []string{"client", "number", "op", "command"}
	}
	for _, o := range some(t) {
		for _, field := range not[o.Kind] {
			for _, change := range put[field] {
				x := o
				change(&x)
				notText(t, x, api.ErrForm)
				// Ahead of what is wrong with the fields that it has.
				switch o.Kind {
				case Do:
					x.Op.Kind = 0
				case Rule:
					x.Command.Kind = 0
				default:
					x.Cert.Group = 5
				}
				notText(t, x, api.ErrForm)
			}
		}
		// An empty list is as none.
		if x := o; o.Kind == Do || o.Kind == Rule {
			x.Cert.Tags = []cert.Tag{}
			if made(t, x) != made(t, o) {
				t.Errorf("%v", x)
			}
		}
	}
}

func TestTextOperations(t *testing.T) {
	long := strings.Repeat("x", api.MaxValue)
	for _, c := range []struct {
		op   table.Op
		want api.Errno
	}{
		{table.Op{}, api.ErrArg},
		{table.Op{Kind: 6, Key: "k"}, api.ErrArg},
		{table.Op{Kind: -1}, api.ErrArg},
		{table.Op{Kind: table.Get}, api.ErrRow},
		{table.Op{Kind: table.Get, Key: strings.Repeat("k", api.MaxKey+1)}, api.ErrRow},
		{table.Op{Kind: table.Put, Key: "k", Value: long + "x"}, api.ErrRow},
		{table.Op{Kind: table.Swap, Key: "k", Old: long + "x"}, api.ErrRow},
		{table.Op{Kind: table.Get, Key: "k", Value: "v"}, api.ErrForm},
		{table.Op{Kind: table.Delete, Key: "k", Value: "v"}, api.ErrForm},
		{table.Op{Kind: table.Put, Key: "k", Old: "o"}, api.ErrForm},
	} {
		notText(t, Order{Kind: Do, Client: 1, Number: 1, Op: c.op}, c.want)
	}
	for kind := table.Get; kind <= table.Swap; kind++ {
		o := Order{Kind: Do, Client: 1, Number: 1, Op: table.Op{Kind: kind, Key: strings.Repeat("k", api.MaxKey)}}
		if kind != table.Get && kind != table.Delete {
			o.Op.Value = long
		}
		if kind == table.Swap {
			o.Op.Old = long
		}
		if s := made(t, o); len(s) > batch.MaxBody {
			t.Error(len(s))
		}
	}
}

func TestTextCertificates(t *testing.T) {
	for _, kind := range []int{Advance, Install, Drop} {
		for _, group := range []int{-1, 5, math.MinInt, math.MaxInt} {
			notText(t, Order{Kind: kind, Cert: cert.Cert{Group: group, Tags: []cert.Tag{{No: 16}}}}, api.ErrArg)
		}
		for _, no := range []int{-1, 16, math.MinInt, math.MaxInt} {
			notText(t, Order{Kind: kind, Cert: cert.Cert{Text: "a", Tags: []cert.Tag{{No: no, Tag: someTag}}}}, api.ErrWho)
		}
		notText(t, Order{Kind: kind, Cert: cert.Cert{Tags: []cert.Tag{{No: 2, Tag: someTag}, {No: 2, Tag: someTag}}}}, api.ErrSame)
		notText(t, Order{Kind: kind, Cert: cert.Cert{Tags: []cert.Tag{{No: 2, Tag: someTag}, {No: 1, Tag: "x"}}}}, api.ErrSame)
		notText(t, Order{Kind: kind, Cert: cert.Cert{Tags: []cert.Tag{{No: 2, Tag: someTag + "x"}}}}, api.ErrForm)
	}
}

func TestTextNilRing(t *testing.T) {
	for _, o := range some(t) {
		s, err := Text(nil, o)
		if o.Kind == Do || o.Kind == Rule {
			if s != "" || err != api.ErrState {
				t.Errorf("%v: %q, %v", o, s, err)
			}
		} else if s != made(t, o) || err != api.OK {
			t.Errorf("%v: %q, %v", o, s, err)
		}
	}
	if s, err := Text(nil, Order{Kind: Do, Number: 1, Op: table.Op{Kind: table.Get}}); s != "" || err != api.ErrRow {
		t.Error(s, err)
	}
}

// 18.2.

// The tag is not checked.
func TestReadAnyTag(t *testing.T) {
	for _, tag := range []string{someTag, strings.Repeat("\x00", 16), tagOf(t, -1, 4, "x")} {
		b := bytesOf(t, seal.Signed{Who: client(4), Text: "2:do,1:9,1:1,1:k,0:,0:,", Tag: tag})
		o, got, err := Read(b)
		if want := (Order{Kind: Do, Client: 4, Number: 9, Op: table.Op{Kind: table.Get, Key: "k"}}); !same(o, want) || got != tag || err != api.OK {
			t.Errorf("Read(%q): %v, %q, %v", b, o, got, err)
		}
	}
}

// wrongTexts are some that are no order's.
func wrongTexts(t *testing.T) []string {
	t.Helper()
	l := []string{"", "x", "3:ask,", "3:ask,0:,", "3:ask,1:x,", "7:advance,", "7:advance,0:,", "7:advance,1:x,", "4:drop,7:0:,1:5,,", "4:drop,8:0:,2:00,,", "4:drop,11:0:,1:0,1:0,,", "4:drop,17:0:,1:0,1:0,3:abc,,", "0:,0:,", "0:,7:0:,1:0,,"}
	for _, o := range some(t) {
		s := made(t, o)
		parts, _ := nest.Unpack(s)
		l = append(l, s[1:], s[:len(s)-1], s+"x", s+"0:,", s+s, "0"+s, nest.Pack([]string{s}), nest.Pack(parts[:1]), nest.Pack(parts[1:]), nest.Pack([]string{parts[1], parts[0]}), nest.Pack([]string{parts[0], parts[1], ""}))
		words := []string{"", "Ask", "Advance", "do", "rule", "asks", "hand", "took", "config", "advance ", "\x00"}
		if o.Kind == Do || o.Kind == Rule {
			words = append(words, "advance", "install", "drop")
		} else {
			words = append(words, "ask")
		}
		for _, word := range words {
			l = append(l, nest.Pack([]string{word, parts[1]}))
		}
	}
	right := []string{"do", "5", "2", "k", "v", ""}
	command := []string{"rule", "5", "1", "1", "0"}
	for _, who := range []api.Party{client(8), client(15), {Group: 0, No: 3}, {Group: 1, No: 0}, {Group: 4, No: 7}} {
		l = append(l, asked(t, who, right...), asked(t, who, command...))
	}
	for _, said := range [][]string{
		nil, {""}, {"do"}, {"rule"}, right[:5], right[1:], append(slices.Clone(right), ""), command[:4], command[1:], append(slices.Clone(command), "0"), append(slices.Clone(command), "0", "0"),
		{"rule", "5", "2", "k", "v", ""}, {"do", "5", "1", "1", "0"}, {"do", "5", "1", "k", ""}, {"Do", "5", "2", "k", "v", ""}, {"", "5", "2", "k", "v", ""}, {"ask", "5", "1", "1", "0"}, {"advance", "5", "1", "1", "0"}, {"drop", "5", "2", "k", "v", ""},
		{"do", "5", "0", "k", "v", ""}, {"do", "5", "6", "k", "v", ""}, {"do", "5", "2", "", "v", ""}, {"do", "5", "2", strings.Repeat("k", 17), "v", ""}, {"do", "5", "2", "k", strings.Repeat("v", 65), ""}, {"do", "5", "5", "k", "v", strings.Repeat("v", 65)},
		{"do", "5", "1", "k", "v", ""}, {"do", "5", "4", "k", "v", ""}, {"do", "5", "2", "k", "v", "o"}, {"do", "5", "3", "k", "v", "o"},
	} {
		l = append(l, asked(t, client(3), said...))
	}
	for _, n := range noNumbers {
		l = append(l, asked(t, client(3), "do", nest.Num(n), "2", "k", "v", ""), asked(t, client(3), "rule", nest.Num(n), "1", "1", "0"))
	}
	for _, n := range []string{"", "-0", "00", "01", "+1", " 1", "1 ", "x", "1x", "99999999999999999999"} {
		for i := 1; i <= 2; i++ {
			x := slices.Clone(right)
			x[i] = n
			l = append(l, asked(t, client(3), x...))
		}
		for i := 1; i <= 4; i++ {
			x := slices.Clone(command)
			x[i] = n
			l = append(l, asked(t, client(3), x...))
		}
	}
	said := nest.Pack(right)
	l = append(l, nest.Pack([]string{"ask", nest.Pack([]string{"2:-1,1:3,", said, someTag + "x"})}), nest.Pack([]string{"ask", nest.Pack([]string{"2:-1,1:3,", said, ""})}), nest.Pack([]string{"ask", nest.Pack([]string{"2:-1,2:03,", said, someTag})}), nest.Pack([]string{"ask", nest.Pack([]string{"2:-2,1:3,", said, someTag})}), nest.Pack([]string{"ask", nest.Pack([]string{"2:-1,1:3,", said})}), nest.Pack([]string{"ask", nest.Pack([]string{"2:-1,1:3,", said + "x", someTag})}))
	return l
}

func TestReadWrong(t *testing.T) {
	for _, s := range wrongTexts(t) {
		if o, tag, err := Read(s); !isZero(o) || tag != "" || err != api.ErrForm {
			t.Errorf("Read(%q): %v, %q, %v", s, o, tag, err)
		}
	}
}

// textOf is the text of an order whose tag is whatever it is.
func textOf(t *testing.T, o Order, tag string) string {
	t.Helper()
	s := made(t, o)
	if tag == "" {
		return s
	}
	parts, _ := nest.Unpack(s)
	was, err := seal.Decode(parts[1])
	if err != api.OK {
		t.Fatal(err)
	}
	was.Tag = tag
	return bytesOf(t, was)
}

// Bytes that are changed, lost or added here and there: what is read has just that text.
func TestReadSpoilt(t *testing.T) {
	rnd := rand.New(rand.NewSource(1))
	for _, o := range some(t) {
		right, taken := made(t, o), 0
		for range 10000 {
			b := []byte(right)
			for range 1 + rnd.Intn(2) {
				i, x := rnd.Intn(len(b)), "0123456789:,ka\x00-"[rnd.Intn(16)]
				switch rnd.Intn(3) {
				case 0:
					b[i] = x
				case 1:
					b = append(b[:i], b[i+1:]...)
				case 2:
					b = append(b[:i:i], append([]byte{x}, b[i:]...)...)
				}
			}
			o, tag, err := Read(string(b))
			if err != api.OK && (err != api.ErrForm || !isZero(o) || tag != "") {
				t.Fatalf("Read(%q): %v, %q, %v", b, o, tag, err)
			}
			if err == api.OK {
				taken++
				if textOf(t, o, tag) != string(b) {
					t.Fatalf("Read(%q): %v, %q", b, o, tag)
				}
			}
		}
		if taken < 100 {
			t.Errorf("%d of kind %d were read", taken, o.Kind)
		}
	}
}

// 18.3.

var usual = roster.Roster{F: 1, Groups: 2, Clients: 4}

// checks checks a text, for which an order is to come, or that error.
func checks(t *testing.T, r *seal.Ring, x roster.Roster, group int, text string, o Order, want api.Errno) {
	t.Helper()
	if want != api.OK {
		o = Order{}
	}
	if p, err := Check(r, x, group, text); !same(p, o) || err != want {
		t.Errorf("Check(%v, %d, %q): %v, %v, not %v", x, group, text, p, err, want)
	}
}

func TestCheck(t *testing.T) {
	for i, o := range some(t) {
		group := 1
		if o.Kind == Rule {
			group = 0
		}
		checks(t, ring(t), usual, group, made(t, o), o, api.OK)
		if i == 0 {
			checks(t, ring(t), usual, 2, made(t, o), o, api.OK)
		}
	}
}

func TestCheckArguments(t *testing.T) {
	bad := []roster.Roster{{}, {F: -1, Groups: 1, Clients: 1}, {F: 4, Groups: 1, Clients: 1}, {F: 1, Groups: 0, Clients: 1}, {F: 1, Groups: 5, Clients: 1}, {F: 1, Groups: 1, Clients: 0}, {F: 1, Groups: 1, Clients: 9}, {F: math.MinInt, Groups: math.MaxInt, Clients: math.MaxInt}}
	texts := []string{"", "x"}
	for _, o := range some(t) {
		texts = append(texts, made(t, o))
	}
	for _, r := range []*seal.Ring{ring(t), nil} {
		for _, s := range texts {
			for _, x := range bad {
				for _, group := range []int{-1, 0, 1, 5} {
					checks(t, r, x, group, s, Order{}, api.ErrArg)
				}
			}
			for _, group := range []int{-1, 3, 4, 5, math.MinInt, math.MaxInt} {
				checks(t, r, usual, group, s, Order{}, api.ErrArg)
			}
		}
		for _, s := range wrongTexts(t) {
			for group := range 3 {
				checks(t, r, usual, group, s, Order{}, api.ErrForm)
			}
		}
	}
}

// Rule is the controller's, all others are of groups of shards; that comes ahead of tags and certificates.
func TestCheckKinds(t *testing.T) {
	other, _ := seal.New("other")
	for groups := 1; groups <= api.MaxGroups; groups++ {
		x := roster.Roster{F: 1, Groups: groups, Clients: 4}
		for _, o := range some(t) {
			for group := 0; group <= groups; group++ {
				if (o.Kind == Rule) != (group == 0) {
					for _, r := range []*seal.Ring{ring(t), other, nil} {
						checks(t, r, x, group, made(t, o), o, api.ErrWho)
					}
				} else if o.Kind == Do || o.Kind == Rule || o.Kind == Advance {
					checks(t, ring(t), x, group, made(t, o), o, api.OK)
				}
			}
		}
	}
}

func TestCheckClients(t *testing.T) {
	other, _ := seal.New("other")
	for clients := 1; clients <= api.MaxTables; clients++ {
		x := roster.Roster{F: 0, Groups: 1, Clients: clients}
		for no := range api.MaxTables {
			for group, o := range []Order{rule(no, 4), do(no, 4)} {
				s := made(t, o)
				if no >= clients {
					for _, r := range []*seal.Ring{ring(t), other, nil} {
						checks(t, r, x, group, s, o, api.ErrWho)
					}
					continue
				}
				checks(t, ring(t), x, group, s, o, api.OK)
				checks(t, other, x, group, s, o, api.ErrTag)
				checks(t, nil, x, group, s, o, api.ErrState)
			}
		}
	}
}

// A tag is the client's, of just what it signed.
func TestCheckTags(t *testing.T) {
	for group, o := range []Order{rule(3, 4), do(3, 4)} {
		parts, _ := nest.Unpack(made(t, o))
		s, _ := seal.Decode(parts[1])
		for i := range s.Tag {
			b := []byte(s.Tag)
			b[i] ^= 1
			checks(t, ring(t), usual, group, textOf(t, o, string(b)), o, api.ErrTag)
		}
		for _, tag := range []string{someTag, tagOf(t, -1, 2, s.Text), tagOf(t, group, 3, s.Text), tagOf(t, -1, 3, s.Text+"x"), tagOf(t, -1, 3, "")} {
			checks(t, ring(t), usual, group, textOf(t, o, tag), o, api.ErrTag)
		}
		next, more := o, o
		next.Number++
		more.Op.Value, more.Command.Kind = "w", 1
		if group == 0 {
			more.Op = table.Op{}
		} else {
			more.Command = chain.Command{}
		}
		for _, x := range []Order{next, more} {
			checks(t, ring(t), usual, group, textOf(t, x, s.Tag), x, api.ErrTag)
		}
	}
}

// Of each f: 2 f + 1 tags are enough, one less is too few, and replicas are those below 3 f + 1.
func TestCheckEnough(t *testing.T) {
	for f := range api.MaxFaults + 1 {
		x := roster.Roster{F: f, Groups: 2, Clients: 1}
		for kind, text := range map[int]string{Advance: configText(t, 3), Install: handText(t, 3, 0, "c"), Drop: tookText(t, 3, 0)} {
			from := 2
			if kind == Advance {
				from = 0
			}
			for _, c := range []struct {
				first, count int
				want         api.Errno
			}{
				{0, 2*f + 1, api.OK}, {f, 2*f + 1, api.OK}, {0, 3*f + 1, api.OK},
				{0, 2 * f, api.ErrFew}, {f + 1, 2 * f, api.ErrFew}, {0, 0, api.ErrFew},
				{f + 1, 2*f + 1, api.ErrWho}, {3*f + 1, 1, api.ErrWho},
			} {
				o := Order{Kind: kind, Cert: signed(t, from, text, c.first, c.count)}
				checks(t, ring(t), x, 1, made(t, o), o, c.want)
			}
		}
	}
}

// Of which groups certificates may be: of each roster, group and kind.
func TestCheckCertificatesGroups(t *testing.T) {
	for groups := 1; groups <= api.MaxGroups; groups++ {
		x := roster.Roster{F: 0, Groups: groups, Clients: 1}
		for group := 1; group <= groups; group++ {
			for from := 0; from <= api.MaxGroups; from++ {
				for kind, text := range map[int]string{Advance: configText(t, 3), Install: handText(t, 3, 2, ""), Drop: tookText(t, 3, 2)} {
					want := api.ErrWho
					if kind == Advance && from == 0 || kind != Advance && from != 0 && from != group && from <= groups {
						want = api.OK
					}
					o := Order{Kind: kind, Cert: signed(t, from, text, 0, 1)}
					checks(t, ring(t), x, group, made(t, o), o, want)
				}
			}
		}
	}
}

// What certificates say is what their kinds have: Advance a configuration, Install what was handed, Drop what was taken.
func TestCheckCertificatesTexts(t *testing.T) {
	config, hand, took := configText(t, 3), handText(t, 3, 2, ""), tookText(t, 3, 2)
	right := map[int][]string{
		Advance: {config, configText(t, 0), configText(t, api.MaxBig), "6:config,1:0,0:,16:1:0,1:0,1:0,1:0,,"},
		Install: {hand, handText(t, 0, 0, "x"), handText(t, api.MaxBig, 3, "0:,")},
		Drop:    {took, tookText(t, 0, 0), tookText(t, api.MaxBig, 3)},
	}
	var all []string
	for _, l := range right {
		all = append(all, l...)
	}
	for _, s := range []string{config, hand, took} {
		all = append(all, s+"x", s[1:], s[:len(s)-1])
	}
	all = append(all, "", "x", "0:,", "4:hand,1:3,1:4,0:,", "4:took,1:3,1:2,1:x,", "4:took,2:-1,1:2,0:,", nest.Pack([]string{"hand", "3", "2", strings.Repeat("x", api.MaxText)}))
	for kind, l := range right {
		from := 2
		if kind == Advance {
			from = 0
		}
		for _, text := range all {
			want := api.ErrForm
			if slices.Contains(l, text) {
				want = api.OK
			}
			o := Order{Kind: kind, Cert: signed(t, from, text, 0, 3)}
			checks(t, ring(t), usual, 1, made(t, o), o, want)
		}
	}
}

// Tags come first, then how many there are, then whose they are, then the text.
func TestCheckCertificatesOrder(t *testing.T) {
	other, _ := seal.New("other")
	for _, kind := range []int{Advance, Install, Drop} {
		for _, text := range []string{"x", configText(t, 3), handText(t, 3, 2, ""), tookText(t, 3, 2)} {
			// Group 1 is none of which such a certificate may be.
			certificate := func(first, count int) Order { return Order{Kind: kind, Cert: signed(t, 1, text, first, count)} }
			for _, c := range []struct {
				r    *seal.Ring
				o    Order
				want api.Errno
			}{
				{ring(t), certificate(0, 3), api.ErrWho},
				{ring(t), certificate(1, 2), api.ErrFew},
				{ring(t), certificate(0, 0), api.ErrFew},
				{nil, certificate(0, 0), api.ErrFew},
				{other, certificate(0, 2), api.ErrTag},
				{other, certificate(0, 3), api.ErrTag},
				{nil, certificate(0, 2), api.ErrState},
				{nil, certificate(0, 3), api.ErrState},
				{other, certificate(3, 2), api.ErrWho},
				{nil, certificate(4, 1), api.ErrWho},
			} {
				checks(t, c.r, usual, 1, made(t, c.o), c.o, c.want)
			}
		}
	}
	o := Order{Kind: Install, Cert: signed(t, 2, tookText(t, 3, 2), 0, 3)}
	o.Cert.Tags[1].Tag = someTag
	checks(t, ring(t), usual, 1, made(t, o), o, api.ErrTag)
}

// 18.4.

func called(t *testing.T, o Order, who, number int) {
	t.Helper()
	if w, n := Caller(o); w != who || n != number {
		t.Errorf("Caller(%v): %d, %d, not %d, %d", o, w, n, who, number)
	}
}

func TestCaller(t *testing.T) {
	called(t, do(3, 5), 44, 5)
	for no := range api.MaxTables {
		for _, number := range []int{1, 17, api.MaxBig} {
			called(t, do(no, number), 41+no, number)
			called(t, rule(no, number), 41+no, number)
			called(t, Order{Kind: Rule, Client: no, Number: number}, 41+no, number)
		}
	}
	for _, num := range []int{0, 1, 2, 17, api.MaxBig} {
		// Whose tags there are, and of which group, says nothing.
		for from := 0; from <= api.MaxGroups; from++ {
			for _, count := range []int{0, 1, 4} {
				called(t, Order{Kind: Advance, Cert: signed(t, from, configText(t, num), 0, count)}, 32, max(1, num))
				for i := range api.Shards {
					called(t, Order{Kind: Install, Cert: signed(t, from, handText(t, num, i, "c"), 0, count)}, 33+i, max(1, num))
					called(t, Order{Kind: Drop, Cert: signed(t, from, tookText(t, num, i), 0, count)}, 37+i, max(1, num))
				}
			}
		}
	}
}

// (Of other orders that are none, notText looks at the caller.)
func TestCallerNone(t *testing.T) {
	called(t, Order{}, 0, 0)
	config, hand, took := configText(t, 3), handText(t, 3, 2, ""), tookText(t, 3, 2)
	for kind, l := range map[int][]string{Advance: {hand, took}, Install: {config, took}, Drop: {config, hand}} {
		for _, text := range append(l, "", "x", "0:,", config+"x", hand+"x", took[1:]) {
			called(t, Order{Kind: kind, Cert: signed(t, 2, text, 0, 3)}, 0, 0)
		}
	}
}

// What an order's caller is, is a caller of a pool; of what may wait together none is another one's.
func TestCallersInAPool(t *testing.T) {
	p := batch.New()
	orders := []Order{{Kind: Advance, Cert: signed(t, 0, configText(t, 0), 0, 1)}}
	for i := range api.Shards {
		orders = append(orders, Order{Kind: Install, Cert: signed(t, 2, handText(t, 0, i, ""), 0, 1)}, Order{Kind: Drop, Cert: signed(t, 2, tookText(t, 0, i), 0, 1)})
	}
	for no := range api.MaxTables {
		orders = append(orders, do(no, 1))
	}
	for i, o := range orders {
		who, number := Caller(o)
		if added, err := p.Add(batch.Request{Caller: who, Number: number, Text: made(t, o)}); !added || err != api.OK || p.Len() != 1+i {
			t.Errorf("%v: %d, %d: %v, %v", o, who, number, added, err)
		}
	}
}

// 18.5.

// random is an order, a group that has it, and a roster.
func random(t *testing.T, rnd *rand.Rand) (Order, int, roster.Roster) {
	t.Helper()
	x := roster.Roster{F: rnd.Intn(4), Groups: 2 + rnd.Intn(3), Clients: 1 + rnd.Intn(8)}
	group := 1 + rnd.Intn(x.Groups)
	from := 1 + group%x.Groups
	count := x.Need() + rnd.Intn(x.F+1)
	number := 1 + rnd.Intn(1<<rnd.Intn(40))
	switch kind := 1 + rnd.Intn(5); kind {
	case Do:
		o := Order{Kind: Do, Client: rnd.Intn(x.Clients), Number: number, Op: table.Op{Kind: 1 + rnd.Intn(5), Key: ",:k1\x00"[:1+rnd.Intn(5)]}}
		if o.Op.Kind == table.Put || o.Op.Kind == table.Append || o.Op.Kind == table.Swap {
			o.Op.Value = strings.Repeat("1:v,", rnd.Intn(17))
		}
		if o.Op.Kind == table.Swap {
			o.Op.Old = strings.Repeat("\xff", rnd.Intn(65))
		}
		return o, group, x
	case Rule:
		return Order{Kind: Rule, Client: rnd.Intn(x.Clients), Number: number, Command: chain.Command{Kind: rnd.Intn(5), Group: rnd.Intn(7) - 1, Shard: rnd.Int() - rnd.Int()}}, 0, x
	case Advance:
		return Order{Kind: kind, Cert: signed(t, 0, configText(t, number-1), 0, count)}, group, x
	case Install:
		return Order{Kind: kind, Cert: signed(t, from, handText(t, number-1, rnd.Intn(4), strings.Repeat("0:,", rnd.Intn(500))), 0, count)}, group, x
	default:
		return Order{Kind: kind, Cert: signed(t, from, tookText(t, number-1, rnd.Intn(4)), 0, count)}, group, x
	}
}

func TestWhatWasMadeIsRight(t *testing.T) {
	rnd := rand.New(rand.NewSource(2))
	r := ring(t)
	for range 3000 {
		o, group, x := random(t, rnd)
		s, err := Text(r, o)
		again, _ := Text(r, o)
		if err != api.OK || s != again {
			t.Fatalf("Text(%v): %v", o, err)
		}
		p, tag, err := Read(s)
		if !same(o, p) || err != api.OK || (len(tag) == 16) != (o.Kind == Do || o.Kind == Rule) {
			t.Fatalf("Read(%q): %v, %q, %v, not %v", s, p, tag, err, o)
		}
		checks(t, r, x, group, s, o, api.OK)
		if who, number := Caller(p); who < 32 || who > 48 || number < 1 {
			t.Fatalf("Caller(%v): %d, %d", p, who, number)
		}
	}
}

// R3.

func TestNothingIsShared(t *testing.T) {
	tags := make([]cert.Tag, 0, 8)
	tags = append(tags, signed(t, 0, configText(t, 4), 0, 3).Tags...)
	spare := tags[:8]
	spare[5] = cert.Tag{No: 5, Tag: "spare"}
	o := Order{Kind: Advance, Cert: cert.Cert{Text: configText(t, 4), Tags: tags}}
	before := slices.Clone(spare)
	s := made(t, o)
	Caller(o)
	if !slices.Equal(spare, before) {
		t.Error(spare)
	}
	p, _, _ := Read(s)
	q, _ := Check(ring(t), usual, 1, s)
	for _, x := range []Order{p, q} {
		l := x.Cert.Tags[:cap(x.Cert.Tags)]
		for i := range l {
			l[i] = cert.Tag{}
		}
	}
	if u, err := Check(ring(t), usual, 1, s); !same(u, o) || err != api.OK {
		t.Error(u, err)
	}
}

// P1: texts of any kind end in an error.
func TestAnyTexts(t *testing.T) {
	for _, s := range []string{
		strings.Repeat("0:,", 100000), strings.Repeat("9", 1000), "\x00\xff", "999999999:,", "-1:,0:,",
		nest.Pack([]string{"ask", strings.Repeat("0:,", 100000)}), nest.Pack([]string{"drop", strings.Repeat("0:,", 100001)}), nest.Pack([]string{"drop", "0:,1:0," + strings.Repeat("1:1,16:"+someTag+",", 10000)}),
	} {
		if o, tag, err := Read(s); !isZero(o) || tag != "" || err != api.ErrForm {
			t.Errorf("Read of %d bytes: %v", len(s), err)
		}
		checks(t, nil, usual, 0, s, Order{}, api.ErrForm)
	}
	notText(t, Order{Kind: Drop, Cert: cert.Cert{Tags: make([]cert.Tag, 100000)}}, api.ErrForm)
	for _, n := range []int{math.MinInt, math.MaxInt} {
		notText(t, Order{Kind: n, Client: n, Number: n, Op: table.Op{Kind: n}, Command: chain.Command{Kind: n, Group: n, Shard: n}, Cert: cert.Cert{Group: n}}, api.ErrArg)
	}
}
