package queue_test

import (
	"bytes"
	"math"
	"math/rand/v2"
	"slices"
	"testing"

	"pointsman/api"
	"pointsman/parse"
	"pointsman/queue"
	"pointsman/source"
)

func clone(group int) api.Effect { return api.Effect{Kind: api.EfClone, Group: group} }

func group(ports ...int) api.Group { return api.Group{Ports: ports} }

// to are copies of the same bytes.
func to(data string, ports ...int) []queue.Copy {
	var l []queue.Copy
	for _, port := range ports {
		l = append(l, queue.Copy{Port: port, Data: []byte(data)})
	}
	return l
}

func come(t *testing.T, groups []api.Group, p api.Pass, want []queue.Copy) {
	t.Helper()
	if l, e := queue.Copies(groups, p); e != api.OK || !same(l, want) {
		t.Errorf("Copies(%v, %+v) = %v, %d; want %v", groups, p, l, e, want)
	}
}

func TestCopiesExample(t *testing.T) { // P17.3
	p := api.Pass{End: api.EndSent, Packet: []byte("b"), Port: 7, Effects: []api.Effect{clone(0)}}
	come(t, []api.Group{group(1, 2), {}}, p, to("b", 1, 2, 7))
}

// P17.3: clones go of a pass of any end; the packet itself only where it is sent and no other pass begins.
func TestCopiesOfEachEnd(t *testing.T) {
	groups := []api.Group{group(1, 2), {}, group(65535)}
	for end := range 256 {
		for _, begins := range []struct{ again, round bool }{{}, {again: true}, {round: true}, {true, true}} {
			for _, data := range []string{"", "b", "packet"} {
				p := api.Pass{End: api.EndKind(end), Packet: []byte(data), Port: 9, Again: begins.again, Round: begins.round}
				var itself []int
				if end == int(api.EndSent) && !begins.again && !begins.round {
					itself = []int{9}
				}
				come(t, groups, p, to(data, itself...))
				p.Effects = []api.Effect{clone(2), clone(0)}
				come(t, groups, p, to(data, append([]int{65535, 1, 2}, itself...)...))
			}
		}
	}
}

// P17.3: the clones' order is the effects', within a clone the group's; a port that is told twice gets two.
func TestCopiesInOrder(t *testing.T) {
	groups := []api.Group{group(3, 1, 2), {}, group(5, 5), group(0), {Ports: []int{}}}
	for _, c := range []struct {
		clones, want []int
	}{
		{nil, []int{8}},
		{[]int{0}, []int{3, 1, 2, 8}},
		{[]int{1}, []int{8}},
		{[]int{4, 1, 4}, []int{8}},
		{[]int{2}, []int{5, 5, 8}},
		{[]int{2, 0}, []int{5, 5, 3, 1, 2, 8}},
		{[]int{0, 1, 2}, []int{3, 1, 2, 5, 5, 8}},
		{[]int{3, 3, 3}, []int{0, 0, 0, 8}},
		{[]int{0, 3, 0}, []int{3, 1, 2, 0, 3, 1, 2, 8}},
	} {
		p := api.Pass{End: api.EndSent, Packet: []byte{1, 2, 3}, Port: 8}
		for _, g := range c.clones {
			p.Effects = append(p.Effects, clone(g))
		}
		come(t, groups, p, to("\x01\x02\x03", c.want...))
	}
}

// P17.3: of effects that are no clones nothing goes, whatever stands in them.
func TestCopiesOfOtherEffects(t *testing.T) {
	groups := []api.Group{group(1)}
	p := api.Pass{End: api.EndSent, Packet: []byte("b"), Port: 7}
	for kind := range 256 {
		for _, n := range []int{0, 1, -1, math.MinInt, math.MaxInt} {
			if kind != int(api.EfClone) {
				p.Effects = append(p.Effects, api.Effect{Kind: api.EffectKind(kind), Group: n, Cell: n, Entry: n})
			}
		}
	}
	come(t, groups, p, to("b", 7))
	come(t, nil, p, to("b", 7))
	p.Effects = slices.Insert(p.Effects, 40, api.Effect{Kind: api.EfClone, Cell: 77, Entry: -1, Table: "t", Array: "a"})
	come(t, groups, p, to("b", 1, 7))
}

// P17.3, R2: a group at each place of groups and on both sides of them, of a clone that stands at any place.
func TestCopiesOfGroupsThatAreNotThere(t *testing.T) {
	for size := range api.MaxGroup + 3 {
		groups := make([]api.Group, size)
		for i := range groups {
			groups[i] = group(i + 100)
		}
		for _, n := range []int{math.MinInt, -api.MaxGroup, -2, -1, 0, 1, 2, size - 1, size, size + 1, api.MaxGroup, math.MaxInt} {
			for _, end := range []api.EndKind{api.EndNone, api.EndSent, api.EndDropped, api.EndShort} {
				p := api.Pass{End: end, Packet: []byte("b"), Effects: []api.Effect{clone(n)}, Again: true}
				if 0 <= n && n < size {
					come(t, groups, p, to("b", n+100))
					continue
				}
				comesNot(t, groups, p)
				for at := range size + 1 {
					p.Effects = []api.Effect{{Kind: api.EfHit}}
					for i := range size {
						p.Effects = append(p.Effects, clone(i))
					}
					p.Effects = slices.Insert(p.Effects, at, clone(n))
					comesNot(t, groups, p)
				}
			}
		}
	}
}

func comesNot(t *testing.T, groups []api.Group, p api.Pass) {
	t.Helper()
	if l, e := queue.Copies(groups, p); len(l) != 0 || e != api.ErrArg {
		t.Errorf("Copies(%v, %+v) = %v, %d; want none, ErrArg", groups, p, l, e)
	}
}

// R1: groups, ports and packets that no switch has are taken as they are.
func TestCopiesOfAnything(t *testing.T) {
	many := make([]int, 1000)
	for i := range many {
		many[i] = i - 500
	}
	groups := slices.Repeat([]api.Group{group(math.MinInt, math.MaxInt, -1, 65536)}, 40)
	groups[39].Ports = many
	data := string(bytes.Repeat([]byte{1, 2, 3}, api.MaxPacket))
	p := api.Pass{End: api.EndSent, Packet: []byte(data), Port: -5, Effects: []api.Effect{clone(39), clone(0)}}
	come(t, groups, p, to(data, append(slices.Clone(many), math.MinInt, math.MaxInt, -1, 65536, -5)...))
	come(t, nil, api.Pass{}, nil)
	come(t, nil, api.Pass{End: api.EndSent}, to("", 0))
}

// P17.3: passes that were made up by the dice, held against what the promise says, word by word.
func TestCopiesAtLarge(t *testing.T) {
	dice := rand.New(rand.NewPCG(17, 3))
	refused := 0
	for range 20000 {
		groups := make([]api.Group, dice.IntN(5))
		for i := range groups {
			for range dice.IntN(4) {
				groups[i].Ports = append(groups[i].Ports, dice.IntN(65536))
			}
		}
		p := api.Pass{End: api.EndKind(dice.IntN(int(api.EndFull) + 1)), Port: dice.IntN(65536), Again: dice.IntN(4) == 0, Round: dice.IntN(4) == 0}
		p.Packet = []byte("abcdefgh")[:dice.IntN(9)]
		for range dice.IntN(6) {
			p.Effects = append(p.Effects, api.Effect{Kind: api.EffectKind(dice.IntN(int(api.EfHit) + 1)), Group: dice.IntN(5)})
		}
		var ports []int
		missing := false
		for _, e := range p.Effects {
			switch {
			case e.Kind != api.EfClone:
			case e.Group >= len(groups):
				missing = true
			default:
				ports = append(ports, groups[e.Group].Ports...)
			}
		}
		if missing {
			refused++
			comesNot(t, groups, p)
			continue
		}
		if p.End == api.EndSent && !(p.Again || p.Round) {
			ports = append(ports, p.Port)
		}
		come(t, groups, p, to(string(p.Packet), ports...))
	}
	if refused < 1000 || refused > 15000 {
		t.Errorf("%d of the passes have a group that is not there", refused)
	}
}

// P17.3: of passes that packets came to.
func TestCopiesOfPackets(t *testing.T) {
	p, line, e := parse.Parse(`header h { a 8; b 8; }
parser { start { take h; go accept; } }
control {
	h.b = h.b + 8w1;
	meta.out = 16w7;
	if (h.a[0:0] == 1w1) { clone 3; }
	if (h.a[1:1] == 1w1) { drop; }
	if (h.a[2:2] == 1w1) { again; }
	if (h.a[3:3] == 1w1) { round; }
	if (h.a[4:4] == 1w1) { clone 0; clone 15; }
}
deparser { h; }`)
	if e != api.OK {
		t.Fatalf("line %d: %d", line, e)
	}
	w, e := source.New(p)
	if e != api.OK {
		t.Fatal(e)
	}
	w.Groups[3].Ports, w.Groups[15].Ports = []int{30, 31}, []int{5}
	for _, c := range []struct {
		packet []byte
		data   string
		want   []int
	}{
		{[]byte{0, 1, 9}, "\x00\x02\x09", []int{7}},
		{[]byte{1, 1, 9}, "\x01\x02\x09", []int{30, 31, 7}},
		{[]byte{16, 0}, "\x10\x01", []int{5, 7}},
		{[]byte{17, 0}, "\x11\x01", []int{30, 31, 5, 7}},
		{[]byte{2, 0}, "", nil},
		{[]byte{3, 0, 9}, "\x03\x01\x09", []int{30, 31}},
		{[]byte{5, 0}, "\x05\x01", []int{30, 31}},
		{[]byte{9, 0}, "\x09\x01", []int{30, 31}},
		{[]byte{12, 0}, "", nil},
		{[]byte{1}, "", nil},
	} {
		pass, _, e := source.Run(p, w, 4, c.packet)
		if e != api.OK {
			t.Fatal(e)
		}
		come(t, w.Groups, pass, to(c.data, c.want...))
	}
}

// P17.2, P17.3: what a pass copies, waits and goes out in the order in which it was told.
func TestCopiesWait(t *testing.T) {
	groups := []api.Group{group(1, 2, 3), group(4)}
	l, e := queue.Copies(groups, api.Pass{End: api.EndSent, Packet: []byte("b"), Port: 7, Effects: []api.Effect{clone(1), clone(0)}})
	is(t, "Copies", e, api.OK)
	q := made(t, 4)
	for i, c := range l {
		want := api.OK
		if i >= 4 {
			want = api.ErrFull
		}
		is(t, "Put", q.Put(c), want)
	}
	sends(t, q, 9, to("b", 4, 1, 2, 3)...)
}
