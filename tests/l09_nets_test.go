package tests

import (
	"math"
	"runtime"
	"slices"
	"strings"
	"sync"
	"testing"
	"time"
	"unsafe"

	"loop.example/g00660/impl"
)

func cmdStep(dev int64, x impl.Cmd) impl.Step {
	return impl.Step{Kind: impl.StCmd, Dev: dev, C: x}
}

func sendStep(dev int64, to int64) impl.Step {
	return impl.Step{Kind: impl.StSend, Dev: dev, To: to}
}

func getStep(at int64) impl.Step { return impl.Step{Kind: impl.StGet, At: at} }

func dropStep(at int64) impl.Step { return impl.Step{Kind: impl.StDrop, At: at} }

func copyStep(at int64) impl.Step { return impl.Step{Kind: impl.StCopy, At: at} }

// kindSteps are steps of each Kind that a net with a message accepts.
func kindSteps() []impl.Step {
	return []impl.Step{cmdStep(1, addCmd("new", 2)), sendStep(1, 2), getStep(0), dropStep(0), copyStep(0)}
}

func sameMsg(a impl.Msg, b impl.Msg) bool {
	return a.To == b.To && sameCart(a.Cart, b.Cart)
}

func sameNet(a impl.Net, b impl.Net) bool {
	return slices.EqualFunc(a.Carts, b.Carts, sameCart) && slices.EqualFunc(a.Bag, b.Bag, sameMsg)
}

func copyOfNet(n impl.Net) impl.Net {
	var c impl.Net
	for _, cart := range n.Carts {
		c.Carts = append(c.Carts, copyOf(cart))
	}
	for _, m := range n.Bag {
		c.Bag = append(c.Bag, impl.Msg{To: m.To, Cart: copyOf(m.Cart)})
	}
	return c
}

// everywhere is a net of four equal carts, with messages that have this cart too.
func everywhere(c impl.Cart, receivers ...int64) impl.Net {
	n := impl.Net{Carts: []impl.Cart{copyOf(c), copyOf(c), copyOf(c), copyOf(c)}}
	for _, to := range receivers {
		n.Bag = append(n.Bag, impl.Msg{To: to, Cart: copyOf(c)})
	}
	return n
}

// historyNet has carts and messages of one history: what was undone differs, and no cart has all operations.
func historyNet() impl.Net {
	n := impl.Net{Carts: []impl.Cart{
		plan{[4]int64{3, 1, 0, 2}, never}.cart(), plan{[4]int64{1, 2, 0, 0}, unevenly}.cart(),
		plan{[4]int64{0, 2, 1, 1}, otherwise}.cart(), plan{[4]int64{3, 0, 1, 2}, unevenly}.cart(),
	}}
	for to, p := range []plan{
		{[4]int64{0, 2, 0, 1}, otherwise}, {[4]int64{3, 0, 0, 2}, often}, {[4]int64{0, 0, 0, 0}, never},
		{[4]int64{3, 2, 1, 2}, never}, {[4]int64{0, 2, 0, 1}, unevenly}, {[4]int64{2, 1, 1, 1}, otherwise},
	} {
		n.Bag = append(n.Bag, impl.Msg{To: int64(to % 4), Cart: p.cart()})
	}
	return n
}

func fullReceivers() []int64 {
	return slices.Repeat([]int64{2, 0, 3, 3, 1}, 4)
}

func nets(t *testing.T) []impl.Net {
	t.Helper()
	onlyOwn := impl.Net{}
	for dev := range int64(impl.Devices) {
		vec := [4]int64{}
		vec[dev] = 40
		onlyOwn.Carts = append(onlyOwn.Carts, plan{vec, unevenly}.cart())
		onlyOwn.Bag = append(onlyOwn.Bag, impl.Msg{To: 3 - dev, Cart: plan{vec, often}.cart()})
	}
	list := []impl.Net{
		impl.NetNew(), everywhere(impl.CartNew(), fullReceivers()...), historyNet(), onlyOwn,
		{Carts: historyNet().Carts}, everywhere(fullestCart(), 0, 1, 2, 3), everywhere(plan{[4]int64{0, 5, 0, 0}, unevenly}.cart(), 2),
	}
	d := dice{state: 90}
	for range 30 {
		n, _ := d.netPlay(t, impl.NetNew(), 60)
		list = append(list, n)
	}
	return list
}

func wantNet(t *testing.T, what string, got impl.Net, want impl.Net) {
	t.Helper()
	if !sameNet(got, want) {
		t.Errorf("%s = %v; want %v", what, got, want)
	}
}

// wantStep checks one step, and that nothing but a new net comes of it.
func wantStep(t *testing.T, n impl.Net, s impl.Step, want impl.Net, code int64) {
	t.Helper()
	before := copyOfNet(n)
	got, gotCode := impl.NetDo(n, s)
	if gotCode != code || !sameNet(got, want) {
		t.Errorf("NetDo(%v, %v) = %v, %d; want %v, %d", n, s, got, gotCode, want, code)
	}
	if !sameNet(n, before) {
		t.Errorf("NetDo with %v has changed %v to %v", s, before, n)
	}
}

func wantStepRejected(t *testing.T, n impl.Net, s impl.Step, code int64) {
	t.Helper()
	wantStep(t, n, s, copyOfNet(n), code)
}

// play performs steps that must not be rejected.
func play(t *testing.T, n impl.Net, steps ...impl.Step) impl.Net {
	t.Helper()
	for _, s := range steps {
		next, code := impl.NetDo(n, s)
		if code != impl.CcOk || !impl.NetOk(next) {
			t.Fatalf("NetDo(%v, %v) = %v, %d", n, s, next, code)
		}
		n = next
	}
	return n
}

func wantNetPlay(t *testing.T, n impl.Net, steps []impl.Step, want impl.Net, codes []int64) {
	t.Helper()
	got, gotCodes := impl.NetPlay(n, steps)
	if !sameNet(got, want) || !slices.Equal(gotCodes, codes) {
		t.Errorf("NetPlay(%v, %v) = %v, %v; want %v, %v", n, steps, got, gotCodes, want, codes)
	}
}

func wantNoNet(t *testing.T, n impl.Net) {
	t.Helper()
	if impl.NetOk(n) {
		t.Errorf("NetOk(%v) = true", n)
	}
	for _, s := range append(kindSteps(), impl.Step{}, sendStep(4, 0), getStep(-1), cmdStep(0, impl.Cmd{}), dropStep(20)) {
		wantStep(t, n, s, impl.Net{}, impl.CcForm)
	}
	for _, steps := range [][]impl.Step{nil, {}, {sendStep(0, 1)}, {{}}, kindSteps(), make([]impl.Step, 201)} {
		wantNetPlay(t, n, steps, impl.Net{}, nil)
	}
	wantNet(t, "Settled of a net that is not valid", impl.Settled(n), impl.Net{})
}

// expectedMsgStep says in other words than the program what a step with a message makes of a valid net.
func expectedMsgStep(t *testing.T, n impl.Net, s impl.Step) (impl.Net, int64) {
	t.Helper()
	next := copyOfNet(n)
	if s.At < 0 || s.At >= int64(len(n.Bag)) {
		return next, impl.CcNone
	}
	m := n.Bag[s.At]
	switch s.Kind {
	case impl.StCopy:
		if len(n.Bag) == 20 {
			return next, impl.CcFull
		}
		next.Bag = append(next.Bag, m)
		return next, impl.CcOk
	case impl.StGet:
		next.Carts[m.To] = mustMerge(t, m.Cart, n.Carts[m.To])
	}
	next.Bag = slices.Delete(next.Bag, int(s.At), int(s.At)+1)
	return next, impl.CcOk
}

// expectedStep says in other words than the program what a step makes of a valid net.
func expectedStep(t *testing.T, n impl.Net, s impl.Step) (impl.Net, int64) {
	t.Helper()
	next := copyOfNet(n)
	switch {
	case s.Kind == impl.StGet || s.Kind == impl.StDrop || s.Kind == impl.StCopy:
		return expectedMsgStep(t, n, s)
	case s.Kind != impl.StCmd && s.Kind != impl.StSend || s.Dev < 0 || s.Dev > 3:
		return next, impl.CcForm
	case s.Kind == impl.StCmd:
		c, code := impl.Issue(n.Carts[s.Dev], s.Dev, s.C)
		if code != impl.CcForm {
			next.Carts[s.Dev] = c
		}
		return next, code
	case s.To < 0 || s.To > 3:
		return next, impl.CcForm
	case len(n.Bag) == 20:
		return next, impl.CcFull
	}
	next.Bag = append(next.Bag, impl.Msg{To: s.To, Cart: n.Carts[s.Dev]})
	return next, impl.CcOk
}

// step returns a step of any Kind, sometimes with a field that exceeds its limits.
func (d *dice) step() impl.Step {
	s := impl.Step{Kind: 1 + d.roll(5), Dev: d.roll(4), To: d.roll(4), At: d.roll(4), C: d.cmd()}
	switch d.roll(24) {
	case 0:
		s.Kind = 6 * d.roll(2)
	case 1:
		s.Dev = 5*d.roll(2) - 1
	case 2:
		s.To = 5*d.roll(2) - 1
	case 3:
		s.At = 30*d.roll(2) - 1
	case 4:
		s.C = notCmds()[d.roll(100)]
	case 5, 6, 7, 8:
		s.Kind = impl.StSend
	}
	return s
}

// netPlay performs steps and checks that each of them has its effect and that no cart loses operations.
func (d *dice) netPlay(t *testing.T, n impl.Net, count int) (impl.Net, map[[2]int64]int) {
	t.Helper()
	results := map[[2]int64]int{}
	for range count {
		s := d.step()
		want, code := expectedStep(t, n, s)
		wantStep(t, n, s, want, code)
		results[[2]int64{s.Kind, code}]++
		for dev := range want.Carts {
			if !impl.Within(n.Carts[dev], want.Carts[dev]) {
				t.Errorf("NetDo(%v, %v): the cart of device %d loses operations", n, s, dev)
			}
		}
		if !impl.NetOk(want) {
			t.Errorf("NetOk(%v) = false after %v", want, s)
		}
		if t.Failed() {
			t.FailNow()
		}
		n = want
	}
	return n, results
}

func TestNetNew(t *testing.T) {
	n := impl.NetNew()
	wantNet(t, "NetNew()", n, everywhere(impl.CartNew()))
	if !impl.NetOk(n) {
		t.Errorf("NetOk(%v) = false", n)
	}
	n.Carts[2].Vec[2] = 7
	wantNet(t, "NetNew() after the result of another call was modified", impl.NetNew(), everywhere(impl.CartNew()))
	if n.Carts[1].Vec[2] != 0 || n.Carts[3].Vec[2] != 0 {
		t.Errorf("the carts of NetNew share memory: %v", n)
	}
}

func TestNetOkOfNets(t *testing.T) {
	for _, n := range append(nets(t), everywhere(fullestCart(), fullReceivers()...)) {
		if !impl.NetOk(n) {
			t.Errorf("NetOk(%v) = false", n)
		}
	}
	for count := range 21 {
		n := everywhere(historyNet().Bag[3].Cart, fullReceivers()[:count]...)
		if !impl.NetOk(n) {
			t.Errorf("NetOk of a net with %d messages = false", count)
		}
	}
}

// A message may have any Undos: those of no cart need to be as many.
func TestNetOkOfUndos(t *testing.T) {
	for _, undos := range []int64{0, 1, 50} {
		for i := range 6 {
			n := everywhere(plan{[4]int64{1, 2, 1, 2}, never}.cart(), 1)
			n.Bag[0].Cart.Ops[i].Undos = undos
			n.Carts[2].Ops[i].Undos = 50 - undos
			if !impl.NetOk(n) {
				t.Errorf("NetOk(%v) = false", n)
			}
		}
	}
}

func TestNetsWithOtherThanFourCarts(t *testing.T) {
	for _, c := range []impl.Cart{impl.CartNew(), plan{[4]int64{1, 2, 3, 4}, never}.cart()} {
		for _, count := range []int{0, 1, 2, 3, 5, 6, 8, 100} {
			carts := slices.Repeat([]impl.Cart{c}, count)
			wantNoNet(t, impl.Net{Carts: carts})
			wantNoNet(t, impl.Net{Carts: carts, Bag: []impl.Msg{{To: 0, Cart: c}}})
		}
	}
	wantNoNet(t, impl.Net{})
	wantNoNet(t, impl.Net{Carts: make([]impl.Cart, 4)})
}

func TestNetsWithTooManyMessages(t *testing.T) {
	for _, c := range []impl.Cart{impl.CartNew(), plan{[4]int64{1, 2, 3, 4}, never}.cart()} {
		for _, count := range []int{21, 22, 40, 500} {
			wantNoNet(t, everywhere(c, make([]int64, count)...))
		}
	}
}

func TestNetsWithMessagesToNoDevice(t *testing.T) {
	for _, to := range notDevices {
		for at := range historyNet().Bag {
			n := historyNet()
			n.Bag[at].To = to
			wantNoNet(t, n)
		}
		n := everywhere(impl.CartNew(), fullReceivers()...)
		n.Bag[19].To = to
		wantNoNet(t, n)
	}
}

func TestNetsWithNotCarts(t *testing.T) {
	small, great := everywhere(impl.CartNew(), 1, 2), everywhere(plan{[4]int64{40, 40, 40, 40}, never}.cart(), 0)
	for i, bad := range notCarts() {
		for dev := range small.Carts {
			n := copyOfNet(small)
			n.Carts[dev] = bad
			wantNoNet(t, n)
		}
		for at := range small.Bag {
			n := copyOfNet(small)
			n.Bag[at].Cart = bad
			wantNoNet(t, n)
		}
		// Here the devices have all operations, so that a vector can hardly be too great.
		n := copyOfNet(great)
		n.Carts[i%4] = bad
		m := copyOfNet(great)
		m.Bag[0].Cart = bad
		if impl.NetOk(n) || impl.NetOk(m) {
			t.Errorf("NetOk of a net with %v = true", bad)
		}
		if t.Failed() {
			return
		}
	}
}

func TestNetsThatCannotBeMerged(t *testing.T) {
	addOp := impl.Op{Dev: 1, Seq: 2, Stamp: 20, Kind: impl.OkAdd, Item: "egg", Qty: 3, Level: 1}
	c := impl.Cart{Vec: []int64{1, 2, 1, 1}, Ops: []impl.Op{saveOp(0, 1, 10), saveOp(1, 1, 10), addOp, saveOp(2, 1, 9), saveOp(3, 1, 7)}}
	for i, o := range c.Ops {
		for _, unlike := range unlikeOps(o) {
			other := copyOf(c)
			other.Ops[i] = unlike
			for dev := range impl.Devices {
				n := everywhere(c)
				n.Carts[dev] = other
				wantNoNet(t, n)
			}
			for at := range 3 {
				n := everywhere(c, 3, 0, 0)
				n.Bag[at].Cart = other
				wantNoNet(t, n)
			}
			n := everywhere(c, fullReceivers()...)
			n.Bag[19].Cart = other
			wantNoNet(t, n)
		}
	}
}

// Only two carts have the operation at all.
func TestNetsWithTwoCartsThatCannotBeMerged(t *testing.T) {
	for dev := range int64(impl.Devices) {
		vec := []int64{0, 0, 0, 0}
		vec[dev] = 1
		c := impl.Cart{Vec: vec, Ops: []impl.Op{saveOp(dev, 1, 10)}}
		other := impl.Cart{Vec: vec, Ops: []impl.Op{saveOp(dev, 1, 11)}}
		n := impl.NetNew()
		n.Carts[dev] = c
		for second := range n.Carts {
			m := copyOfNet(n)
			m.Carts[second] = other
			if second == int(dev) {
				if !impl.NetOk(m) {
					t.Errorf("NetOk(%v) = false", m)
				}
				continue
			}
			wantNoNet(t, m)
		}
		n.Bag = []impl.Msg{{To: 0, Cart: impl.CartNew()}, {To: dev, Cart: other}}
		wantNoNet(t, n)
	}
}

// Nobody has operations of a device that the device itself does not have.
func TestNetsWithGreaterVectors(t *testing.T) {
	for _, last := range []int64{0, 1, 2, 39} {
		for dev := range int64(impl.Devices) {
			known, greater := plan{undos: unevenly}, plan{undos: unevenly}
			known.vec[dev], greater.vec[dev] = last, last+1
			n := everywhere(known.cart(), 0, 3, dev)
			for holder := range n.Carts {
				m := copyOfNet(n)
				m.Carts[holder] = greater.cart()
				if holder == int(dev) {
					if !impl.NetOk(m) {
						t.Errorf("NetOk(%v) = false", m)
					}
					continue
				}
				wantNoNet(t, m)
			}
			for at := range n.Bag {
				m := copyOfNet(n)
				m.Bag[at].Cart = greater.cart()
				wantNoNet(t, m)
				m.Carts[dev] = greater.cart()
				if !impl.NetOk(m) {
					t.Errorf("NetOk(%v) = false", m)
				}
			}
		}
	}
}

// The sums of the vectors are equal, or that of the device is the greater one.
func TestNetsWithOneGreaterElement(t *testing.T) {
	for dev := range int64(impl.Devices) {
		for other := range int64(impl.Devices) {
			if other == dev {
				continue
			}
			own, foreign := plan{[4]int64{5, 5, 5, 5}, never}, plan{[4]int64{0, 0, 0, 0}, never}
			foreign.vec[dev] = 6
			n := everywhere(own.cart())
			n.Bag = []impl.Msg{{To: other, Cart: foreign.cart()}}
			wantNoNet(t, n)
			own.vec[dev] = 6
			n.Carts[other] = own.cart()
			wantNoNet(t, n)
			n.Carts[dev] = own.cart()
			if !impl.NetOk(n) {
				t.Errorf("NetOk(%v) = false", n)
			}
		}
	}
}

func TestStepsOfNoKind(t *testing.T) {
	for _, n := range []impl.Net{impl.NetNew(), historyNet(), everywhere(impl.CartNew(), fullReceivers()...)} {
		for _, kind := range []int64{0, -1, 6, 7, -5, math.MinInt64, math.MaxInt64, 1 << 32} {
			wantStepRejected(t, n, impl.Step{Kind: kind}, impl.CcForm)
			for _, s := range kindSteps() {
				s.Kind = kind
				wantStepRejected(t, n, s, impl.CcForm)
				s.At = -1
				wantStepRejected(t, n, s, impl.CcForm)
			}
		}
		for _, s := range kindSteps() {
			s.Kind += 1 << 32
			wantStepRejected(t, n, s, impl.CcForm)
		}
	}
}

func TestStepsOfNoDevice(t *testing.T) {
	for _, n := range []impl.Net{impl.NetNew(), historyNet(), everywhere(impl.CartNew(), fullReceivers()...)} {
		for _, bad := range notDevices {
			for dev := range int64(impl.Devices) {
				wantStepRejected(t, n, sendStep(bad, dev), impl.CcForm)
				wantStepRejected(t, n, sendStep(dev, bad), impl.CcForm)
			}
			wantStepRejected(t, n, sendStep(bad, bad), impl.CcForm)
			for _, x := range append(kindCmds(), impl.Cmd{}) {
				wantStepRejected(t, n, cmdStep(bad, x), impl.CcForm)
			}
		}
	}
}

// Fields that a step does not need have no meaning, whatever they are.
func TestStepsWithUnneededFields(t *testing.T) {
	n := historyNet()
	numbers := append([]int64{0, 1, 3, 6, 20, 41}, notDevices...)
	for _, s := range kindSteps() {
		want, code := expectedStep(t, n, s)
		if code != impl.CcOk {
			t.Fatalf("the test's step %v is rejected with %d", s, code)
		}
		for _, k := range numbers {
			other := s
			if s.Kind == impl.StCmd || s.Kind == impl.StSend {
				other.At = k
			}
			if s.Kind != impl.StSend {
				other.To = k
			}
			if s.Kind >= impl.StGet {
				other.Dev = k
			}
			if s.Kind != impl.StCmd {
				other.C = impl.Cmd{Kind: k, Item: "T\x00", Qty: k, Dev: k, Seq: k}
			}
			wantStep(t, n, other, want, impl.CcOk)
		}
	}
}

func TestStepsWithoutMessage(t *testing.T) {
	for _, n := range []impl.Net{impl.NetNew(), historyNet(), everywhere(impl.CartNew(), 3), everywhere(impl.CartNew(), fullReceivers()...)} {
		count := int64(len(n.Bag))
		for _, at := range []int64{-1, -2, -count - 1, count, count + 1, 1 << 32, -1 << 32, math.MinInt64, math.MaxInt64} {
			wantStepRejected(t, n, getStep(at), impl.CcNone)
			wantStepRejected(t, n, dropStep(at), impl.CcNone)
			// There is no such message, even if there were no room for a copy of it.
			wantStepRejected(t, n, copyStep(at), impl.CcNone)
		}
	}
}

func TestStepsWithEachMessage(t *testing.T) {
	for _, n := range nets(t) {
		for at := range int64(len(n.Bag)) {
			for _, s := range []impl.Step{getStep(at), dropStep(at), copyStep(at)} {
				want, code := expectedStep(t, n, s)
				wantStep(t, n, s, want, code)
			}
		}
	}
}

func TestStepsWithEachPair(t *testing.T) {
	for _, n := range nets(t) {
		for dev := range int64(impl.Devices) {
			for to := range int64(impl.Devices) {
				want := copyOfNet(n)
				want.Bag = append(want.Bag, impl.Msg{To: to, Cart: copyOf(n.Carts[dev])})
				if len(n.Bag) == 20 {
					wantStepRejected(t, n, sendStep(dev, to), impl.CcFull)
					continue
				}
				wantStep(t, n, sendStep(dev, to), want, impl.CcOk)
			}
		}
	}
}

func TestFullBag(t *testing.T) {
	c := plan{[4]int64{1, 0, 2, 1}, unevenly}.cart()
	almost, full := everywhere(c, fullReceivers()[:19]...), everywhere(c, fullReceivers()...)
	for _, s := range []impl.Step{sendStep(0, 1), sendStep(3, 3), copyStep(0), copyStep(18)} {
		want, _ := expectedStep(t, almost, s)
		wantStep(t, almost, s, want, impl.CcOk)
		if len(want.Bag) != 20 {
			t.Errorf("%v makes a bag of %d messages", s, len(want.Bag))
		}
		wantStepRejected(t, full, s, impl.CcFull)
	}
	wantStepRejected(t, full, copyStep(19), impl.CcFull)
	wantStepRejected(t, full, impl.Step{Kind: impl.StSend, At: -1}, impl.CcFull)
	// What adds no message is performed, and then there is room for one.
	for _, s := range []impl.Step{getStep(19), getStep(0), dropStep(19), dropStep(7), cmdStep(2, addCmd("new", 1))} {
		want, _ := expectedStep(t, full, s)
		wantStep(t, full, s, want, impl.CcOk)
		if s.Kind != impl.StCmd {
			wantStepRejected(t, play(t, want, sendStep(1, 2)), copyStep(0), impl.CcFull)
			wantStepRejected(t, play(t, want, copyStep(18)), sendStep(0, 0), impl.CcFull)
		}
	}
}

func TestCommandStepsAsIssue(t *testing.T) {
	n := historyNet()
	codes := map[int64]int{}
	for dev := range int64(impl.Devices) {
		full, fullUndos := roomFor(t, 0, "tea", "egg"), undone(saveOp(dev, 1, 5), 50)
		last := impl.Cart{Vec: []int64{0, 0, 0, 0}, Ops: []impl.Op{fullUndos}}
		last.Vec[dev] = 1
		single := impl.NetNew()
		single.Carts[dev] = last
		for _, m := range []impl.Net{n, everywhere(full, 1), single} {
			for _, x := range append(argumentCmds(), toggleCmd(dev, 1), setCmd("tea", 9), addCmd("tea", 1)) {
				want := copyOfNet(m)
				c, code := impl.Issue(m.Carts[dev], dev, x)
				if code == impl.CcOk {
					want.Carts[dev] = c
				}
				codes[code]++
				wantStep(t, m, cmdStep(dev, x), want, code)
			}
		}
	}
	for code := range int64(5) {
		if codes[code] == 0 {
			t.Errorf("no command had the code %d: %v", code, codes)
		}
	}
}

// A command that is not valid leaves the net as it is, although Issue returns no cart.
func TestInvalidCommandSteps(t *testing.T) {
	for _, n := range []impl.Net{impl.NetNew(), historyNet()} {
		for _, bad := range notCmds() {
			for dev := range int64(impl.Devices) {
				wantStepRejected(t, n, cmdStep(dev, bad), impl.CcForm)
			}
		}
	}
}

func TestMessageThatIsOlder(t *testing.T) {
	n := play(t, impl.NetNew(), cmdStep(0, addCmd("tea", 3)), sendStep(0, 1), cmdStep(0, setCmd("tea", 5)), cmdStep(0, addCmd("egg", 1)), sendStep(0, 1))
	newer := play(t, n, getStep(1))
	wantLines(t, newer.Carts[1], []impl.Line{{Item: "egg", Qty: 1}, {Item: "tea", Qty: 5}}, 6)
	want := copyOfNet(newer)
	want.Bag = nil
	wantNet(t, "the net after a message that is older than the cart", play(t, newer, getStep(0)), want)
}

// The message has fewer Undos than the cart, and not what the receiver has done since then.
func TestMessageThatIsOlderThanUndos(t *testing.T) {
	n := play(t, impl.NetNew(), cmdStep(0, addCmd("tea", 3)), sendStep(0, 1), getStep(0))
	n = play(t, n, sendStep(1, 0), cmdStep(1, toggleCmd(0, 1)), cmdStep(1, addCmd("oat", 2)), sendStep(1, 0), sendStep(0, 1))
	n = play(t, n, cmdStep(1, setCmd("oat", 7)), cmdStep(1, toggleCmd(0, 1)), cmdStep(1, toggleCmd(0, 1)))
	after := play(t, n, getStep(2))
	wantNet(t, "the net after a message that is older than the cart", after, impl.Net{Carts: n.Carts, Bag: n.Bag[:2]})
	wantLines(t, after.Carts[1], []impl.Line{{Item: "oat", Qty: 7}}, 7)
	after = play(t, after, getStep(1))
	wantLines(t, after.Carts[0], []impl.Line{{Item: "oat", Qty: 2}}, 2)
	wantNet(t, "the net after another one", play(t, after, getStep(0)), impl.Net{Carts: after.Carts})
	for dev, undos := range []int64{1, 3} {
		if o := after.Carts[dev].Ops[0]; o.Undos != undos {
			t.Errorf("device %d has %v; want the Undos %d", dev, o, undos)
		}
	}
}

func TestMessageReceivedTwice(t *testing.T) {
	for _, n := range nets(t) {
		for at := range int64(len(n.Bag)) {
			if len(n.Bag) == 20 {
				break
			}
			copied := play(t, n, copyStep(at))
			wantNet(t, "the net with a copied message that is lost", play(t, copied, dropStep(int64(len(n.Bag)))), n)
			once := play(t, n, getStep(at))
			wantNet(t, "the net after a message that came twice", play(t, copied, getStep(at), getStep(int64(len(once.Bag)))), once)
			wantNet(t, "the net after a message that came twice, the copy first", play(t, copied, getStep(int64(len(n.Bag))), getStep(at)), once)
		}
	}
}

// Any two messages may arrive in either order, also to one device.
func TestMessagesInEitherOrder(t *testing.T) {
	for _, n := range nets(t) {
		for second := range n.Bag {
			for first := range second {
				a := play(t, n, getStep(int64(first)), getStep(int64(second)-1))
				b := play(t, n, getStep(int64(second)), getStep(int64(first)))
				wantNet(t, "the net after two messages in the other order", a, b)
			}
		}
	}
}

// arrivals calls f for the indexes of all orders in which a number of messages can be received.
func arrivals(count int, chosen []impl.Step, f func(steps []impl.Step)) {
	if count == 0 {
		f(chosen)
		return
	}
	for at := range count {
		arrivals(count-1, append(slices.Clone(chosen), getStep(int64(at))), f)
	}
}

func TestMessagesInAllOrders(t *testing.T) {
	n := impl.Net{Carts: historyNet().Carts, Bag: historyNet().Bag[:5]}
	for at := range n.Bag {
		n.Bag[at].To = 1
	}
	want := n.Carts[1]
	for _, m := range n.Bag {
		want = mustMerge(t, want, m.Cart)
	}
	orders := 0
	arrivals(len(n.Bag), nil, func(steps []impl.Step) {
		orders++
		wantNet(t, "the net after all messages", play(t, n, steps...), impl.Net{Carts: []impl.Cart{n.Carts[0], want, n.Carts[2], n.Carts[3]}})
	})
	if orders != 120 {
		t.Errorf("only %d orders", orders)
	}
}

func TestMessageToTheOwnDevice(t *testing.T) {
	for _, n := range nets(t) {
		for dev := range int64(impl.Devices) {
			if len(n.Bag) == 20 {
				break
			}
			last := int64(len(n.Bag))
			wantNet(t, "the net after a message to the own device", play(t, n, sendStep(dev, dev), getStep(last)), n)
			changed, code := impl.NetDo(play(t, n, sendStep(dev, dev)), cmdStep(dev, addCmd("new", 1)))
			want := copyOfNet(changed)
			want.Bag = want.Bag[:last]
			if code == impl.CcOk {
				wantNet(t, "the net after an older message to the own device", play(t, changed, getStep(last)), want)
			}
		}
	}
}

func TestMessageKeepsTheCartOfItsTime(t *testing.T) {
	n := play(t, impl.NetNew(), cmdStep(2, addCmd("tea", 1)), sendStep(2, 0), cmdStep(2, removeCmd("tea")), copyStep(0), cmdStep(2, addCmd("egg", 4)), sendStep(2, 0))
	for at, want := range [][]impl.Line{{{Item: "tea", Qty: 1}}, {{Item: "tea", Qty: 1}}, {{Item: "egg", Qty: 4}}} {
		if got := impl.LinesOf(n.Bag[at].Cart); !slices.Equal(got, want) || n.Bag[at].To != 0 {
			t.Errorf("the message %d has the lines %v; want %v", at, got, want)
		}
	}
	wantLines(t, play(t, n, getStep(1)).Carts[0], []impl.Line{{Item: "tea", Qty: 1}}, 1)
	wantLines(t, play(t, n, getStep(2), getStep(0), getStep(0)).Carts[0], []impl.Line{{Item: "egg", Qty: 4}}, 4)
	wantNet(t, "the net after all messages were lost", play(t, n, dropStep(0), dropStep(1), dropStep(0)), impl.Net{Carts: n.Carts})
}

func TestRandomPlays(t *testing.T) {
	results := map[[2]int64]int{}
	for seed := range uint64(25) {
		d := dice{state: 900 + seed}
		_, counts := d.netPlay(t, impl.NetNew(), 200)
		for result, count := range counts {
			results[result] += count
		}
	}
	for _, kindAndCode := range [][2]int64{
		{impl.StCmd, impl.CcOk}, {impl.StCmd, impl.CcForm}, {impl.StCmd, impl.CcNone}, {impl.StCmd, impl.CcThere},
		{impl.StSend, impl.CcOk}, {impl.StSend, impl.CcForm}, {impl.StSend, impl.CcFull}, {impl.StGet, impl.CcOk}, {impl.StGet, impl.CcNone},
		{impl.StDrop, impl.CcOk}, {impl.StDrop, impl.CcNone}, {impl.StCopy, impl.CcOk}, {impl.StCopy, impl.CcNone}, {impl.StCopy, impl.CcFull},
	} {
		if results[kindAndCode] == 0 {
			t.Errorf("no step of the Kind %d had the code %d: %v", kindAndCode[0], kindAndCode[1], results)
		}
	}
}

// exchange sends the cart of each device to each other one; copies of the messages arrive in any order.
func (d *dice) exchange(t *testing.T, n impl.Net) impl.Net {
	t.Helper()
	for len(n.Bag) > 0 {
		n = play(t, n, impl.Step{Kind: impl.StGet + d.roll(2), At: d.roll(int64(len(n.Bag)))})
	}
	for pair := range int64(16) {
		if pair/4 != pair%4 {
			n = play(t, n, sendStep(pair/4, pair%4))
		}
	}
	for range d.roll(9) {
		n = play(t, n, copyStep(d.roll(int64(len(n.Bag)))))
	}
	for len(n.Bag) > 0 {
		n = play(t, n, getStep(d.roll(int64(len(n.Bag)))))
	}
	return n
}

func wantExchanged(t *testing.T, before impl.Net, after impl.Net) {
	t.Helper()
	for dev, c := range after.Carts {
		if !sameCart(c, after.Carts[0]) {
			t.Errorf("after everything was exchanged, device %d has %v, and device 0 %v", dev, c, after.Carts[0])
		}
		for old := range before.Carts {
			if !impl.Within(before.Carts[old], c) {
				t.Errorf("the cart %v of device %d is not within %v of device %d", before.Carts[old], old, c, dev)
			}
		}
	}
	wantNet(t, "Settled of the net after everything was exchanged", impl.Settled(after), after)
}

func TestExchangeOfEverything(t *testing.T) {
	for seed := range uint64(60) {
		d := dice{state: 950 + seed}
		n, _ := d.netPlay(t, impl.NetNew(), 50)
		wantExchanged(t, n, d.exchange(t, n))
		n.Bag = nil
		wantNet(t, "Settled of a net without messages", impl.Settled(n), d.exchange(t, n))
		if t.Failed() {
			return
		}
	}
}

// Each device tells the next one only, and then the one before it.
func TestExchangeAlongTheDevices(t *testing.T) {
	for _, n := range nets(t) {
		n.Bag = nil
		after := n
		for _, pair := range [][2]int64{{0, 1}, {1, 2}, {2, 3}, {3, 2}, {2, 1}, {1, 0}} {
			after = play(t, after, sendStep(pair[0], pair[1]), getStep(0))
		}
		wantExchanged(t, n, after)
		wantNet(t, "Settled of a net without messages", impl.Settled(n), after)
	}
}

func TestNetPlayAsNetDo(t *testing.T) {
	for seed := range uint64(40) {
		d := dice{state: 970 + seed}
		n, _ := d.netPlay(t, impl.NetNew(), 20)
		var steps []impl.Step
		var codes []int64
		want := n
		for range d.roll(201) {
			s := d.step()
			next, code := impl.NetDo(want, s)
			steps, codes, want = append(steps, s), append(codes, code), next
		}
		wantNetPlay(t, n, steps, want, codes)
		if t.Failed() {
			return
		}
	}
}

func TestNetPlayWithRejectedSteps(t *testing.T) {
	want := play(t, impl.NetNew(), cmdStep(2, addCmd("oat", 1)), sendStep(2, 0), getStep(0))
	steps := []impl.Step{
		{}, cmdStep(2, addCmd("oat", 1)), cmdStep(2, impl.Cmd{}), cmdStep(2, addCmd("oat", 2)), cmdStep(1, removeCmd("oat")), sendStep(2, 0),
		sendStep(2, 4), cmdStep(-1, undoCmd), getStep(1), copyStep(-1), getStep(0), getStep(0), dropStep(0), copyStep(0), {Kind: 6},
	}
	codes := []int64{
		impl.CcForm, impl.CcOk, impl.CcForm, impl.CcThere, impl.CcNone, impl.CcOk,
		impl.CcForm, impl.CcForm, impl.CcNone, impl.CcNone, impl.CcOk, impl.CcNone, impl.CcNone, impl.CcNone, impl.CcForm,
	}
	wantNetPlay(t, impl.NetNew(), steps, want, codes)
	full := everywhere(impl.CartNew(), fullReceivers()...)
	almost := everywhere(impl.CartNew(), fullReceivers()[1:]...)
	almost.Bag = append(almost.Bag, almost.Bag[0])
	steps = []impl.Step{sendStep(0, 0), copyStep(0), dropStep(0), copyStep(0), sendStep(0, 0)}
	wantNetPlay(t, full, steps, almost, []int64{impl.CcFull, impl.CcFull, impl.CcOk, impl.CcOk, impl.CcFull})
}

func TestNetPlayOfManySteps(t *testing.T) {
	for _, n := range []impl.Net{impl.NetNew(), historyNet()} {
		want := copyOfNet(n)
		added := 20 - len(n.Bag)
		for range added {
			want.Bag = append(want.Bag, impl.Msg{To: 2, Cart: copyOf(n.Carts[3])})
		}
		codes := append(make([]int64, added), slices.Repeat([]int64{impl.CcFull}, 200-added)...)
		sends := slices.Repeat([]impl.Step{sendStep(3, 2)}, 200)
		wantNetPlay(t, n, sends, want, codes)
		wantNetPlay(t, n, sends[:199], want, codes[:199])
		wantNetPlay(t, n, make([]impl.Step, 200), n, slices.Repeat([]int64{impl.CcForm}, 200))
		wantNetPlay(t, n, nil, n, nil)
		for _, count := range []int{201, 202, 400, 10000} {
			wantNetPlay(t, n, slices.Repeat([]impl.Step{sendStep(3, 2)}, count), impl.Net{}, nil)
			wantNetPlay(t, n, make([]impl.Step, count), impl.Net{}, nil)
		}
	}
}

func TestSettledExamples(t *testing.T) {
	n := play(t, impl.NetNew(), cmdStep(0, addCmd("tea", 3)), cmdStep(1, addCmd("egg", 2)), sendStep(0, 3), cmdStep(2, addCmd("oat", 1)), cmdStep(2, undoCmd), sendStep(1, 1))
	c := mustMerge(t, mustMerge(t, n.Carts[0], n.Carts[1]), n.Carts[2])
	wantNet(t, "Settled", impl.Settled(n), everywhere(c))
	wantLines(t, impl.Settled(n).Carts[3], []impl.Line{{Item: "egg", Qty: 2}, {Item: "tea", Qty: 3}}, 5)
	wantNet(t, "Settled of a new net", impl.Settled(impl.NetNew()), impl.NetNew())
	wantNet(t, "Settled of a net with messages only", impl.Settled(everywhere(impl.CartNew(), fullReceivers()...)), impl.NetNew())
}

func TestSettledOfNets(t *testing.T) {
	for _, n := range append(nets(t), everywhere(fullestCart(), fullReceivers()...)) {
		before := copyOfNet(n)
		got := impl.Settled(n)
		c := mustMerge(t, mustMerge(t, n.Carts[3], n.Carts[1]), mustMerge(t, n.Carts[0], n.Carts[2]))
		wantNet(t, "Settled", got, everywhere(c))
		wantNet(t, "Settled of a settled net", impl.Settled(got), got)
		wantNet(t, "the argument of Settled", n, before)
		if !impl.NetOk(got) {
			t.Errorf("NetOk(%v) = false", got)
		}
		for _, old := range n.Carts {
			if !impl.Within(old, got.Carts[0]) {
				t.Errorf("%v is not within %v", old, got.Carts[0])
			}
		}
	}
}

// What only a message in transit has is lost when the net settles.
func TestSettledWithoutMessages(t *testing.T) {
	c := plan{[4]int64{1, 2, 0, 1}, never}.cart()
	n := everywhere(c, 0, 2)
	for at := range n.Bag {
		n.Bag[at].Cart.Ops[at].Undos = 7
	}
	wantNet(t, "Settled", impl.Settled(n), everywhere(c))
	wantNet(t, "Settled after the messages were lost", impl.Settled(play(t, n, dropStep(0), dropStep(0))), everywhere(c))
	c.Ops[0].Undos = 7
	wantNet(t, "Settled after one of both was received", impl.Settled(play(t, n, getStep(0))), everywhere(c))
	c.Ops[1].Undos = 7
	wantNet(t, "Settled after both were received", impl.Settled(play(t, n, getStep(1), getStep(0))), everywhere(c))
}

// slackCart is a cart with spare capacity behind its lists, whose texts are in memory of their own.
func slackCart(c impl.Cart) impl.Cart {
	vec := append(slices.Clone(c.Vec), 98, 99)
	ops := append(slices.Clone(c.Ops), saveOp(3, 39, 98), saveOp(3, 40, 99))
	for i := range ops {
		ops[i].Item = strings.Clone(ops[i].Item)
	}
	return impl.Cart{Vec: vec[:len(c.Vec)], Ops: ops[:len(c.Ops)]}
}

// slack is a net with spare capacity behind each of its lists, which is not empty.
func slack(n impl.Net) impl.Net {
	var s impl.Net
	for _, c := range n.Carts {
		s.Carts = append(s.Carts, slackCart(c))
	}
	for _, m := range n.Bag {
		s.Bag = append(s.Bag, impl.Msg{To: m.To, Cart: slackCart(m.Cart)})
	}
	behind := plan{[4]int64{9, 8, 7, 6}, often}.cart()
	carts := append(s.Carts, behind, behind)
	bag := append(s.Bag, impl.Msg{To: 98, Cart: behind}, impl.Msg{To: 99, Cart: behind})
	return impl.Net{Carts: carts[:len(n.Carts)], Bag: bag[:len(n.Bag)]}
}

func allOf(c impl.Cart) impl.Cart {
	return impl.Cart{Vec: c.Vec[:cap(c.Vec)], Ops: c.Ops[:cap(c.Ops)]}
}

// withSpare is a copy of a net in which the lists have what lies behind them too.
func withSpare(n impl.Net) impl.Net {
	var all impl.Net
	for _, c := range n.Carts[:cap(n.Carts)] {
		all.Carts = append(all.Carts, allOf(c))
	}
	for _, m := range n.Bag[:cap(n.Bag)] {
		all.Bag = append(all.Bag, impl.Msg{To: m.To, Cart: allOf(m.Cart)})
	}
	return copyOfNet(all)
}

// place is where in memory a list or a text lies.
type place struct{ start, end uintptr }

func placeOfList[E any](list []E) place {
	start := uintptr(unsafe.Pointer(unsafe.SliceData(list)))
	return place{start, start + uintptr(cap(list))*unsafe.Sizeof(*new(E))}
}

func placeOfText(s string) place {
	start := uintptr(unsafe.Pointer(unsafe.StringData(s)))
	return place{start, start + uintptr(len(s))}
}

func (p place) meets(q place) bool {
	return p.start < q.end && q.start < p.end
}

func carts(n impl.Net) []impl.Cart {
	list := slices.Clone(n.Carts)
	for _, m := range n.Bag {
		list = append(list, m.Cart)
	}
	return list
}

func placesOfLists(n impl.Net) []place {
	places := []place{placeOfList(n.Carts), placeOfList(n.Bag)}
	for _, c := range carts(n) {
		places = append(places, placeOfList(c.Vec), placeOfList(c.Ops))
	}
	return places
}

func placesOfTexts(n impl.Net) []place {
	var places []place
	for _, c := range carts(n) {
		for _, o := range c.Ops {
			places = append(places, placeOfText(o.Item))
		}
	}
	return places
}

func wantApart(t *testing.T, what string, a []place, b []place) {
	t.Helper()
	for _, p := range a {
		for _, q := range b {
			if p.meets(q) {
				t.Fatalf("%s: memory is shared", what)
			}
		}
	}
}

// wantNew checks that no lists of the result share memory, and that it shares none with the arguments.
func wantNew(t *testing.T, what string, result impl.Net, argument impl.Net, x impl.Cmd) {
	t.Helper()
	lists := placesOfLists(result)
	for i := range lists {
		wantApart(t, what+": two lists of the result", lists[:i], lists[i:i+1])
	}
	wantApart(t, what+": the result and the argument", lists, placesOfLists(argument))
	wantApart(t, what+": texts of the result and of the argument", placesOfTexts(result), append(placesOfTexts(argument), placeOfText(x.Item)))
}

func TestNetArgumentsAreKept(t *testing.T) {
	all := append(nets(t)[:12], everywhere(plan{[4]int64{1, 2, 0, 1}, unevenly}.cart(), fullReceivers()...))
	for _, given := range all {
		n := slack(given)
		before := withSpare(n)
		steps := append(kindSteps(), getStep(2), copyStep(3), cmdStep(0, setCmd("tea", 4)), cmdStep(3, undoCmd), cmdStep(0, clearCmd), cmdStep(3, impl.Cmd{}), sendStep(2, 2), sendStep(0, 9), impl.Step{})
		for _, s := range steps {
			first, code := impl.NetDo(n, s)
			again, codeAgain := impl.NetDo(n, s)
			if !sameNet(first, again) || code != codeAgain {
				t.Errorf("NetDo with equal arguments: %v, %d, then %v, %d", first, code, again, codeAgain)
			}
			wantNew(t, "NetDo", first, n, s.C)
			wantNet(t, "the argument of NetDo, with what lies behind it,", withSpare(n), before)
		}
		keepNetPlay(t, n, append(steps, getStep(0), getStep(0), sendStep(0, 1), dropStep(0), cmdStep(0, addCmd("last", 1))))
		wantNet(t, "the argument of NetPlay, with what lies behind it,", withSpare(n), before)
		first := impl.Settled(n)
		wantNet(t, "Settled with equal arguments", impl.Settled(n), first)
		wantNew(t, "Settled", first, n, impl.Cmd{})
		wantNew(t, "NetNew", impl.NetNew(), impl.NetNew(), impl.Cmd{})
		if !impl.NetOk(n) || !impl.NetOk(n) {
			t.Errorf("NetOk(%v) = false", n)
		}
		wantNet(t, "the argument, with what lies behind it,", withSpare(n), before)
		if t.Failed() {
			return
		}
	}
}

func keepNetPlay(t *testing.T, n impl.Net, behind []impl.Step) {
	t.Helper()
	wantBehind := slices.Clone(behind)
	for _, count := range []int{0, 1, 3, len(behind) - 2} {
		first, codes := impl.NetPlay(n, behind[:count])
		again, codesAgain := impl.NetPlay(n, behind[:count])
		if !sameNet(first, again) || !slices.Equal(codes, codesAgain) {
			t.Errorf("NetPlay with equal arguments: %v, %v, then %v, %v", first, codes, again, codesAgain)
		}
		wantNew(t, "NetPlay", first, n, impl.Cmd{})
		for _, s := range behind {
			wantNew(t, "NetPlay", first, impl.Net{}, s.C)
		}
		wantApart(t, "NetPlay: the codes and other lists", []place{placeOfList(codes)}, append(placesOfLists(first), placeOfList(behind)))
		if !slices.Equal(behind, wantBehind) {
			t.Errorf("the steps are now %v; they were %v", behind, wantBehind)
		}
	}
}

// A result that is modified does not modify the result of a later call.
func TestNetResultsAreIndependent(t *testing.T) {
	n := historyNet()
	for _, s := range kindSteps() {
		first, _ := impl.NetDo(n, s)
		want := copyOfNet(first)
		for _, c := range carts(first) {
			spoil(c)
		}
		clear(first.Carts)
		clear(first.Bag)
		wantStep(t, n, s, want, impl.CcOk)
	}
	first := impl.Settled(n)
	want := copyOfNet(first)
	spoil(first.Carts[0])
	wantNet(t, "the rest of a settled net", impl.Net{Carts: first.Carts[1:]}, impl.Net{Carts: want.Carts[1:]})
	wantNet(t, "Settled with equal arguments", impl.Settled(n), want)
}

// A call leaves nothing running behind it.
func TestNetGoroutinesEnd(t *testing.T) {
	before := runtime.NumGoroutine()
	n := everywhere(impl.CartNew(), fullReceivers()...)
	for at := range int64(20) {
		for range 50 {
			impl.NetDo(n, getStep(at))
			impl.NetDo(n, dropStep(at))
			impl.NetDo(n, getStep(at+20))
		}
	}
	for range 1000 {
		if runtime.NumGoroutine() <= before {
			return
		}
		time.Sleep(time.Millisecond)
	}
	t.Errorf("%d goroutines before the calls, and %d after them", before, runtime.NumGoroutine())
}

// Calls at the same time, with one argument, have the results of calls one after another.
func TestNetsAtTheSameTime(t *testing.T) {
	n := historyNet()
	var steps []impl.Step
	d := dice{state: 99}
	for range 100 {
		steps = append(steps, d.step())
	}
	want, codes := impl.NetPlay(n, steps)
	settled := impl.Settled(n)
	var group sync.WaitGroup
	for range 8 {
		group.Go(func() {
			for range 5 {
				wantNetPlay(t, n, steps, want, codes)
				wantNet(t, "Settled", impl.Settled(n), settled)
			}
		})
	}
	group.Wait()
}
