package tests

import (
	"encoding/binary"
	"hash/crc32"
	"math"
	"slices"
	"strings"
	"testing"

	"loop.example/g00660/impl"
)

const (
	frameHead = 8
	maxFrames = 300
)

// frameAnyway is the frame of some data, whether that is too long or not.
func frameAnyway(data string) string {
	head := binary.BigEndian.AppendUint32(nil, uint32(len(data)))
	head = binary.LittleEndian.AppendUint32(head, crc32.ChecksumIEEE([]byte(data)))
	return string(head) + data
}

func partFrame(part impl.Cart) string { return frameAnyway(bodyAnyway(part)) }

// emptyFrame has a part that every cart can take.
func emptyFrame() string { return partFrame(impl.CartNew()) }

func newAct() impl.Act { return impl.Act{Kind: impl.AcNew, Power: -1} }

func openAct() impl.Act { return impl.Act{Kind: impl.AcOpen, Power: -1} }

func cmdAct(dev int64, x impl.Cmd) impl.Act {
	return impl.Act{Kind: impl.AcCmd, Dev: dev, C: x, Power: -1}
}

func mergeAct(c impl.Cart) impl.Act { return impl.Act{Kind: impl.AcMerge, Cart: c, Power: -1} }

func crashAct(torn int64, keep ...int64) impl.Act {
	return impl.Act{Kind: impl.AcCrash, Keep: keep, Torn: torn, Power: -1}
}

func withPower(a impl.Act, power int64) impl.Act {
	a.Power = power
	return a
}

// kindActs are actions of each Kind.
func kindActs() []impl.Act {
	return []impl.Act{newAct(), cmdAct(1, addCmd("new", 2)), mergeAct(impl.CartNew()), openAct(), crashAct(0)}
}

func logDisk(text string, files ...impl.File) impl.Disk {
	return syncedDisk(with(files, "log", text)...)
}

func wantFrames(t *testing.T, s string, frames []string, end int) {
	t.Helper()
	if got, n := impl.TakeFrames(s); !slices.Equal(got, frames) || n != int64(end) {
		t.Errorf("TakeFrames(%s) returns %d frames, %d; want %d frames, %d", shortText(s), len(got), n, len(frames), end)
	}
}

func wantStored(t *testing.T, d impl.Disk, want impl.Cart) {
	t.Helper()
	if got, code := impl.StoreView(d); !sameCart(got, want) || code != impl.StOk {
		t.Errorf("StoreView(%v) = %v, %d; want %v, %d", shortDisk(d), got, code, want, impl.StOk)
	}
}

func wantNotStored(t *testing.T, d impl.Disk, want int64) {
	t.Helper()
	if got, code := impl.StoreView(d); !sameCart(got, impl.Cart{}) || code != want {
		t.Errorf("StoreView(%v) = %v, %d; want the zero value, %d", shortDisk(d), got, code, want)
	}
}

func copyOfAct(a impl.Act) impl.Act {
	a.Cart, a.Keep = copyOf(a.Cart), slices.Clone(a.Keep)
	return a
}

func sameAct(a impl.Act, b impl.Act) bool {
	same := a.Kind == b.Kind && a.Dev == b.Dev && a.C == b.C && a.Power == b.Power && a.Torn == b.Torn
	return same && sameCart(a.Cart, b.Cart) && slices.Equal(a.Keep, b.Keep)
}

func wantAct(t *testing.T, d impl.Disk, a impl.Act, want impl.Disk, code int64) {
	t.Helper()
	before, actBefore := copyOfDisk(d), copyOfAct(a)
	got, gotCode := impl.StoreDo(d, a)
	if gotCode != code || !sameDisk(got, want) {
		t.Errorf("StoreDo(%v, %v) = %v, %d; want %v, %d", shortDisk(d), a, shortDisk(got), gotCode, shortDisk(want), code)
	}
	if !sameAct(a, actBefore) {
		t.Errorf("StoreDo has changed %v to %v", actBefore, a)
	}
	wantDisk(t, "the argument of StoreDo", d, before)
}

func wantNoAct(t *testing.T, d impl.Disk, a impl.Act, code int64) {
	t.Helper()
	wantAct(t, d, a, d, code)
}

// act performs actions that must not be rejected.
func act(t *testing.T, d impl.Disk, list ...impl.Act) impl.Disk {
	t.Helper()
	for _, a := range list {
		want, code := expectedAct(d, a)
		wantAct(t, d, a, want, code)
		if code != impl.StOk || !impl.DiskOk(want) || t.Failed() {
			t.Fatalf("StoreDo(%v, %v) has the code %d", shortDisk(d), a, code)
		}
		d = want
	}
	return d
}

// The functions down to expectedAct say in other words than the program what actions do.

func partIn(s string) (impl.Cart, bool) {
	var part impl.Cart
	rest := s
	for range impl.Devices {
		n, length := binary.Uvarint([]byte(rest))
		if length <= 0 {
			return part, false
		}
		part.Vec = append(part.Vec, int64(n))
		rest = rest[length:]
	}
	for rest != "" {
		o, length, ok := impl.ReadOp(rest)
		if !ok {
			return part, false
		}
		part.Ops = append(part.Ops, o)
		rest = rest[length:]
	}
	return part, bodyAnyway(part) == s
}

// logFacts are what counts of a log.
type logFacts struct {
	cart     impl.Cart
	frames   int
	counted  string
	complete bool
}

func expectedLog(text string) logFacts {
	facts := logFacts{cart: impl.CartNew()}
	rest := text
	for facts.frames < maxFrames && len(rest) >= frameHead {
		end := frameHead + int(binary.BigEndian.Uint32([]byte(rest)))
		if end > frameHead+100000 || end > len(rest) || frameAnyway(rest[frameHead:end]) != rest[:end] {
			break
		}
		part, ok := partIn(rest[frameHead:end])
		next, taken := impl.Taken(facts.cart, part)
		if !ok || !taken {
			break
		}
		facts.cart, facts.frames, rest = next, facts.frames+1, rest[end:]
	}
	facts.counted, facts.complete = text[:len(text)-len(rest)], rest == ""
	return facts
}

// expectedSteps takes the zero value of an operation for a Sync.
func expectedSteps(d impl.Disk, ops []impl.DOp, power int64) (impl.Disk, int64) {
	next := d
	for i, op := range ops {
		if power >= 0 && int64(i) >= power {
			return next, impl.StPower
		}
		if op == (impl.DOp{}) {
			next = syncedDisk(next.Live...)
			continue
		}
		after, code := expectedDo(next, op)
		if code != impl.DkOk {
			return d, impl.StFull
		}
		next = after
	}
	return next, impl.StOk
}

func expectedRecord(facts logFacts, a impl.Act) (string, int64) {
	formOk := impl.CartOk(a.Cart)
	next, done := impl.Merged(facts.cart, a.Cart)
	if a.Kind == impl.AcCmd {
		formOk = impl.CmdOk(a.C) && a.Dev >= 0 && a.Dev < 4
		var code int64
		next, code = impl.Issue(facts.cart, a.Dev, a.C)
		done = code == impl.CcOk
	}
	switch {
	case !formOk:
		return "", impl.StForm
	case !facts.complete:
		return "", impl.StTorn
	case !done:
		return "", impl.StNot
	case facts.frames == maxFrames:
		return "", impl.StFull
	}
	part, _ := impl.DeltaOf(next, facts.cart)
	return partFrame(part), impl.StOk
}

func expectedAct(d impl.Disk, a impl.Act) (impl.Disk, int64) {
	if a.Kind == impl.AcCrash {
		after, ok := impl.Crash(d, a.Keep, a.Torn)
		if !ok {
			return d, impl.StForm
		}
		d = after
	}
	text, found := dataOf(d.Live, "log")
	_, left := dataOf(d.Live, "log.new")
	facts := expectedLog(text)
	var ops []impl.DOp
	switch {
	case a.Kind < 1 || a.Kind > 5 || a.Kind == impl.AcNew && found:
		return d, impl.StForm
	case a.Kind == impl.AcNew:
		ops = []impl.DOp{appendOp("log", ""), {}}
	case !found:
		return d, impl.StNone
	case a.Kind == impl.AcCmd || a.Kind == impl.AcMerge:
		frame, code := expectedRecord(facts, a)
		if code != impl.StOk {
			return d, code
		}
		ops = []impl.DOp{appendOp("log", frame), {}}
	case !facts.complete && left:
		ops = []impl.DOp{removeOp("log.new"), appendOp("log.new", facts.counted), {}, renameOp("log.new", "log"), {}}
	case !facts.complete:
		ops = []impl.DOp{appendOp("log.new", facts.counted), {}, renameOp("log.new", "log"), {}}
	}
	return expectedSteps(d, ops, a.Power)
}

func TestStoreConstants(t *testing.T) {
	got := []int64{impl.AcNew, impl.AcCmd, impl.AcMerge, impl.AcOpen, impl.AcCrash, impl.StOk, impl.StDisk, impl.StNone, impl.StForm, impl.StFull, impl.StPower, impl.StTorn, impl.StNot}
	if want := []int64{1, 2, 3, 4, 5, 0, 1, 2, 3, 4, 5, 6, 8}; !slices.Equal(got, want) {
		t.Errorf("the kinds and codes are %v; want %v", got, want)
	}
}

func TestFrameOf(t *testing.T) {
	if got := impl.FrameOf("abc"); got != "\x00\x00\x00\x03\xc2\x41\x24\x35abc" {
		t.Errorf("FrameOf(abc) = %q", got)
	}
	if got := impl.FrameOf(""); got != zeroBytes(8) {
		t.Errorf("FrameOf of nothing = %q", got)
	}
	for _, n := range []int{0, 1, 2, 7, 8, 127, 128, 255, 256, 257, 16000, 16001, 20001, 65535, 65536, 99999, 100000} {
		for _, data := range []string{patterned(n), zeroBytes(n), strings.Repeat("\xff", n)} {
			frame := impl.FrameOf(data)
			if frame != frameAnyway(data) {
				t.Errorf("FrameOf of %d bytes is not their frame", n)
			}
			wantFrames(t, frame, []string{data}, n+frameHead)
			wantFrames(t, frame+"x", []string{data}, n+frameHead)
		}
	}
	for _, n := range []int{100001, 100002, 200000, 1 << 20} {
		if got := impl.FrameOf(patterned(n)); got != "" {
			t.Errorf("FrameOf of %d bytes has %d bytes", n, len(got))
		}
	}
}

func zeroBytes(n int) string { return strings.Repeat("\x00", n) }

func TestTakeFramesOfSequences(t *testing.T) {
	f := impl.FrameOf("abc")
	wantFrames(t, f+f+"x", []string{"abc", "abc"}, 22)
	wantFrames(t, "", nil, 0)
	for n := range 40 {
		wantFrames(t, zeroBytes(n), make([]string, n/8), n/8*8)
	}
	wantFrames(t, zeroBytes(100000), make([]string, 12500), 100000)
	long := strings.Repeat(f, 1000)
	wantFrames(t, long, slices.Repeat([]string{"abc"}, 1000), 11000)
	d := dice{state: 110}
	for range 300 {
		var all string
		var list []string
		for range d.roll(9) {
			list = append(list, patterned(int(d.roll(300))))
			all += impl.FrameOf(list[len(list)-1])
		}
		wantFrames(t, all, list, len(all))
		wantFrames(t, all+"\x00\x00\x00\x01", list, len(all))
	}
}

func TestTakeFramesOfTruncatedFrames(t *testing.T) {
	first := impl.FrameOf("first")
	for _, data := range []string{"", "x", "second", patterned(300)} {
		frame := impl.FrameOf(data)
		for n := range len(frame) {
			wantFrames(t, frame[:n], nil, 0)
			wantFrames(t, first+frame[:n], []string{"first"}, len(first))
			wantFrames(t, first+first+frame[:n], []string{"first", "first"}, 2*len(first))
		}
	}
}

func TestTakeFramesWithOneBitModified(t *testing.T) {
	frame, first := impl.FrameOf("some data"), impl.FrameOf("first")
	for i := range len(frame) {
		for bit := range 8 {
			modified := []byte(frame)
			modified[i] ^= 1 << bit
			wantFrames(t, string(modified), nil, 0)
			wantFrames(t, first+string(modified)+first, []string{"first"}, len(first))
		}
	}
	// The bytes of the checksum in the other order, and those of the length.
	wantFrames(t, "\x00\x00\x00\x03\x35\x24\x41\xc2abc", nil, 0)
	wantFrames(t, "\x03\x00\x00\x00\xc2\x41\x24\x35abc", nil, 0)
	// What precedes a frame hides it.
	wantFrames(t, "x"+frame, nil, 0)
	wantFrames(t, "\x00"+first, nil, 0)
}

func TestTakeFramesOfBadLengths(t *testing.T) {
	first := impl.FrameOf("first")
	for _, data := range []string{patterned(100001), zeroBytes(100001), patterned(150000)} {
		wantFrames(t, frameAnyway(data), nil, 0)
		wantFrames(t, first+frameAnyway(data)+first, []string{"first"}, len(first))
	}
	for _, n := range []uint32{1, 4, 100000, 100001, 1 << 16, 1 << 24, 1 << 31, math.MaxUint32, math.MaxUint32 - 7} {
		head := string(binary.BigEndian.AppendUint32(nil, n)) + impl.FrameOf("abc")[4:]
		wantFrames(t, head, nil, 0)
		wantFrames(t, first+head, []string{"first"}, len(first))
	}
	// The checksum fits the data that are there, but these are fewer than the length says.
	wantFrames(t, "\x00\x00\x00\x04"+impl.FrameOf("abc")[4:], nil, 0)
	wantFrames(t, "\x00\x00\x00\x02"+impl.FrameOf("abc")[4:], nil, 0)
}

func TestStoreExamples(t *testing.T) {
	tea := cmdAct(0, addCmd("tea", 2))
	d := act(t, impl.Disk{}, newAct(), tea)
	wantNoAct(t, d, tea, impl.StNot)
	wantNoAct(t, impl.Disk{}, openAct(), impl.StNone)
	c := issue(t, impl.CartNew(), 0, addCmd("tea", 2))
	wantStored(t, d, c)
	wantDisk(t, "the disk of the example", d, logDisk(frameAnyway("\x01\x00\x00\x00\x00\x01\x01\x01\x03tea\x02\x01\x00")))
	d = act(t, d, cmdAct(0, undoCmd), cmdAct(2, addCmd("egg", 1)))
	c = issue(t, issue(t, c, 0, undoCmd), 2, addCmd("egg", 1))
	wantStored(t, d, c)
	// The second frame tells that the operation was undone, the third one has a new operation only.
	wantFile(t, d, "log", partFrame(issue(t, impl.CartNew(), 0, addCmd("tea", 2)))+partFrame(impl.Cart{Vec: []int64{1, 0, 0, 0}, Ops: c.Ops[:1]})+partFrame(impl.Cart{Vec: c.Vec, Ops: c.Ops[1:]}))
}

func TestStoreOfDisksThatAreNotValid(t *testing.T) {
	list := notDisks(t)
	good := logDisk(emptyFrame())
	for _, files := range badFiles() {
		list = append(list, impl.Disk{Live: append(files, good.Live...), Safe: files})
	}
	for _, d := range list {
		wantNotStored(t, d, impl.StDisk)
		for _, a := range append(kindActs(), impl.Act{}, impl.Act{Kind: 6, Power: -1}, cmdAct(4, impl.Cmd{}), crashAct(-1), withPower(openAct(), 0)) {
			wantAct(t, d, a, impl.Disk{}, impl.StDisk)
		}
		for _, acts := range [][]impl.Act{nil, {newAct()}, kindActs(), {{}, {}}} {
			if got, codes := impl.StorePlay(d, acts); !sameDisk(got, impl.Disk{}) || len(codes) > 0 {
				t.Errorf("StorePlay(%v, ..) = %v, %v", shortDisk(d), shortDisk(got), codes)
			}
		}
		if t.Failed() {
			return
		}
	}
}

func TestStoreWithoutLog(t *testing.T) {
	hidden := do(t, logDisk(emptyFrame()), removeOp("log"))
	for _, d := range []impl.Disk{{}, syncedDisk(someFiles(3, "x")...), syncedDisk(impl.File{Name: "Log"}, impl.File{Name: "lo"}, impl.File{Name: "log "}, impl.File{Name: "log.new", Data: emptyFrame()}), hidden} {
		wantNotStored(t, d, impl.StNone)
		for _, power := range []int64{-1, 0, 1, 5} {
			for _, a := range []impl.Act{openAct(), cmdAct(0, addCmd("tea", 1)), mergeAct(impl.CartNew()), cmdAct(0, impl.Cmd{}), cmdAct(9, addCmd("tea", 1)), mergeAct(impl.Cart{})} {
				wantNoAct(t, d, withPower(a, power), impl.StNone)
			}
		}
		e := act(t, d, newAct())
		wantDisk(t, "the disk after AcNew", e, syncedDisk(with(d.Live, "log", "")...))
		wantStored(t, e, impl.CartNew())
	}
}

func TestStoreWithLog(t *testing.T) {
	good := partFrame(plan{[4]int64{2, 0, 3, 1}, never}.cart())
	for _, text := range []string{"", "x", emptyFrame(), good, good + "x", zeroBytes(8)} {
		for _, d := range []impl.Disk{logDisk(text), do(t, syncedDisk(someFiles(3, "x")...), appendOp("log", text)), logDisk(text, impl.File{Name: "log.new"})} {
			for _, power := range []int64{-1, 0, 1, 9} {
				wantNoAct(t, d, withPower(newAct(), power), impl.StForm)
			}
		}
	}
}

func TestActsOfNoKind(t *testing.T) {
	for _, kind := range []int64{0, 6, 7, 8, 9, -1, -5, 1 << 32, 1<<32 + 4, math.MaxInt64, math.MinInt64} {
		for _, d := range append(disks(t)[:4], logDisk(""), logDisk("x"), logDisk(emptyFrame())) {
			for _, a := range kindActs() {
				a.Kind = kind
				wantNoAct(t, d, a, impl.StForm)
				wantNoAct(t, d, withPower(a, 0), impl.StForm)
			}
		}
	}
}

// Fields that are not for its Kind do not matter to an action.
func TestActsWithUnneededFields(t *testing.T) {
	noise := impl.Act{Dev: -1, C: impl.Cmd{Kind: 77}, Cart: impl.Cart{Vec: []int64{-1}}, Power: -1, Keep: []int64{3, -1}, Torn: -5}
	d := logDisk(partFrame(plan{[4]int64{2, 0, 3, 1}, never}.cart()))
	for _, a := range kindActs() {
		b := noise
		b.Kind = a.Kind
		switch a.Kind {
		case impl.AcCmd:
			b.Dev, b.C = a.Dev, a.C
		case impl.AcMerge:
			b.Cart = a.Cart
		case impl.AcCrash:
			b.Keep, b.Torn = a.Keep, a.Torn
		}
		for _, disk := range []impl.Disk{{}, d, logDisk("x")} {
			want, code := expectedAct(disk, a)
			wantAct(t, disk, b, want, code)
		}
	}
}

func TestRecordRejectsForms(t *testing.T) {
	// The first check of all: neither a log with bytes behind it nor a full one changes the code.
	for _, d := range []impl.Disk{logDisk(""), logDisk("x"), logDisk(strings.Repeat(emptyFrame(), 300)), do(t, diskWithOps(199), appendOp("log", ""))} {
		for _, x := range notCmds() {
			wantNoAct(t, d, cmdAct(0, x), impl.StForm)
		}
		for _, dev := range notDevices {
			wantNoAct(t, d, cmdAct(dev, addCmd("tea", 1)), impl.StForm)
			wantNoAct(t, d, withPower(cmdAct(dev, undoCmd), 0), impl.StForm)
		}
		for _, c := range notCarts() {
			wantNoAct(t, d, mergeAct(c), impl.StForm)
		}
		if t.Failed() {
			return
		}
	}
}

func TestRecordOnLogThatIsNotComplete(t *testing.T) {
	c := plan{[4]int64{2, 0, 3, 1}, never}.cart()
	unlike := copyOf(c)
	unlike.Ops[0].Stamp++
	for _, text := range []string{"x", zeroBytes(7), zeroBytes(8), partFrame(c) + "x", partFrame(c) + zeroBytes(8), strings.Repeat(emptyFrame(), 301), partFrame(c)[:40]} {
		d := logDisk(text)
		for _, power := range []int64{-1, 0, 1} {
			// Before the check whether the action applies to the cart.
			for _, a := range []impl.Act{cmdAct(0, addCmd("new", 1)), cmdAct(0, removeCmd("new")), mergeAct(impl.CartNew()), mergeAct(c), mergeAct(unlike)} {
				wantNoAct(t, d, withPower(a, power), impl.StTorn)
			}
		}
	}
}

func TestRecordThatDoesNotApply(t *testing.T) {
	c := cartOf(t, addedOp(1, 10, "tea", 2, 1), savedOp(1, 20, "tea"))
	full := logDisk(partFrame(c) + strings.Repeat(emptyFrame(), 299))
	for _, d := range []impl.Disk{logDisk(partFrame(c)), full, do(t, logDisk(partFrame(c)), appendOp("b", zeros(190000)))} {
		for _, power := range []int64{-1, 0, 1} {
			for _, a := range []impl.Act{cmdAct(0, addCmd("tea", 1)), cmdAct(0, setCmd("egg", 1)), cmdAct(3, removeCmd("egg")), cmdAct(1, saveCmd("tea")), cmdAct(1, clearCmd), cmdAct(0, undoCmd), cmdAct(1, redoCmd), cmdAct(0, toggleCmd(1, 3))} {
				wantNoAct(t, d, withPower(a, power), impl.StNot)
			}
			for _, unlike := range unlikeOps(c.Ops[0]) {
				wantNoAct(t, d, withPower(mergeAct(impl.Cart{Vec: []int64{0, 1, 0, 0}, Ops: []impl.Op{unlike}}), power), impl.StNot)
			}
		}
	}
	undone := copyOf(c)
	undone.Ops[0].Undos = impl.MaxUndo
	wantNoAct(t, logDisk(partFrame(undone)), cmdAct(2, toggleCmd(1, 1)), impl.StNot)
	wantNoAct(t, logDisk(partFrame(fullestCart())), cmdAct(2, addCmd("tea", 1)), impl.StNot)
}

func TestCommandsAreRecorded(t *testing.T) {
	d := dice{state: 111}
	for range 30 {
		disk, c := act(t, impl.Disk{}, newAct()), impl.CartNew()
		for range 25 {
			dev, x := d.roll(4), d.cmd()
			next, code := impl.Issue(c, dev, x)
			if code != impl.CcOk {
				wantNoAct(t, disk, cmdAct(dev, x), impl.StNot)
				continue
			}
			disk, c = act(t, disk, cmdAct(dev, x)), next
			wantStored(t, disk, c)
		}
		text, _ := dataOf(disk.Live, "log")
		wantDisk(t, "the disk", disk, logDisk(text))
		wantNoAct(t, disk, openAct(), impl.StOk)
	}
}

func TestMergesAreRecorded(t *testing.T) {
	d := dice{state: 112}
	for range 200 {
		base := d.cart(t)
		disk, c := act(t, impl.Disk{}, newAct(), mergeAct(base)), base
		for range 4 {
			other := d.apart(t, base, 0, 1, 2, 3)
			next, ok := impl.Merged(c, other)
			if !ok {
				wantNoAct(t, disk, mergeAct(other), impl.StNot)
				continue
			}
			disk, c = act(t, disk, mergeAct(other)), next
			wantStored(t, disk, c)
		}
		// What is known already is a frame without operations.
		text, _ := dataOf(disk.Live, "log")
		wantFile(t, act(t, disk, mergeAct(c)), "log", text+partFrame(impl.Cart{Vec: c.Vec}))
		wantFile(t, act(t, disk, mergeAct(impl.CartNew())), "log", text+partFrame(impl.Cart{Vec: c.Vec}))
	}
	for _, p := range plans() {
		c := p.cart()
		wantDisk(t, "the disk", act(t, impl.Disk{}, newAct(), mergeAct(c)), logDisk(partFrame(c)))
	}
	wantStored(t, act(t, impl.Disk{}, newAct(), mergeAct(fullestCart())), fullestCart())
}

// notPartBodies have not the form of a part.
func notPartBodies() []string {
	good := bodyAnyway(plan{[4]int64{1, 2, 0, 1}, never}.cart())
	list := []string{
		"", "\x00", "\x00\x00\x00", "\x80\x00\x00\x00\x00", "\x00\x00\x00\x80\x00", "\x29\x00\x00\x00", "\x00\x00\x00\x29", "\x00\x00\x00\x00\x00", "\x00\x00\x00\x00x",
		good + "\x00", good + "x", "x" + good, good + good, impl.Sealed(good), impl.Sealed("\x00\x00\x00\x00"), good[:4] + "\x80\x00" + good[5:],
		zeros(100000), zeroBytes(100000), patterned(5000),
	}
	for _, part := range notParts() {
		body := bodyAnyway(part)
		// Some encodings are those of another cart.
		if other, ok := partIn(body); !ok || !impl.PartOk(other) {
			list = append(list, body)
		}
	}
	return list
}

// notTakenParts are parts that the cart with the two operations of the first frame does not accept.
func notTakenParts() []impl.Cart {
	ops := []impl.Op{saveOp(1, 1, 10), saveOp(1, 2, 20)}
	list := []impl.Cart{
		{Vec: []int64{0, 3, 0, 0}}, {Vec: []int64{0, 4, 0, 0}, Ops: []impl.Op{saveOp(1, 4, 40)}}, {Vec: []int64{1, 2, 0, 0}}, {Vec: []int64{0, 0, 0, 40}},
		{Vec: []int64{2, 2, 0, 0}, Ops: []impl.Op{saveOp(0, 2, 9)}}, {Vec: []int64{0, 3, 0, 0}, Ops: []impl.Op{saveOp(1, 3, 20)}}, {Vec: []int64{0, 3, 0, 0}, Ops: []impl.Op{saveOp(1, 3, 19)}},
	}
	for _, o := range ops {
		for _, unlike := range unlikeOps(o) {
			list = append(list, impl.Cart{Vec: []int64{0, 2, 0, 0}, Ops: []impl.Op{unlike}})
		}
	}
	return list
}

// wantCut checks a log of which only the beginning counts: what is behind it is not read, and opening removes it.
func wantCut(t *testing.T, counted string, behind string, c impl.Cart) {
	t.Helper()
	d := logDisk(counted + behind)
	wantStored(t, d, c)
	wantNoAct(t, d, cmdAct(0, addCmd("new", 1)), impl.StTorn)
	wantNoAct(t, d, mergeAct(c), impl.StTorn)
	for _, files := range [][]impl.File{nil, {{Name: "a", Data: "other"}, {Name: "log.new", Data: "left"}, {Name: "z"}}} {
		want := logDisk(counted, without(files, "log.new")...)
		wantAct(t, logDisk(counted+behind, files...), openAct(), want, impl.StOk)
		wantAct(t, logDisk(counted+behind, files...), crashAct(0), want, impl.StOk)
	}
	wantStored(t, logDisk(counted), c)
}

func TestLogsOfWhichABeginningCounts(t *testing.T) {
	c := impl.Cart{Vec: []int64{0, 2, 0, 0}, Ops: []impl.Op{saveOp(1, 1, 10), saveOp(1, 2, 20)}}
	good := partFrame(impl.Cart{Vec: []int64{0, 1, 0, 0}, Ops: c.Ops[:1]}) + partFrame(impl.Cart{Vec: c.Vec, Ops: c.Ops[1:]})
	// Its last byte differs from its first one, so that it does not complete itself where its end is missing.
	next := partFrame(impl.Cart{Vec: []int64{0, 3, 1, 0}, Ops: []impl.Op{saveOp(1, 3, 30), undone(saveOp(2, 1, 5), 7)}})
	var behind []string
	for _, body := range notPartBodies() {
		behind = append(behind, frameAnyway(body))
	}
	for _, part := range notTakenParts() {
		behind = append(behind, partFrame(part))
	}
	for n := range next {
		if n > 0 {
			behind = append(behind, next[:n])
		}
		modified := []byte(next)
		modified[n] ^= 16
		behind = append(behind, string(modified))
	}
	for _, s := range behind {
		wantCut(t, good, s, c)
		wantCut(t, good, s+next, c)
		wantCut(t, good, s+emptyFrame(), c)
		if t.Failed() {
			t.Fatalf("with %s behind the frames that count", shortText(s))
		}
	}
	for _, body := range notPartBodies() {
		wantCut(t, "", frameAnyway(body)+good, impl.CartNew())
	}
	wantCut(t, "", "x"+good, impl.CartNew())
	wantCut(t, "", frameAnyway(zeros(100001)), impl.CartNew())
}

// A part may lack operations that the cart has, and have some that it knows.
func TestLogsOfParts(t *testing.T) {
	for _, p := range plans()[:60] {
		for _, q := range plans() {
			c, next := p.cart(), p.mergedWith(q).cart()
			for _, part := range []impl.Cart{q.cart(), q.partOf(p)} {
				d := logDisk(partFrame(c) + partFrame(part))
				wantStored(t, d, next)
				wantNoAct(t, d, openAct(), impl.StOk)
			}
			if t.Failed() {
				return
			}
		}
	}
}

func TestLogOf300Frames(t *testing.T) {
	c := issue(t, impl.CartNew(), 3, addCmd("tea", 1))
	full := strings.Repeat(emptyFrame(), 299) + partFrame(c)
	wantStored(t, logDisk(full), c)
	wantNoAct(t, logDisk(full), openAct(), impl.StOk)
	wantNoAct(t, logDisk(full), crashAct(0), impl.StOk)
	for _, power := range []int64{-1, 0, 1, 2} {
		wantNoAct(t, logDisk(full), withPower(cmdAct(0, addCmd("egg", 1)), power), impl.StFull)
		wantNoAct(t, logDisk(full), withPower(mergeAct(c), power), impl.StFull)
		wantNoAct(t, logDisk(full), withPower(cmdAct(0, removeCmd("egg")), power), impl.StNot)
	}
	almost := strings.Repeat(emptyFrame(), 298) + partFrame(c)
	d := act(t, logDisk(almost), cmdAct(0, addCmd("egg", 1)))
	wantStored(t, d, issue(t, c, 0, addCmd("egg", 1)))
	wantNoAct(t, d, cmdAct(0, undoCmd), impl.StFull)
	// The frame number 301 does not count.
	next := partFrame(impl.Cart{Vec: []int64{0, 0, 1, 1}, Ops: []impl.Op{saveOp(2, 1, 5)}})
	wantCut(t, full, next, c)
	wantCut(t, full, emptyFrame(), c)
	wantCut(t, full, "x", c)
	wantCut(t, full, strings.Repeat(next, 500), c)
}

func TestRecordsUntilFull(t *testing.T) {
	acts, c := []impl.Act{newAct()}, impl.CartNew()
	for i := range int64(7) {
		x := addCmd(string(rune('a'+i)), i+1)
		acts, c = append(acts, cmdAct(i%4, x)), issue(t, c, i%4, x)
	}
	for i := range int64(293) {
		x := toggleCmd(i%7%4, 1+i%7/4)
		acts, c = append(acts, cmdAct(0, x)), issue(t, c, 0, x)
	}
	d, codes := impl.StorePlay(impl.Disk{}, acts)
	if !slices.Equal(codes, make([]int64, 301)) {
		t.Fatalf("the codes are %v", codes)
	}
	wantStored(t, d, c)
	text, _ := dataOf(d.Live, "log")
	if frames, end := impl.TakeFrames(text); len(frames) != 300 || end != int64(len(text)) {
		t.Errorf("the log has %d frames up to %d, and %d bytes", len(frames), end, len(text))
	}
	wantNoAct(t, d, cmdAct(0, undoCmd), impl.StFull)
	wantNoAct(t, d, mergeAct(impl.CartNew()), impl.StFull)
	wantNoAct(t, d, cmdAct(0, setCmd("none", 1)), impl.StNot)
	wantNoAct(t, d, openAct(), impl.StOk)
}

// Do rejects a step: there are too many files, operations or bytes.
func TestStepsThatAreRejected(t *testing.T) {
	add := cmdAct(0, addCmd("tea", 1))
	many := someFiles(59, "")
	wantNoAct(t, syncedDisk(someFiles(60, "")...), newAct(), impl.StFull)
	wantNoAct(t, diskWithOps(200), newAct(), impl.StFull)
	act(t, syncedDisk(many...), newAct(), add, cmdAct(1, addCmd("egg", 1)), openAct())
	act(t, diskWithOps(199), newAct(), add)
	usedUp := do(t, diskWithOps(199), appendOp("log", ""))
	wantNoAct(t, usedUp, add, impl.StFull)
	wantNoAct(t, usedUp, mergeAct(impl.CartNew()), impl.StFull)
	wantNoAct(t, usedUp, openAct(), impl.StOk)
	fat := logDisk("", impl.File{Name: "a", Data: zeros(200000 - 22)})
	wantNoAct(t, fat, add, impl.StFull)
	act(t, logDisk("", impl.File{Name: "a", Data: zeros(200000 - 23)}), add)
	wantNoAct(t, logDisk("x", many...), openAct(), impl.StFull)
	act(t, logDisk("x", someFiles(58, "")...), openAct())
	act(t, logDisk("x", with(someFiles(58, ""), "log.new", "left")...), openAct())
	wantNoAct(t, do(t, diskWithOps(199), appendOp("log", "x")), openAct(), impl.StFull)
	act(t, do(t, diskWithOps(198), appendOp("log", "x")), openAct())
	// The first step is performed and the second one rejected: the disk is as it was before both.
	left := do(t, diskWithOps(197), appendOp("log", "x"), appendOp("log.new", "left"))
	wantNoAct(t, left, openAct(), impl.StFull)
	wantNoAct(t, left, withPower(openAct(), 2), impl.StFull)
	wantAct(t, left, withPower(openAct(), 1), do(t, left, removeOp("log.new")), impl.StPower)
	text := partFrame(plan{[4]int64{9, 9, 9, 9}, never}.cart())
	room := maxBytes - 2*len(text) - 1
	act(t, logDisk(text+"x", impl.File{Name: "a", Data: zeros(room)}), openAct())
	wantNoAct(t, logDisk(text+"x", impl.File{Name: "a", Data: zeros(room + 1)}), openAct(), impl.StFull)
	// Without power for it, no step is rejected.
	for _, d := range []impl.Disk{usedUp, fat} {
		wantNoAct(t, d, withPower(add, 0), impl.StPower)
	}
	wantNoAct(t, left, withPower(openAct(), 0), impl.StPower)
	wantNoAct(t, diskWithOps(200), withPower(newAct(), 0), impl.StPower)
}

func TestCrashActs(t *testing.T) {
	frame := partFrame(issue(t, impl.CartNew(), 0, addCmd("tea", 1)))
	d := do(t, logDisk(frame), appendOp("a", "1"), appendOp("log", frame[:9]), removeOp("log"))
	for _, a := range []impl.Act{crashAct(-1), crashAct(0, 3), crashAct(0, 1, 1), crashAct(0, 2, 0), crashAct(0, -1), crashAct(-1, 0, 1, 2)} {
		for _, power := range []int64{-1, 0, 9} {
			wantNoAct(t, d, withPower(a, power), impl.StForm)
			wantNoAct(t, impl.Disk{}, withPower(crashAct(0, 0), power), impl.StForm)
		}
	}
	a := impl.File{Name: "a", Data: "1"}
	wantAct(t, d, crashAct(0), logDisk(frame), impl.StOk)
	wantAct(t, d, crashAct(9, 0), logDisk(frame, a), impl.StOk)
	wantAct(t, d, crashAct(9, 0, 1), logDisk(frame, a), impl.StOk)
	wantAct(t, d, withPower(crashAct(9, 0, 1), 0), logDisk(frame+frame[:9], a), impl.StPower)
	wantAct(t, d, withPower(crashAct(4, 0, 1), 1), do(t, logDisk(frame+frame[:4], a), appendOp("log.new", frame)), impl.StPower)
	wantAct(t, d, withPower(crashAct(0, 0, 1), 0), logDisk(frame, a), impl.StOk)
	// The log is lost with the power,
	for _, power := range []int64{-1, 0, 9} {
		wantAct(t, d, withPower(crashAct(0, 0, 2), power), syncedDisk(a), impl.StNone)
		wantAct(t, do(t, syncedDisk(a), appendOp("log", "")), withPower(crashAct(0), power), syncedDisk(a), impl.StNone)
	}
	wantNoAct(t, impl.Disk{}, crashAct(0), impl.StNone)
	wantAct(t, do(t, syncedDisk(a), appendOp("log", "x")), crashAct(0, 0), logDisk("", a), impl.StOk)
	// or there is no room to open it; in both cases the loss of power has happened.
	full := do(t, logDisk("", someFiles(59, "")...), appendOp("log", "x"), removeOp("Aa"), appendOp("Aa", "y"))
	wantAct(t, full, crashAct(9, 0), logDisk("x", someFiles(59, "")...), impl.StFull)
	wantAct(t, full, withPower(crashAct(9, 0), 0), logDisk("x", someFiles(59, "")...), impl.StPower)
	wantAct(t, full, crashAct(0, 0, 1), logDisk("", someFiles(59, "")[1:]...), impl.StOk)
	// The result of Crash is not valid.
	wantNoAct(t, do(t, logDisk("", someFiles(59, "")...), removeOp("Aa"), appendOp("Zz", "")), crashAct(0, 1), impl.StForm)
}

// interruptedCase is an action, and how many steps it has.
type interruptedCase struct {
	disk  impl.Disk
	a     impl.Act
	steps int64
}

func interruptedCases(t *testing.T) []interruptedCase {
	t.Helper()
	c := issue(t, issue(t, impl.CartNew(), 0, addCmd("tea", 2)), 2, addCmd("egg", 1))
	first, second := partFrame(impl.Cart{Vec: []int64{1, 0, 0, 0}, Ops: c.Ops[:1]}), partFrame(impl.Cart{Vec: c.Vec, Ops: c.Ops[1:]})
	other := issue(t, issue(t, c, 1, addCmd("oat", 1)), 0, undoCmd)
	var list []interruptedCase
	for _, files := range [][]impl.File{nil, someFiles(2, "x"), {{Name: "log.new", Data: "left"}}, {{Name: "log.new", Data: first}, {Name: "z"}}} {
		d := logDisk(first+second, files...)
		open := int64(4)
		if _, left := dataOf(files, "log.new"); left {
			open = 5
		}
		list = append(list,
			interruptedCase{syncedDisk(files...), newAct(), 2}, interruptedCase{d, cmdAct(0, undoCmd), 2}, interruptedCase{d, cmdAct(3, addCmd("oat", 3)), 2}, interruptedCase{d, cmdAct(1, clearCmd), 2},
			interruptedCase{d, mergeAct(other), 2}, interruptedCase{d, mergeAct(impl.CartNew()), 2}, interruptedCase{d, openAct(), 0}, interruptedCase{d, crashAct(0), 0}, interruptedCase{logDisk("", files...), cmdAct(0, addCmd("tea", 1)), 2})
		for _, text := range []string{first + second + "x", first + second + first[:9], first + second[:20], first[:8], first + "x" + second, zeroBytes(16)} {
			list = append(list, interruptedCase{logDisk(text, files...), openAct(), open}, interruptedCase{logDisk(text, files...), crashAct(0), open})
		}
		// Something else was not synchronized before.
		list = append(list, interruptedCase{do(t, d, appendOp("z", "1"), removeOp("z")), cmdAct(0, undoCmd), 2}, interruptedCase{do(t, d, appendOp("z", "1")), mergeAct(other), 2})
	}
	return list
}

// stored is what a disk has to tell: the cart and the code.
type stored struct {
	cart impl.Cart
	code int64
}

func storedOn(d impl.Disk) stored {
	c, code := impl.StoreView(d)
	return stored{c, code}
}

func (s stored) is(others ...stored) bool {
	return slices.ContainsFunc(others, func(o stored) bool { return s.code == o.code && sameCart(s.cart, o.cart) })
}

// losses calls f with the parts of the operations that a loss of power may leave.
func losses(d impl.Disk, f func(keep []int64, torn int64)) {
	kept(len(d.Ops), func(keep []int64) {
		if len(keep) == 0 {
			f(keep, 0)
			return
		}
		data := d.Ops[keep[len(keep)-1]].Data
		for torn := range int64(len(data) + 2) {
			f(keep, torn)
		}
	})
}

func TestLossOfPowerBetweenSteps(t *testing.T) {
	for _, c := range interruptedCases(t) {
		before := storedOn(c.disk)
		done := act(t, c.disk, c.a)
		after := storedOn(done)
		for power := range c.steps + 3 {
			want, code := expectedAct(c.disk, withPower(c.a, power))
			if (code == impl.StPower) != (power < c.steps) {
				t.Fatalf("%v with the power %d has the code %d", c.a, power, code)
			}
			wantAct(t, c.disk, withPower(c.a, power), want, code)
			results := []stored{before, after}
			if power >= c.steps {
				wantDisk(t, "the disk with enough power", want, done)
				results = []stored{after}
			}
			losses(want, func(keep []int64, torn int64) { wantReopened(t, want, keep, torn, results) })
			if t.Failed() {
				t.Fatalf("after %v with the power %d on %v", c.a, power, shortDisk(c.disk))
			}
		}
		for _, power := range []int64{-2, -7, math.MinInt64, math.MaxInt64} {
			wantAct(t, c.disk, withPower(c.a, power), done, impl.StOk)
		}
	}
}

// wantReopened loses power, and again while the log is opened.
func wantReopened(t *testing.T, d impl.Disk, keep []int64, torn int64, results []stored) {
	t.Helper()
	crashed, ok := impl.Crash(d, keep, torn)
	found := storedOn(crashed)
	if !ok || !found.is(results...) {
		t.Errorf("after Crash(%v, %v, %d) the log has %v; want one of %v", shortDisk(d), keep, torn, found, results)
	}
	want := int64(impl.StOk)
	if found.code == impl.StNone {
		want = impl.StNone
	}
	opened, code := impl.StoreDo(d, crashAct(torn, keep...))
	if code != want || !storedOn(opened).is(found) || !impl.DiskOk(opened) || len(opened.Ops) > 0 {
		t.Errorf("AcCrash with %v, %d leaves %v, %d", keep, torn, shortDisk(opened), code)
	}
	again, code := impl.StoreDo(opened, openAct())
	if code != want || !sameDisk(again, opened) {
		t.Errorf("AcOpen of %v leaves %v, %d", shortDisk(opened), shortDisk(again), code)
	}
	for power := range int64(5) {
		half, code := impl.StoreDo(d, withPower(crashAct(torn, keep...), power))
		if code != impl.StPower {
			continue
		}
		// A few ways to lose power are enough here: the tests of AcOpen have all of them.
		for _, torn := range []int64{0, 1, 30} {
			kept(len(half.Ops), func(keep []int64) {
				if last, code := impl.StoreDo(half, crashAct(torn, keep...)); code != impl.StOk || !storedOn(last).is(found) {
					t.Errorf("AcCrash while the log is opened leaves %v, %d", shortDisk(last), code)
				}
			})
		}
	}
}

func randomAct(t *testing.T, d *dice, disk impl.Disk) impl.Act {
	t.Helper()
	a := impl.Act{Kind: 1 + d.roll(5), Dev: d.roll(4), C: d.cmd(), Power: d.roll(12) - 4}
	switch d.roll(12) {
	case 0:
		a.Kind = 6 * d.roll(2)
	case 1:
		a.Dev = 5*d.roll(2) - 1
	case 2:
		a.C = notCmds()[d.roll(100)]
	case 3, 4, 5, 6:
		a.Kind = impl.AcCmd
	}
	base, code := impl.StoreView(disk)
	if code == impl.StOk {
		a.Cart = d.apart(t, base, d.roll(4))
	}
	for i := range disk.Ops {
		if d.roll(2) == 0 {
			a.Keep = append(a.Keep, int64(i))
		}
	}
	a.Torn = d.roll(30) - 1
	return a
}

// Random actions on a disk on which others perform operations, too.
func TestRandomActs(t *testing.T) {
	results := map[[2]int64]int{}
	for seed := range uint64(60) {
		d := dice{state: 1200 + seed}
		disk := impl.Disk{}
		for range 80 {
			a := randomAct(t, &d, disk)
			want, code := expectedAct(disk, a)
			wantAct(t, disk, a, want, code)
			results[[2]int64{a.Kind, code}]++
			if d.roll(9) == 0 {
				want, _ = expectedDo(want, randomOp(&d))
			}
			if t.Failed() || !impl.DiskOk(want) {
				t.Fatalf("after %v: %v", a, shortDisk(want))
			}
			disk = want
		}
	}
	for _, kindAndCode := range [][2]int64{
		{impl.AcNew, impl.StOk}, {impl.AcNew, impl.StForm}, {impl.AcNew, impl.StPower}, {impl.AcCmd, impl.StOk}, {impl.AcCmd, impl.StNone}, {impl.AcCmd, impl.StForm}, {impl.AcCmd, impl.StPower},
		{impl.AcCmd, impl.StTorn}, {impl.AcCmd, impl.StNot}, {impl.AcMerge, impl.StOk}, {impl.AcMerge, impl.StNone}, {impl.AcMerge, impl.StPower}, {impl.AcMerge, impl.StTorn},
		{impl.AcOpen, impl.StOk}, {impl.AcOpen, impl.StNone}, {impl.AcOpen, impl.StPower}, {impl.AcCrash, impl.StOk}, {impl.AcCrash, impl.StForm}, {impl.AcCrash, impl.StNone}, {impl.AcCrash, impl.StPower},
	} {
		if results[kindAndCode] == 0 {
			t.Errorf("no action of the Kind %d had the code %d: %v", kindAndCode[0], kindAndCode[1], results)
		}
	}
}

// A device works with its log, and loses power now and then: each time, the log has what was done last, or what was being done.
func TestLongUseWithLossesOfPower(t *testing.T) {
	lost := 0
	for seed := range uint64(100) {
		d := dice{state: 1300 + seed}
		disk := act(t, impl.Disk{}, newAct())
		for range 60 {
			a := randomAct(t, &d, disk)
			before := storedOn(disk)
			done, _ := impl.StoreDo(disk, withPower(a, -1))
			after := storedOn(done)
			next, code := impl.StoreDo(disk, a)
			if code == impl.StPower {
				lost++
			}
			for code == impl.StPower {
				crash := withPower(randomAct(t, &d, next), d.roll(7))
				crash.Kind, crash.Torn = impl.AcCrash, d.roll(40)
				next, code = impl.StoreDo(next, crash)
				if !storedOn(next).is(before, after) {
					t.Fatalf("after %v on %v and a loss of power the log has %v; want %v or %v", a, shortDisk(disk), storedOn(next), before, after)
				}
			}
			disk = next
		}
	}
	if lost < 100 {
		t.Errorf("power was lost only %d times", lost)
	}
}

func wantStorePlay(t *testing.T, d impl.Disk, list []impl.Act, want impl.Disk, codes []int64) {
	t.Helper()
	before := copyOfDisk(d)
	got, gotCodes := impl.StorePlay(d, list)
	if !sameDisk(got, want) || !slices.Equal(gotCodes, codes) {
		t.Errorf("StorePlay(%v, %v) = %v, %v; want %v, %v", shortDisk(d), list, shortDisk(got), gotCodes, shortDisk(want), codes)
	}
	wantDisk(t, "the argument of StorePlay", d, before)
}

func TestStorePlayWithRejectedActs(t *testing.T) {
	tea := cmdAct(0, addCmd("tea", 1))
	c := issue(t, issue(t, impl.CartNew(), 0, addCmd("tea", 1)), 1, setCmd("tea", 4))
	list := []impl.Act{
		openAct(), tea, newAct(), newAct(), tea, tea, {Kind: 9}, cmdAct(4, addCmd("egg", 1)), mergeAct(impl.Cart{}),
		withPower(cmdAct(0, addCmd("egg", 1)), 1), crashAct(10, 0), cmdAct(1, setCmd("tea", 4)), crashAct(0, 5), openAct(),
	}
	codes := []int64{
		impl.StNone, impl.StNone, impl.StOk, impl.StForm, impl.StOk, impl.StNot, impl.StForm, impl.StForm, impl.StForm,
		impl.StPower, impl.StOk, impl.StOk, impl.StForm, impl.StOk,
	}
	want := logDisk(partFrame(issue(t, impl.CartNew(), 0, addCmd("tea", 1))) + partFrame(impl.Cart{Vec: c.Vec, Ops: c.Ops[1:]}))
	wantStorePlay(t, impl.Disk{}, list, want, codes)
	for count := range list {
		d := impl.Disk{}
		for _, a := range list[:count] {
			d, _ = expectedAct(d, a)
		}
		wantStorePlay(t, impl.Disk{}, list[:count], d, codes[:count])
	}
}

func TestStorePlayAsStoreDo(t *testing.T) {
	for seed := range uint64(40) {
		d := dice{state: 1400 + seed}
		disk := disks(t)[d.roll(40)]
		want := disk
		var list []impl.Act
		var codes []int64
		for range d.roll(40) {
			a := randomAct(t, &d, want)
			next, code := impl.StoreDo(want, a)
			list, codes, want = append(list, a), append(codes, code), next
		}
		wantStorePlay(t, disk, list, want, codes)
	}
	for _, d := range disks(t) {
		wantStorePlay(t, d, nil, d, nil)
		wantStorePlay(t, d, []impl.Act{}, d, nil)
		wantStorePlay(t, d, make([]impl.Act, 1000), d, slices.Repeat([]int64{impl.StForm}, 1000))
	}
}

// slackAct is an action with spare capacity behind its lists.
func slackAct(a impl.Act) impl.Act {
	keep := append(slices.Clone(a.Keep), -7, 1000)
	a.Cart, a.Keep = slackCart(a.Cart), keep[:len(a.Keep)]
	return a
}

// actWithSpare is a copy of an action in which the lists have what lies behind them too.
func actWithSpare(a impl.Act) impl.Act {
	a.Cart, a.Keep = allOf(a.Cart), a.Keep[:cap(a.Keep)]
	return copyOfAct(a)
}

func textsOfCart(c impl.Cart) []place {
	var places []place
	for _, o := range c.Ops {
		places = append(places, placeOfText(o.Item))
	}
	return places
}

func wantNewAct(t *testing.T, what string, result impl.Disk, d impl.Disk, a impl.Act) {
	t.Helper()
	wantNewDisk(t, what, result, d, a.C.Item)
	wantApart(t, what+": texts of the result and of the cart", textsOfDisk(result), textsOfCart(a.Cart))
	wantApart(t, what+": lists of the result and of the action", listsOfDisk(result), []place{placeOfList(a.Cart.Vec), placeOfList(a.Cart.Ops), placeOfList(a.Keep)})
}

func TestStoreArgumentsAreKept(t *testing.T) {
	for _, c := range interruptedCases(t) {
		d := slackDisk(do(t, c.disk, appendOp("w", "1"), appendOp("v", "2")))
		before := withSpareOf(d)
		list := []impl.Act{}
		for _, a := range []impl.Act{c.a, withPower(c.a, 0), withPower(c.a, 1), withPower(c.a, 3), crashAct(0), crashAct(9, 0), withPower(crashAct(0, 0, 1), 2), crashAct(0, 1, 1), {}, cmdAct(0, impl.Cmd{}), mergeAct(impl.Cart{})} {
			a = slackAct(a)
			actBefore := actWithSpare(a)
			first, code := impl.StoreDo(d, a)
			again, codeAgain := impl.StoreDo(d, a)
			if !sameDisk(first, again) || code != codeAgain {
				t.Errorf("StoreDo with equal arguments: %v, %d, then %v, %d", shortDisk(first), code, shortDisk(again), codeAgain)
			}
			wantNewAct(t, "StoreDo", first, d, a)
			if !sameAct(actWithSpare(a), actBefore) {
				t.Errorf("the action is now %v; it was %v", actWithSpare(a), actBefore)
			}
			list = append(list, a)
		}
		first, codes := impl.StorePlay(d, list)
		again, codesAgain := impl.StorePlay(d, list)
		if !sameDisk(first, again) || !slices.Equal(codes, codesAgain) {
			t.Errorf("StorePlay with equal arguments: %v, %v, then %v, %v", shortDisk(first), codes, shortDisk(again), codesAgain)
		}
		for _, a := range list {
			wantNewAct(t, "StorePlay", first, d, a)
		}
		nothing, _ := impl.StorePlay(d, nil)
		wantNewDisk(t, "StorePlay without actions", nothing, d)
		wantApart(t, "StorePlay: the codes and other lists", []place{placeOfList(codes)}, append(listsOfDisk(first), placeOfList(list)))
		view, _ := impl.StoreView(d)
		wantApart(t, "StoreView: the items and the disk", textsOfCart(view), textsOfDisk(d))
		spoil(view)
		if !storedOn(d).is(storedOn(c.disk)) {
			t.Errorf("StoreView with equal arguments: %v, then %v", storedOn(c.disk), storedOn(d))
		}
		wantDisk(t, "the argument, with what lies behind it,", withSpareOf(d), before)
	}
}

func TestFramesAreCopies(t *testing.T) {
	s := impl.FrameOf("one") + impl.FrameOf("") + impl.FrameOf("three") + "rest"
	frames, end := impl.TakeFrames(s)
	for _, data := range frames {
		wantApart(t, "TakeFrames", []place{placeOfText(data)}, []place{placeOfText(s)})
	}
	wantFrames(t, s, frames, int(end))
	data := strings.Clone("data")
	wantApart(t, "FrameOf", []place{placeOfText(impl.FrameOf(data))}, []place{placeOfText(data)})
	if impl.FrameOf(data) != impl.FrameOf(data) {
		t.Error("FrameOf with equal arguments differs")
	}
}
