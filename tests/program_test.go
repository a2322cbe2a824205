package tests

import (
	"fmt"
	"go/ast"
	"go/parser"
	"go/token"
	"path/filepath"
	"slices"
	"strings"
	"sync"
	"testing"

	"loop.example/g00660/impl"
)

// arguments are those with which the functions of the whole program are called.
type arguments struct {
	number    int64
	dev       int64
	texts     []string
	ops       []impl.Op
	v, w      []int64
	c, old    impl.Cart
	part      impl.Cart
	cmds      []impl.Cmd
	net       impl.Net
	steps     []impl.Step
	disk      impl.Disk
	diskOps   []impl.DOp
	keep      []int64
	acts      []impl.Act
	lines     []impl.Line
	prices    []impl.Price
	offers    []impl.Offer
	acks      impl.Acks
	itemOrNot string
}

// arguments returns equal arguments for equal states of the dice, which share no memory.
func (d *dice) arguments(t *testing.T) arguments {
	t.Helper()
	a := arguments{number: d.roll(100000) - 50, dev: d.roll(5), v: d.vector(9), w: d.vector(40), c: d.cart(t), acks: d.acks(40)}
	a.old = d.apart(t, copyOf(a.c), 1, 2)
	a.part = d.part(a.old)
	a.net, _ = d.netPlay(t, impl.NetNew(), 20)
	a.lines, a.prices, a.offers = d.bill()
	a.itemOrNot = slices.Concat(diceItems, notItems)[d.roll(8)]
	for range 12 {
		a.ops = append(a.ops, d.op(d.roll(5), d.roll(4)))
		a.cmds = append(a.cmds, d.cmd())
		a.steps = append(a.steps, d.step())
		a.diskOps = append(a.diskOps, randomOp(d))
	}
	for i := range a.ops {
		a.ops[i].Seq = d.roll(41)
	}
	for range 6 {
		a.disk, _ = expectedDo(a.disk, randomOp(d))
		a.acts = append(a.acts, newAct(), randomAct(t, d, a.disk))
	}
	for i := range a.disk.Ops {
		if d.roll(2) == 0 {
			a.keep = append(a.keep, int64(i))
		}
	}
	a.texts = []string{
		"", "abc", "\x03abcd", "40.0.7.10", bodyAnyway(a.c), encodedAnyway(saveOp(1, 2, 3)), impl.CartBytes(a.c), impl.Sealed("abc"), partFrame(a.part) + emptyFrame() + "x",
		scriptOf(d.script(20)...), scriptOf(d.script(39)...), strings.Repeat("0 show\n", 41),
	}
	return a
}

func shown(results ...any) string { return fmt.Sprintf("%#v", results) }

// forAll is a call for each element of a list.
func forAll[E any](list []E, call func(e E) string) func() string {
	return func() string {
		var results []string
		for _, e := range list {
			results = append(results, call(e))
		}
		return strings.Join(results, "\n")
	}
}

// callsOfValues are calls of the functions of l01 to l06, by their names.
func (a arguments) callsOfValues() map[string]func() string {
	first, second := a.ops[0], a.ops[1]
	return map[string]func() string{
		"VarOf":      func() string { return shown(impl.VarOf(a.number)) },
		"ReadVar":    forAll(a.texts, func(s string) string { return shown(impl.ReadVar(s)) }),
		"TextOf":     forAll(a.texts, func(s string) string { return shown(impl.TextOf(s)) }),
		"ReadText":   forAll(a.texts, func(s string) string { return shown(impl.ReadText(s)) }),
		"SumOf":      forAll(a.texts, func(s string) string { return shown(impl.SumOf(s)) }),
		"Sealed":     forAll(a.texts, func(s string) string { return shown(impl.Sealed(s)) }),
		"Unsealed":   forAll(a.texts, func(s string) string { return shown(impl.Unsealed(s)) }),
		"VecOk":      func() string { return shown(impl.VecOk(a.v), impl.VecOk(a.keep)) },
		"VecMax":     func() string { return shown(impl.VecMax(a.v, a.w), impl.VecMax(a.v, a.keep)) },
		"VecMin":     func() string { return shown(impl.VecMin(a.v, a.w), impl.VecMin(a.v, a.keep)) },
		"VecWithin":  func() string { return shown(impl.VecWithin(a.v, a.w), impl.VecWithin(a.keep, a.w)) },
		"VecText":    func() string { return shown(impl.VecText(a.v), impl.VecText(a.keep)) },
		"ReadVec":    forAll(a.texts, func(s string) string { return shown(impl.ReadVec(s)) }),
		"OpOk":       forAll(a.ops, func(o impl.Op) string { return shown(impl.OpOk(o)) }),
		"Live":       forAll(a.ops, func(o impl.Op) string { return shown(impl.Live(o)) }),
		"Before":     func() string { return shown(impl.Before(first, second), impl.Before(second, first)) },
		"OpBytes":    forAll(a.ops, func(o impl.Op) string { return shown(impl.OpBytes(o)) }),
		"ReadOp":     forAll(a.texts, func(s string) string { return shown(impl.ReadOp(s)) }),
		"CartNew":    func() string { return shown(impl.CartNew()) },
		"CartOk":     func() string { return shown(impl.CartOk(a.c), impl.CartOk(a.part)) },
		"Merged":     func() string { return shown(impl.Merged(a.c, a.old)) },
		"Within":     func() string { return shown(impl.Within(a.c, a.old), impl.Within(a.old, a.c)) },
		"CartBytes":  func() string { return shown(impl.CartBytes(a.c), impl.CartBytes(a.part)) },
		"ReadCart":   forAll(a.texts, func(s string) string { return shown(impl.ReadCart(s)) }),
		"LevelOf":    func() string { return shown(impl.LevelOf(a.c, a.itemOrNot)) },
		"QtyOf":      func() string { return shown(impl.QtyOf(a.c, a.itemOrNot)) },
		"SavedOf":    func() string { return shown(impl.SavedOf(a.c, a.itemOrNot)) },
		"ItemsOf":    func() string { return shown(impl.ItemsOf(a.c), impl.ItemsOf(a.part)) },
		"LinesOf":    func() string { return shown(impl.LinesOf(a.c), impl.LinesOf(a.part)) },
		"Total":      func() string { return shown(impl.Total(a.c), impl.Total(a.part)) },
		"CmdOk":      forAll(a.cmds, func(x impl.Cmd) string { return shown(impl.CmdOk(x)) }),
		"UndoTarget": func() string { return shown(impl.UndoTarget(a.c, a.dev)) },
		"RedoTarget": func() string { return shown(impl.RedoTarget(a.c, a.dev)) },
		"Issue":      forAll(a.cmds, func(x impl.Cmd) string { return shown(impl.Issue(a.c, a.dev, x)) }),
		"IssueAll":   func() string { return shown(impl.IssueAll(a.c, a.dev, a.cmds)) },
	}
}

// callsOfPlaces are calls of the functions of l07 to l14, by their names.
func (a arguments) callsOfPlaces() map[string]func() string {
	return map[string]func() string{
		"PartOk":     func() string { return shown(impl.PartOk(a.part), impl.PartOk(a.c)) },
		"DeltaOf":    func() string { return shown(impl.DeltaOf(a.old, a.c)) },
		"Taken":      func() string { return shown(impl.Taken(a.c, a.part)) },
		"Toggled":    func() string { return shown(impl.Toggled(a.c, a.old)) },
		"History":    func() string { return shown(impl.History(a.c)) },
		"Page":       func() string { return shown(impl.Page(a.c, a.dev, a.number)) },
		"Told":       forAll(a.ops, func(o impl.Op) string { return shown(impl.Told(o)) }),
		"Named":      func() string { return shown(impl.Named(a.c, a.dev)) },
		"NetNew":     func() string { return shown(impl.NetNew()) },
		"NetOk":      func() string { return shown(impl.NetOk(a.net)) },
		"NetDo":      forAll(a.steps, func(s impl.Step) string { return shown(impl.NetDo(a.net, s)) }),
		"NetPlay":    func() string { return shown(impl.NetPlay(a.net, a.steps)) },
		"Settled":    func() string { return shown(impl.Settled(a.net)) },
		"DiskOk":     func() string { return shown(impl.DiskOk(a.disk)) },
		"Do":         forAll(a.diskOps, func(op impl.DOp) string { return shown(impl.Do(a.disk, op)) }),
		"Sync":       func() string { return shown(impl.Sync(a.disk)) },
		"Crash":      func() string { return shown(impl.Crash(a.disk, a.keep, a.dev)) },
		"ReadFile":   forAll(a.disk.Live, func(f impl.File) string { return shown(impl.ReadFile(a.disk, f.Name)) }),
		"Replace":    forAll(a.texts, func(s string) string { return shown(impl.Replace(a.disk, "log", s)) }),
		"FrameOf":    forAll(a.texts, func(s string) string { return shown(impl.FrameOf(s)) }),
		"TakeFrames": forAll(a.texts, func(s string) string { return shown(impl.TakeFrames(s)) }),
		"StoreView":  func() string { return shown(impl.StoreView(a.disk)) },
		"StoreDo":    forAll(a.acts, func(act impl.Act) string { return shown(impl.StoreDo(a.disk, act)) }),
		"StorePlay":  func() string { return shown(impl.StorePlay(a.disk, a.acts)) },
		"PricesOk":   func() string { return shown(impl.PricesOk(a.prices)) },
		"OffersOk":   func() string { return shown(impl.OffersOk(a.offers)) },
		"PriceOf":    func() string { return shown(impl.PriceOf(a.prices, a.itemOrNot)) },
		"Paid":       forAll(a.offers, func(o impl.Offer) string { return shown(impl.Paid(a.number%1000, o)) }),
		"Bill":       func() string { return shown(impl.Bill(a.lines, a.prices, a.offers)) },
		"AcksNew":    func() string { return shown(impl.AcksNew()) },
		"AcksOk":     func() string { return shown(impl.AcksOk(a.acks)) },
		"Heard":      func() string { return shown(impl.Heard(a.acks, a.dev, a.v)) },
		"Stable":     func() string { return shown(impl.Stable(a.acks)) },
		"Cut":        func() string { return shown(impl.Cut(a.c, a.v)) },
		"RunScript":  forAll(a.texts, func(s string) string { return shown(impl.RunScript(s)) }),
	}
}

// results are what all functions return, by their names.
func (a arguments) results() map[string]string {
	results := map[string]string{}
	for _, calls := range []map[string]func() string{a.callsOfValues(), a.callsOfPlaces()} {
		for name, call := range calls {
			results[name] = call()
		}
	}
	return results
}

// functionsOfProgram are the names of the functions that other packages can call.
func functionsOfProgram(t *testing.T) []string {
	t.Helper()
	files, err := filepath.Glob("../impl/*.go")
	if err != nil || len(files) == 0 {
		t.Fatalf("the files of the program are not found: %v", err)
	}
	var names []string
	for _, name := range files {
		file, err := parser.ParseFile(token.NewFileSet(), name, nil, 0)
		if err != nil {
			t.Fatal(err)
		}
		for _, decl := range file.Decls {
			if f, ok := decl.(*ast.FuncDecl); ok && f.Recv == nil && f.Name.IsExported() {
				names = append(names, f.Name.Name)
			}
		}
	}
	return names
}

func wantResults(t *testing.T, what string, got map[string]string, want map[string]string) {
	t.Helper()
	for name, results := range want {
		if got[name] != results {
			t.Errorf("%s: %s returned %s, then %s", what, name, results, got[name])
		}
	}
}

func TestAllFunctionsAreCalled(t *testing.T) {
	d := dice{state: 150}
	results := d.arguments(t).results()
	names := functionsOfProgram(t)
	for _, name := range names {
		if _, called := results[name]; !called {
			t.Errorf("%s is not among the calls of all functions", name)
		}
	}
	if len(results) != len(names) {
		t.Errorf("there are %d functions, and calls of %d", len(names), len(results))
	}
}

func TestEqualArgumentsOfAllFunctions(t *testing.T) {
	for seed := range uint64(25) {
		d, e := dice{state: 1500 + seed}, dice{state: 1500 + seed}
		a, b := d.arguments(t), e.arguments(t)
		want := a.results()
		wantResults(t, "the same arguments again", a.results(), want)
		wantResults(t, "equal arguments", b.results(), want)
		var group sync.WaitGroup
		for range 4 {
			group.Go(func() { wantResults(t, "the same arguments at the same time", a.results(), want) })
		}
		group.Wait()
		f := dice{state: 1500 + seed}
		before := f.arguments(t)
		if shown(a) != shown(before) || shown(b) != shown(before) {
			t.Errorf("the arguments are now %#v; they were %#v", a, before)
		}
		if t.Failed() {
			return
		}
	}
}
