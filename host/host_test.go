package host_test

import (
	"fmt"
	"math"
	"slices"
	"strings"
	"testing"

	"riddle/api"
	"riddle/epc"
	"riddle/host"
	"riddle/image"
	"riddle/run"
	"riddle/trust"
)

// Numbers that are no enclaves, frames, places, rights, words, fuel or quotes.
var farOut = []int{-1, -200, 65536, 1 << 32, 1<<32 + 1, -1 << 32, math.MaxInt64, math.MinInt64}

// step is an act, and what is to come of it.
type step struct {
	act  api.Act
	code api.Errno
	n    int
}

// Acts that are done without an error.
func create(e int) step { return step{api.Act{Kind: api.Create}, api.OK, e} }
func put(e, f, at, rights int) step {
	return fine(api.Act{Kind: api.Put, E: e, F: f, At: at, Rights: rights})
}
func measure(e, at int) step { return fine(api.Act{Kind: api.Measure, E: e, At: at}) }
func start(e int) step       { return fine(api.Act{Kind: api.Start, E: e}) }
func remove(e int) step      { return fine(api.Act{Kind: api.Remove, E: e}) }
func poke(f, at, n int) step { return fine(api.Act{Kind: api.Poke, F: f, At: at, N: n}) }
func check(at int) step      { return fine(api.Act{Kind: api.Check, At: at}) }
func ask(nonce int) step     { return step{api.Act{Kind: api.Ask}, api.OK, nonce} }

func peek(f, at, word int) step {
	return step{api.Act{Kind: api.Peek, F: f, At: at}, api.OK, word}
}

func enter(e, n, fuel, value int) step {
	return step{api.Act{Kind: api.Enter, E: e, N: n, Fuel: fuel}, api.OK, value}
}

func resume(e, fuel, value int) step {
	return step{api.Act{Kind: api.Resume, E: e, Fuel: fuel}, api.OK, value}
}

func fine(a api.Act) step { return step{act: a} }

// but is the same act with a Code.
func (s step) but(code api.Errno) step { return step{s.act, code, 0} }

// text of what Run answers: two have the same one if they hold the same (a list without elements may be nil or not).
func text(l []api.Answer, m api.Machine, c api.Challenger) string {
	return fmt.Sprintf("%d %+v %q %d", l, m, c.Trusts, c.Nonces)
}

func acts(l []step) []api.Act {
	var out []api.Act
	for _, s := range l {
		out = append(out, s.act)
	}
	return out
}

// play steps, and see that each is answered as it says; the machine and the challenger in the end.
func play(t *testing.T, trusts []string, l ...step) (api.Machine, api.Challenger) {
	t.Helper()
	answers, m, c, x := host.Run(trusts, acts(l))
	if x != api.OK || len(answers) != len(l) {
		t.Fatalf("%d acts: %d answers, %v", len(l), len(answers), x)
	}
	for i, s := range l {
		if want := (api.Answer{Code: s.code, N: s.n}); answers[i] != want {
			t.Errorf("act %d, %+v: %d, want %d", i, s.act, answers[i], want)
		}
	}
	if epc.Check(m) != api.OK || trust.Check(c) != api.OK {
		t.Errorf("in the end what may not be: %+v %+v", m, c)
	}
	return m, c
}

// idle steps leave all as it is behind others: what there is in the end is the same without them.
func idle(t *testing.T, trusts []string, first []step, l ...step) {
	t.Helper()
	m, c := play(t, trusts, first...)
	for _, s := range l {
		n, d := play(t, trusts, append(slices.Clone(first), s)...)
		if text(nil, n, d) != text(nil, m, c) {
			t.Errorf("%+v leaves %+v %+v", s.act, n, d)
		}
	}
}

// built are the steps that build an image of one page as the enclave e, in the frame f.
func built(e, f, rights int, words ...int) []step {
	var out []step
	for at := range 8 {
		n := 0
		if at < len(words) {
			n = words[at]
		}
		out = append(out, poke(f, at, n))
	}
	return append(out, create(e), put(e, f, 0, rights), measure(e, 0), start(e))
}

// sayer says what it is entered with, and exits with it.
func sayer() []step { return built(1, 5, api.MayRun, api.Say, 0, api.Exit, 0) }

const sayerLog = "open;page 0 4;words 0 9 0 8 0 0 0 0 0;"

// refused is what Run answers that refuses: the error, and nothing else.
func refused(trusts []string, l []api.Act, want api.Errno) bool {
	answers, m, c, x := host.Run(trusts, l)
	return x == want && len(answers) == 0 && text(nil, m, c) == text(nil, api.Machine{}, api.Challenger{})
}

// P5.1
func TestNothingToDo(t *testing.T) {
	for _, trusts := range [][]string{nil, {}, {""}, {"a"}, {"a", "b", "a", strings.Repeat("x", 1000)}} {
		for _, l := range [][]api.Act{nil, {}} {
			answers, m, c, x := host.Run(trusts, l)
			if x != api.OK || text(answers, m, c) != text(nil, epc.New(), api.Challenger{Trusts: trusts}) {
				t.Errorf("Run %q: %v %v %v %v", trusts, answers, m, c, x)
			}
		}
	}
}

// P5.1
func TestRunRefuses(t *testing.T) {
	long := strings.Repeat("x", 1001)
	for _, c := range []struct {
		trusts []string
		acts   int
		want   api.Errno
	}{
		{make([]string, 5), 0, api.ErrSize},
		{make([]string, 10000), 1, api.ErrSize},
		{[]string{long, "", "", "", ""}, 0, api.ErrSize},
		{[]string{long}, 0, api.ErrState},
		{[]string{"a", "b", "c", long}, 1, api.ErrState},
		{[]string{strings.Repeat("é", 501)}, 1, api.ErrState},
		{nil, 201, api.ErrSize},
		{[]string{"a"}, 201, api.ErrSize},
		{nil, 100000, api.ErrSize},
		// What trust's Check refuses is named ahead of too many acts.
		{[]string{long}, 201, api.ErrState},
		{make([]string, 5), 201, api.ErrSize},
	} {
		if l := make([]api.Act, c.acts); !refused(c.trusts, l, c.want) {
			t.Errorf("Run of %d trusts and %d acts: want %v", len(c.trusts), c.acts, c.want)
		}
		if l := slices.Repeat([]api.Act{{Kind: api.Create}}, c.acts); !refused(c.trusts, l, c.want) {
			t.Errorf("Run of %d trusts and %d Creates: want %v", len(c.trusts), c.acts, c.want)
		}
	}
}

// P5.1: 200 acts are not too many, and all are done.
func TestAllActsAreDone(t *testing.T) {
	var l []step
	for i := range 199 {
		l = append(l, poke(0, 0, i))
	}
	play(t, nil, append(l, peek(0, 0, 198))...)
}

// P5.1: of a kind that there is not nothing is done, and the script goes on.
func TestNoSuchKind(t *testing.T) {
	for _, kind := range append([]int{0, 12, 13, 100}, farOut...) {
		a := api.Act{Kind: kind, E: 1, F: 5, At: 0, Rights: 4, N: 1, Fuel: 9}
		s := step{a, api.ErrKind, 0}
		idle(t, nil, nil, s)
		idle(t, []string{sayerLog}, append(sayer(), ask(1), enter(1, 1, 9, 1)), s)
		play(t, nil, s, create(1), s, create(2), s)
	}
}

// P5.1: fields that an act does not name say nothing.
func TestOtherFields(t *testing.T) {
	l := append(sayer(), ask(1), enter(1, 1, 1, 0).but(api.ErrBusy), resume(1, 1, 1), check(0), peek(5, 0, 65535), remove(1))
	m, c := play(t, []string{sayerLog}, l...)
	for _, other := range farOut {
		for i := range l {
			l[i].act = spoilt(l[i].act, other)
		}
		n, d := play(t, []string{sayerLog}, l...)
		if text(nil, n, d) != text(nil, m, c) {
			t.Errorf("with other fields: %v %v, want %v %v", n, d, m, c)
		}
	}
}

// spoilt is an act with a number in the fields that its kind does not name.
func spoilt(a api.Act, n int) api.Act {
	names := []string{"", "", "E F At Rights", "E At", "E", "E", "F At", "F At N", "E N Fuel", "E Fuel", "", "At"}[a.Kind]
	for name, field := range map[string]*int{"E": &a.E, "F": &a.F, "At": &a.At, "Rights": &a.Rights, "N": &a.N, "Fuel": &a.Fuel} {
		if !slices.Contains(strings.Fields(names), name) {
			*field = n
		}
	}
	return a
}

// P5.2
func TestCreate(t *testing.T) {
	l := []step{create(1), create(2), create(3), create(4)}
	m, _ := play(t, nil, l...)
	for i, e := range m.Enclaves {
		if want := (api.Enclave{State: api.Opened, Log: "open;"}); e != want {
			t.Errorf("the enclave %d is %+v", i+1, e)
		}
	}
	idle(t, nil, l, create(0).but(api.ErrFull))
	play(t, nil, append(l, create(0).but(api.ErrFull), remove(2), create(2), create(0).but(api.ErrFull))...)
}

// P5.2
func TestBuild(t *testing.T) {
	m, _ := play(t, nil,
		poke(23, 7, 65535), poke(0, 1, 7), create(1), create(2),
		put(2, 23, 7, 5), put(1, 0, 3, 0), measure(2, 7), put(2, 4, 0, 7), start(1))
	want := epc.New()
	want.Enclaves[0] = api.Enclave{State: api.Ready, Log: "open;page 3 0;"}
	want.Enclaves[1] = api.Enclave{State: api.Opened, Log: "open;page 7 5;words 7 0 0 0 0 0 0 0 65535;page 0 7;"}
	want.Frames[0] = api.Frame{Owner: 1, At: 3, Words: []int{0, 7, 0, 0, 0, 0, 0, 0}}
	want.Frames[4] = api.Frame{Owner: 2, Rights: 7, Words: make([]int, 8)}
	want.Frames[23] = api.Frame{Owner: 2, At: 7, Rights: 5, Words: []int{0, 0, 0, 0, 0, 0, 0, 65535}}
	if text(nil, m, api.Challenger{}) != text(nil, want, api.Challenger{}) {
		t.Errorf("built: %+v", m)
	}
}

// P5.2: what is refused leaves all as it is.
func TestBuildRefuses(t *testing.T) {
	first := append(built(1, 5, 4, 8), create(2), poke(3, 3, 33), put(2, 3, 2, 6))
	idle(t, nil, first,
		put(3, 0, 0, 0).but(api.ErrNone), measure(3, 0).but(api.ErrNone), start(3).but(api.ErrNone), remove(3).but(api.ErrNone),
		put(1, 0, 1, 0).but(api.ErrState), measure(1, 0).but(api.ErrState), start(1).but(api.ErrState),
		put(2, 24, 0, 0).but(api.ErrRange), put(2, 0, 8, 0).but(api.ErrRange), put(2, 0, 0, 8).but(api.ErrRange),
		put(2, 5, 0, 0).but(api.ErrTwice), put(2, 3, 0, 0).but(api.ErrTwice), put(2, 0, 2, 0).but(api.ErrTwice),
		measure(2, 0).but(api.ErrNone), measure(2, 3).but(api.ErrNone), measure(2, 8).but(api.ErrNone))
	for _, n := range farOut {
		idle(t, nil, first,
			put(n, 0, 0, 0).but(api.ErrNone), measure(n, 2).but(api.ErrNone), start(n).but(api.ErrNone), remove(n).but(api.ErrNone),
			put(2, n, 0, 0).but(api.ErrRange), put(2, 0, n, 0).but(api.ErrRange), put(2, 0, 0, n).but(api.ErrRange), measure(2, n).but(api.ErrNone))
	}
}

// P5.2: a Log that is full is left as it is.
func TestLogIsFull(t *testing.T) {
	l := []step{create(1), put(1, 0, 0, 0)}
	const room = 1000 - len("open;page 0 0;")
	for range room / len("words 0 0 0 0 0 0 0 0 0;") {
		l = append(l, measure(1, 0))
	}
	idle(t, nil, l, measure(1, 0).but(api.ErrFull))
	play(t, nil, append(l, measure(1, 0).but(api.ErrFull), start(1), remove(1), create(1))...)
}

// P5.2
func TestRemove(t *testing.T) {
	m, _ := play(t, nil, poke(6, 1, 9), create(1), create(2), put(1, 6, 0, 7), put(2, 7, 0, 7), remove(1), peek(6, 1, 0), remove(1).but(api.ErrNone))
	want, _ := play(t, nil, create(1), create(2), put(2, 7, 0, 7), remove(1))
	if text(nil, m, api.Challenger{}) != text(nil, want, api.Challenger{}) || m.Frames[6].Owner != 0 || m.Frames[7].Owner != 2 {
		t.Errorf("removed: %+v", m)
	}
	for _, l := range [][]step{
		{create(1)},
		sayer(),
		append(sayer(), enter(1, 1, 0, 0).but(api.ErrBusy)),
		append(built(1, 5, api.MayRun, 0), enter(1, 1, 1, 0).but(api.ErrFault)),
	} {
		m, _ := play(t, nil, append(l, remove(1))...)
		if text(nil, m, api.Challenger{}) != text(nil, epc.New(), api.Challenger{}) {
			t.Errorf("removed behind %v: %+v", l, m)
		}
	}
}

// P5.2
func TestPeekAndPoke(t *testing.T) {
	for f := range 24 {
		for at := range 8 {
			m, _ := play(t, nil, peek(f, at, 0), poke(f, at, 65535), peek(f, at, 65535), poke(f, at, 100*f+at), peek(f, at, 100*f+at))
			want := epc.New()
			want.Frames[f].Words[at] = 100*f + at
			if text(nil, m, api.Challenger{}) != text(nil, want, api.Challenger{}) {
				t.Errorf("poked %d %d: %+v", f, at, m)
			}
		}
	}
	first := []step{poke(2, 2, 22)}
	for _, n := range append([]int{24, 100}, farOut...) {
		idle(t, nil, first,
			peek(n, 0, 0).but(api.ErrRange), peek(2, n, 0).but(api.ErrRange),
			poke(n, 0, 1).but(api.ErrRange), poke(2, n, 1).but(api.ErrRange))
	}
	for _, n := range farOut {
		idle(t, nil, first, poke(2, 2, n).but(api.ErrRange))
	}
	idle(t, nil, first, peek(0, 8, 0).but(api.ErrRange), poke(0, 8, 1).but(api.ErrRange), peek(2, 2, 22), peek(2, 3, 0))
}

// P5.2: from without nobody sees, or changes, what is in an enclave, whatever its state.
func TestFromWithout(t *testing.T) {
	var l []step
	for at := range 8 {
		l = append(l, peek(5, at, 65535), poke(5, at, 1), poke(5, at, 65535))
	}
	l = append(l, poke(5, 0, 65536).but(api.ErrRange), peek(5, 8, 0).but(api.ErrRange))
	for _, first := range [][]step{
		{poke(5, 3, 33), create(1), put(1, 5, 0, 7)},
		sayer(),
		append(sayer(), enter(1, 7, 1, 0).but(api.ErrBusy)),
		append(built(1, 5, 7, 0), enter(1, 7, 1, 0).but(api.ErrFault)),
	} {
		idle(t, nil, first, l...)
	}
}

// P5.3
func TestEnter(t *testing.T) {
	for _, n := range []int{0, 1, 7, 65535} {
		m, c := play(t, []string{"a"}, append(sayer(), enter(1, n, 2, n), enter(1, n, 5000, n))...)
		want, _ := play(t, []string{"a"}, sayer()...)
		want.Quotes = []api.Quote{{Log: sayerLog, Data: n}, {Log: sayerLog, Data: n}}
		if text(nil, m, c) != text(nil, want, api.Challenger{Trusts: []string{"a"}}) {
			t.Errorf("entered with %d: %+v %+v", n, m, c)
		}
	}
}

// P5.3: one that is held is held all the same.
func TestHeld(t *testing.T) {
	m, _ := play(t, nil, append(sayer(), enter(1, 7, 0, 0).but(api.ErrBusy), resume(1, 0, 0).but(api.ErrBusy), resume(1, 1, 0).but(api.ErrBusy))...)
	want := api.Enclave{State: api.Stopped, Log: sayerLog, Pc: 2, Regs: [4]int{7}}
	if m.Enclaves[0] != want || len(m.Quotes) != 1 {
		t.Errorf("held: %+v", m)
	}
	m, _ = play(t, nil, append(sayer(), enter(1, 7, 1, 0).but(api.ErrBusy), resume(1, 1, 7), enter(1, 8, 2, 8))...)
	if want = (api.Enclave{State: api.Ready, Log: sayerLog}); m.Enclaves[0] != want || len(m.Quotes) != 2 {
		t.Errorf("resumed: %+v", m)
	}
}

// P5.3: what faults is broken all the same, and what it did ahead of that is done.
func TestFault(t *testing.T) {
	// It writes 7 at the address 64, says it, and runs into what is no instruction.
	l := built(1, 5, api.MayRun, api.Li+16, 64, api.St+256, 0, api.Say, 0, 0, 0)
	m, _ := play(t, nil, append(l, enter(1, 7, 4, 0).but(api.ErrFault), peek(0, 0, 7))...)
	log := "open;page 0 4;words 0 17 64 262 0 9 0 0 0;"
	if want := (api.Enclave{State: api.Broken, Log: log}); m.Enclaves[0] != want {
		t.Errorf("broken: %+v", m.Enclaves[0])
	}
	if want := (api.Quote{Log: log, Data: 7}); len(m.Quotes) != 1 || m.Quotes[0] != want {
		t.Errorf("broken: the quotes are %v", m.Quotes)
	}
	play(t, nil, append(l, enter(1, 7, 3, 0).but(api.ErrBusy), resume(1, 1, 0).but(api.ErrFault), resume(1, 1, 0).but(api.ErrState), enter(1, 7, 1, 0).but(api.ErrState), peek(0, 0, 7))...)
}

// P5.3: what is refused leaves all as it is.
func TestRunsRefuse(t *testing.T) {
	ready := append(sayer(), create(2))
	stopped := append(slices.Clone(ready), enter(1, 7, 1, 0).but(api.ErrBusy))
	idle(t, nil, ready,
		enter(3, 0, 0, 0).but(api.ErrNone), resume(3, 0, 0).but(api.ErrNone),
		enter(2, 0, 0, 0).but(api.ErrState), resume(2, 0, 0).but(api.ErrState), resume(1, 1, 0).but(api.ErrState),
		enter(1, 0, 5001, 0).but(api.ErrRange), enter(1, 65536, 9, 0).but(api.ErrRange))
	idle(t, nil, stopped, enter(1, 0, 9, 0).but(api.ErrState), resume(1, 5001, 0).but(api.ErrRange))
	for _, n := range farOut {
		idle(t, nil, ready, enter(n, 0, 0, 0).but(api.ErrNone), enter(1, n, 9, 0).but(api.ErrRange), enter(1, 0, n, 0).but(api.ErrRange))
		idle(t, nil, stopped, resume(n, 0, 0).but(api.ErrNone), resume(1, n, 0).but(api.ErrRange))
	}
}

// P5.3
func TestAsk(t *testing.T) {
	var l []step
	for n := 1; n <= 20; n++ {
		l = append(l, ask(n))
		m, c := play(t, []string{"a"}, l...)
		want := api.Challenger{Trusts: []string{"a"}, Nonces: make([]int, n)}
		if text(nil, m, c) != text(nil, epc.New(), want) {
			t.Errorf("asked %d times: %v %v", n, m, c)
		}
	}
	idle(t, []string{"a"}, l, ask(0).but(api.ErrFull))
}

// P5.3
func TestCheck(t *testing.T) {
	l := append(sayer(), ask(1), ask(2), ask(3), enter(1, 3, 9, 3), enter(1, 1, 9, 1), enter(1, 3, 9, 3))
	for _, c := range []struct {
		steps []step
		want  []int
	}{
		{nil, []int{0, 0, 0}},
		{[]step{check(0)}, []int{0, 0, 1}},
		{[]step{check(1)}, []int{1, 0, 0}},
		{[]step{check(2)}, []int{0, 0, 1}},
		{[]step{check(0), check(1), check(2).but(api.ErrTwice)}, []int{1, 0, 1}},
		{[]step{check(0), check(0).but(api.ErrTwice), ask(4)}, []int{0, 0, 1, 0}},
		// A quote is one of the machine's when the enclave that made it is gone, too.
		{[]step{remove(1), check(1)}, []int{1, 0, 0}},
	} {
		trusts := []string{"open;", sayerLog}
		m, d := play(t, trusts, append(slices.Clone(l), c.steps...)...)
		if !slices.Equal(d.Nonces, c.want) || !slices.Equal(d.Trusts, trusts) || len(m.Quotes) != 3 {
			t.Errorf("behind %v: %v, %v, want %v", c.steps, d, m.Quotes, c.want)
		}
	}
}

// P5.3: what is refused leaves all as it is.
func TestCheckRefuses(t *testing.T) {
	l := append(sayer(), ask(1), enter(1, 1, 9, 1), enter(1, 0, 9, 0), enter(1, 2, 9, 2))
	for _, at := range append([]int{3, 4, 40}, farOut...) {
		idle(t, []string{sayerLog}, l, check(at).but(api.ErrNone))
		idle(t, nil, nil, check(at).but(api.ErrNone))
	}
	idle(t, nil, nil, check(0).but(api.ErrNone))
	idle(t, []string{sayerLog}, l, check(1).but(api.ErrNone), check(2).but(api.ErrNone))
	idle(t, []string{sayerLog}, append(slices.Clone(l), check(0)), check(0).but(api.ErrTwice))
	for _, trusts := range [][]string{nil, {""}, {"open;", sayerLog + " "}, {sayerLog[1:]}} {
		idle(t, trusts, l, check(0).but(api.ErrTrust))
	}
	// The quote is asked for ahead of all else: with a challenger that is full, too.
	full := []step{}
	for n := 1; n <= 20; n++ {
		full = append(full, ask(n))
	}
	idle(t, nil, full, check(0).but(api.ErrNone), check(1).but(api.ErrNone))
}

// The document's example of the whole.
func TestExampleOfTheWhole(t *testing.T) {
	pages := []api.Page{{Rights: api.MayRun, Words: []int{api.Say, 0, api.Exit, 0, 0, 0, 0, 0}}}
	log, x := image.Expect(pages)
	l, y := image.Plan(pages, 1, 0)
	if x != api.OK || y != api.OK || log != sayerLog {
		t.Fatalf("Expect: %q %v, Plan: %v", log, x, y)
	}
	n := len(l)
	l = append(l, ask(1).act, enter(1, 1, 9, 0).act, check(0).act, check(0).act)
	answers, m, c, x := host.Run([]string{log}, l)
	if x != api.OK || len(answers) != n+4 || m.Enclaves[0].Log != log || len(m.Quotes) != 1 || !slices.Equal(c.Nonces, []int{1}) {
		t.Fatalf("%v %v %v %v", answers, m, c, x)
	}
	if want := []api.Answer{{N: 1}, {N: 1}, {}, {Code: api.ErrTwice}}; !slices.Equal(answers[n:], want) {
		t.Errorf("the last answers are %d, want %d", answers[n:], want)
	}
}

// What comes of it: one that was built of something else says the nonce in vain.
func TestBuiltOfSomethingElse(t *testing.T) {
	say, exit := api.Say, api.Exit
	end := func(e int) []step { return []step{ask(1), enter(e, 1, 9, 1), check(0).but(api.ErrTrust)} }
	late := []step{create(1), put(1, 5, 0, 4), poke(5, 0, say), measure(1, 0), start(1), enter(1, 1, 9, 0).but(api.ErrFault), check(0).but(api.ErrNone)}
	unmeasured := []step{poke(5, 0, say), poke(5, 2, exit), create(1), put(1, 5, 0, 4), start(1)}
	twice := []step{poke(5, 0, say), poke(5, 2, exit), create(1), put(1, 5, 0, 4), measure(1, 0), measure(1, 0), start(1)}
	more := []step{poke(5, 0, say), poke(5, 2, exit), create(1), put(1, 5, 0, 4), measure(1, 0), put(1, 6, 1, 2), start(1)}
	for name, l := range map[string][]step{
		"another word":   append(built(1, 5, 4, say, 0, exit, 0, 1), end(1)...),
		"other rights":   append(built(1, 5, 5, say, 0, exit, 0), end(1)...),
		"not measured":   append(unmeasured, end(1)...),
		"twice so":       append(twice, end(1)...),
		"a page more":    append(more, end(1)...),
		"poked too late": late,
	} {
		t.Run(name, func(t *testing.T) {
			if _, c := play(t, []string{sayerLog}, l...); slices.Contains(c.Nonces, 1) {
				t.Errorf("it is trusted: %v", c)
			}
		})
	}
}

// Acts that look drawn: what Run answers is what the layers answer, one by one.
func TestAsTheLayersSay(t *testing.T) {
	drawn := uint64(5)
	draw := func(most int) int {
		drawn = drawn*6364136223846793005 + 1442695040888963407
		return int((drawn >> 33) % uint64(most))
	}
	for range 300 {
		l := acts(sayer())
		for range draw(180) {
			l = append(l, api.Act{Kind: draw(14) - 1, E: draw(4), F: draw(26) - 1, At: draw(10) - 1, Rights: draw(9), N: draw(4), Fuel: draw(4)})
		}
		trusts := []string{sayerLog, "open;"}
		answers, m, c, x := host.Run(trusts, l)
		if want := layered(trusts, l); x != api.OK || text(answers, m, c) != want {
			t.Fatalf("Run %v: %s, want %s", l, text(answers, m, c), want)
		}
	}
}

// layered is the text of what the layers answer to acts.
func layered(trusts []string, l []api.Act) string {
	m, c := epc.New(), api.Challenger{Trusts: trusts}
	var answers []api.Answer
	for _, a := range l {
		next, with, answer := m, c, api.Answer{Code: api.ErrKind}
		switch a.Kind {
		case 1:
			next, answer.N, answer.Code = epc.Create(m)
		case 2:
			next, answer.Code = epc.Put(m, a.E, a.F, a.At, a.Rights)
		case 3:
			next, answer.Code = epc.Measure(m, a.E, a.At)
		case 4:
			next, answer.Code = epc.Start(m, a.E)
		case 5:
			next, answer.Code = epc.Remove(m, a.E)
		case 6:
			answer.N, answer.Code = epc.Peek(m, a.F, a.At)
		case 7:
			next, answer.Code = epc.Poke(m, a.F, a.At, a.N)
		case 8, 9:
			var end api.Outcome
			if next, end, answer.Code = run.Enter(m, a.E, a.N, a.Fuel); a.Kind == 9 {
				next, end, answer.Code = run.Resume(m, a.E, a.Fuel)
			}
			if answer.Code == api.OK {
				m, answer = next, []api.Answer{{}, {N: end.Value}, {Code: 9}, {Code: 10}}[end.End]
			}
		case 10:
			with, answer.N, answer.Code = trust.Ask(c)
		case 11:
			answer.Code = api.ErrNone
			if 0 <= a.At && a.At < len(m.Quotes) {
				with, answer.Code = trust.Look(c, m.Quotes, m.Quotes[a.At])
			}
		}
		if answer.Code == api.OK {
			m, c = next, with
		}
		answers = append(answers, answer)
	}
	return text(answers, m, c)
}

// busy is a script in which all kinds are done.
func busy() []step {
	return append(sayer(), ask(1), ask(2), enter(1, 1, 9, 1), check(0), create(2), poke(9, 1, 2), put(2, 9, 3, 7), measure(2, 3),
		enter(1, 2, 1, 0).but(api.ErrBusy), resume(1, 1, 2), create(3), remove(3), peek(9, 0, 65535), check(7).but(api.ErrNone))
}

// All that is at most given, and asked for, ends.
func TestMost(t *testing.T) {
	long := strings.Repeat("x", 1000)
	// It goes round and round.
	l := append(built(1, 5, api.MayRun, api.Jz+16, 0), enter(1, 1, 5000, 0).but(api.ErrBusy))
	for len(l) < 200 {
		l = append(l, resume(1, 5000, 0).but(api.ErrBusy))
	}
	play(t, []string{long, long, long, long}, l...)
	// It says so much that there is no room for more.
	l = append(built(1, 5, api.MayRun, api.Say, 0, api.Jz+16, 0), enter(1, 3, 79, 0).but(api.ErrBusy), resume(1, 1, 0).but(api.ErrBusy), resume(1, 1, 0).but(api.ErrFault))
	if m, _ := play(t, nil, l...); len(m.Quotes) != 40 {
		t.Errorf("%d quotes", len(m.Quotes))
	}
}

// What is handed in stays as it was, its spare room too, and is not kept: by scripts that leave the challenger alone, too.
func TestWhatIsHandedIn(t *testing.T) {
	for _, l := range [][]api.Act{nil, {{Kind: api.Create}}, acts(busy())} {
		for trusted := range 3 {
			handIn(t, []string{sayerLog, "b", "spare", "room"}, trusted, append(slices.Clone(l), api.Act{Kind: 99}, api.Act{Kind: api.Create}))
		}
	}
}

// handIn so many of the trusts, and all acts but the last two: the others are spare room.
func handIn(t *testing.T, trusts []string, trusted int, l []api.Act) {
	t.Helper()
	was := fmt.Sprintf("%q %v", trusts, l)
	answers, m, c, x := host.Run(trusts[:trusted], l[:len(l)-2])
	want := text(answers, m, c)
	if now := fmt.Sprintf("%q %v", trusts, l); x != api.OK || now != was {
		t.Errorf("handed in was %s, now it is %s (%v)", was, now, x)
	}
	fill(trusts, "other")
	fill(l, api.Act{Kind: -9})
	was = fmt.Sprintf("%q %v", trusts, l)
	if text(answers, m, c) != want {
		t.Errorf("what was handed in was kept: %s, want %s", text(answers, m, c), want)
	}
	spoil(answers, m, c)
	if now := fmt.Sprintf("%q %v", trusts, l); now != was {
		t.Errorf("the answer is memory that was handed in: %s", now)
	}
}

// spoil writes over all that an answer's memory holds, spare room too.
func spoil(answers []api.Answer, m api.Machine, c api.Challenger) {
	fill(answers, api.Answer{N: -999})
	fill(c.Trusts, "spoilt")
	fill(c.Nonces, -999)
	for _, f := range m.Frames {
		fill(f.Words, -999)
	}
	fill(m.Quotes, api.Quote{Data: -999})
	fill(m.Enclaves, api.Enclave{State: -999})
	fill(m.Frames, api.Frame{Owner: -999})
}

func fill[T any](l []T, with T) {
	for i := range l[:cap(l)] {
		l[:cap(l)][i] = with
	}
}

// The same is answered again, in new memory, whatever was done to what was answered ahead.
func TestSameAgain(t *testing.T) {
	for _, l := range [][]api.Act{nil, acts(busy())} {
		first, m, c, _ := host.Run([]string{sayerLog}, l)
		want := text(first, m, c)
		again, n, d, _ := host.Run([]string{sayerLog}, l)
		spoil(first, m, c)
		if text(again, n, d) != want {
			t.Errorf("two answers share memory: %s, want %s", text(again, n, d), want)
		}
		third, o, e, _ := host.Run([]string{sayerLog}, l)
		if text(third, o, e) != want {
			t.Errorf("the third time: %s, want %s", text(third, o, e), want)
		}
	}
}

// No two lists of numbers of one answer share memory.
func TestListsOfOneAnswer(t *testing.T) {
	_, m, c, _ := host.Run([]string{sayerLog}, acts(busy()))
	lists := [][]int{c.Nonces}
	for _, f := range m.Frames {
		lists = append(lists, f.Words)
	}
	for i, l := range lists {
		fill(l, -1-i)
	}
	for i, l := range lists {
		if slices.ContainsFunc(l, func(n int) bool { return n != -1-i }) {
			t.Errorf("the list %d shares memory: %v", i, l)
		}
	}
}
