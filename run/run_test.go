package run_test

import (
	"fmt"
	"math"
	"slices"
	"strings"
	"testing"

	"riddle/api"
	"riddle/epc"
	"riddle/image"
	"riddle/run"
)

// Numbers that are no words, enclaves or units of fuel.
var farOut = []int{-1, -8, 65536, 1 << 32, -1 << 32, math.MaxInt64, math.MinInt64}

// The enclave that is run in the tests; its page at a place stands in the frame pageFrame.
const tried = 2

func pageFrame(at int) int { return 17 - at }

// op is the first word of an instruction.
func op(kind, a, b int) int { return kind + 16*a + 256*b }

// eight words that are n.
func eight(n int) []int { return slices.Repeat([]int{n}, 8) }

// base is a machine in which the enclave 2 is Ready, without pages; 1 is Ready, 3 Stopped, both with pages; 4 is Empty.
func base() api.Machine {
	m := api.Machine{Frames: make([]api.Frame, 24), Enclaves: make([]api.Enclave, 4)}
	for f := range m.Frames {
		for i := range 8 {
			m.Frames[f].Words = append(m.Frames[f].Words, 1000+10*f+i)
		}
	}
	m.Enclaves[0] = api.Enclave{State: api.Ready, Log: "one"}
	m.Enclaves[1] = api.Enclave{State: api.Ready, Log: "two"}
	m.Enclaves[2] = api.Enclave{State: api.Stopped, Log: "three", Pc: 2, Regs: [4]int{9, 8, 7, 6}}
	m.Frames[1] = api.Frame{Owner: 1, At: 0, Rights: 7, Words: eight(op(api.Exit, 0, 0))}
	m.Frames[2] = api.Frame{Owner: 1, At: 1, Rights: 7, Words: eight(11)}
	m.Frames[20] = api.Frame{Owner: 3, At: 0, Rights: 7, Words: eight(op(api.Exit, 3, 0))}
	m.Quotes = []api.Quote{{Log: "old", Data: 1}}
	return m
}

// lay a page of the enclave 2.
func lay(m api.Machine, at, rights int, words []int) {
	m.Frames[pageFrame(at)] = api.Frame{Owner: tried, At: at, Rights: rights, Words: slices.Clone(words)}
}

// loaded is the base with words in pages from the place 0 on, all with the same rights.
func loaded(rights int, words ...int) api.Machine {
	m := base()
	for at := 0; 8*at < len(words); at++ {
		page := make([]int, 8)
		copy(page, words[8*at:])
		lay(m, at, rights, page)
	}
	return m
}

// stopped is a machine in which the enclave 2 is Stopped.
func stopped(m api.Machine, pc int, regs [4]int) api.Machine {
	out := epc.Copy(m)
	out.Enclaves[1].State, out.Enclaves[1].Pc, out.Enclaves[1].Regs = api.Stopped, pc, regs
	return out
}

// broken is a machine in which the enclave 2 is Broken.
func broken(m api.Machine) api.Machine {
	out := epc.Copy(m)
	out.Enclaves[1] = api.Enclave{State: api.Broken, Log: out.Enclaves[1].Log}
	return out
}

// but is a machine with a change.
func but(m api.Machine, change func(m *api.Machine)) api.Machine {
	out := epc.Copy(m)
	change(&out)
	return out
}

// text of a machine: two have the same one if they hold the same (a list without elements may be nil or not).
func text(m api.Machine) string { return fmt.Sprintf("%+v", m) }

func done(n int) api.Outcome { return api.Outcome{End: api.Done, Value: n} }
func held() api.Outcome      { return api.Outcome{End: api.Held} }
func fault() api.Outcome     { return api.Outcome{End: api.Fault} }

// expect that what a call answered is right, and a machine that may be.
func expect(t *testing.T, what string, m api.Machine, o api.Outcome, x api.Errno, wantM api.Machine, wantO api.Outcome) {
	t.Helper()
	if x != api.OK || o != wantO || text(m) != text(wantM) || epc.Check(m) != api.OK {
		t.Errorf("%s: %v %v\n%v\nwant %v\n%v", what, x, o, m, wantO, wantM)
	}
}

// enter the enclave 2, and expect an outcome and a machine.
func enter(t *testing.T, what string, m api.Machine, word, fuel int, wantM api.Machine, wantO api.Outcome) {
	t.Helper()
	next, o, x := run.Enter(m, tried, word, fuel)
	expect(t, what, next, o, x, wantM, wantO)
}

// resume the enclave 2, and expect an outcome and a machine.
func resume(t *testing.T, what string, m api.Machine, fuel int, wantM api.Machine, wantO api.Outcome) {
	t.Helper()
	next, o, x := run.Resume(m, tried, fuel)
	expect(t, what, next, o, x, wantM, wantO)
}

// land is a machine whose enclave 2 has a program, and pages at the places 1 to 7, whose rights are the place; but for one that is left out.
func land(left int, program ...int) api.Machine {
	m := loaded(api.MayRun, program...)
	for at := 1; at < 8; at++ {
		if at != left {
			lay(m, at, at, eight(500+at))
		}
	}
	return m
}

// addresses are all that lie near what there is, and some that do not.
func addresses() []int {
	var out []int
	for a := range 300 {
		out = append(out, a)
	}
	return append(out, 1023, 1024, 32767, 32768, 65471, 65472, 65534, 65535)
}

// frameAt is the frame of an address in a land, and whether it may be touched by a right.
func frameAt(m api.Machine, address, left, right int) (int, bool) {
	at := address / 8
	switch {
	case at == 0:
		return pageFrame(0), right == api.MayRun
	case at < 8:
		return pageFrame(at), at != left && at&right != 0
	case at < 8+24:
		return at - 8, right != api.MayRun && m.Frames[at-8].Owner == 0
	}
	return 0, false
}

// P3.1: what may be read.
func TestAddressesRead(t *testing.T) {
	for _, left := range []int{0, 1, 5, 7} {
		m := land(left, op(api.Ld, 1, 0), 0, op(api.Exit, 1, 0), 0)
		for _, a := range addresses() {
			if f, may := frameAt(m, a, left, api.MayRead); may {
				enter(t, fmt.Sprint("Ld at ", a), m, a, 2, m, done(m.Frames[f].Words[a%8]))
			} else {
				enter(t, fmt.Sprint("Ld at ", a), m, a, 2, broken(m), fault())
			}
		}
	}
}

// P3.1: what may be written.
func TestAddressesWritten(t *testing.T) {
	for _, left := range []int{0, 1, 3, 7} {
		m := land(left, op(api.Li, 1, 0), 65535, op(api.St, 1, 0), 0, op(api.Exit, 3, 0), 0)
		for _, a := range addresses() {
			if f, may := frameAt(m, a, left, api.MayWrite); may {
				want := but(m, func(m *api.Machine) { m.Frames[f].Words[a%8] = 65535 })
				enter(t, fmt.Sprint("St at ", a), m, a, 3, want, done(0))
			} else {
				enter(t, fmt.Sprint("St at ", a), m, a, 3, broken(m), fault())
			}
		}
	}
}

// P3.1, P3.2: what may be run: both words of an instruction.
func TestAddressesRun(t *testing.T) {
	exit := op(api.Exit, 0, 0)
	for _, left := range []int{0, 4, 5, 7} {
		for _, a := range addresses()[2:] {
			m := land(left, append([]int{op(api.Jz, 1, 0), a}, slices.Repeat([]int{exit}, 6)...)...)
			for f := range m.Frames {
				if m.Frames[f].Owner == 0 || m.Frames[f].At > 0 {
					m.Frames[f].Words = eight(exit)
				}
			}
			_, first := frameAt(m, a, left, api.MayRun)
			_, second := frameAt(m, a+1, left, api.MayRun)
			if first && second {
				enter(t, fmt.Sprint("run at ", a), m, 77, 2, m, done(77))
			} else {
				enter(t, fmt.Sprint("run at ", a), m, 77, 2, broken(m), fault())
			}
		}
	}
}

// P3.1: a right is not had for another one, whatever the page at 0 holds.
func TestRightsOfTheFirstPage(t *testing.T) {
	for rights := range 8 {
		for _, c := range []struct {
			kind, needs int
			want        api.Outcome
		}{
			{api.Exit, api.MayRun, done(6)},
			{api.Ld, api.MayRun | api.MayRead, done(123)},
			{api.St, api.MayRun | api.MayWrite, done(6)},
		} {
			m := loaded(rights, op(c.kind, 0, 0), 0, op(api.Exit, 0, 0), 0, 0, 0, 123, 0)
			what := fmt.Sprintf("the kind %d with the rights %d", c.kind, rights)
			if rights&c.needs != c.needs {
				enter(t, what, m, 6, 9, broken(m), fault())
				continue
			}
			want := but(m, func(m *api.Machine) {
				if c.kind == api.St {
					m.Frames[pageFrame(0)].Words[6] = 6
				}
			})
			enter(t, what, m, 6, 9, want, c.want)
		}
	}
}

// P3.1: a frame that is given to an enclave is not shared, and one that comes back is.
func TestSharedComesAndGoes(t *testing.T) {
	m := loaded(api.MayRun, op(api.Ld, 0, 0), 0, op(api.Exit, 0, 0), 0)
	address := 64 + 8*20 + 3
	enter(t, "a frame of the enclave 3", m, address, 2, broken(m), fault())
	gone, x := epc.Remove(m, 3)
	if x != api.OK {
		t.Fatal(x)
	}
	enter(t, "a frame that is shared again", gone, address, 2, gone, done(0))
	// Its own frames are not shared either.
	own := 64 + 8*pageFrame(0)
	enter(t, "a frame of its own", m, own, 2, broken(m), fault())
}

// P3.2
func TestEnter(t *testing.T) {
	for _, word := range []int{0, 1, 255, 32768, 65535} {
		m := loaded(api.MayRun, op(api.Exit, 0, 0), 0)
		enter(t, "Exit", m, word, 1, m, done(word))
		for r := 1; r < 4; r++ {
			m := loaded(api.MayRun, op(api.Exit, r, 0), 0)
			enter(t, "Exit with a register that is 0", m, word, 1, m, done(0))
		}
		enter(t, "no step", m, word, 0, stopped(m, 0, [4]int{word}), held())
	}
	for _, e := range []int{1, 3} {
		m := loaded(api.MayRun, op(api.Exit, 0, 0), 0)
		m.Enclaves[2] = api.Enclave{State: api.Ready, Log: "three"}
		next, o, x := run.Enter(m, e, 44, 5)
		expect(t, fmt.Sprint("Enter ", e), next, o, x, m, done([]int{44, 0}[e/3]))
	}
}

// P3.2: an enclave without a page at 0 faults, whatever other pages it has.
func TestNothingAtZero(t *testing.T) {
	enter(t, "no page", base(), 0, 1, broken(base()), fault())
	m := base()
	lay(m, 1, 7, eight(op(api.Exit, 0, 0)))
	enter(t, "no page at 0", m, 0, 1, broken(m), fault())
}

// effect is what an instruction that touches registers alone does, told once more.
func effect(kind, a, b, c int, regs [4]int) (int, [4]int) {
	pc, x, y := 2, regs[a], regs[b]
	switch kind {
	case api.Li:
		regs[a] = c
	case api.Add:
		if regs[a] = x + y; regs[a] > 65535 {
			regs[a] -= 65536
		}
	case api.Xor:
		regs[a] = (x | y) - (x & y)
	case api.Lt:
		if regs[a] = 0; x < y {
			regs[a] = 1
		}
	case api.Jz:
		if x == 0 {
			pc = c
		}
	}
	return pc, regs
}

// P3.2: registers, one step of each kind that touches them alone, with all pairs of registers.
func TestRegisters(t *testing.T) {
	sets := [][4]int{{}, {1, 2, 3, 4}, {65535, 1, 65535, 0}, {0, 32768, 32768, 65534}, {4, 0, 65535, 5}, {12, 10, 12, 0}}
	for _, kind := range []int{api.Li, api.Add, api.Xor, api.Lt, api.Jz} {
		for i := range 16 {
			a, b := i%4, i/4
			for _, regs := range sets {
				for _, c := range []int{0, 6, 9, 64, 65535} {
					m := loaded(api.MayRun, op(kind, a, b), c)
					pc, after := effect(kind, a, b, c, regs)
					what := fmt.Sprintf("kind %d, A %d, B %d, C %d, of %v", kind, a, b, c, regs)
					resume(t, what, stopped(m, 0, regs), 1, stopped(m, pc, after), held())
				}
			}
		}
	}
}

// P3.2: some of them as plain numbers.
func TestPlainNumbers(t *testing.T) {
	for _, c := range []struct {
		kind       int
		a, b, want int
	}{
		{api.Add, 2, 3, 5}, {api.Add, 65535, 1, 0}, {api.Add, 65535, 65535, 65534}, {api.Add, 32768, 32767, 65535},
		{api.Xor, 12, 10, 6}, {api.Xor, 65535, 1, 65534}, {api.Xor, 7, 7, 0}, {api.Xor, 0, 65535, 65535},
		{api.Lt, 1, 2, 1}, {api.Lt, 2, 1, 0}, {api.Lt, 2, 2, 0}, {api.Lt, 0, 65535, 1}, {api.Lt, 65535, 0, 0}, {api.Lt, 32767, 32768, 1},
	} {
		m := loaded(api.MayRun, op(c.kind, 2, 3), 0, op(api.Exit, 2, 0), 0)
		what := fmt.Sprintf("kind %d of %d and %d", c.kind, c.a, c.b)
		resume(t, what, stopped(m, 0, [4]int{0, 0, c.a, c.b}), 2, m, done(c.want))
	}
}

// P3.2: a word's other bits tell nothing, and kinds that there are not fault.
func TestFormOfAnInstruction(t *testing.T) {
	regs := [4]int{30, 31, 32, 33}
	for _, more := range []int{0, 4 * 16, 8 * 16, 12 * 16, 4 * 256, 128 * 256, 252 * 256, 252*256 + 12*16} {
		for i := range 16 {
			a, b := i%4, i/4
			m := loaded(api.MayRun, op(api.Add, a, b)+more, 9)
			_, after := effect(api.Add, a, b, 9, regs)
			resume(t, fmt.Sprint("Add and ", more), stopped(m, 0, regs), 1, stopped(m, 2, after), held())
		}
		for _, kind := range []int{0, 10, 11, 12, 13, 14, 15} {
			m := loaded(7, op(kind, 1, 2)+more, 9)
			resume(t, fmt.Sprint("kind ", kind, " and ", more), stopped(m, 0, regs), 1, broken(m), fault())
		}
	}
}

// P3.2: words, with all pairs of registers.
func TestLoadAndStore(t *testing.T) {
	for i := range 16 {
		a, b := i%4, i/4
		regs := [4]int{40, 40, 40, 40}
		regs[b] = 11
		m := loaded(7, op(api.Ld, a, b), 0, op(api.St, a, b), 0, 0, 0, 0, 0, 0, 0, 0, 222, 0, 0, 0, 0)
		after := regs
		after[a] = 222
		resume(t, fmt.Sprint("Ld ", a, b), stopped(m, 0, regs), 1, stopped(m, 2, after), held())
		want := but(m, func(m *api.Machine) { m.Frames[pageFrame(1)].Words[3] = regs[a] })
		resume(t, fmt.Sprint("St ", a, b), stopped(m, 2, regs), 1, stopped(want, 4, regs), held())
	}
}

// P3.2: an instruction may stand at any address, over two pages too, and may be one that was just written.
func TestWhereInstructionsStand(t *testing.T) {
	m := loaded(api.MayRun, op(api.Jz, 1, 0), 7, 0, 0, 0, 0, 0, op(api.Li, 2, 0), 321, op(api.Exit, 2, 0), 0, 0, 0, 0, 0, 0)
	enter(t, "over two pages", m, 5, 3, m, done(321))
	for _, bad := range []int{0, 1} {
		m := epc.Copy(m)
		m.Frames[pageFrame(1)].Rights = api.MayRead | api.MayWrite
		if bad == 1 {
			m.Frames[pageFrame(1)] = api.Frame{Words: eight(1)}
		}
		enter(t, "over two pages, the second must not be run", m, 5, 3, broken(m), fault())
	}
	m = loaded(7, op(api.Li, 1, 0), op(api.Exit, 0, 0), op(api.Li, 2, 0), 6, op(api.St, 1, 2), 0, 0, 0)
	want := but(m, func(m *api.Machine) { m.Frames[pageFrame(0)].Words[6] = op(api.Exit, 0, 0) })
	enter(t, "one that was just written", m, 99, 4, want, done(99))
}

// P3.2: behind the last page of an enclave nothing is run.
func TestEndOfPages(t *testing.T) {
	words := slices.Repeat([]int{op(api.Xor, 1, 1), 0}, 32)
	m := loaded(api.MayRun, words...)
	enter(t, "up to the end", m, 3, 32, stopped(m, 64, [4]int{3}), held())
	enter(t, "beyond the end", m, 3, 33, broken(m), fault())
}

// P3.2
func TestSay(t *testing.T) {
	m := loaded(api.MayRun, op(api.Say, 0, 0), 0, op(api.Li, 3, 0), 65535, op(api.Say, 3, 0), 0, op(api.Exit, 1, 0), 0)
	said := func(l ...api.Quote) api.Machine {
		return but(m, func(m *api.Machine) { m.Quotes = append(m.Quotes, l...) })
	}
	enter(t, "Say once", m, 8, 1, stopped(said(api.Quote{Log: "two", Data: 8}), 2, [4]int{8}), held())
	enter(t, "Say twice", m, 8, 4, said(api.Quote{Log: "two", Data: 8}, api.Quote{Log: "two", Data: 65535}), done(0))
	m.Enclaves[1].Log = strings.Repeat("x", 1000)
	enter(t, "Say of a long Log", m, 0, 1, stopped(said(api.Quote{Log: m.Enclaves[1].Log}), 2, [4]int{}), held())
}

// P3.2: there are at most MaxMarks quotes.
func TestSayTooMuch(t *testing.T) {
	m := loaded(api.MayRun, op(api.Say, 0, 0), 0, op(api.Jz, 1, 0), 0)
	full := but(m, func(m *api.Machine) {
		for len(m.Quotes) < 40 {
			m.Quotes = append(m.Quotes, api.Quote{Log: "two", Data: 5})
		}
	})
	enter(t, "39 quotes more", m, 5, 2*39, stopped(full, 0, [4]int{5}), held())
	enter(t, "40 quotes more", m, 5, 2*39+1, broken(full), fault())
	enter(t, "one above all", full, 5, 1, broken(full), fault())
	enter(t, "none above all", full, 5, 0, stopped(full, 0, [4]int{5}), held())
}

// P3.2: what was done ahead of a fault stays done; an enclave that is Broken has neither Pc nor registers.
func TestFaultKeepsWhatWasDone(t *testing.T) {
	m := loaded(api.MayRun, op(api.Say, 0, 0), 0, op(api.St, 0, 0), 0, op(api.Li, 2, 0), 7, 0, 0)
	want := broken(but(m, func(m *api.Machine) {
		m.Quotes = append(m.Quotes, api.Quote{Log: "two", Data: 66})
		m.Frames[0].Words[2] = 66
	}))
	enter(t, "a fault at the end", m, 66, 9, want, fault())
	resume(t, "a fault of one that was Stopped", stopped(m, 0, [4]int{66, 1, 2, 3}), 9, want, fault())
	for _, name := range []string{"Enter", "Resume"} {
		if next, o, x := calls(tried, 0, 5)[name](want); !refused(next, o, x, api.ErrState) {
			t.Errorf("%s of a Broken one: %v", name, x)
		}
	}
}

// P3.2: the example of the whole: an image is built, entered with a nonce, and says it.
func TestExampleOfTheWhole(t *testing.T) {
	words := []int{api.Say, 0, api.Exit, 0, 0, 0, 0, 0}
	m, e, _ := epc.Create(epc.New())
	for at, n := range words {
		m, _ = epc.Poke(m, 0, at, n)
	}
	m, _ = epc.Put(m, e, 0, 0, api.MayRun)
	m, _ = epc.Measure(m, e, 0)
	m, _ = epc.Start(m, e)
	log, _ := image.Expect([]api.Page{{Rights: api.MayRun, Words: words}})
	want := but(m, func(m *api.Machine) { m.Quotes = []api.Quote{{Log: log, Data: 1}} })
	next, o, x := run.Enter(m, e, 1, 10)
	expect(t, "the example", next, o, x, want, done(1))
	if log != "open;page 0 4;words 0 9 0 8 0 0 0 0 0;" {
		t.Errorf("the Log is %q", log)
	}
}

// counter adds 1 to the register 1 again and again: one step, and then two for each 1.
func counter() api.Machine {
	return loaded(api.MayRun, op(api.Li, 2, 0), 1, op(api.Add, 1, 2), 0, op(api.Jz, 3, 0), 2, 0, 0)
}

// counted is what is left of the counter after some steps.
func counted(steps int) api.Machine {
	if steps == 0 {
		return stopped(counter(), 0, [4]int{5})
	}
	return stopped(counter(), []int{4, 2}[steps%2], [4]int{5, steps / 2 % 65536, 1, 0})
}

// P3.3: each step takes a unit.
func TestFuel(t *testing.T) {
	for _, fuel := range []int{0, 1, 2, 3, 4, 5, 100, 101, 4999, 5000} {
		enter(t, fmt.Sprint("the fuel ", fuel), counter(), 5, fuel, counted(fuel), held())
		for _, more := range []int{0, 1, 2, 3, 999, 5000} {
			resume(t, fmt.Sprint("the fuel ", fuel, " and ", more), counted(fuel), more, counted(fuel+more), held())
		}
	}
}

// P3.3: fuel is asked for ahead of all else: of a fault, of an Exit.
func TestFuelIsAskedFirst(t *testing.T) {
	m := base()
	enter(t, "a fault without fuel", m, 3, 0, stopped(m, 0, [4]int{3}), held())
	resume(t, "a fault without fuel, once more", stopped(m, 0, [4]int{3}), 0, stopped(m, 0, [4]int{3}), held())
	resume(t, "a fault with fuel", stopped(m, 0, [4]int{3}), 1, broken(m), fault())
	m = loaded(api.MayRun, op(api.Li, 1, 0), 9, op(api.Exit, 1, 0), 0)
	enter(t, "an Exit without fuel", m, 3, 1, stopped(m, 2, [4]int{3, 9}), held())
	enter(t, "an Exit with the last unit", m, 3, 2, m, done(9))
	enter(t, "an Exit with fuel to spare", m, 3, 5000, m, done(9))
	m = loaded(api.MayRun, op(api.Jz, 1, 0), 65535)
	enter(t, "a jump far away", m, 3, 1, stopped(m, 65535, [4]int{3}), held())
	resume(t, "a jump far away, with fuel", stopped(m, 65535, [4]int{3}), 1, broken(m), fault())
}

// P3.3
func TestResume(t *testing.T) {
	m := loaded(api.MayRun, op(api.Exit, 0, 0), 0, op(api.Exit, 1, 0), 0, op(api.Exit, 2, 0), 0, op(api.Exit, 3, 0), 0)
	for r := range 4 {
		regs := [4]int{65535, 10, 20, 0}
		resume(t, fmt.Sprint("at ", 2*r), stopped(m, 2*r, regs), 1, m, done(regs[r]))
	}
	next, o, x := run.Resume(base(), 3, 1)
	want := but(base(), func(m *api.Machine) { m.Enclaves[2] = api.Enclave{State: api.Ready, Log: "three"} })
	expect(t, "Resume of the enclave 3", next, o, x, want, done(6))
	// What stood in a shared frame, and was changed from without, is seen.
	m = loaded(api.MayRun, op(api.Ld, 1, 0), 0, op(api.Exit, 1, 0), 0)
	cut, _, _ := run.Enter(m, tried, 64, 0)
	cut, _ = epc.Poke(cut, 0, 0, 4321)
	want, _ = epc.Poke(m, 0, 0, 4321)
	resume(t, "a word that was poked", cut, 2, want, done(4321))
}

// call of the one or the other.
type call func(api.Machine) (api.Machine, api.Outcome, api.Errno)

func calls(e, word, fuel int) map[string]call {
	return map[string]call{
		"Enter":  func(m api.Machine) (api.Machine, api.Outcome, api.Errno) { return run.Enter(m, e, word, fuel) },
		"Resume": func(m api.Machine) (api.Machine, api.Outcome, api.Errno) { return run.Resume(m, e, fuel) },
	}
}

// refused is what a call answers that refuses: the error, and nothing else.
func refused(m api.Machine, o api.Outcome, x, want api.Errno) bool {
	return x == want && o == api.Outcome{} && len(m.Frames) == 0 && len(m.Enclaves) == 0 && len(m.Quotes) == 0
}

// P3.3: what Check refuses is refused ahead of all else.
func TestWhatCheckRefuses(t *testing.T) {
	for i, c := range []struct {
		want   api.Errno
		change func(m *api.Machine)
	}{
		{api.ErrSize, func(m *api.Machine) { *m = api.Machine{} }},
		{api.ErrSize, func(m *api.Machine) { m.Frames = m.Frames[:23] }},
		{api.ErrSize, func(m *api.Machine) { m.Enclaves = append(m.Enclaves, api.Enclave{}) }},
		{api.ErrSize, func(m *api.Machine) { m.Enclaves = m.Enclaves[:1] }},
		{api.ErrSize, func(m *api.Machine) { m.Quotes = make([]api.Quote, 41) }},
		{api.ErrState, func(m *api.Machine) { m.Enclaves[0].State = 5 }},
		{api.ErrState, func(m *api.Machine) { m.Enclaves[1].Pc = -1 }},
		{api.ErrState, func(m *api.Machine) { m.Enclaves[1] = api.Enclave{State: api.Stopped, Pc: 65536} }},
		{api.ErrState, func(m *api.Machine) { m.Enclaves[1] = api.Enclave{State: api.Stopped, Regs: [4]int{3: -1}} }},
		{api.ErrState, func(m *api.Machine) { m.Frames[5].Words = nil }},
		{api.ErrState, func(m *api.Machine) { m.Frames[pageFrame(0)].Words[0] = -1 }},
		{api.ErrState, func(m *api.Machine) { m.Frames[0].Owner = 4 }},
		{api.ErrState, func(m *api.Machine) { m.Quotes[0].Data = 65536 }},
	} {
		m := but(loaded(7, op(api.Exit, 0, 0)), c.change)
		for _, n := range append([]int{0, 1, 2, 3, 4, 5}, farOut...) {
			for name, call := range calls(n, n, n) {
				if next, o, x := call(m); !refused(next, o, x, c.want) {
					t.Errorf("machine %d: %s with %d: %v, want %v", i, name, n, x, c.want)
				}
			}
		}
	}
}

// P3.3: an enclave that there is not, or that is Empty, is told ahead of fuel and word.
func TestNoSuchEnclave(t *testing.T) {
	for _, e := range append([]int{0, 4, 5, 6, 100}, farOut...) {
		for _, n := range []int{0, 1, -1, 70000} {
			for name, call := range calls(e, n, n) {
				if next, o, x := call(base()); !refused(next, o, x, api.ErrNone) {
					t.Errorf("%s of %d with %d: %v", name, e, n, x)
				}
			}
		}
	}
}

// P3.3: a state that does not fit is told ahead of fuel and word.
func TestWrongStates(t *testing.T) {
	for _, state := range []int{api.Opened, api.Ready, api.Stopped, api.Broken} {
		m := loaded(api.MayRun, op(api.Exit, 0, 0), 0)
		m.Enclaves[1].State = state
		for _, n := range append([]int{0, 1, 5001}, farOut...) {
			for name, call := range calls(tried, n, n) {
				if name == "Enter" && state == api.Ready || name == "Resume" && state == api.Stopped {
					continue
				}
				if next, o, x := call(m); !refused(next, o, x, api.ErrState) {
					t.Errorf("%s with %d of the state %d: %v", name, n, state, x)
				}
			}
		}
	}
}

// P3.3: fuel from 0 to MaxFuel, and words.
func TestWrongNumbers(t *testing.T) {
	m := loaded(api.MayRun, op(api.Exit, 0, 0), 0)
	for _, n := range farOut {
		for _, fuel := range []int{0, 1, 5000} {
			if next, o, x := run.Enter(m, tried, n, fuel); !refused(next, o, x, api.ErrRange) {
				t.Errorf("Enter with the word %d: %v", n, x)
			}
		}
	}
	for _, n := range append([]int{5001, 65535}, farOut...) {
		for _, word := range []int{0, 65535, -1} {
			if next, o, x := run.Enter(m, tried, word, n); !refused(next, o, x, api.ErrRange) {
				t.Errorf("Enter with the fuel %d: %v", n, x)
			}
		}
		if next, o, x := run.Resume(stopped(m, 0, [4]int{}), tried, n); !refused(next, o, x, api.ErrRange) {
			t.Errorf("Resume with the fuel %d: %v", n, x)
		}
	}
}

// die: numbers that look drawn, the same each time.
type die uint64

func (d *die) n(most int) int {
	*d = *d*6364136223846793005 + 1442695040888963407
	return int(uint64(*d>>33) % uint64(most))
}

// drawn is a machine whose enclave 2 has pages with drawn rights and words, most of which are instructions.
func (d *die) drawn() api.Machine {
	m := base()
	for at := range 8 {
		rights := []int{7, 7, 7, 7, 5, 6, 4, 3}[d.n(8)]
		if at == 0 {
			rights = 5 + 2*d.n(2)
		}
		var words []int
		for len(words) < 8 {
			first := 1 + d.n(9) + 16*d.n(4) + 256*d.n(4)
			if first%16 == api.Exit && d.n(4) > 0 {
				first = api.Li + 16*d.n(4)
			}
			if d.n(30) == 0 {
				first = d.n(65536)
			}
			words = append(words, first, []int{2 * d.n(32), d.n(64), 64 + d.n(192), d.n(65536)}[d.n(4)])
		}
		if at == 0 || d.n(5) > 0 {
			lay(m, at, rights, words)
		}
	}
	return m
}

// P3.3: where a run is interrupted makes no difference.
func TestPieces(t *testing.T) {
	d := die(7)
	ends := map[int]int{}
	for i := range 600 {
		m, word, fuel := d.drawn(), d.n(300), d.n(60)
		whole, wantO, x := run.Enter(m, tried, word, fuel)
		if x != api.OK || epc.Check(whole) != api.OK {
			t.Fatalf("machine %d: %v, then %v", i, x, epc.Check(whole))
		}
		ends[wantO.End]++
		piece := min(d.n(8), fuel)
		next, o, x := run.Enter(m, tried, word, piece)
		for left := fuel - piece; o.End == api.Held && left > 0; left -= piece {
			piece = min(d.n(8), left)
			next, o, x = run.Resume(next, tried, piece)
		}
		expect(t, fmt.Sprint("machine ", i, " in pieces"), next, o, x, whole, wantO)
	}
	if ends[api.Done] < 30 || ends[api.Held] < 30 || ends[api.Fault] < 30 {
		t.Errorf("the machines are too much alike: %v", ends)
	}
}

// P3.1: of other enclaves, and of what they own, nothing changes; nor does what was measured.
func TestOthersStay(t *testing.T) {
	d := die(9)
	for i := range 300 {
		m := d.drawn()
		next, _, x := run.Enter(m, tried, 64+d.n(192), 200)
		if x != api.OK {
			t.Fatalf("machine %d: %v", i, x)
		}
		for f, was := range m.Frames {
			is := next.Frames[f]
			if is.Owner != was.Owner || is.At != was.At || is.Rights != was.Rights {
				t.Errorf("machine %d: the frame %d was %v, and is %v", i, f, was, is)
			}
			mayChange := was.Owner == 0 || was.Owner == tried && was.Rights&api.MayWrite != 0
			if !mayChange && !slices.Equal(is.Words, was.Words) {
				t.Errorf("machine %d: the words of the frame %d were %v, and are %v", i, f, was.Words, is.Words)
			}
		}
		for e, was := range m.Enclaves {
			if is := next.Enclaves[e]; is.Log != was.Log || e+1 != tried && is != was {
				t.Errorf("machine %d: the enclave %d was %v, and is %v", i, e+1, was, is)
			}
		}
	}
}

// roomy is a machine with spare room behind each list, and with words that two of its frames share; its enclave says and writes.
func roomy(state int) api.Machine {
	m := loaded(7, op(api.Say, 0, 0), 0, op(api.St, 0, 0), 0, op(api.Li, 1, 0), 15, op(api.St, 0, 1), 0,
		op(api.Exit, 0, 0), 0, 0, 0, 0, 0, 0, 0)
	for f := range m.Frames {
		m.Frames[f].Words = append(make([]int, 0, 16), m.Frames[f].Words...)
	}
	m.Frames[5].Words = m.Frames[0].Words
	m.Frames[6].Words = m.Frames[pageFrame(1)].Words
	m.Frames = append(make([]api.Frame, 0, 30), m.Frames...)
	m.Enclaves = append(make([]api.Enclave, 0, 9), m.Enclaves...)
	m.Quotes = append(make([]api.Quote, 0, 9), m.Quotes...)
	m.Enclaves[1].State = state
	if state == api.Stopped {
		m.Enclaves[1].Regs[0] = 64
	}
	return m
}

// whole is a machine's text with all spare room.
func whole(m api.Machine) string {
	out := fmt.Sprint(len(m.Frames), len(m.Enclaves), len(m.Quotes), m.Enclaves[:cap(m.Enclaves)], m.Quotes[:cap(m.Quotes)])
	for _, f := range m.Frames[:cap(m.Frames)] {
		out += fmt.Sprint(f, len(f.Words), f.Words[:cap(f.Words)])
	}
	return out
}

// spoil writes over all that a machine's memory holds.
func spoil(m api.Machine) {
	for _, f := range m.Frames {
		w := f.Words[:cap(f.Words)]
		for i := range w {
			w[i] = -999
		}
	}
	clear(m.Frames[:cap(m.Frames)])
	clear(m.Enclaves[:cap(m.Enclaves)])
	clear(m.Quotes[:cap(m.Quotes)])
}

// What holds everywhere: what was handed in stays as it was, an answer is new memory, and the same is answered again.
func TestAnswersAreNewMemory(t *testing.T) {
	for name, state := range map[string]int{"Enter": api.Ready, "Resume": api.Stopped} {
		for fuel := range 7 {
			m := roomy(state)
			before := whole(m)
			answer := calls(tried, 64, fuel)[name]
			first, _, x := answer(m)
			second, _, _ := answer(m)
			kept := whole(second)
			if x != api.OK || whole(m) != before || whole(first) != kept {
				t.Fatalf("%s with the fuel %d: %v: what was handed in is %v, the answers are %v and %v", name, fuel, x, m, first, second)
			}
			spoil(first)
			if whole(m) != before || whole(second) != kept {
				t.Errorf("%s with the fuel %d: an answer shares memory with what was handed in, or with another one", name, fuel)
			}
			spoil(m)
			if whole(second) != kept {
				t.Errorf("%s with the fuel %d: the answer was changed through what was handed in", name, fuel)
			}
			apart(t, second)
		}
	}
}

// apart: no two lists of a machine share memory, spare room too.
func apart(t *testing.T, m api.Machine) {
	t.Helper()
	for f := range m.Frames {
		w := m.Frames[f].Words[:cap(m.Frames[f].Words)]
		for i := range w {
			w[i] = f
		}
	}
	for f := range m.Frames {
		if slices.ContainsFunc(m.Frames[f].Words, func(n int) bool { return n != f }) {
			t.Errorf("the frame %d shares words with another one", f)
		}
	}
}

// What holds everywhere: words that two frames of a machine share when it is handed in are each one's own.
func TestSharedListsComeApart(t *testing.T) {
	m := roomy(api.Ready)
	want := but(roomy(api.Ready), func(m *api.Machine) {
		m.Quotes = append(m.Quotes, api.Quote{Log: "two", Data: 64})
		m.Frames[0].Words[0] = 64
		m.Frames[pageFrame(1)].Words[7] = 64
	})
	enter(t, "frames that share words", m, 64, 9, want, done(64))
}
