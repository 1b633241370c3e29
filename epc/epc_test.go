package epc_test

import (
	"fmt"
	"math"
	"reflect"
	"slices"
	"strings"
	"testing"

	"riddle/api"
	"riddle/epc"
)

// Numbers that are no places, rights, frames, enclaves or words.
var farOut = []int{-1, -8, 65536, 1 << 32, -1 << 32, math.MaxInt64, math.MinInt64}

// eight words from n on.
func eight(n int) []int {
	var out []int
	for i := range 8 {
		out = append(out, n+i)
	}
	return out
}

// sample is a machine that may be, with an enclave in each state but Broken: 1 is Opened, 2 Ready, 3 Stopped, 4 Empty.
func sample() api.Machine {
	m := api.Machine{Frames: make([]api.Frame, 24), Enclaves: make([]api.Enclave, 4)}
	for f := range m.Frames {
		m.Frames[f].Words = eight(10 * f)
	}
	m.Enclaves[0] = api.Enclave{State: 1, Log: "open;page 0 5;page 7 0;"}
	m.Enclaves[1] = api.Enclave{State: 2, Log: "open;page 0 7;"}
	m.Enclaves[2] = api.Enclave{State: 3, Log: "open;page 3 4;", Pc: 26, Regs: [4]int{0, 65535, 1, 2}}
	m.Frames[3] = api.Frame{Owner: 1, At: 0, Rights: 5, Words: eight(100)}
	m.Frames[4] = api.Frame{Owner: 2, At: 0, Rights: 7, Words: eight(200)}
	m.Frames[5] = api.Frame{Owner: 1, At: 7, Rights: 0, Words: eight(300)}
	m.Frames[23] = api.Frame{Owner: 3, At: 3, Rights: 4, Words: eight(65528)}
	m.Quotes = []api.Quote{{Log: "open;page 0 7;", Data: 7}, {Data: 65535}}
	return m
}

// but is the sample with a change.
func but(change func(m *api.Machine)) api.Machine {
	m := sample()
	change(&m)
	return m
}

// enclave is the sample with another enclave of a number.
func enclave(e int, to api.Enclave) api.Machine {
	return but(func(m *api.Machine) { m.Enclaves[e-1] = to })
}

// frame is the sample with another frame.
func frame(f int, to api.Frame) api.Machine {
	return but(func(m *api.Machine) { m.Frames[f] = to })
}

// quote is the sample with a quote more.
func quote(q api.Quote) api.Machine {
	return but(func(m *api.Machine) { m.Quotes = append(m.Quotes, q) })
}

// logOf a length.
func logOf(n int) string { return strings.Repeat("x", n) }

// text of a machine: two have the same one if they hold the same (a list without elements may be nil or not).
func text(m api.Machine) string { return fmt.Sprintf("%+v", m) }

// refused is what a call answers that refuses: the error, and nothing else.
func refused(m api.Machine, e, want api.Errno) bool {
	return e == want && len(m.Frames) == 0 && len(m.Enclaves) == 0 && len(m.Quotes) == 0
}

type verdict struct {
	name string
	m    api.Machine
	want api.Errno
}

// wrongSizes are machines of which ErrSize is told.
func wrongSizes() []verdict {
	lists := func(frames, enclaves, quotes int) api.Machine {
		m := api.Machine{Frames: make([]api.Frame, frames), Enclaves: make([]api.Enclave, enclaves), Quotes: make([]api.Quote, quotes)}
		for f := range m.Frames {
			m.Frames[f].Words = make([]int, 8)
		}
		return m
	}
	return []verdict{
		{"nothing", api.Machine{}, api.ErrSize},
		{"no frames", lists(0, 4, 0), api.ErrSize},
		{"23 frames", lists(23, 4, 0), api.ErrSize},
		{"25 frames", lists(25, 4, 0), api.ErrSize},
		{"no enclaves", lists(24, 0, 0), api.ErrSize},
		{"3 enclaves", lists(24, 3, 0), api.ErrSize},
		{"5 enclaves", lists(24, 5, 0), api.ErrSize},
		{"41 quotes", lists(24, 4, 41), api.ErrSize},
		{"10000 of each", lists(10000, 10000, 10000), api.ErrSize},
		// It is named ahead of ErrState.
		{"41 quotes, one of them wrong", but(func(m *api.Machine) {
			m.Quotes = make([]api.Quote, 41)
			m.Quotes[0].Data = -1
		}), api.ErrSize},
		{"23 frames, one of them wrong", but(func(m *api.Machine) {
			m.Frames = m.Frames[:23]
			m.Frames[0].Words = nil
		}), api.ErrSize},
		{"5 enclaves, one of them wrong", but(func(m *api.Machine) {
			m.Enclaves = append(m.Enclaves, api.Enclave{State: 9})
		}), api.ErrSize},
	}
}

// wrongEnclaves are machines of which ErrState is told, for one of their enclaves.
func wrongEnclaves() []verdict {
	out := []verdict{
		{"no such state", enclave(4, api.Enclave{State: 5}), api.ErrState},
		{"an Empty one with a Log", enclave(4, api.Enclave{Log: "x"}), api.ErrState},
		{"an Empty one with a Pc", enclave(4, api.Enclave{Pc: 1}), api.ErrState},
		{"an Empty one with a register", enclave(4, api.Enclave{Regs: [4]int{0, 0, 0, 1}}), api.ErrState},
	}
	for _, n := range farOut {
		out = append(out,
			verdict{fmt.Sprint("the state ", n), enclave(1, api.Enclave{State: n}), api.ErrState},
			verdict{fmt.Sprint("a Stopped one with the Pc ", n), enclave(3, api.Enclave{State: 3, Pc: n}), api.ErrState})
		for r := range 4 {
			var regs [4]int
			regs[r] = n
			out = append(out, verdict{fmt.Sprint("a Stopped one with the registers ", regs), enclave(3, api.Enclave{State: 3, Regs: regs}), api.ErrState})
		}
	}
	for state := 1; state <= 4; state++ {
		out = append(out, verdict{fmt.Sprintf("one of the state %d with a Log too long", state), enclave(3, api.Enclave{State: state, Log: logOf(1001)}), api.ErrState})
		if state != api.Stopped {
			out = append(out,
				verdict{fmt.Sprintf("one of the state %d with a Pc", state), enclave(3, api.Enclave{State: state, Pc: 1}), api.ErrState},
				verdict{fmt.Sprintf("one of the state %d with a register", state), enclave(3, api.Enclave{State: state, Regs: [4]int{1}}), api.ErrState},
				verdict{fmt.Sprintf("one of the state %d with the last register", state), enclave(3, api.Enclave{State: state, Regs: [4]int{0, 0, 0, 1}}), api.ErrState})
		}
	}
	return out
}

// wrongFrames are machines of which ErrState is told, for one of their frames, or of their quotes.
func wrongFrames() []verdict {
	out := []verdict{
		{"a shared frame without words", frame(0, api.Frame{}), api.ErrState},
		{"a shared frame of 7 words", frame(0, api.Frame{Words: eight(0)[:7]}), api.ErrState},
		{"a shared frame of 9 words", frame(22, api.Frame{Words: make([]int, 9)}), api.ErrState},
		{"a page without words", frame(3, api.Frame{Owner: 1, Rights: 5}), api.ErrState},
		{"a page of 9 words", frame(3, api.Frame{Owner: 1, Rights: 5, Words: make([]int, 9)}), api.ErrState},
		{"a shared frame with a word too great", frame(0, api.Frame{Words: eight(65529)}), api.ErrState},
		{"a shared frame with a word below 0", frame(0, api.Frame{Words: eight(-1)}), api.ErrState},
		{"a page with a word too great", frame(3, api.Frame{Owner: 1, Rights: 5, Words: eight(65529)}), api.ErrState},
		{"the owner 5", frame(0, api.Frame{Owner: 5, Words: eight(0)}), api.ErrState},
		{"a shared frame with a place", frame(0, api.Frame{At: 1, Words: eight(0)}), api.ErrState},
		{"a shared frame with rights", frame(0, api.Frame{Rights: 1, Words: eight(0)}), api.ErrState},
		{"a page of an Empty enclave", frame(0, api.Frame{Owner: 4, Words: eight(0)}), api.ErrState},
		{"a page at 8", frame(0, api.Frame{Owner: 1, At: 8, Words: eight(0)}), api.ErrState},
		{"a page with the rights 8", frame(0, api.Frame{Owner: 1, At: 1, Rights: 8, Words: eight(0)}), api.ErrState},
		{"a page as one behind", frame(0, api.Frame{Owner: 1, At: 0, Rights: 1, Words: eight(0)}), api.ErrState},
		{"a page as one ahead", frame(22, api.Frame{Owner: 1, At: 7, Rights: 1, Words: eight(0)}), api.ErrState},
		{"a page as the last one", frame(22, api.Frame{Owner: 3, At: 3, Rights: 4, Words: eight(0)}), api.ErrState},
		{"a quote with a Log too long", quote(api.Quote{Log: logOf(1001)}), api.ErrState},
	}
	for _, n := range farOut {
		out = append(out,
			verdict{fmt.Sprint("the owner ", n), frame(0, api.Frame{Owner: n, Words: eight(0)}), api.ErrState},
			verdict{fmt.Sprint("a page at ", n), frame(0, api.Frame{Owner: 2, At: n, Words: eight(0)}), api.ErrState},
			verdict{fmt.Sprint("a page with the rights ", n), frame(0, api.Frame{Owner: 2, At: 1, Rights: n, Words: eight(0)}), api.ErrState},
			verdict{fmt.Sprint("a quote of ", n), quote(api.Quote{Data: n}), api.ErrState})
	}
	return out
}

// wrong are machines that may not be.
func wrong() []verdict {
	return slices.Concat(wrongSizes(), wrongEnclaves(), wrongFrames())
}

// P2.1
func TestNew(t *testing.T) {
	m := epc.New()
	if len(m.Frames) != 24 || len(m.Enclaves) != 4 || len(m.Quotes) != 0 {
		t.Fatalf("New: %v", m)
	}
	for _, f := range m.Frames {
		if f.Owner != 0 || f.At != 0 || f.Rights != 0 || !slices.Equal(f.Words, make([]int, 8)) {
			t.Errorf("New: a frame is %v", f)
		}
	}
	for _, e := range m.Enclaves {
		if e != (api.Enclave{}) {
			t.Errorf("New: an enclave is %v", e)
		}
	}
	if e := epc.Check(m); e != api.OK {
		t.Errorf("Check of a new machine: %v", e)
	}
}

// P2.1
func TestCheck(t *testing.T) {
	for _, c := range []verdict{
		{"the sample", sample(), api.OK},
		{"a Log of all bytes", enclave(1, api.Enclave{State: 1, Log: logOf(1000)}), api.OK},
		{"a Log of nothing", enclave(1, api.Enclave{State: 1}), api.OK},
		{"a Broken one", enclave(2, api.Enclave{State: 4, Log: "open;"}), api.OK},
		{"a Stopped one, of 0", enclave(3, api.Enclave{State: 3}), api.OK},
		{"a Stopped one, of the greatest words", enclave(3, api.Enclave{State: 3, Pc: 65535, Regs: [4]int{65535, 65535, 65535, 65535}}), api.OK},
		{"a quote of a Log of all bytes", quote(api.Quote{Log: logOf(1000)}), api.OK},
		{"40 quotes", but(func(m *api.Machine) { m.Quotes = make([]api.Quote, 40) }), api.OK},
		{"no quotes", but(func(m *api.Machine) { m.Quotes = nil }), api.OK},
		{"the owner 4", but(func(m *api.Machine) {
			m.Enclaves[3].State = 4
			m.Frames[0] = api.Frame{Owner: 4, At: 7, Rights: 7, Words: eight(0)}
		}), api.OK},
		{"all pages of an enclave", but(func(m *api.Machine) {
			for at := range 8 {
				m.Frames[8+at] = api.Frame{Owner: 2, At: at, Rights: at, Words: eight(at)}
			}
			m.Frames[4] = api.Frame{Words: eight(0)}
		}), api.OK},
	} {
		if e := epc.Check(c.m); e != c.want {
			t.Errorf("Check of %s: %v", c.name, e)
		}
	}
	for _, c := range wrong() {
		if e := epc.Check(c.m); e != c.want {
			t.Errorf("Check of %s: %v, want %v", c.name, e, c.want)
		}
	}
}

// P2.1: a machine that may not be is copied, too.
func TestCopy(t *testing.T) {
	for _, c := range append(wrong(), verdict{name: "the sample", m: sample()}, verdict{name: "a new one", m: epc.New()}) {
		if got := epc.Copy(c.m); text(got) != text(c.m) {
			t.Errorf("Copy of %s: %v", c.name, got)
		}
	}
}

// P2.2
func TestPlace(t *testing.T) {
	m := sample()
	for _, c := range []struct{ e, at, want int }{
		{1, 0, 3}, {1, 7, 5}, {2, 0, 4}, {3, 3, 23},
		{1, 1, -1}, {2, 7, -1}, {3, 0, -1}, {4, 0, -1},
		{0, 0, -1}, {5, 0, -1}, {1, 8, -1}, {1, -1, -1}, {-1, 0, -1},
		{math.MinInt64, 0, -1}, {math.MaxInt64, 0, -1}, {1, math.MinInt64, -1}, {1, math.MaxInt64, -1},
	} {
		if got := epc.Place(m, c.e, c.at); got != c.want {
			t.Errorf("Place %d %d: %d, want %d", c.e, c.at, got, c.want)
		}
		for _, none := range []api.Machine{{}, epc.New()} {
			if got := epc.Place(none, c.e, c.at); got != -1 {
				t.Errorf("Place %d %d where there is no page: %d", c.e, c.at, got)
			}
		}
	}
}

// P2.3
func TestCreate(t *testing.T) {
	m := epc.New()
	for n := 1; n <= 4; n++ {
		next, got, e := epc.Create(m)
		m.Enclaves[n-1] = api.Enclave{State: 1, Log: "open;"}
		if got != n || e != api.OK || text(next) != text(m) {
			t.Fatalf("Create of the enclave %d: %d %v, %v", n, got, e, next)
		}
		m = next
	}
	if next, n, e := epc.Create(m); n != 0 || !refused(next, e, api.ErrFull) {
		t.Errorf("Create without an Empty one: %v %d %v", next, n, e)
	}
	for gone := 1; gone <= 4; gone++ {
		less := epc.Copy(m)
		less.Enclaves[gone-1] = api.Enclave{}
		if next, n, e := epc.Create(less); n != gone || e != api.OK || text(next) != text(m) {
			t.Errorf("Create where %d is Empty: %d %v, %v", gone, n, e, next)
		}
	}
	want := enclave(4, api.Enclave{State: 1, Log: "open;"})
	if next, n, e := epc.Create(sample()); n != 4 || e != api.OK || text(next) != text(want) {
		t.Errorf("Create in the sample: %d %v, %v", n, e, next)
	}
}

// P2.3: what Check refuses, all calls refuse, ahead of all else.
func TestAllRefuseWhatCheckRefuses(t *testing.T) {
	for _, c := range wrong() {
		for _, n := range []int{0, 1, 4, 100, math.MinInt64} {
			created, number, e := epc.Create(c.m)
			if number != 0 || !refused(created, e, c.want) {
				t.Errorf("Create, %s: %d %v", c.name, number, e)
			}
			if word, e := epc.Peek(c.m, n, n); word != 0 || e != c.want {
				t.Errorf("Peek %d, %s: %d %v", n, c.name, word, e)
			}
			for name, call := range changes(n, n, n, n) {
				if next, e := call(c.m); !refused(next, e, c.want) {
					t.Errorf("%s with %d, %s: %v", name, n, c.name, e)
				}
			}
		}
	}
}

// changes are the calls that answer a machine: with an enclave, a frame, a place, and a number for the rights or the word.
func changes(e, f, at, n int) map[string]func(api.Machine) (api.Machine, api.Errno) {
	return map[string]func(api.Machine) (api.Machine, api.Errno){
		"Put":     func(m api.Machine) (api.Machine, api.Errno) { return epc.Put(m, e, f, at, n) },
		"Measure": func(m api.Machine) (api.Machine, api.Errno) { return epc.Measure(m, e, at) },
		"Start":   func(m api.Machine) (api.Machine, api.Errno) { return epc.Start(m, e) },
		"Remove":  func(m api.Machine) (api.Machine, api.Errno) { return epc.Remove(m, e) },
		"Poke":    func(m api.Machine) (api.Machine, api.Errno) { return epc.Poke(m, f, at, n) },
	}
}

// P2.3: an enclave that there is not, or that is Empty, is refused ahead of all but what Check refuses.
func TestNoSuchEnclave(t *testing.T) {
	for _, e := range append([]int{0, 4, 5, 6, 100}, farOut...) {
		for _, n := range []int{0, -1, 100} {
			for name, call := range changes(e, n, n, n) {
				if name == "Poke" {
					continue
				}
				if next, x := call(sample()); !refused(next, x, api.ErrNone) {
					t.Errorf("%s of the enclave %d, with %d: %v", name, e, n, x)
				}
			}
		}
	}
}

// P2.3: Put, Measure and Start want an Opened one, and ask that ahead of the frame and the place.
func TestNotOpened(t *testing.T) {
	for _, state := range []int{api.Ready, api.Stopped, api.Broken} {
		m := enclave(2, api.Enclave{State: state, Log: logOf(1000)})
		for _, n := range []int{0, 1, 4, -1, 100} {
			calls := changes(2, n, n, n)
			for _, name := range []string{"Put", "Measure", "Start"} {
				if next, x := calls[name](m); !refused(next, x, api.ErrState) {
					t.Errorf("%s with %d of one of the state %d: %v", name, n, state, x)
				}
			}
		}
	}
}

// P2.4
func TestPut(t *testing.T) {
	for _, c := range []struct{ f, at, rights int }{{0, 1, 0}, {2, 3, 7}, {22, 6, 4}, {6, 4, 1}} {
		want := but(func(m *api.Machine) {
			m.Enclaves[0].Log += fmt.Sprintf("page %d %d;", c.at, c.rights)
			m.Frames[c.f] = api.Frame{Owner: 1, At: c.at, Rights: c.rights, Words: eight(10 * c.f)}
		})
		if next, x := epc.Put(sample(), 1, c.f, c.at, c.rights); x != api.OK || text(next) != text(want) {
			t.Errorf("Put 1 %v: %v, %v", c, x, next)
		}
	}
	last := but(func(m *api.Machine) { m.Frames[23] = m.Frames[22] })
	if next, x := epc.Put(last, 1, 23, 1, 1); x != api.OK || next.Frames[23].Owner != 1 || epc.Place(next, 1, 1) != 23 {
		t.Errorf("Put of the last frame: %v, %v", x, next)
	}
}

// P2.3 to P2.5: the last enclave and the first frame are as good as all others.
func TestLastEnclaveFirstFrame(t *testing.T) {
	m, e, x := epc.Create(sample())
	log := "open;"
	for _, step := range []struct {
		name string
		log  string
		call func(api.Machine) (api.Machine, api.Errno)
	}{
		{"Put", "page 0 6;", changes(4, 0, 0, 6)["Put"]},
		{"Measure", "words 0 0 1 2 3 4 5 6 7;", changes(4, 0, 0, 6)["Measure"]},
		{"Start", "", changes(4, 0, 0, 6)["Start"]},
	} {
		if m, x = step.call(m); x != api.OK {
			t.Fatalf("%s of the enclave %d: %v", step.name, e, x)
		}
		if log += step.log; m.Enclaves[3].Log != log || epc.Place(m, 4, 0) != 0 {
			t.Errorf("%s of the enclave 4: %v", step.name, m)
		}
		if next, x := epc.Put(m, 4, 1, 0, 6); step.name != "Start" && !refused(next, x, api.ErrTwice) {
			t.Errorf("Put at the place of the first frame: %v", x)
		}
	}
	want := but(func(m *api.Machine) { m.Frames[0].Words = make([]int, 8) })
	if m, x = epc.Remove(m, 4); x != api.OK || text(m) != text(want) {
		t.Errorf("Remove of the enclave 4: %v, %v", x, m)
	}
}

// P2.4
func TestPutAllPages(t *testing.T) {
	m, e, _ := epc.Create(epc.New())
	for at := 7; at >= 0; at-- {
		next, x := epc.Put(m, e, 10+at, at, at)
		if x != api.OK || epc.Place(next, e, at) != 10+at || epc.Check(next) != api.OK {
			t.Fatalf("Put at %d: %v, %v", at, x, next)
		}
		m = next
	}
	want := "open;page 7 7;page 6 6;page 5 5;page 4 4;page 3 3;page 2 2;page 1 1;page 0 0;"
	if m.Enclaves[0].Log != want {
		t.Errorf("the Log is %q, want %q", m.Enclaves[0].Log, want)
	}
}

// P2.4
func TestPutRefuses(t *testing.T) {
	full := enclave(1, api.Enclave{State: 1, Log: logOf(1000)})
	for _, c := range []struct {
		m                api.Machine
		f, at, rights, n int
	}{
		{sample(), 24, 1, 1, 2}, {sample(), -1, 1, 1, 2}, {sample(), math.MaxInt64, 1, 1, 2}, {sample(), math.MinInt64, 1, 1, 2},
		{sample(), 0, 8, 1, 2}, {sample(), 0, -1, 1, 2}, {sample(), 0, 1, 8, 2}, {sample(), 0, 1, -1, 2},
		{sample(), 0, math.MaxInt64, 1, 2}, {sample(), 0, math.MinInt64, 1, 2}, {sample(), 0, 1, math.MaxInt64, 2}, {sample(), 0, 1, math.MinInt64, 2},
		{sample(), 3, 1, 1, 6}, {sample(), 4, 1, 1, 6}, {sample(), 23, 1, 1, 6},
		{sample(), 0, 0, 1, 6}, {sample(), 0, 7, 1, 6}, {sample(), 3, 0, 5, 6},
		{full, 0, 1, 1, 7},
		// The first error that is named is told.
		{full, 24, 0, 9, 2}, {full, 3, 8, 1, 2}, {full, 3, 0, 9, 2}, {full, 0, 7, 8, 2}, {full, 4, 1, 1, 6}, {full, 0, 7, 1, 6},
	} {
		if next, x := epc.Put(c.m, 1, c.f, c.at, c.rights); !refused(next, x, api.Errno(c.n)) {
			t.Errorf("Put 1 %d %d %d: %v, want %d", c.f, c.at, c.rights, x, c.n)
		}
	}
}

// P2.4
func TestMeasure(t *testing.T) {
	for _, c := range []struct {
		at   int
		want string
	}{
		{0, "words 0 100 101 102 103 104 105 106 107;"},
		{7, "words 7 300 301 302 303 304 305 306 307;"},
	} {
		want := but(func(m *api.Machine) { m.Enclaves[0].Log += c.want })
		next, x := epc.Measure(sample(), 1, c.at)
		if x != api.OK || text(next) != text(want) {
			t.Errorf("Measure 1 %d: %v, %v", c.at, x, next)
		}
		want.Enclaves[0].Log += c.want
		if next, x = epc.Measure(next, 1, c.at); x != api.OK || text(next) != text(want) {
			t.Errorf("Measure 1 %d once more: %v, %v", c.at, x, next)
		}
	}
	full := enclave(1, api.Enclave{State: 1, Log: logOf(1000)})
	for _, at := range append([]int{1, 2, 3, 6, 8, 100}, farOut...) {
		for _, m := range []api.Machine{sample(), full} {
			if next, x := epc.Measure(m, 1, at); !refused(next, x, api.ErrNone) {
				t.Errorf("Measure 1 %d: %v", at, x)
			}
		}
	}
}

// P2.4: a Log may be as long as MaxLog, and no longer.
func TestFullLog(t *testing.T) {
	put := func(m api.Machine) (api.Machine, api.Errno) { return epc.Put(m, 1, 0, 1, 1) }
	measure := func(m api.Machine) (api.Machine, api.Errno) { return epc.Measure(m, 1, 0) }
	for _, c := range []struct {
		name string
		call func(api.Machine) (api.Machine, api.Errno)
		more int
	}{
		{"Put", put, len("page 1 1;")},
		{"Measure", measure, len("words 0 100 101 102 103 104 105 106 107;")},
	} {
		next, x := c.call(enclave(1, api.Enclave{State: 1, Log: logOf(1000 - c.more)}))
		if x != api.OK || len(next.Enclaves[0].Log) != 1000 || epc.Check(next) != api.OK {
			t.Errorf("%s that fills a Log: %v, %v", c.name, x, next)
		}
		for _, less := range []int{c.more - 1, 1, 0} {
			next, x := c.call(enclave(1, api.Enclave{State: 1, Log: logOf(1000 - less)}))
			if !refused(next, x, api.ErrFull) {
				t.Errorf("%s where %d bytes are left: %v", c.name, less, x)
			}
		}
		// The room is that of one enclave, not of all.
		m := but(func(m *api.Machine) { m.Enclaves[1].Log = logOf(1000) })
		if _, x := c.call(m); x != api.OK {
			t.Errorf("%s where another Log is full: %v", c.name, x)
		}
	}
}

// P2.5
func TestStart(t *testing.T) {
	want := but(func(m *api.Machine) { m.Enclaves[0].State = 2 })
	next, x := epc.Start(sample(), 1)
	if x != api.OK || text(next) != text(want) {
		t.Errorf("Start 1: %v, %v", x, next)
	}
	if again, x := epc.Start(next, 1); !refused(again, x, api.ErrState) {
		t.Errorf("Start 1 once more: %v", x)
	}
	if more, x := epc.Put(next, 1, 0, 1, 1); !refused(more, x, api.ErrState) {
		t.Errorf("Put into one that was started: %v", x)
	}
	if more, x := epc.Measure(next, 1, 0); !refused(more, x, api.ErrState) {
		t.Errorf("Measure of one that was started: %v", x)
	}
}

// P2.5
func TestRemove(t *testing.T) {
	pages := [][]int{{3, 5}, {4}, {23}}
	for e, frames := range pages {
		for _, state := range []int{api.Opened, api.Ready, api.Stopped, api.Broken} {
			was := enclave(e+1, api.Enclave{State: state, Log: "open;"})
			if state == api.Stopped {
				was.Enclaves[e].Pc, was.Enclaves[e].Regs = 9, [4]int{1, 2, 3, 4}
			}
			want := epc.Copy(was)
			want.Enclaves[e] = api.Enclave{}
			for _, f := range frames {
				want.Frames[f] = api.Frame{Words: make([]int, 8)}
			}
			next, x := epc.Remove(was, e+1)
			if x != api.OK || text(next) != text(want) || epc.Check(next) != api.OK {
				t.Errorf("Remove %d of the state %d: %v, %v", e+1, state, x, next)
			}
			if again, x := epc.Remove(next, e+1); !refused(again, x, api.ErrNone) {
				t.Errorf("Remove %d once more: %v", e+1, x)
			}
		}
	}
}

// P2.6
func TestPeek(t *testing.T) {
	m := sample()
	for f := range 24 {
		for at := range 8 {
			want := 10*f + at
			if m.Frames[f].Owner != 0 {
				want = 65535
			}
			if got, x := epc.Peek(m, f, at); got != want || x != api.OK {
				t.Errorf("Peek %d %d: %d %v, want %d", f, at, got, x, want)
			}
		}
	}
	for _, c := range noWords() {
		if got, x := epc.Peek(m, c[0], c[1]); got != 0 || x != api.ErrRange {
			t.Errorf("Peek %v: %d %v", c, got, x)
		}
	}
}

// noWords are frames and places, of which at least one is not there; in frames that all share and in such as they do not.
func noWords() [][2]int {
	var out [][2]int
	for _, n := range append([]int{24, 25}, farOut...) {
		out = append(out, [2]int{n, 0}, [2]int{n, 7}, [2]int{n, n})
	}
	for _, n := range append([]int{8, 9}, farOut...) {
		out = append(out, [2]int{0, n}, [2]int{22, n}, [2]int{3, n}, [2]int{23, n})
	}
	return out
}

// P2.6
func TestPoke(t *testing.T) {
	for f := range 24 {
		for at := range 8 {
			for _, n := range []int{0, 7, 65535} {
				want := sample()
				if want.Frames[f].Owner == 0 {
					want.Frames[f].Words[at] = n
				}
				if next, x := epc.Poke(sample(), f, at, n); x != api.OK || text(next) != text(want) {
					t.Errorf("Poke %d %d %d: %v, %v", f, at, n, x, next)
				}
			}
		}
	}
	for _, c := range noWords() {
		if next, x := epc.Poke(sample(), c[0], c[1], 1); !refused(next, x, api.ErrRange) {
			t.Errorf("Poke %v: %v", c, x)
		}
	}
	for _, n := range farOut {
		for _, f := range []int{0, 3, 23} {
			if next, x := epc.Poke(sample(), f, 0, n); !refused(next, x, api.ErrRange) {
				t.Errorf("Poke %d 0 %d: %v", f, n, x)
			}
		}
	}
}

// P2.3 to P2.6 in a row: a frame's words go into an enclave, are seen there by nobody, and are gone when it is.
func TestInARow(t *testing.T) {
	m, e, _ := epc.Create(epc.New())
	m, _ = epc.Poke(m, 9, 2, 77)
	m, _ = epc.Put(m, e, 9, 5, api.MayRead)
	m, x := epc.Poke(m, 9, 3, 88)
	if n, y := epc.Peek(m, 9, 2); x != api.OK || y != api.OK || n != 65535 {
		t.Errorf("Peek at a frame of an enclave: %d %v %v", n, x, y)
	}
	m, _ = epc.Measure(m, e, 5)
	m, _ = epc.Start(m, e)
	want := api.Enclave{State: 2, Log: "open;page 5 1;words 5 0 0 77 0 0 0 0 0;"}
	if m.Enclaves[0] != want {
		t.Errorf("the enclave is %v, want %v", m.Enclaves[0], want)
	}
	if m, x = epc.Remove(m, e); x != api.OK || text(m) != text(epc.New()) {
		t.Errorf("Remove of the only enclave: %v, %v", x, m)
	}
}

// answers are what each call that answers a machine makes of one.
func answers(t *testing.T, m api.Machine) map[string]api.Machine {
	out := map[string]api.Machine{"New": epc.New(), "Copy": epc.Copy(m)}
	created, _, x := epc.Create(m)
	if x != api.OK {
		t.Fatalf("Create: %v", x)
	}
	out["Create"] = created
	for name, call := range changes(1, 3, 7, 1) {
		if name == "Put" {
			call = changes(1, 0, 1, 1)["Put"]
		}
		next, x := call(m)
		if x != api.OK {
			t.Fatalf("%s: %v", name, x)
		}
		out[name] = next
	}
	poked, _ := epc.Poke(m, 0, 0, 1)
	out["Poke of a shared frame"] = poked
	return out
}

// roomy is the sample with spare room behind each list, and with words that two of its frames share.
func roomy() api.Machine {
	m := sample()
	for f := range m.Frames {
		room := append(make([]int, 0, 16), m.Frames[f].Words...)
		copy(room[8:16], eight(-50))
		m.Frames[f].Words = room
	}
	m.Frames[11].Words = m.Frames[10].Words
	m.Frames[12].Words = m.Frames[3].Words
	m.Frames = append(make([]api.Frame, 0, 30), m.Frames...)
	m.Enclaves = append(make([]api.Enclave, 0, 9), m.Enclaves...)
	m.Quotes = append(make([]api.Quote, 0, 9), m.Quotes...)
	return m
}

// whole is a machine's text with all spare room.
func whole(m api.Machine) string {
	out := fmt.Sprint(len(m.Frames), len(m.Enclaves), len(m.Quotes), m.Enclaves[:cap(m.Enclaves)], m.Quotes[:cap(m.Quotes)])
	for _, f := range m.Frames[:cap(m.Frames)] {
		out += fmt.Sprint(f, len(f.Words), f.Words[:cap(f.Words)])
	}
	return out
}

// spoil writes over all that a machine's memory holds.
func spoil(m api.Machine) {
	for _, f := range m.Frames {
		w := f.Words[:cap(f.Words)]
		for i := range w {
			w[i] = -999
		}
	}
	clear(m.Frames[:cap(m.Frames)])
	clear(m.Enclaves[:cap(m.Enclaves)])
	clear(m.Quotes[:cap(m.Quotes)])
}

// What holds everywhere: nothing is changed, or shared with what was handed in or with another answer.
func TestAnswersAreNewMemory(t *testing.T) {
	m := roomy()
	before := whole(m)
	first := answers(t, m)
	if after := whole(m); after != before {
		t.Fatalf("handed in %s, then it was %s", before, after)
	}
	for _, answer := range first {
		spoil(answer)
	}
	if after := whole(m); after != before {
		t.Errorf("an answer shares memory with what was handed in: %s, was %s", after, before)
	}
	again, kept := answers(t, m), map[string]string{}
	for name, answer := range again {
		kept[name] = whole(answer)
	}
	spoil(m)
	for name := range again {
		if whole(again[name]) != kept[name] {
			t.Errorf("%s: the answer was changed through what was handed in", name)
		}
		spoil(again[name])
		delete(again, name)
		for other := range again {
			if whole(again[other]) != kept[other] {
				t.Errorf("%s and %s: the answers share memory", name, other)
			}
		}
	}
}

// What holds everywhere: no two lists of an answer share memory, spare room too.
func TestListsOfAnAnswerAreApart(t *testing.T) {
	for name, m := range answers(t, roomy()) {
		for f := range m.Frames {
			w := m.Frames[f].Words[:cap(m.Frames[f].Words)]
			for i := range w {
				w[i] = f
			}
		}
		for f := range m.Frames {
			for _, n := range m.Frames[f].Words {
				if n != f {
					t.Fatalf("%s: the frame %d shares words with another one", name, f)
				}
			}
		}
	}
}

// What holds everywhere: the same is answered again, and what is refused changes nothing either.
func TestTheSameAgain(t *testing.T) {
	m := roomy()
	before := whole(m)
	first := answers(t, m)
	for _, n := range []int{0, -1, 4, 100} {
		epc.Check(m)
		epc.Place(m, n, n)
		epc.Peek(m, n, n)
		for _, call := range changes(n, n, n, n) {
			call(m)
		}
	}
	if after := whole(m); after != before {
		t.Errorf("handed in %s, then it was %s", before, after)
	}
	if again := answers(t, m); !reflect.DeepEqual(again, first) {
		t.Errorf("answered %v, then %v", first, again)
	}
}
