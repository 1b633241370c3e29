package trust_test

import (
	"fmt"
	"math"
	"slices"
	"strings"
	"testing"

	"riddle/api"
	"riddle/epc"
	"riddle/image"
	"riddle/run"
	"riddle/trust"
)

// Numbers that are neither 0 nor 1, nor the number of a nonce.
var farOut = []int{-1, -20, 21, 65535, 1 << 32, 1<<32 + 1, -1 << 32, math.MaxInt64, math.MinInt64}

// sample is a challenger that may be: of its nonces the second one came back.
func sample() api.Challenger {
	return api.Challenger{Trusts: []string{"open;", "open;page 0 4;"}, Nonces: []int{0, 1, 0}}
}

// logOf a length.
func logOf(n int) string { return strings.Repeat("x", n) }

// nonces of a challenger that trusts "a".
func nonces(l ...int) api.Challenger {
	return api.Challenger{Trusts: []string{"a"}, Nonces: l}
}

// trusting is a challenger with one nonce, which is out.
func trusting(l ...string) api.Challenger {
	return api.Challenger{Trusts: l, Nonces: []int{0}}
}

// text of a challenger: two have the same one if they hold the same (a list without elements may be nil or not).
func text(c api.Challenger) string { return fmt.Sprintf("%q %d", c.Trusts, c.Nonces) }

// refused is what a call answers that refuses: the error, and nothing else.
func refused(c api.Challenger, x, want api.Errno) bool {
	return x == want && len(c.Trusts) == 0 && len(c.Nonces) == 0
}

type verdict struct {
	name string
	c    api.Challenger
	want api.Errno
}

// right are challengers that may be.
func right() []verdict {
	return []verdict{
		{"nothing", api.Challenger{}, api.OK},
		{"empty lists", api.Challenger{Trusts: []string{}, Nonces: []int{}}, api.OK},
		{"the sample", sample(), api.OK},
		{"4 trusts", trusting("a", "b", "c", "d"), api.OK},
		{"4 trusts that are one", trusting("a", "a", "a", "a"), api.OK},
		{"trusts without bytes", trusting("", "", "", ""), api.OK},
		{"trusts that nothing is measured as", trusting("\x00\xff", "é\n"), api.OK},
		{"trusts of 1000 bytes", trusting(logOf(1000), logOf(1000), logOf(1000), logOf(1000)), api.OK},
		{"20 nonces that are out", nonces(make([]int, 20)...), api.OK},
		{"20 nonces that came back", nonces(slices.Repeat([]int{1}, 20)...), api.OK},
	}
}

// wrong are challengers that may not be.
func wrong() []verdict {
	out := []verdict{
		{"5 trusts", trusting("a", "b", "c", "d", "e"), api.ErrSize},
		{"5 trusts without bytes", trusting(make([]string, 5)...), api.ErrSize},
		{"21 nonces", nonces(make([]int, 21)...), api.ErrSize},
		{"10000 of each", api.Challenger{Trusts: make([]string, 10000), Nonces: make([]int, 10000)}, api.ErrSize},
		// It is named ahead of ErrState.
		{"5 trusts, one too long", trusting(logOf(1001), "b", "c", "d", "e"), api.ErrSize},
		{"5 trusts and a wrong nonce", api.Challenger{Trusts: make([]string, 5), Nonces: []int{2}}, api.ErrSize},
		{"21 nonces, one wrong", nonces(append(make([]int, 20), 2)...), api.ErrSize},
		{"21 nonces and a trust too long", api.Challenger{Trusts: []string{logOf(1001)}, Nonces: make([]int, 21)}, api.ErrSize},
		{"a trust of 1001 bytes", trusting(logOf(1001)), api.ErrState},
		{"the last trust of 1001 bytes", trusting("a", "b", "c", logOf(1001)), api.ErrState},
		{"a trust of 100000 bytes", trusting(logOf(100000)), api.ErrState},
		// Its length is told in bytes, not in letters.
		{"a trust of 501 letters of 2 bytes", trusting(strings.Repeat("é", 501)), api.ErrState},
		{"a nonce of 2", nonces(2), api.ErrState},
		{"the last of 20 nonces of 2", nonces(append(make([]int, 19), 2)...), api.ErrState},
	}
	for _, n := range farOut {
		out = append(out, verdict{fmt.Sprint("a nonce of ", n), nonces(0, n, 1), api.ErrState})
	}
	return out
}

// P4.1
func TestCheck(t *testing.T) {
	for _, v := range append(right(), wrong()...) {
		if x := trust.Check(v.c); x != v.want {
			t.Errorf("Check of %s: %v, want %v", v.name, x, v.want)
		}
	}
}

// P4.1: of one that may not be, too.
func TestCopy(t *testing.T) {
	for _, v := range append(right(), wrong()...) {
		if c := trust.Copy(v.c); text(c) != text(v.c) {
			t.Errorf("Copy of %s: %v", v.name, c)
		}
	}
}

// P4.2
func TestAsk(t *testing.T) {
	for _, v := range right() {
		if len(v.c.Nonces) == 20 {
			continue
		}
		want := api.Challenger{Trusts: v.c.Trusts, Nonces: append(slices.Clone(v.c.Nonces), 0)}
		if c, n, x := trust.Ask(v.c); x != api.OK || n != len(want.Nonces) || text(c) != text(want) {
			t.Errorf("Ask of %s: %v %d %v", v.name, c, n, x)
		}
	}
}

// P4.2
func TestAskTillFull(t *testing.T) {
	c := sample()
	for n := 4; n <= 20; n++ {
		next, got, x := trust.Ask(c)
		if x != api.OK || got != n {
			t.Fatalf("Ask for the nonce %d: %d %v", n, got, x)
		}
		c = next
	}
	want := sample()
	want.Nonces = append(want.Nonces, make([]int, 17)...)
	if text(c) != text(want) {
		t.Errorf("asked till full: %v", c)
	}
	for _, l := range [][]int{c.Nonces, make([]int, 20), slices.Repeat([]int{1}, 20)} {
		if next, n, x := trust.Ask(nonces(l...)); n != 0 || !refused(next, x, api.ErrFull) {
			t.Errorf("Ask with 20 nonces: %v %d %v", next, n, x)
		}
	}
}

// P4.2: what Check refuses is named ahead of ErrFull.
func TestAskRefuses(t *testing.T) {
	full := verdict{"20 nonces, one wrong", nonces(append(make([]int, 19), -1)...), api.ErrState}
	long := verdict{"20 nonces, a trust too long", api.Challenger{Trusts: []string{logOf(1001)}, Nonces: make([]int, 20)}, api.ErrState}
	for _, v := range append(wrong(), full, long) {
		if c, n, x := trust.Ask(v.c); n != 0 || !refused(c, x, v.want) {
			t.Errorf("Ask of %s: %v %d %v, want %v", v.name, c, n, x, v.want)
		}
	}
}

// take a quote that was made, and see that nothing but its nonce is another one.
func take(t *testing.T, c api.Challenger, made []api.Quote, q api.Quote) {
	t.Helper()
	want := api.Challenger{Trusts: c.Trusts, Nonces: slices.Clone(c.Nonces)}
	want.Nonces[q.Data-1] = 1
	if got, x := trust.Look(c, made, q); x != api.OK || text(got) != text(want) {
		t.Errorf("Look of %v, made %v, at %v: %v %v", c, made, q, got, x)
	}
}

// P4.3
func TestLook(t *testing.T) {
	for _, log := range sample().Trusts {
		for _, data := range []int{1, 3} {
			q := api.Quote{Log: log, Data: data}
			other := api.Quote{Log: "other", Data: 9}
			take(t, sample(), []api.Quote{q}, q)
			take(t, sample(), []api.Quote{q, other}, q)
			take(t, sample(), []api.Quote{other, q}, q)
			take(t, sample(), []api.Quote{other, q, q, other}, q)
		}
	}
	for data := 1; data <= 20; data++ {
		q := api.Quote{Log: "a", Data: data}
		take(t, nonces(make([]int, 20)...), []api.Quote{q}, q)
	}
	for _, log := range []string{"a", "b", "c", "d"} {
		q := api.Quote{Log: log, Data: 1}
		take(t, trusting("a", "b", "c", "d"), []api.Quote{q}, q)
	}
}

// P4.3: texts that look odd are compared as all others are; and the number of quotes made is not limited.
func TestLookAtOddTexts(t *testing.T) {
	for _, log := range []string{"", "\x00", "\xff\xfe", "é", logOf(1000)} {
		q := api.Quote{Log: log, Data: 1}
		take(t, trusting(log), []api.Quote{q}, q)
		take(t, trusting("z", log), append(make([]api.Quote, 1000), q), q)
	}
}

type look struct {
	name string
	c    api.Challenger
	made []api.Quote
	q    api.Quote
	want api.Errno
}

// refuse what is looked at, with the error that is wanted.
func refuse(t *testing.T, l []look) {
	t.Helper()
	for _, k := range l {
		if c, x := trust.Look(k.c, k.made, k.q); !refused(c, x, k.want) {
			t.Errorf("%s: Look of %v, made %v, at %v: %v %v, want %v", k.name, k.c, k.made, k.q, c, x, k.want)
		}
	}
}

// P4.3: what Check refuses is named ahead of all else.
func TestLookRefusesWhatCheckRefuses(t *testing.T) {
	q := api.Quote{Log: "a", Data: 1}
	var l []look
	for _, v := range wrong() {
		l = append(l,
			look{v.name, v.c, []api.Quote{q}, q, v.want},
			look{v.name + ", not made", v.c, nil, q, v.want},
			look{v.name + ", no such nonce", v.c, []api.Quote{{Log: "a"}}, api.Quote{Log: "a"}, v.want})
	}
	refuse(t, append(l,
		look{"it came back", nonces(1, 2), []api.Quote{q}, q, api.ErrState},
		look{"not trusted", api.Challenger{Trusts: []string{logOf(1001)}, Nonces: []int{0}}, []api.Quote{q}, q, api.ErrState}))
}

// P4.3
func TestLookAtNoneThatWasMade(t *testing.T) {
	c, q := nonces(0, 0, 1), api.Quote{Log: "a", Data: 1}
	refuse(t, []look{
		{"nothing at all", api.Challenger{}, nil, api.Quote{}, api.ErrForm},
		{"none was made", c, nil, q, api.ErrForm},
		{"none was made", c, []api.Quote{}, q, api.ErrForm},
		{"other Data", c, []api.Quote{{Log: "a", Data: 2}}, q, api.ErrForm},
		{"another Log", c, []api.Quote{{Log: "b", Data: 1}}, q, api.ErrForm},
		{"a shorter Log", c, []api.Quote{{Log: "", Data: 1}}, q, api.ErrForm},
		{"a longer Log", c, []api.Quote{{Log: "aa", Data: 1}}, q, api.ErrForm},
		{"a Log with a capital", c, []api.Quote{{Log: "A", Data: 1}}, q, api.ErrForm},
		{"each half is there", c, []api.Quote{{Log: "a", Data: 2}, {Log: "b", Data: 1}}, q, api.ErrForm},
		// It is named ahead of all others that Look has of its own.
		{"and no such nonce", c, nil, api.Quote{Log: "a", Data: 4}, api.ErrForm},
		{"and it came back", c, nil, api.Quote{Log: "a", Data: 3}, api.ErrForm},
		{"and it is not trusted", c, nil, api.Quote{Log: "b", Data: 1}, api.ErrForm},
	})
	// What lies in the spare room was not made.
	room := []api.Quote{{Log: "b", Data: 1}, q}
	refuse(t, []look{{"made in spare room", c, room[:1], q, api.ErrForm}})
}

// P4.3
func TestLookAtNoSuchNonce(t *testing.T) {
	for _, n := range append([]int{0, 4}, farOut...) {
		// Of one that is not trusted, too: it is named ahead of that.
		for _, log := range []string{"a", "b"} {
			q := api.Quote{Log: log, Data: n}
			refuse(t, []look{
				{"no such nonce", nonces(0, 1, 0), []api.Quote{q}, q, api.ErrNone},
				{"no such nonce of 3, all back", nonces(1, 1, 1), []api.Quote{q}, q, api.ErrNone},
				{"no nonces", nonces(), []api.Quote{q}, q, api.ErrNone},
			})
		}
	}
	q := api.Quote{Log: "a", Data: 21}
	refuse(t, []look{{"no such nonce of 20", nonces(make([]int, 20)...), []api.Quote{q}, q, api.ErrNone}})
	// What lies in the spare room is no nonce.
	q.Data = 2
	refuse(t, []look{{"a nonce in spare room", nonces(make([]int, 1, 9)...), []api.Quote{q}, q, api.ErrNone}})
}

// P4.3
func TestLookTwice(t *testing.T) {
	q := api.Quote{Log: "a", Data: 2}
	made := []api.Quote{q, {Log: "b", Data: 2}, q}
	c, x := trust.Look(nonces(0, 0, 0), made, q)
	if x != api.OK {
		t.Fatalf("Look: %v", x)
	}
	refuse(t, []look{
		{"it was taken", c, made, q, api.ErrTwice},
		{"it came back", nonces(0, 1, 0), made, q, api.ErrTwice},
		// It is named ahead of ErrTrust.
		{"it came back, and is not trusted", c, made, made[1], api.ErrTwice},
	})
}

// P4.3
func TestLookAtOneNotTrusted(t *testing.T) {
	var l []look
	for _, log := range []string{"", "b", "aa", "A", "a ", " a", "a\x00", logOf(1001)} {
		q := api.Quote{Log: log, Data: 1}
		l = append(l,
			look{"not trusted", trusting("a"), []api.Quote{q}, q, api.ErrTrust},
			look{"nothing is trusted", trusting(), []api.Quote{q}, q, api.ErrTrust})
	}
	q := api.Quote{Log: "a", Data: 1}
	refuse(t, append(l,
		look{"what begins as it is trusted", trusting("ab", "abc"), []api.Quote{q}, q, api.ErrTrust},
		look{"an empty text is trusted", trusting(""), []api.Quote{q}, q, api.ErrTrust},
		// Others that were made are no matter: the one that is looked at must be trusted.
		look{"another one is trusted", trusting("b"), []api.Quote{q, {Log: "b", Data: 1}}, q, api.ErrTrust},
		look{"trusted in spare room", trusting([]string{"b", "a"}[:1]...), []api.Quote{q}, q, api.ErrTrust}))
}

// P4.2 and P4.3 in a row: a nonce is taken once, and what was refused leaves it out.
func TestInARow(t *testing.T) {
	c := api.Challenger{Trusts: []string{"a", "b"}}
	c, first, _ := trust.Ask(c)
	c, second, _ := trust.Ask(c)
	made := []api.Quote{{Log: "x", Data: first}, {Log: "a", Data: first}, {Log: "b", Data: second}, {Log: "a", Data: 3}}
	for i, want := range []api.Errno{api.ErrTrust, api.OK, api.OK, api.ErrNone} {
		next, x := trust.Look(c, made, made[i])
		if x != want {
			t.Errorf("Look at the quote %d: %v, want %v", i, x, want)
		}
		if x == api.OK {
			c = next
		}
	}
	c, third, _ := trust.Ask(c)
	if third != 3 || text(c) != text(api.Challenger{Trusts: []string{"a", "b"}, Nonces: []int{1, 1, 0}}) {
		t.Errorf("in the end: %v, the third nonce is %d", c, third)
	}
	take(t, c, made, made[3])
}

// The document's example of the whole: what is said of an image that is expected is taken, once.
func TestExampleOfTheWhole(t *testing.T) {
	words := []int{api.Say, 0, api.Exit, 0, 0, 0, 0, 0}
	log, _ := image.Expect([]api.Page{{At: 0, Rights: api.MayRun, Words: words}})
	m, e, _ := epc.Create(epc.New())
	for at, n := range words {
		m, _ = epc.Poke(m, 0, at, n)
	}
	m, _ = epc.Put(m, e, 0, 0, api.MayRun)
	m, _ = epc.Measure(m, e, 0)
	m, _ = epc.Start(m, e)
	c, nonce, _ := trust.Ask(api.Challenger{Trusts: []string{log}})
	m, _, x := run.Enter(m, e, nonce, 2)
	if x != api.OK || len(m.Quotes) != 1 {
		t.Fatalf("Enter: %v, quotes %v", x, m.Quotes)
	}
	take(t, c, m.Quotes, m.Quotes[0])
	c, _ = trust.Look(c, m.Quotes, m.Quotes[0])
	refuse(t, []look{{"taken", c, m.Quotes, m.Quotes[0], api.ErrTwice}})
}

// roomy is the sample with spare room behind each list.
func roomy() api.Challenger {
	c := sample()
	trusts, numbers := []string{"", "", "p", "q", "r"}, []int{0, 0, 0, 7, 8, 9}
	copy(trusts, c.Trusts)
	copy(numbers, c.Nonces)
	return api.Challenger{Trusts: trusts[:2], Nonces: numbers[:3]}
}

// quotes with spare room behind them.
func quotes() []api.Quote {
	return []api.Quote{{Log: "open;", Data: 3}, {Log: "x", Data: 4}, {Log: "y", Data: 5}}[:1]
}

// whole is a challenger's text with all spare room.
func whole(c api.Challenger) string {
	return fmt.Sprint(len(c.Trusts), len(c.Nonces)) + fmt.Sprintf("%q %d", c.Trusts[:cap(c.Trusts)], c.Nonces[:cap(c.Nonces)])
}

// spoil writes over all that a challenger's memory holds.
func spoil(c api.Challenger) {
	for i := range c.Trusts[:cap(c.Trusts)] {
		c.Trusts[:cap(c.Trusts)][i] = "spoilt"
	}
	for i := range c.Nonces[:cap(c.Nonces)] {
		c.Nonces[:cap(c.Nonces)][i] = -999
	}
}

// answers are what each call that answers a challenger makes of one.
func answers(t *testing.T, c api.Challenger, made []api.Quote) []api.Challenger {
	t.Helper()
	asked, _, x := trust.Ask(c)
	looked, y := trust.Look(c, made, made[0])
	if x != api.OK || y != api.OK {
		t.Fatalf("Ask: %v, Look: %v", x, y)
	}
	return []api.Challenger{trust.Copy(c), asked, looked}
}

// texts of challengers, with all spare room.
func texts(l []api.Challenger) []string {
	var out []string
	for _, c := range l {
		out = append(out, whole(c))
	}
	return out
}

// What holds everywhere: nothing is changed, or shared with what was handed in or with another answer.
func TestAnswersAreNewMemory(t *testing.T) {
	c, made := roomy(), quotes()
	same := func(when string) {
		t.Helper()
		if whole(c) != whole(roomy()) || !slices.Equal(made[:3], quotes()[:3]) {
			t.Errorf("%s what was handed in is %s, %v", when, whole(c), made[:3])
		}
	}
	first := answers(t, c, made)
	same("after the calls")
	for _, answer := range first {
		spoil(answer)
	}
	same("when the answers were written over")
	again := answers(t, c, made)
	kept := texts(again)
	spoil(c)
	clear(made[:3])
	for i, answer := range again {
		if now := texts(again); !slices.Equal(now[i:], kept[i:]) {
			t.Errorf("the answers ahead of %d were written over: the others are %q, were %q", i, now[i:], kept[i:])
		}
		spoil(answer)
	}
}

// What holds everywhere: lists without elements come out apart from what was handed in, spare room too.
func TestEmptyListsAreNewMemory(t *testing.T) {
	trusts, numbers := []string{"kept"}, []int{5}
	c := api.Challenger{Trusts: trusts[:0], Nonces: numbers[:0]}
	asked, n, x := trust.Ask(c)
	if n != 1 || x != api.OK {
		t.Errorf("Ask: %d %v", n, x)
	}
	for _, answer := range []api.Challenger{trust.Copy(c), asked} {
		spoil(answer)
	}
	if trusts[0] != "kept" || numbers[0] != 5 {
		t.Errorf("the spare room that was handed in is %q %d", trusts, numbers)
	}
}

// What holds everywhere: what is refused changes nothing, and the same is answered again.
func TestTheSameAgain(t *testing.T) {
	c, made := roomy(), quotes()
	first := texts(answers(t, c, made))
	for _, n := range append([]int{0, 1, 2, 3, 4}, farOut...) {
		q := api.Quote{Log: "other", Data: n}
		trust.Check(c)
		trust.Look(c, made, q)
		trust.Look(c, []api.Quote{q}, q)
		trust.Ask(api.Challenger{Trusts: c.Trusts, Nonces: []int{n}})
	}
	if whole(c) != whole(roomy()) || !slices.Equal(made[:3], quotes()[:3]) {
		t.Errorf("what was handed in is %s, %v", whole(c), made[:3])
	}
	if again := texts(answers(t, c, made)); !slices.Equal(again, first) {
		t.Errorf("answered %q, then %q", first, again)
	}
}
