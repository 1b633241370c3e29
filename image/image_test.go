package image_test

import (
	"fmt"
	"math"
	"slices"
	"strings"
	"testing"

	"riddle/api"
	"riddle/image"
)

// eight words that may be a page's, from n on.
func eight(n int) []int {
	var out []int
	for i := range 8 {
		out = append(out, n+i)
	}
	return out
}

// with is what eight(1) is but for one word.
func with(at, n int) []int {
	out := eight(1)
	out[at] = n
	return out
}

// full is an image of all pages that there may be.
func full() []api.Page {
	var out []api.Page
	for at := range 8 {
		out = append(out, api.Page{At: at, Rights: at, Words: eight(10 * at)})
	}
	return out
}

// same: do two images hold the same? (A list without elements may be nil or not.)
func same(a, b []api.Page) bool {
	return slices.EqualFunc(a, b, func(p, q api.Page) bool {
		return p.At == q.At && p.Rights == q.Rights && slices.Equal(p.Words, q.Words)
	})
}

// Numbers that are neither places, rights, enclaves nor words.
var farOut = []int{-1, -8, 65536, 1 << 32, -1 << 32, math.MaxInt64, math.MinInt64}

// P1.1
func TestWords(t *testing.T) {
	for _, c := range []struct {
		l    []int
		want bool
	}{
		{eight(1), true},
		{make([]int, 8), true},
		{eight(65528), true},
		{with(0, 0), true},
		{with(7, 65535), true},
		{nil, false},
		{[]int{}, false},
		{eight(1)[:7], false},
		{append(eight(1), 9), false},
		{make([]int, 16), false},
		{make([]int, 100000), false},
	} {
		if got := image.Words(c.l); got != c.want {
			t.Errorf("Words of %d words, %v: %v", len(c.l), c.l[:min(len(c.l), 16)], got)
		}
	}
	for at := range 8 {
		for _, n := range farOut {
			if image.Words(with(at, n)) {
				t.Errorf("Words with %d at %d: true", n, at)
			}
		}
	}
}

// P1.2
func TestCheckPage(t *testing.T) {
	for at := range 8 {
		for rights := range 8 {
			if e := image.CheckPage(api.Page{At: at, Rights: rights, Words: eight(1)}); e != api.OK {
				t.Errorf("CheckPage at %d with the rights %d: %v", at, rights, e)
			}
		}
	}
	for _, n := range append([]int{8, 9, 16}, farOut...) {
		if e := image.CheckPage(api.Page{At: n, Words: eight(1)}); e != api.ErrRange {
			t.Errorf("CheckPage at %d: %v", n, e)
		}
		if e := image.CheckPage(api.Page{Rights: n, Words: eight(1)}); e != api.ErrRange {
			t.Errorf("CheckPage with the rights %d: %v", n, e)
		}
		// The first error that is named is told.
		if e := image.CheckPage(api.Page{At: n}); e != api.ErrRange {
			t.Errorf("CheckPage at %d without words: %v", n, e)
		}
		if e := image.CheckPage(api.Page{Rights: n}); e != api.ErrRange {
			t.Errorf("CheckPage with the rights %d, without words: %v", n, e)
		}
	}
	for _, l := range [][]int{nil, {}, eight(1)[:7], append(eight(1), 9), with(0, -1), with(7, 65536)} {
		if e := image.CheckPage(api.Page{At: 7, Rights: 7, Words: l}); e != api.ErrForm {
			t.Errorf("CheckPage with the words %v: %v", l, e)
		}
	}
}

// refusals are images, and what Check, and those that stand on it, say of them.
func refusals() []struct {
	l    []api.Page
	want api.Errno
} {
	fine := func(at int) api.Page { return api.Page{At: at, Rights: 5, Words: eight(1)} }
	bare := func(at int) api.Page { return api.Page{At: at, Rights: 5} }
	odd := func(at int) api.Page { return api.Page{At: at, Rights: 8, Words: eight(1)} }
	return []struct {
		l    []api.Page
		want api.Errno
	}{
		{[]api.Page{fine(8)}, api.ErrRange},
		{[]api.Page{fine(-1)}, api.ErrRange},
		{[]api.Page{odd(0)}, api.ErrRange},
		{[]api.Page{bare(0)}, api.ErrForm},
		{[]api.Page{fine(0), fine(1), bare(2)}, api.ErrForm},
		{[]api.Page{fine(0), fine(0)}, api.ErrOrder},
		{[]api.Page{fine(1), fine(0)}, api.ErrOrder},
		{[]api.Page{fine(0), fine(7), fine(3)}, api.ErrOrder},
		{[]api.Page{fine(0), fine(7), fine(7)}, api.ErrOrder},
		{append(full(), fine(0)), api.ErrOrder},
		{append(full(), fine(8)), api.ErrRange},
		// Of one page what CheckPage refuses is named first.
		{[]api.Page{fine(3), bare(3)}, api.ErrForm},
		{[]api.Page{fine(3), odd(2)}, api.ErrRange},
		{[]api.Page{fine(3), fine(-1)}, api.ErrRange},
		// They are asked one by one.
		{[]api.Page{bare(0), fine(8)}, api.ErrForm},
		{[]api.Page{odd(0), bare(1)}, api.ErrRange},
		{[]api.Page{fine(3), fine(3), bare(4)}, api.ErrOrder},
		{[]api.Page{fine(3), fine(2), odd(4)}, api.ErrOrder},
	}
}

// P1.2
func TestCheck(t *testing.T) {
	for _, l := range [][]api.Page{nil, {}, full(), full()[3:4], {full()[0], full()[7]}, {full()[1], full()[2], full()[6]}} {
		if e := image.Check(l); e != api.OK {
			t.Errorf("Check of %v: %v", l, e)
		}
	}
	for _, c := range refusals() {
		if e := image.Check(c.l); e != c.want {
			t.Errorf("Check of %v: %v, want %v", c.l, e, c.want)
		}
	}
}

// P1.2: an image that may not be is copied, too.
func TestCopy(t *testing.T) {
	images := [][]api.Page{nil, {}, full(), {{At: -5, Rights: 99}, {At: math.MinInt64, Words: []int{-1, 70000, 3}}, {Words: []int{}}}}
	for _, c := range refusals() {
		images = append(images, c.l)
	}
	for _, l := range images {
		if got := image.Copy(l); !same(got, l) {
			t.Errorf("Copy of %v: %v", l, got)
		}
	}
}

// P1.2: what is written into a copy, its spare room too, is seen nowhere else.
func TestCopyIsNewMemory(t *testing.T) {
	shared := append(make([]int, 0, 20), eight(1)...)
	l := append(make([]api.Page, 0, 9), full()...)
	l[2].Words, l[3].Words = shared, shared[:4]
	before := fmt.Sprint(l[:cap(l)], shared[:cap(shared)])
	got := image.Copy(l)
	other := image.Copy(l)
	for i := range got {
		w := got[i].Words[:cap(got[i].Words)]
		for j := range w {
			w[j] = -100 - i
		}
	}
	for i := range got {
		for _, n := range got[i].Words {
			if n != -100-i {
				t.Fatalf("page %d of a copy shares words with another one", i)
			}
		}
	}
	got = got[:cap(got)]
	clear(got)
	if after := fmt.Sprint(l[:cap(l)], shared[:cap(shared)]); after != before {
		t.Errorf("the image was changed through its copy: %s, was %s", after, before)
	}
	if !same(other, l) {
		t.Errorf("a copy was changed through another one: %v", other)
	}
}

// P1.3
func TestOpened(t *testing.T) {
	if got := image.Opened(); got != "open;" {
		t.Errorf("Opened: %q", got)
	}
}

// P1.3
func TestAdded(t *testing.T) {
	for at := range 8 {
		for rights := range 8 {
			want := fmt.Sprintf("page %d %d;", at, rights)
			if got, e := image.Added(at, rights); got != want || e != api.OK {
				t.Errorf("Added %d %d: %q %v", at, rights, got, e)
			}
		}
	}
	for _, n := range append([]int{8, 9}, farOut...) {
		for _, c := range [][2]int{{n, 5}, {0, n}, {n, n}} {
			if got, e := image.Added(c[0], c[1]); got != "" || e != api.ErrRange {
				t.Errorf("Added %v: %q %v", c, got, e)
			}
		}
	}
}

// P1.3
func TestHeld(t *testing.T) {
	for _, c := range []struct {
		at    int
		words []int
		text  string
		e     api.Errno
	}{
		{0, eight(1), "words 0 1 2 3 4 5 6 7 8;", api.OK},
		{7, make([]int, 8), "words 7 0 0 0 0 0 0 0 0;", api.OK},
		{3, []int{65535, 0, 10000, 99, 100, 65534, 7, 65535}, "words 3 65535 0 10000 99 100 65534 7 65535;", api.OK},
		{8, eight(1), "", api.ErrRange},
		{-1, eight(1), "", api.ErrRange},
		{math.MaxInt64, eight(1), "", api.ErrRange},
		{math.MinInt64, eight(1), "", api.ErrRange},
		{8, nil, "", api.ErrRange},
		{0, nil, "", api.ErrForm},
		{0, eight(1)[:7], "", api.ErrForm},
		{7, append(eight(1), 9), "", api.ErrForm},
		{7, with(0, -1), "", api.ErrForm},
		{7, with(7, 65536), "", api.ErrForm},
	} {
		if got, e := image.Held(c.at, c.words); got != c.text || e != c.e {
			t.Errorf("Held %d %v: %q %v", c.at, c.words, got, e)
		}
	}
}

// P1.4
func TestExpect(t *testing.T) {
	say := []int{api.Say, 0, api.Exit, 0, 0, 0, 0, 0}
	for _, c := range []struct {
		l    []api.Page
		want string
	}{
		{nil, "open;"},
		{[]api.Page{}, "open;"},
		{[]api.Page{{Rights: api.MayRun, Words: say}}, "open;page 0 4;words 0 9 0 8 0 0 0 0 0;"},
		{
			[]api.Page{{At: 2, Rights: 5, Words: eight(1)}, {At: 7, Rights: 0, Words: eight(65528)}},
			"open;page 2 5;words 2 1 2 3 4 5 6 7 8;page 7 0;words 7 65528 65529 65530 65531 65532 65533 65534 65535;",
		},
	} {
		if got, e := image.Expect(c.l); got != c.want || e != api.OK {
			t.Errorf("Expect of %v: %q %v", c.l, got, e)
		}
	}
	got, e := image.Expect(full())
	if e != api.OK || strings.Count(got, "page ") != 8 || strings.Count(got, "words ") != 8 {
		t.Errorf("Expect of all pages: %q %v", got, e)
	}
	for _, c := range refusals() {
		if got, e := image.Expect(c.l); got != "" || e != c.want {
			t.Errorf("Expect of %v: %q %v, want %v", c.l, got, e, c.want)
		}
	}
}

// P1.5
func TestPlan(t *testing.T) {
	l := []api.Page{{At: 2, Rights: 5, Words: eight(1)}, {At: 7, Rights: 0, Words: eight(65528)}}
	var want []api.Act
	for at := range 8 {
		want = append(want, api.Act{Kind: 7, F: 10, At: at, N: 1 + at})
	}
	for at := range 8 {
		want = append(want, api.Act{Kind: 7, F: 11, At: at, N: 65528 + at})
	}
	want = append(want,
		api.Act{Kind: 1},
		api.Act{Kind: 2, E: 3, F: 10, At: 2, Rights: 5},
		api.Act{Kind: 3, E: 3, At: 2},
		api.Act{Kind: 2, E: 3, F: 11, At: 7},
		api.Act{Kind: 3, E: 3, At: 7},
		api.Act{Kind: 4, E: 3})
	if got, e := image.Plan(l, 3, 10); !slices.Equal(got, want) || e != api.OK {
		t.Errorf("Plan: %v %v, want %v", got, e, want)
	}
	for _, none := range [][]api.Page{nil, {}} {
		got, e := image.Plan(none, 2, 0)
		if !slices.Equal(got, []api.Act{{Kind: 1}, {Kind: 4, E: 2}}) || e != api.OK {
			t.Errorf("Plan of no pages: %v %v", got, e)
		}
	}
}

// P1.5
func TestPlanBounds(t *testing.T) {
	for _, c := range []struct {
		pages, enclave, frame int
		want                  api.Errno
	}{
		{1, 1, 0, api.OK},
		{1, 4, 23, api.OK},
		{1, 1, 24, api.ErrRange},
		{2, 1, 22, api.OK},
		{2, 1, 23, api.ErrRange},
		{8, 1, 16, api.OK},
		{8, 1, 17, api.ErrRange},
		{8, 1, -1, api.ErrRange},
		{1, 1, -1, api.ErrRange},
		{1, 1, math.MaxInt64, api.ErrRange},
		{8, 1, math.MaxInt64 - 3, api.ErrRange},
		{8, 1, math.MinInt64, api.ErrRange},
		{0, 1, 24, api.OK},
		{0, 1, 25, api.ErrRange},
		{0, 1, -1, api.ErrRange},
		{1, 0, 0, api.ErrRange},
		{1, 5, 0, api.ErrRange},
		{1, -1, 0, api.ErrRange},
		{1, math.MaxInt64, 0, api.ErrRange},
		{1, math.MinInt64, 0, api.ErrRange},
		{0, 0, 0, api.ErrRange},
	} {
		got, e := image.Plan(full()[:c.pages], c.enclave, c.frame)
		if e != c.want {
			t.Errorf("Plan of %d pages, %d, %d: %v, want %v", c.pages, c.enclave, c.frame, e, c.want)
		}
		if want := 2 + 10*c.pages; e == api.OK && len(got) != want || e != api.OK && len(got) != 0 {
			t.Errorf("Plan of %d pages, %d, %d: %d acts", c.pages, c.enclave, c.frame, len(got))
		}
	}
}

// P1.5: what Check refuses is named ahead of an enclave and frames that there are not.
func TestPlanRefuses(t *testing.T) {
	for _, c := range refusals() {
		for _, n := range []int{1, 0, 100} {
			if got, e := image.Plan(c.l, n, n); len(got) != 0 || e != c.want {
				t.Errorf("Plan of %v, %d, %d: %v %v, want %v", c.l, n, n, got, e, c.want)
			}
		}
	}
}

// What holds everywhere: what is handed in stays as it was, spare room too, and the same is answered again.
func TestNothingIsChangedOrKept(t *testing.T) {
	l := append(make([]api.Page, 0, 12), full()...)
	for i := range l {
		room := append(make([]int, 0, 16), l[i].Words...)
		copy(room[8:16], eight(-50))
		l[i].Words = room
	}
	look := func() string {
		var out []string
		for _, p := range l[:cap(l)] {
			out = append(out, fmt.Sprint(p.At, p.Rights, len(p.Words), p.Words[:cap(p.Words)]))
		}
		return strings.Join(out, "\n")
	}
	call := func() string {
		held, e := image.Held(1, l[1].Words)
		log, f := image.Expect(l)
		acts, g := image.Plan(l, 1, 0)
		out := fmt.Sprint(image.Words(l[0].Words), image.CheckPage(l[1]), image.Check(l), image.Copy(l), held, e, log, f, acts, g)
		clear(acts[:cap(acts)])
		return out
	}
	before, first := look(), call()
	if again := call(); again != first {
		t.Errorf("answered %s, then %s", first, again)
	}
	if after := look(); after != before {
		t.Errorf("handed in %s, then it was %s", before, after)
	}
}
