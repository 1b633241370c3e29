// Package image: pages, and how they are measured.
package image

import (
	"slices"
	"strconv"
	"strings"

	"riddle/api"
)

const allRights = api.MayRead | api.MayWrite | api.MayRun

// Words that may be a page's.
func Words(l []int) bool {
	noWord := func(n int) bool { return n < 0 || n > api.MaxWord }
	return len(l) == api.Words && !slices.ContainsFunc(l, noWord)
}

// CheckPage: may a page be?
func CheckPage(p api.Page) api.Errno {
	if !isPlace(p.At) || !areRights(p.Rights) {
		return api.ErrRange
	}
	if !Words(p.Words) {
		return api.ErrForm
	}
	return api.OK
}

// Check an image: pages by their places.
func Check(l []api.Page) api.Errno {
	for i, p := range l {
		if e := CheckPage(p); e != api.OK {
			return e
		}
		if i > 0 && p.At <= l[i-1].At {
			return api.ErrOrder
		}
	}
	return api.OK
}

// Copy of an image, in memory of its own.
func Copy(l []api.Page) []api.Page {
	out := make([]api.Page, len(l))
	for i, p := range l {
		out[i] = p
		out[i].Words = make([]int, len(p.Words))
		copy(out[i].Words, p.Words)
	}
	return out
}

// Opened: what is measured of a new enclave.
func Opened() string { return entry("open") }

// Added: what is measured of a page that is put there.
func Added(at, rights int) (string, api.Errno) {
	if !isPlace(at) || !areRights(rights) {
		return "", api.ErrRange
	}
	return entry("page", at, rights), api.OK
}

// Held: what is measured of the words of a page.
func Held(at int, words []int) (string, api.Errno) {
	if !isPlace(at) {
		return "", api.ErrRange
	}
	if !Words(words) {
		return "", api.ErrForm
	}
	return entry("words", append([]int{at}, words...)...), api.OK
}

// Expect: what is measured of an enclave that is built of an image.
func Expect(l []api.Page) (string, api.Errno) {
	if e := Check(l); e != api.OK {
		return "", e
	}
	log := Opened()
	for _, p := range l {
		// Neither refuses here: Check has asked all that they ask.
		added, _ := Added(p.At, p.Rights)
		held, _ := Held(p.At, p.Words)
		log += added + held
	}
	return log, api.OK
}

// Plan: the acts that build an image as an enclave, from frames that have its words, one by one from a frame on.
func Plan(l []api.Page, enclave, frame int) ([]api.Act, api.Errno) {
	if e := Check(l); e != api.OK {
		return nil, e
	}
	if enclave < 1 || enclave > api.Enclaves || !areFrames(frame, len(l)) {
		return nil, api.ErrRange
	}
	acts := append(pokes(l, frame), api.Act{Kind: api.Create})
	for i, p := range l {
		acts = append(acts,
			api.Act{Kind: api.Put, E: enclave, F: frame + i, At: p.At, Rights: p.Rights},
			api.Act{Kind: api.Measure, E: enclave, At: p.At})
	}
	return append(acts, api.Act{Kind: api.Start, E: enclave}), api.OK
}

// pokes stand ahead of all else in a plan: once a frame is an enclave's, a Poke changes nothing in it.
func pokes(l []api.Page, frame int) []api.Act {
	var acts []api.Act
	for i, p := range l {
		for at, n := range p.Words {
			acts = append(acts, api.Act{Kind: api.Poke, F: frame + i, At: at, N: n})
		}
	}
	return acts
}

func isPlace(at int) bool { return 0 <= at && at < api.Pages }

// areRights: each right is a bit of its own, so a sum of some of them has no other bit.
func areRights(rights int) bool { return rights&^allRights == 0 }

// areFrames takes count from the bound, since first and count together might leave 64 bits.
func areFrames(first, count int) bool { return 0 <= first && first <= api.Frames-count }

// entry of what is measured: each one ends, so that no two logs can be read as one another.
func entry(name string, numbers ...int) string {
	var text strings.Builder
	text.WriteString(name)
	for _, n := range numbers {
		text.WriteByte(' ')
		text.WriteString(strconv.Itoa(n))
	}
	text.WriteByte(';')
	return text.String()
}
