package epc

import (
	"slices"

	"riddle/api"
	"riddle/image"
)

// Check a machine.
func Check(m api.Machine) api.Errno {
	if len(m.Frames) != api.Frames || len(m.Enclaves) != api.Enclaves || len(m.Quotes) > api.MaxMarks {
		return api.ErrSize
	}
	badFrame := func(f api.Frame) bool { return !isFrame(f, m.Enclaves) }
	badEnclave := func(e api.Enclave) bool { return !isEnclave(e) }
	badQuote := func(q api.Quote) bool { return len(q.Log) > api.MaxLog || !isWord(q.Data) }
	if slices.ContainsFunc(m.Enclaves, badEnclave) || slices.ContainsFunc(m.Frames, badFrame) ||
		slices.ContainsFunc(m.Quotes, badQuote) || haveTwins(m.Frames) {
		return api.ErrState
	}
	return api.OK
}

// checkEnclave asks what each call of an enclave asks, whatever its state.
func checkEnclave(m api.Machine, e int) api.Errno {
	if x := Check(m); x != api.OK {
		return x
	}
	if e < 1 || e > api.Enclaves || m.Enclaves[e-1].State == api.Empty {
		return api.ErrNone
	}
	return api.OK
}

// checkOpened asks what each call asks that only an enclave takes to which pages may be added.
func checkOpened(m api.Machine, e int) api.Errno {
	if x := checkEnclave(m, e); x != api.OK {
		return x
	}
	if m.Enclaves[e-1].State != api.Opened {
		return api.ErrState
	}
	return api.OK
}

// checkWord asks the same of a frame that is an enclave's: the error must not tell whose it is.
func checkWord(m api.Machine, f, at int) api.Errno {
	if x := Check(m); x != api.OK {
		return x
	}
	if !isFrameNumber(f) || at < 0 || at >= api.Words {
		return api.ErrRange
	}
	return api.OK
}

func isEnclave(e api.Enclave) bool {
	if e.State < api.Empty || e.State > api.Broken || len(e.Log) > api.MaxLog {
		return false
	}
	if e.State == api.Empty && e.Log != "" {
		return false
	}
	if e.State != api.Stopped {
		return e.Pc == 0 && e.Regs == [api.Regs]int{}
	}
	noWord := func(n int) bool { return !isWord(n) }
	return isWord(e.Pc) && !slices.ContainsFunc(e.Regs[:], noWord)
}

func isFrame(f api.Frame, enclaves []api.Enclave) bool {
	// A shared frame passes as a page, too: 0 is a place, and no rights are rights.
	page := api.Page{At: f.At, Rights: f.Rights, Words: f.Words}
	if image.CheckPage(page) != api.OK || f.Owner < 0 || f.Owner > len(enclaves) {
		return false
	}
	if f.Owner == 0 {
		return f.At == 0 && f.Rights == 0
	}
	return enclaves[f.Owner-1].State != api.Empty
}

// haveTwins: does an enclave have two pages at one place?
func haveTwins(l []api.Frame) bool {
	for i, f := range l {
		isTwin := func(ahead api.Frame) bool { return ahead.Owner == f.Owner && ahead.At == f.At }
		if f.Owner != 0 && slices.ContainsFunc(l[:i], isTwin) {
			return true
		}
	}
	return false
}

func isFrameNumber(f int) bool { return 0 <= f && f < api.Frames }

func isWord(n int) bool { return 0 <= n && n <= api.MaxWord }
