package run

import (
	"riddle/api"
	"riddle/epc"
)

// goesOn is the End of a step behind which there is another one: no run ends so.
const goesOn = 0

// core runs an enclave in a machine that nobody else has.
type core struct {
	machine api.Machine
	enclave int
	pc      int
	regs    [api.Regs]int
}

// instruction: its kind, two registers, and the second word.
type instruction struct{ kind, a, b, c int }

// step by one instruction.
func (c *core) step() api.Outcome {
	in, ok := c.fetch()
	if !ok {
		return fault()
	}
	c.pc += 2
	a, b := &c.regs[in.a], c.regs[in.b]
	switch in.kind {
	case api.Li:
		*a = in.c
	case api.Add:
		*a = (*a + b) % (api.MaxWord + 1)
	case api.Xor:
		*a ^= b
	case api.Lt:
		*a = oneIf(*a < b)
	case api.Ld:
		return c.load(a, b)
	case api.St:
		return c.store(*a, b)
	case api.Jz:
		if *a == 0 {
			c.pc = in.c
		}
	case api.Exit:
		return api.Outcome{End: api.Done, Value: *a}
	case api.Say:
		return c.say(*a)
	default:
		return fault()
	}
	return api.Outcome{}
}

// fetch the instruction at the address; false: one of its words must not be run.
func (c *core) fetch() (instruction, bool) {
	first, second := c.touch(c.pc, api.MayRun), c.touch(c.pc+1, api.MayRun)
	if first == nil || second == nil {
		return instruction{}, false
	}
	n := *first
	return instruction{kind: n % 16, a: n / 16 % api.Regs, b: n / 256 % api.Regs, c: *second}, true
}

func (c *core) load(into *int, address int) api.Outcome {
	word := c.touch(address, api.MayRead)
	if word == nil {
		return fault()
	}
	*into = *word
	return api.Outcome{}
}

func (c *core) store(n, address int) api.Outcome {
	word := c.touch(address, api.MayWrite)
	if word == nil {
		return fault()
	}
	*word = n
	return api.Outcome{}
}

func (c *core) say(n int) api.Outcome {
	if len(c.machine.Quotes) >= api.MaxMarks {
		return fault()
	}
	log := c.machine.Enclaves[c.enclave-1].Log
	c.machine.Quotes = append(c.machine.Quotes, api.Quote{Log: log, Data: n})
	return api.Outcome{}
}

// touch the word at an address, which is not below 0; nil: it must not be touched so.
func (c *core) touch(address, right int) *int {
	frame := c.frame(address, right)
	if frame < 0 {
		return nil
	}
	// Shared is a whole number of pages, so the word has the same place on both sides of it.
	return &c.machine.Frames[frame].Words[address%api.Words]
}

// frame in which the word at an address stands; -1: it must not be touched so.
func (c *core) frame(address, right int) int {
	if address >= api.Shared {
		return c.sharedFrame(address, right)
	}
	f := epc.Place(c.machine, c.enclave, address/api.Words)
	if f < 0 || c.machine.Frames[f].Rights&right == 0 {
		return -1
	}
	return f
}

// sharedFrame is never run: what all may write is measured by nobody.
func (c *core) sharedFrame(address, right int) int {
	f := (address - api.Shared) / api.Words
	if right == api.MayRun || f >= len(c.machine.Frames) || c.machine.Frames[f].Owner != 0 {
		return -1
	}
	return f
}

func fault() api.Outcome { return api.Outcome{End: api.Fault} }

func oneIf(holds bool) int {
	if holds {
		return 1
	}
	return 0
}
