package table

import (
	"slices"

	"bakelite/api"
)

// Check validates a processor.
func Check(c api.Cpu) api.Errno {
	if !Name(c.Name) {
		return api.ErrName
	}
	if len(c.Instrs) > api.MaxInstrs {
		return api.ErrLarge
	}
	err := first(len(c.Instrs), func(at int) api.Errno { return checkInstr(c.Instrs[:at], c.Instrs[at]) })
	if err != api.OK {
		return err
	}
	answers := [][]api.Cycle{c.Res, c.Irq, c.Nmi}
	return first(len(answers), func(at int) api.Errno { return checkCycles(answers[at]) })
}

// first returns the first error of elements that are checked one after another.
func first(many int, check func(at int) api.Errno) api.Errno {
	for at := range many {
		if err := check(at); err != api.OK {
			return err
		}
	}
	return api.OK
}

// checkInstr validates an instruction that stands behind others.
func checkInstr(earlier []api.Instr, x api.Instr) api.Errno {
	if !within(x.Op, 0, maxByte) {
		return api.ErrArg
	}
	if len(earlier) > 0 && x.Op <= earlier[len(earlier)-1].Op {
		return api.ErrOrder
	}
	if !Name(x.Name) {
		return api.ErrName
	}
	if Size(x.Mode) < 0 {
		return api.ErrType
	}
	if slices.ContainsFunc(earlier, called(x.Name, x.Mode)) {
		return api.ErrThere
	}
	if err := checkCycles(x.Cycles); err != api.OK {
		return err
	}
	if operand(x.Cycles) != Size(x.Mode) {
		return api.ErrForm
	}
	return api.OK
}

// operand returns how many bytes cycles read from the program.
func operand(l []api.Cycle) int {
	many := 0
	for _, cycle := range l {
		if cycle.Bus == api.BRead && cycle.At == api.AtPC {
			many++
		}
	}
	return many
}

// checkCycles validates the cycles of an instruction, or of an answer to a reset or an interrupt.
func checkCycles(l []api.Cycle) api.Errno {
	if len(l) > api.MaxCycles {
		return api.ErrLarge
	}
	return first(len(l), func(at int) api.Errno { return checkCycle(l[at]) })
}

func checkCycle(cycle api.Cycle) api.Errno {
	if !within(cycle.Bus, api.BNone, api.BWrite) {
		return api.ErrType
	}
	if cycle.Bus == api.BNone && (cycle.At != 0 || cycle.Reg != 0) {
		return api.ErrForm
	}
	if !within(cycle.At, api.AtPC, api.AtResHigh) || !narrow(cycle.Reg) {
		return api.ErrArg
	}
	if len(cycle.Steps) > api.MaxSteps {
		return api.ErrLarge
	}
	return first(len(cycle.Steps), func(at int) api.Errno { return checkStep(cycle.Steps[at]) })
}

func checkStep(s api.Step) api.Errno {
	if !within(s.Do, api.SNop, api.SIf) {
		return api.ErrType
	}
	if !registersFit(s) || !numberFits(s) {
		return api.ErrArg
	}
	return api.OK
}

// registersFit reports whether To and From of a step are what it works with.
func registersFit(s api.Step) bool {
	switch s.Do {
	case api.SMove:
		return narrow(s.To) && narrow(s.From) || Wide(s.To) && Wide(s.From)
	case api.SLit, api.SInc, api.SDec:
		return (narrow(s.To) || Wide(s.To)) && s.From == 0
	case api.SNZ, api.SShl, api.SShr, api.SRol, api.SRor:
		return narrow(s.To) && s.From == 0
	case api.SAdd, api.SSub, api.SCmp, api.SAnd, api.SOr, api.SXor:
		return narrow(s.To) && narrow(s.From)
	case api.SLow, api.SHigh, api.SIndex, api.SRel:
		return Wide(s.To) && narrow(s.From)
	case api.SGetLow, api.SGetHigh:
		return narrow(s.To) && Wide(s.From)
	case api.SIf:
		return s.To == 0 && within(s.From, 0, 1)
	}
	return s.To == 0 && s.From == 0
}

// numberFits reports whether N of a step is in the range that it permits.
func numberFits(s api.Step) bool {
	switch s.Do {
	case api.SLit:
		if Wide(s.To) {
			return within(s.N, 0, maxWord)
		}
		return within(s.N, 0, maxByte)
	case api.SSet, api.SClr, api.SIf:
		return within(s.N, 0, maxByte)
	}
	return s.N == 0
}
