package std

import (
	"bakelite/api"
)

// with is a step with two registers.
func with(do, to, from int) api.Step {
	return api.Step{Do: do, To: to, From: from}
}

// on is a step with one register.
func on(do, to int) api.Step {
	return api.Step{Do: do, To: to}
}

// literal is a step that puts a number into a register.
func literal(to, n int) api.Step {
	return api.Step{Do: api.SLit, To: to, N: n}
}

// flag is a step that sets or clears flags.
func flag(do, n int) api.Step {
	return api.Step{Do: do, N: n}
}

// jump puts the bytes in T and U into a wide register, the low one first.
func jump(reg int) []api.Step {
	return []api.Step{with(api.SLow, reg, api.RT), with(api.SHigh, reg, api.RU)}
}

// read is a cycle that reads a byte into a register.
func read(at, reg int, steps ...api.Step) api.Cycle {
	return api.Cycle{Bus: api.BRead, At: at, Reg: reg, Steps: steps}
}

// write is a cycle that writes the byte of a register.
func write(at, reg int, steps ...api.Step) api.Cycle {
	return api.Cycle{Bus: api.BWrite, At: at, Reg: reg, Steps: steps}
}

// quiet is a cycle without the bus.
func quiet(steps ...api.Step) api.Cycle {
	return api.Cycle{Bus: api.BNone, Steps: steps}
}

// lead returns the cycles that put the address of the operand into AD.
func lead(mode int) []api.Cycle {
	switch mode {
	case api.MZero:
		return []api.Cycle{read(api.AtPC, api.RT, zero()...)}
	case api.MZeroX:
		// With X the address goes around at 256.
		return []api.Cycle{
			read(api.AtPC, api.RT, append(zero(), with(api.SIndex, api.RAD, api.RX))...),
			quiet(append([]api.Step{with(api.SGetLow, api.RT, api.RAD)}, zero()...)...),
		}
	case api.MAbs:
		return absolute()
	case api.MAbsX:
		return append(absolute(), quiet(with(api.SIndex, api.RAD, api.RX)))
	case api.MAbsY:
		return append(absolute(), quiet(with(api.SIndex, api.RAD, api.RY)))
	case api.MInd:
		return []api.Cycle{
			read(api.AtPC, api.RT, zero()...),
			read(api.AtAD, api.RT),
			read(api.AtNext, api.RU, append(jump(api.RAD), with(api.SIndex, api.RAD, api.RY))...),
		}
	}
	return nil
}

// zero puts the byte in T into AD, as an address from 0 to 255.
func zero() []api.Step {
	return []api.Step{literal(api.RAD, 0), with(api.SLow, api.RAD, api.RT)}
}

// absolute reads an address into AD.
func absolute() []api.Cycle {
	return []api.Cycle{
		read(api.AtPC, api.RT, with(api.SLow, api.RAD, api.RT)),
		read(api.AtPC, api.RT, with(api.SHigh, api.RAD, api.RT)),
	}
}

// operand returns the cycles that read the operand into T, with steps behind the last one.
func operand(mode int, steps ...api.Step) []api.Cycle {
	if mode == api.MImm {
		return []api.Cycle{read(api.AtPC, api.RT, steps...)}
	}
	return append(lead(mode), read(api.AtAD, api.RT, steps...))
}

// load returns the cycles with which a register becomes the operand.
func load(reg int) func(mode int) []api.Cycle {
	return func(mode int) []api.Cycle {
		return operand(mode, with(api.SMove, reg, api.RT), on(api.SNZ, reg))
	}
}

// store returns the cycles with which a register is written.
func store(reg int) func(mode int) []api.Cycle {
	return func(mode int) []api.Cycle {
		return append(lead(mode), write(api.AtAD, reg))
	}
}

// combine returns the cycles with which a step is done with a register and the operand.
func combine(do, reg int) func(mode int) []api.Cycle {
	return func(mode int) []api.Cycle {
		return operand(mode, with(do, reg, api.RT))
	}
}

// change returns the cycles with which a step is done with A, or with a byte that is then written back.
func change(do int) func(mode int) []api.Cycle {
	return func(mode int) []api.Cycle {
		if mode == api.MNone {
			return []api.Cycle{quiet(on(do, api.RA))}
		}
		return append(operand(mode, on(do, api.RT)), write(api.AtAD, api.RT))
	}
}

// reset reads the address at which the program begins, and empties the stack.
func reset() []api.Cycle {
	return []api.Cycle{
		read(api.AtRes, api.RT),
		read(api.AtResHigh, api.RU, append(jump(api.RPC), literal(api.RS, 255))...),
	}
}

// interrupt puts PC and the flags on the stack, and goes on at the address that it reads.
func interrupt(at, atHigh int) []api.Cycle {
	return []api.Cycle{
		quiet(with(api.SGetHigh, api.RT, api.RPC)),
		write(api.AtPush, api.RT, with(api.SGetLow, api.RT, api.RPC)),
		write(api.AtPush, api.RT),
		write(api.AtPush, api.RP, flag(api.SSet, api.FI)),
		read(at, api.RT),
		read(atHigh, api.RU, jump(api.RPC)...),
	}
}
