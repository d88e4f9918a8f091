package std_test

import (
	"bakelite/api"
)

// memory is all that the processor can read and write.
type memory [65536]byte

// visible are the registers that a program sees.
type visible struct {
	a, x, y, s, flags byte
	pc                uint16
}

// model does instructions as a program understands them, without cycles.
type model struct {
	visible
	m *memory
}

func (v *model) next() byte {
	v.pc++
	return v.m[v.pc-1]
}

func (v *model) nextWord() uint16 {
	low := v.next()
	return uint16(low) | uint16(v.next())<<8
}

func (v *model) word(at uint16) uint16 {
	return uint16(v.m[at]) | uint16(v.m[at+1])<<8
}

func (v *model) push(n byte) {
	v.m[256+uint16(v.s)] = n
	v.s--
}

func (v *model) pull() byte {
	v.s++
	return v.m[256+uint16(v.s)]
}

func (v *model) pullWord() uint16 {
	low := v.pull()
	return uint16(low) | uint16(v.pull())<<8
}

// address reads the operand of a mode, and returns the address at which the operand's byte is.
func (v *model) address(mode int) uint16 {
	switch mode {
	case api.MImm, api.MRel:
		v.pc++
		return v.pc - 1
	case api.MZero:
		return uint16(v.next())
	case api.MZeroX:
		return uint16(v.next() + v.x)
	case api.MAbs:
		return v.nextWord()
	case api.MAbsX:
		return v.nextWord() + uint16(v.x)
	case api.MAbsY:
		return v.nextWord() + uint16(v.y)
	case api.MInd:
		return v.word(uint16(v.next())) + uint16(v.y)
	}
	return 0
}

func (v *model) flag(flag byte, set bool) {
	v.flags &^= flag
	if set {
		v.flags |= flag
	}
}

func (v *model) has(flag byte) bool { return v.flags&flag != 0 }

// put stores a result and judges it.
func (v *model) put(to *byte, n byte) {
	*to = n
	v.flag(api.FZ, n == 0)
	v.flag(api.FN, n > 127)
}

// carry is the flag FC as a number.
func (v *model) carry() int { return int(v.flags & api.FC) }

func (v *model) add(n byte) {
	sum := int(v.a) + int(n) + v.carry()
	v.flag(api.FC, sum > 255)
	v.put(&v.a, byte(sum))
}

// compare sets the carry unless something has to be borrowed.
func (v *model) compare(a, n byte) {
	v.flag(api.FC, a >= n)
	v.put(new(byte), a-n)
}

func (v *model) shift(to *byte, out byte, n int) {
	v.flag(api.FC, out != 0)
	v.put(to, byte(n))
}

// do does an instruction whose byte has been read.
func (v *model) do(name string, mode int) {
	if v.jump(name) || v.stack(name) {
		return
	}
	at := &v.a
	if mode != api.MNone {
		at = &v.m[v.address(mode)]
	}
	if !v.load(name, *at) && !v.store(name, at) && !v.change(name, at) && !v.plain(name) && v.branches(name) {
		v.pc += uint16(int8(*at))
	}
}

// length is how many cycles an instruction takes, with the one that reads its byte.
func (v *model) length(name string, mode int) int {
	switch name {
	case "jmp", "rts":
		return 3
	case "rti":
		return 4
	case "jsr":
		return 5
	}
	n := map[int]int{api.MNone: 2, api.MImm: 2, api.MRel: 2, api.MZero: 3, api.MZeroX: 4, api.MAbs: 4, api.MAbsX: 5, api.MAbsY: 5, api.MInd: 5}[mode]
	if v.branches(name) || mode != api.MNone && (&model{}).change(name, new(byte)) {
		n++
	}
	return n
}

func (v *model) jump(name string) bool {
	if name != "jmp" && name != "jsr" {
		return false
	}
	to := v.nextWord()
	if name == "jsr" {
		v.push(byte(v.pc >> 8))
		v.push(byte(v.pc))
	}
	v.pc = to
	return true
}

func (v *model) load(name string, n byte) bool {
	switch name {
	case "lda":
		v.put(&v.a, n)
	case "ldx":
		v.put(&v.x, n)
	case "ldy":
		v.put(&v.y, n)
	case "adc":
		v.add(n)
	case "sbc":
		// A difference is a sum with the other number's opposite bits.
		v.add(^n)
	case "and":
		v.put(&v.a, v.a&n)
	case "ora":
		v.put(&v.a, v.a|n)
	case "eor":
		v.put(&v.a, v.a^n)
	case "cmp":
		v.compare(v.a, n)
	case "cpx":
		v.compare(v.x, n)
	case "cpy":
		v.compare(v.y, n)
	default:
		return false
	}
	return true
}

func (v *model) store(name string, at *byte) bool {
	switch name {
	case "sta":
		*at = v.a
	case "stx":
		*at = v.x
	case "sty":
		*at = v.y
	default:
		return false
	}
	return true
}

// change changes a byte in its place.
func (v *model) change(name string, at *byte) bool {
	n := *at
	switch name {
	case "inc":
		v.put(at, n+1)
	case "dec":
		v.put(at, n-1)
	case "asl":
		v.shift(at, n&128, int(n)*2)
	case "lsr":
		v.shift(at, n&1, int(n)/2)
	case "rol":
		v.shift(at, n&128, int(n)*2+v.carry())
	case "ror":
		v.shift(at, n&1, int(n)/2+v.carry()*128)
	default:
		return false
	}
	return true
}

func (v *model) plain(name string) bool {
	switch name {
	case "tax":
		v.put(&v.x, v.a)
	case "tay":
		v.put(&v.y, v.a)
	case "txa":
		v.put(&v.a, v.x)
	case "tya":
		v.put(&v.a, v.y)
	case "tsx":
		v.put(&v.x, v.s)
	case "txs":
		v.s = v.x
	case "inx":
		v.put(&v.x, v.x+1)
	case "iny":
		v.put(&v.y, v.y+1)
	case "dex":
		v.put(&v.x, v.x-1)
	case "dey":
		v.put(&v.y, v.y-1)
	case "clc", "sec":
		v.flag(api.FC, name == "sec")
	case "cli", "sei":
		v.flag(api.FI, name == "sei")
	case "nop":
	default:
		return false
	}
	return true
}

func (v *model) stack(name string) bool {
	switch name {
	case "pha":
		v.push(v.a)
	case "php":
		v.push(v.flags)
	case "pla":
		v.put(&v.a, v.pull())
	case "plp":
		v.flags = v.pull()
	case "rts":
		v.pc = v.pullWord()
	case "rti":
		v.flags = v.pull()
		v.pc = v.pullWord()
	default:
		return false
	}
	return true
}

// branches reports whether an instruction is a branch that is taken.
func (v *model) branches(name string) bool {
	switch name {
	case "beq", "bne":
		return v.has(api.FZ) == (name == "beq")
	case "bcs", "bcc":
		return v.has(api.FC) == (name == "bcs")
	case "bmi", "bpl":
		return v.has(api.FN) == (name == "bmi")
	}
	return false
}
