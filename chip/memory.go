package chip

import (
	"bakelite/api"
	"bakelite/bit"
)

// addresses is how many addresses there are, and how many bytes a memory without banks has at most.
const addresses = 65536

// Addresses of a Bank.
const (
	atBank  = 0 // a register
	atBytes = 1 // the first one of the window
)

const byteBits = 8

// memory has the state of a memory in its form.
type memory struct {
	chip  api.Chip
	bank  int // 0 if the memory has no banks
	bytes []byte
}

// load returns the state of a memory, with new memory for its bytes.
func load(c api.Chip, d api.Dev) *memory {
	m := &memory{chip: c, bytes: make([]byte, length(c))}
	copy(m.bytes, d.Mem)
	if m.banked() && len(d.N) > 0 {
		m.choose(d.N[0])
	}
	return m
}

// dev returns the state with this bank and these bytes.
func (m *memory) dev() api.Dev {
	d := api.Dev{Mem: m.bytes}
	if m.banked() {
		d.N = []int{m.bank}
	}
	return d
}

// banked reports whether a memory has banks.
func (m *memory) banked() bool {
	return m.chip.Kind == api.Bank
}

// choose sets the bank to a number, which can be negative or too large for a bank.
func (m *memory) choose(n int) {
	many := Banks(m.chip)
	m.bank = (n%many + many) % many
}

// Banks returns how many banks the data of a chip need.
func Banks(c api.Chip) int {
	each := window(c)
	return max(1, (len(c.Data)+each-1)/each)
}

// window returns how many bytes a bank has.
func window(c api.Chip) int {
	return min(max(c.Size, atBytes+1)-atBytes, api.MaxMem)
}

// length returns how many bytes a memory has.
func length(c api.Chip) int {
	if c.Kind == api.Bank {
		return Banks(c) * window(c)
	}
	return min(max(c.Size, 0), addresses)
}

// place returns where among the bytes of a memory the byte of an address is, or -1 if it has none.
func (m *memory) place(at int) int {
	each := len(m.bytes)
	if m.banked() {
		at, each = at-atBytes, window(m.chip)
	}
	if at < 0 || at >= each {
		return -1
	}
	return m.bank*each + at
}

// read returns what is at an address.
func (m *memory) read(at int) int {
	if m.banked() && at == atBank {
		return m.bank
	}
	if place := m.place(at); place >= 0 {
		return int(m.bytes[place])
	}
	return 0
}

// write sets what is at an address.
func (m *memory) write(at, data int) {
	data = bit.Low(data, byteBits)
	if m.banked() && at == atBank {
		m.choose(data)
	}
	if place := m.place(at); place >= 0 && m.chip.Kind != api.Rom {
		m.bytes[place] = byte(data)
	}
}
