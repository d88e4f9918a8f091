package std_test

import (
	"testing"

	"bakelite/api"
	"bakelite/core"
	"bakelite/std"
	"bakelite/table"
)

// The processor is valid.
func TestValid(t *testing.T) {
	if code := table.Check(std.Cpu()); code != api.OK {
		t.Errorf("the code %d", code)
	}
}

// The reset of P6.4: it takes two cycles, makes S 255 and reads PC, and masks interrupts as core.New does.
func TestReset(t *testing.T) {
	c, k := std.Cpu(), core.New()
	for at, data := range []int{0x34, 0x12} {
		var b api.Bus
		if k, b = core.Ask(c, k, true); b != (api.Bus{Do: api.BRead, Addr: 65532 + at}) {
			t.Errorf("cycle %d: %v", at, b)
		}
		k = core.Tell(c, k, data)
	}
	want := api.Core{Op: api.OpIdle, R: api.Regs{api.RS: 255, api.RP: api.FI, api.RT: 0x34, api.RU: 0x12, api.RPC: 0x1234}}
	if k != want {
		t.Errorf("behind the reset: %v", k)
	}
}

// Z2: what is done to a result does not show in the next one.
func TestNewMemory(t *testing.T) {
	changed := std.Cpu()
	for at := range changed.Res {
		for n := range changed.Res[at].Steps {
			changed.Res[at].Steps[n] = api.Step{}
		}
		changed.Res[at] = api.Cycle{}
	}
	if !table.Same(std.Cpu(), std.Cpu()) || table.Same(std.Cpu(), changed) {
		t.Error("results share memory")
	}
}
