package table_test

import (
	"math"
	"reflect"
	"slices"
	"strings"
	"testing"

	"bakelite/api"
	"bakelite/table"
)

// extremes are numbers that stand for no register, no mode and no byte.
var extremes = []int{math.MinInt, math.MinInt + 1, -65536, -256, -2, -1, 256, 65536, math.MaxInt - 1, math.MaxInt}

// sample returns a valid processor: instructions with several cycles and steps, and all three answers.
func sample() api.Cpu {
	jump := []api.Step{{Do: api.SLow, To: api.RPC, From: api.RT}, {Do: api.SHigh, To: api.RPC, From: api.RU}}
	return api.Cpu{
		Name: "sample-1",
		Instrs: []api.Instr{
			{Op: 3, Name: "lda", Mode: api.MImm, Cycles: []api.Cycle{
				{Bus: api.BRead, At: api.AtPC, Reg: api.RT, Steps: []api.Step{{Do: api.SMove, To: api.RA, From: api.RT}, {Do: api.SNZ, To: api.RA}}},
				{Steps: []api.Step{{Do: api.SSet, N: api.FC}, {Do: api.SIf, From: 1, N: api.FZ}}},
			}},
			{Op: 9, Name: "sta", Mode: api.MAbs, Cycles: []api.Cycle{
				{Bus: api.BRead, At: api.AtPC, Reg: api.RT, Steps: []api.Step{{Do: api.SLow, To: api.RAD, From: api.RT}, {Do: api.SNop}}},
				{Bus: api.BRead, At: api.AtPC, Reg: api.RT, Steps: []api.Step{{Do: api.SHigh, To: api.RAD, From: api.RT}, {Do: api.SAdd, To: api.RT, From: api.RX}}},
				{Bus: api.BWrite, At: api.AtAD, Reg: api.RA, Steps: []api.Step{{Do: api.SLit, To: api.RPC, N: 65535}, {Do: api.SInc, To: api.RAD}}},
			}},
		},
		Res: []api.Cycle{{Bus: api.BRead, At: api.AtRes, Reg: api.RT, Steps: slices.Clone(jump)}, {Bus: api.BRead, At: api.AtResHigh, Reg: api.RU, Steps: slices.Clone(jump)}},
		Irq: []api.Cycle{{Bus: api.BWrite, At: api.AtPush, Reg: api.RP, Steps: []api.Step{{Do: api.SGetHigh, To: api.RT, From: api.RPC}, {Do: api.SRol, To: api.RT}}}},
		Nmi: []api.Cycle{{Bus: api.BRead, At: api.AtPull, Reg: api.RS, Steps: []api.Step{{Do: api.SRel, To: api.RPC, From: api.RS}, {Do: api.SNop}}}},
	}
}

// P3.1
func TestWide(t *testing.T) {
	for reg, name := range []string{"A", "X", "Y", "S", "P", "T", "U", "PC", "AD"} {
		if table.Wide(reg) != (len(name) == 2) {
			t.Errorf("Wide of %s: %v", name, table.Wide(reg))
		}
	}
	for _, reg := range append(extremes, api.NumRegs) {
		if table.Wide(reg) {
			t.Errorf("Wide(%d)", reg)
		}
	}
}

// P3.1
func TestSize(t *testing.T) {
	for _, c := range []struct{ mode, want int }{
		{api.MNone, 0}, {api.MImm, 1}, {api.MZero, 1}, {api.MZeroX, 1}, {api.MAbs, 2}, {api.MAbsX, 2}, {api.MAbsY, 2}, {api.MRel, 1}, {api.MInd, 1},
	} {
		if n := table.Size(c.mode); n != c.want {
			t.Errorf("Size(%d): %d, not %d", c.mode, n, c.want)
		}
	}
	for _, mode := range append(extremes, api.NumModes) {
		if n := table.Size(mode); n != -1 {
			t.Errorf("Size(%d): %d", mode, n)
		}
	}
}

// P3.1
func TestNameExamples(t *testing.T) {
	for _, s := range []string{"a", "z", "a1", "z9", "a-", "a--0", "lda", "chip-2", "abcdefghijklmnopqrst", "a-------------------"} {
		if !table.Name(s) {
			t.Errorf("%q is a name", s)
		}
	}
	for _, s := range []string{"", "A", "1", "-", "-a", "1a", "aA", "a b", "a_", "a.b", " a", "a ", "a\n", "a\x00", "\x00", "é", "aé", "a\xff", "ａ", "a１", "abcdefghijklmnopqrstu", strings.Repeat("a", 4096)} {
		if table.Name(s) {
			t.Errorf("%q is no name", s)
		}
	}
}

// P3.1: every byte at the beginning, in the middle and at the end, in names of all lengths.
func TestName(t *testing.T) {
	const letters, others = "abcdefghijklmnopqrstuvwxyz", "0123456789-"
	for c := range 256 {
		for length := 1; length <= api.MaxName+3; length++ {
			for at := range length {
				text := []byte(strings.Repeat("k", length))
				text[at] = byte(c)
				want := strings.IndexByte(letters, byte(c)) >= 0 || at > 0 && strings.IndexByte(others, byte(c)) >= 0
				if table.Name(string(text)) != (want && length <= 20) {
					t.Errorf("Name(%q): %v", text, !want)
				}
			}
		}
	}
}

// P3.4
func TestFind(t *testing.T) {
	c := sample()
	for op := -1; op <= 256; op++ {
		x, ok := table.Find(c, op)
		switch op {
		case 3, 9:
			if want := c.Instrs[op/9]; !ok || !reflect.DeepEqual(x, want) {
				t.Errorf("Find of %d: %v, %v", op, x, ok)
			}
		default:
			if ok || !reflect.DeepEqual(x, api.Instr{}) {
				t.Errorf("Find of %d: %v, %v", op, x, ok)
			}
		}
	}
}

// P3.4
func TestNamed(t *testing.T) {
	c := sample()
	for mode := -1; mode <= api.NumModes; mode++ {
		for _, name := range []string{"lda", "sta", "ldx", "", "LDA", "ld", "ldaa"} {
			x, ok := table.Named(c, name, mode)
			want := slices.IndexFunc(c.Instrs, func(x api.Instr) bool { return x.Name == name && x.Mode == mode })
			if ok != (want >= 0) || ok && !reflect.DeepEqual(x, c.Instrs[want]) || !ok && !reflect.DeepEqual(x, api.Instr{}) {
				t.Errorf("Named of %q, %d: %v, %v", name, mode, x, ok)
			}
		}
	}
}

// P3.4: the processor need not be valid: the first one is found, whatever the bytes, names and modes, in no order.
func TestFindFirst(t *testing.T) {
	c := api.Cpu{Instrs: []api.Instr{
		{Op: 200, Name: "B", Mode: 77}, {Op: 5, Name: "a", Mode: -1}, {Op: 200, Name: "a", Mode: 2}, {Op: -7, Name: "B", Mode: 77}, {Op: 5, Name: "a", Mode: 2}, {Op: 1000, Name: "", Mode: math.MinInt}, {Op: 0, Name: "a", Mode: 0}, {Op: math.MaxInt, Name: "a", Mode: 0},
	}}
	// The places tell the instructions apart.
	for at := range c.Instrs {
		c.Instrs[at].Cycles = make([]api.Cycle, at)
	}
	for _, q := range []struct{ op, at int }{{200, 0}, {5, 1}, {-7, 3}, {1000, 5}, {0, 6}, {math.MaxInt, 7}} {
		if x, ok := table.Find(c, q.op); !ok || len(x.Cycles) != q.at || !reflect.DeepEqual(x, c.Instrs[q.at]) {
			t.Errorf("Find of %d: %v, %v", q.op, x, ok)
		}
	}
	for _, q := range []struct {
		name     string
		mode, at int
	}{{"B", 77, 0}, {"a", -1, 1}, {"a", 2, 2}, {"", math.MinInt, 5}, {"a", 0, 6}} {
		if x, ok := table.Named(c, q.name, q.mode); !ok || len(x.Cycles) != q.at || !reflect.DeepEqual(x, c.Instrs[q.at]) {
			t.Errorf("Named of %q, %d: %v, %v", q.name, q.mode, x, ok)
		}
	}
	for _, op := range []int{1, 201, -5, 256, math.MinInt} {
		if x, ok := table.Find(c, op); ok || !reflect.DeepEqual(x, api.Instr{}) {
			t.Errorf("Find of %d: %v, %v", op, x, ok)
		}
	}
}

// P3.4
func TestCopy(t *testing.T) {
	c := sample()
	wild := api.Instr{Op: math.MinInt, Name: "No Name", Mode: -9, Cycles: []api.Cycle{{Bus: 7, At: -1, Reg: math.MaxInt, Steps: []api.Step{{Do: -1, To: 99, From: math.MinInt, N: math.MaxInt}}}, {}}}
	for _, x := range append(c.Instrs, wild, api.Instr{}) {
		if y := table.Copy(x); !reflect.DeepEqual(x, y) {
			t.Errorf("Copy of %v: %v", x, y)
		}
	}
}

// numbers calls f with every number of a value.
func numbers(v reflect.Value, f func(reflect.Value)) {
	switch v.Kind() {
	case reflect.Int:
		f(v)
	case reflect.Struct:
		for i := range v.NumField() {
			numbers(v.Field(i), f)
		}
	case reflect.Slice:
		for i := range v.Len() {
			numbers(v.Index(i), f)
		}
	}
}

// nested calls f with every list in a value, and with every text.
func nested(v reflect.Value, f func(reflect.Value)) {
	switch v.Kind() {
	case reflect.String:
		f(v)
	case reflect.Struct:
		for i := range v.NumField() {
			nested(v.Field(i), f)
		}
	case reflect.Slice:
		f(v)
		for i := range v.Len() {
			nested(v.Index(i), f)
		}
	}
}

// differ checks that two processors are not the same, in both orders.
func differ(t *testing.T, a, b api.Cpu) {
	t.Helper()
	if table.Same(a, b) || table.Same(b, a) {
		t.Errorf("the same: %v, %v", a, b)
	}
}

// P3.4: a change of any number, name or length is seen.
func TestSame(t *testing.T) {
	a, b := sample(), sample()
	if !table.Same(a, b) || !table.Same(a, a) || !table.Same(api.Cpu{}, api.Cpu{}) {
		t.Error("equal processors")
	}
	many := 0
	numbers(reflect.ValueOf(&b).Elem(), func(n reflect.Value) {
		was := n.Int()
		for _, other := range []int64{was + 1, was - 1, was + 256, math.MinInt64} {
			n.SetInt(other)
			differ(t, a, b)
		}
		n.SetInt(was)
		many++
	})
	nested(reflect.ValueOf(&b).Elem(), func(v reflect.Value) {
		was := reflect.New(v.Type()).Elem()
		was.Set(v)
		if v.Kind() == reflect.String {
			v.SetString(v.String() + "x")
			differ(t, a, b)
			v.SetString("")
		} else {
			v.Set(reflect.Append(v, reflect.Zero(v.Type().Elem())))
			differ(t, a, b)
			v.Set(was.Slice(0, was.Len()-1))
			differ(t, a, b)
			v.SetZero()
		}
		differ(t, a, b)
		v.Set(was)
		many++
	})
	if many < 100 || !table.Same(a, b) {
		t.Error(many, a, b)
	}
}

// P3.4: the order counts, and so does which answer has the cycles.
func TestSameOrder(t *testing.T) {
	a := sample()
	for n, turn := range []func(c *api.Cpu){
		func(c *api.Cpu) { slices.Reverse(c.Instrs) },
		func(c *api.Cpu) { slices.Reverse(c.Instrs[1].Cycles) },
		func(c *api.Cpu) { slices.Reverse(c.Res[0].Steps) },
		func(c *api.Cpu) { c.Res, c.Irq = c.Irq, c.Res },
		func(c *api.Cpu) { c.Res, c.Nmi = c.Nmi, c.Res },
		func(c *api.Cpu) { c.Irq, c.Nmi = c.Nmi, c.Irq },
	} {
		b := sample()
		turn(&b)
		if table.Same(a, b) || table.Same(b, a) || !table.Same(b, b) {
			t.Errorf("turn %d", n)
		}
	}
}

// Z1: arguments that are no valid processors.
func TestWildProcessors(t *testing.T) {
	for _, n := range extremes {
		c := sample()
		numbers(reflect.ValueOf(&c).Elem(), func(v reflect.Value) { v.SetInt(int64(n)) })
		if e := table.Check(c); e != api.ErrArg {
			t.Errorf("Check with %d: %v", n, e)
		}
		if _, ok := table.Find(c, n); !ok || !table.Same(c, c) {
			t.Errorf("Find and Same with %d", n)
		}
		if _, ok := table.Named(c, "sta", n); !ok {
			t.Errorf("Named with %d", n)
		}
	}
	long := api.Cpu{Name: "long", Instrs: make([]api.Instr, 100000), Res: make([]api.Cycle, 100000)}
	long.Res[0].Steps = make([]api.Step, 100000)
	if _, ok := table.Find(long, 1); ok || !table.Same(long, long) || table.Check(long) != api.ErrLarge {
		t.Error("a long processor")
	}
	if x := table.Copy(api.Instr{Cycles: long.Res}); len(x.Cycles) != 100000 || len(x.Cycles[0].Steps) != 100000 {
		t.Error("a long instruction")
	}
}

// spare returns a list with other elements behind its end.
func spare[E any](l []E, behind E) []E {
	return append(append(make([]E, 0, len(l)+2), l...), behind, behind)[:len(l)]
}

// roomy returns the sample with other elements behind the end of each list.
func roomy() api.Cpu {
	c := sample()
	step := api.Step{Do: 1, To: 2, From: 3, N: 4}
	cycle := api.Cycle{Bus: 1, At: 2, Reg: 3}
	for n := range c.Instrs {
		for m := range c.Instrs[n].Cycles {
			c.Instrs[n].Cycles[m].Steps = spare(c.Instrs[n].Cycles[m].Steps, step)
		}
		c.Instrs[n].Cycles = spare(c.Instrs[n].Cycles, cycle)
	}
	c.Instrs = spare(c.Instrs, api.Instr{Op: 77})
	c.Res, c.Irq, c.Nmi = spare(c.Res, cycle), spare(c.Irq, cycle), spare(c.Nmi, cycle)
	return c
}

// whole returns a processor with what is behind the ends of its lists.
func whole(c api.Cpu) api.Cpu {
	c.Instrs = slices.Clone(c.Instrs[:cap(c.Instrs)])
	for n := range c.Instrs {
		c.Instrs[n].Cycles = wholeCycles(c.Instrs[n].Cycles)
	}
	c.Res, c.Irq, c.Nmi = wholeCycles(c.Res), wholeCycles(c.Irq), wholeCycles(c.Nmi)
	return c
}

func wholeCycles(l []api.Cycle) []api.Cycle {
	l = slices.Clone(l[:cap(l)])
	for n := range l {
		l[n].Steps = slices.Clone(l[n].Steps[:cap(l[n].Steps)])
	}
	return l
}

// spoil changes everything in an instruction, and behind the ends of its lists.
func spoil(x api.Instr) {
	cycles := x.Cycles[:cap(x.Cycles)]
	for n := range cycles {
		steps := cycles[n].Steps[:cap(cycles[n].Steps)]
		for m := range steps {
			steps[m] = api.Step{Do: -9, To: -9, From: -9, N: -9}
		}
		cycles[n] = api.Cycle{Bus: -9, At: -9, Reg: -9}
	}
}

// Z2: the arguments stay as they are, with the memory behind their lengths, and earlier calls change no result.
func TestArgumentsStay(t *testing.T) {
	c, was := roomy(), whole(roomy())
	for range 3 {
		byOp, _ := table.Find(c, 9)
		byName, _ := table.Named(c, "sta", api.MAbs)
		copied := table.Copy(c.Instrs[1])
		if table.Check(c) != api.OK || !table.Same(c, sample()) || !table.Same(sample(), c) {
			t.Fatal("Check, Same")
		}
		// Spoiling one result leaves the argument and the other results as they were.
		want := sample().Instrs[1]
		for _, x := range []api.Instr{byOp, byName, copied} {
			if !reflect.DeepEqual(x, want) {
				t.Fatal(x)
			}
			spoil(x)
		}
		if !reflect.DeepEqual(whole(c), was) {
			t.Fatal(c)
		}
	}
}

// Z2: the lists of one result share no memory, also where those of the argument do.
func TestListsOfCopyAreApart(t *testing.T) {
	steps := make([]api.Step, 3, 9)
	x := api.Instr{Op: 1, Name: "a", Cycles: []api.Cycle{{Steps: steps}, {Steps: steps[1:2]}, {Steps: steps[:0]}, {Steps: steps}}}
	y := table.Copy(x)
	for n := range y.Cycles {
		l := y.Cycles[n].Steps
		l = l[:cap(l)]
		for m := range l {
			l[m].N += n + 1
		}
	}
	for n, cycle := range y.Cycles {
		if len(cycle.Steps) != len(x.Cycles[n].Steps) {
			t.Error(y)
		}
		for _, step := range cycle.Steps {
			if step.N != n+1 {
				t.Error(y)
			}
		}
	}
	if !reflect.DeepEqual(steps[:9], make([]api.Step, 9)) {
		t.Error(steps[:9])
	}
}

// Z4
func TestEmptyAndNil(t *testing.T) {
	nils := api.Cpu{Name: "c", Instrs: []api.Instr{{Name: "a"}, {Op: 1, Name: "b", Cycles: []api.Cycle{{}}}}, Res: []api.Cycle{{}}}
	empties := api.Cpu{Name: "c", Instrs: []api.Instr{{Name: "a", Cycles: []api.Cycle{}}, {Op: 1, Name: "b", Cycles: []api.Cycle{{Steps: []api.Step{}}}}}, Res: []api.Cycle{{Steps: []api.Step{}}}, Irq: []api.Cycle{}, Nmi: []api.Cycle{}}
	if !table.Same(nils, empties) || !table.Same(empties, nils) || !table.Same(api.Cpu{}, api.Cpu{Instrs: []api.Instr{}, Res: []api.Cycle{}}) {
		t.Error("Same")
	}
	for _, c := range []api.Cpu{nils, empties} {
		if e := table.Check(c); e != api.OK {
			t.Error(e)
		}
		if x, ok := table.Find(c, 0); !ok || x.Name != "a" || len(x.Cycles) != 0 {
			t.Error(x, ok)
		}
		if x, ok := table.Named(c, "b", 0); !ok || x.Op != 1 || len(x.Cycles) != 1 || len(x.Cycles[0].Steps) != 0 {
			t.Error(x, ok)
		}
	}
	for _, c := range []api.Cpu{{Name: "c"}, {Name: "c", Instrs: []api.Instr{}}} {
		x, found := table.Find(c, 0)
		y, named := table.Named(c, "", 0)
		if table.Check(c) != api.OK || found || named || !reflect.DeepEqual(x, api.Instr{}) || !reflect.DeepEqual(y, api.Instr{}) {
			t.Error(x, y, found, named)
		}
	}
}
