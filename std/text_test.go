package std_test

import (
	"strconv"
	"strings"

	"bakelite/api"
)

// listed are the instructions in the order of P6.1, each with its modes and, behind the colon, its cycles in the notation of the chapter, with a semicolon between two of them.
// 'lead' stands for the lead of the mode, 'operand' for the lead with the operand cycle.
const listed = `
lda MImm MZero MZeroX MAbs MAbsX MAbsY MInd: operand (SMove A T, SNZ A)
ldx MImm MZero MAbs: operand (SMove X T, SNZ X)
ldy MImm MZero MAbs: operand (SMove Y T, SNZ Y)
sta MZero MZeroX MAbs MAbsX MAbsY MInd: lead; w AtAD A
stx MZero MAbs: lead; w AtAD X
sty MZero MAbs: lead; w AtAD Y
adc MImm MZero MAbs MAbsX: operand (SAdd A T)
sbc MImm MZero MAbs MAbsX: operand (SSub A T)
and MImm MZero MAbs MAbsX: operand (SAnd A T)
ora MImm MZero MAbs MAbsX: operand (SOr A T)
eor MImm MZero MAbs MAbsX: operand (SXor A T)
cmp MImm MZero MAbs MAbsX: operand (SCmp A T)
cpx MImm MZero: operand (SCmp X T)
cpy MImm MZero: operand (SCmp Y T)
inc MZero MAbs: operand (SInc T); w AtAD T
dec MZero MAbs: operand (SDec T); w AtAD T
asl MNone: - (SShl A)
asl MZero: operand (SShl T); w AtAD T
lsr MNone: - (SShr A)
lsr MZero: operand (SShr T); w AtAD T
rol MNone: - (SRol A)
rol MZero: operand (SRol T); w AtAD T
ror MNone: - (SRor A)
ror MZero: operand (SRor T); w AtAD T
tax MNone: - (SMove X A, SNZ X)
tay MNone: - (SMove Y A, SNZ Y)
txa MNone: - (SMove A X, SNZ A)
tya MNone: - (SMove A Y, SNZ A)
tsx MNone: - (SMove X S, SNZ X)
txs MNone: - (SMove S X)
inx MNone: - (SInc X)
iny MNone: - (SInc Y)
dex MNone: - (SDec X)
dey MNone: - (SDec Y)
clc MNone: - (SClr FC)
sec MNone: - (SSet FC)
cli MNone: - (SClr FI)
sei MNone: - (SSet FI)
nop MNone: -
pha MNone: w AtPush A
pla MNone: r AtPull A (SNZ A)
php MNone: w AtPush P
plp MNone: r AtPull P
jmp MAbs: r AtPC T; r AtPC U (SLow PC T, SHigh PC U)
jsr MAbs: r AtPC T (SLow AD T); r AtPC T (SHigh AD T, SGetHigh T PC); w AtPush T (SGetLow T PC); w AtPush T (SMove PC AD)
rts MNone: r AtPull T; r AtPull U (SLow PC T, SHigh PC U)
rti MNone: r AtPull P; r AtPull T; r AtPull U (SLow PC T, SHigh PC U)
beq MRel: r AtPC T (SIf 1 FZ); - (SRel PC T)
bne MRel: r AtPC T (SIf 0 FZ); - (SRel PC T)
bcs MRel: r AtPC T (SIf 1 FC); - (SRel PC T)
bcc MRel: r AtPC T (SIf 0 FC); - (SRel PC T)
bmi MRel: r AtPC T (SIf 1 FN); - (SRel PC T)
bpl MRel: r AtPC T (SIf 0 FN); - (SRel PC T)
`

// The answers of P6.4.
const (
	resText = "r AtRes T; r AtResHigh U (SLow PC T, SHigh PC U, SLit S 255)"
	irqText = "- (SGetHigh T PC); w AtPush T (SGetLow T PC); w AtPush T; w AtPush P (SSet FI); r AtIrq T; r AtIrqHigh U (SLow PC T, SHigh PC U)"
	nmiText = "- (SGetHigh T PC); w AtPush T (SGetLow T PC); w AtPush T; w AtPush P (SSet FI); r AtNmi T; r AtNmiHigh U (SLow PC T, SHigh PC U)"
)

// leadText is the lead of P6.2, with a semicolon behind each cycle.
func leadText(mode string) string {
	switch mode {
	case "MZero":
		return "r AtPC T (SLit AD 0, SLow AD T);"
	case "MZeroX":
		return "r AtPC T (SLit AD 0, SLow AD T, SIndex AD X); - (SGetLow T AD, SLit AD 0, SLow AD T);"
	case "MAbs":
		return "r AtPC T (SLow AD T); r AtPC T (SHigh AD T);"
	case "MAbsX":
		return "r AtPC T (SLow AD T); r AtPC T (SHigh AD T); - (SIndex AD X);"
	case "MAbsY":
		return "r AtPC T (SLow AD T); r AtPC T (SHigh AD T); - (SIndex AD Y);"
	case "MInd":
		return "r AtPC T (SLit AD 0, SLow AD T); r AtAD T; r AtNext U (SLow AD T, SHigh AD U, SIndex AD Y);"
	}
	return ""
}

// operandText is the lead with the operand cycle of P6.3, without the steps of that cycle.
func operandText(mode string) string {
	if mode == "MImm" {
		return "r AtPC T"
	}
	return leadText(mode) + "r AtAD T"
}

// The names of api, in the order of their numbers.
var (
	modeNames = strings.Fields("MNone MImm MZero MZeroX MAbs MAbsX MAbsY MRel MInd")
	busNames  = strings.Fields("- r w")
	atNames   = strings.Fields("AtPC AtHere AtAD AtNext AtPush AtPull AtIrq AtIrqHigh AtNmi AtNmiHigh AtRes AtResHigh")
	regNames  = strings.Fields("A X Y S P T U PC AD")
	stepNames = strings.Fields("SNop SMove SLit SNZ SAdd SSub SCmp SAnd SOr SXor SInc SDec SShl SShr SRol SRor SSet SClr SLow SHigh SGetLow SGetHigh SIndex SRel SIf")
)

// number is the place of a name in a list; there must be one.
func number(list []string, name string) int {
	for n, x := range list {
		if x == name {
			return n
		}
	}
	panic("no name: " + name)
}

// flagNumber is the bit of a flag.
func flagNumber(name string) int {
	return map[string]int{"FC": 1, "FZ": 2, "FI": 4, "FN": 128}[name]
}

// parsedStep reads a step: its name, and then what its kind has.
func parsedStep(text string) api.Step {
	w := strings.Fields(text)
	s := api.Step{Do: number(stepNames, w[0])}
	switch {
	case w[0] == "SIf":
		s.From, _ = strconv.Atoi(w[1])
		s.N = flagNumber(w[2])
	case w[0] == "SSet" || w[0] == "SClr":
		s.N = flagNumber(w[1])
	case w[0] == "SLit":
		s.To = number(regNames, w[1])
		s.N, _ = strconv.Atoi(w[2])
	case len(w) == 2:
		s.To = number(regNames, w[1])
	default:
		s.To, s.From = number(regNames, w[1]), number(regNames, w[2])
	}
	return s
}

// parsedCycle reads a cycle, with its steps in parentheses.
func parsedCycle(text string) api.Cycle {
	head, steps, has := strings.Cut(text, "(")
	w := strings.Fields(head)
	x := api.Cycle{Bus: number(busNames, w[0])}
	if len(w) == 3 {
		x.At, x.Reg = number(atNames, w[1]), number(regNames, w[2])
	}
	if has {
		for _, s := range strings.Split(strings.TrimRight(steps, ") "), ",") {
			x.Steps = append(x.Steps, parsedStep(s))
		}
	}
	return x
}

func parsedCycles(text string) []api.Cycle {
	var l []api.Cycle
	for _, x := range strings.Split(text, ";") {
		if strings.TrimSpace(x) != "" {
			l = append(l, parsedCycle(x))
		}
	}
	return l
}

// told is the processor that the texts tell.
func told() api.Cpu {
	c := api.Cpu{Name: "std", Res: parsedCycles(resText), Irq: parsedCycles(irqText), Nmi: parsedCycles(nmiText)}
	for _, line := range strings.Split(strings.TrimSpace(listed), "\n") {
		head, cycles, _ := strings.Cut(line, ":")
		w := strings.Fields(head)
		for _, mode := range w[1:] {
			text := strings.ReplaceAll(cycles, "lead;", leadText(mode))
			text = strings.ReplaceAll(text, "operand", operandText(mode))
			c.Instrs = append(c.Instrs, api.Instr{Op: len(c.Instrs) + 1, Name: w[0], Mode: number(modeNames, mode), Cycles: parsedCycles(text)})
		}
	}
	return c
}
