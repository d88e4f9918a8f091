/- The museum's processor as the reference's text: the step that ends an instruction. -/
import Derived.Test.YtbgjnegojoaimaaGreatDoorStdText
import Derived.Maps.Own
import Derived.Maps.OwnOps
import Derived.Maps.Keyed
import Derived.Maps.StringElems
import Derived.Carry
namespace Go.Proofs.YtbgjnegojoaimaaGreatDoor
open Go.RowKit Go.Maps

theorem wpList_insert_text {H : Type} {P : Program} (w : World) {ops : Array Oper} {rest : List Oper} {o : Oper} {a : Act} {Q : Exit → Act → World → Prop}
    (hg : o.guard = none) (m x v : Operand) (t : TypeId) (hop : o.op = Op.insert t m x v)
    (k e : TypeId) (K : Keyed P k) (ht : P.underlying t = some (.map k e)) (R : Value → Option (DataW H × List MemPlace)) (b n : Nat) (D : DataW H)
    (hm : a.eval m = .map (some b)) (hown : w.ownsMap P k R b n D) (hn : n < maxLen) (key val : Value) (kl : Lit) (hx : a.eval x = key) (hv : a.eval v = val) (hkey : keyOf P k key = some kl)
    (d : DataW H) (ps : List MemPlace) (hval : R val = some (d, ps))
    (hK : ∀ w', w'.ownsMap P k R b (n + 1) (D.put kl d) → w.grownBy w' (some b) → wpList P ops Q rest (a.put o.dst undef) w') :
    wpList P ops Q (o :: rest) a w := by
  refine wpList_plain hg fun K' hK' => ?_
  obtain ⟨w', hrun, r1, r2⟩ := hown.update K ht hn hkey hval
  unfold Oper.wp
  simp [execOp, hop, hm, hx, hv, hrun, Result.andThen]
  exact hK' _ _ (hK w' r1 r2)
/-- 'm[k]' of a map of strings, at the operation. -/
theorem wpList_lookup_own_text {H : Type} {P : Program} (w : World) {ops : Array Oper} {rest : List Oper} {o : Oper} {a : Act} {Q : Exit → Act → World → Prop}
    (hg : o.guard = none) (m x : Operand) (t : TypeId) (hop : o.op = Op.lookup t m x false)
    (k e : TypeId) (K : Keyed P k) (ht : P.underlying t = some (.map k e)) (he : P.underlying e = some .string) (hz : (zeroValue e).run P w = .ok (.string ⟨#[]⟩) w) (b n : Nat) (D : DataW H)
    (hm : a.eval m = .map (some b)) (hown : w.ownsMap P k (plainElem P e) b n D) (key : Value) (kl : Lit) (hx : a.eval x = key) (hkey : keyOf P k key = some kl) (r : ByteArray) (hr : D.atKey kl (.lit (.string [])) = .lit (.string r.data.toList))
    (hK : wpList P ops Q rest (a.put o.dst (.string r)) w) :
    wpList P ops Q (o :: rest) a w := by
  refine wpList_plain hg fun K' hK' => ?_
  obtain ⟨v, ps, hrun, hv⟩ := hown.lookup K ht hz (plainElem_string (s := ⟨#[]⟩) he (by decide)) hkey
  have hr' : D.atKey kl (.lit (.string (⟨#[]⟩ : ByteArray).data.toList)) = .lit (.string r.data.toList) := hr
  rw [hr'] at hv
  obtain ⟨s, rfl, hs⟩ := plainElem_string_inv he hv
  have hsr : s = r := by
    simp only [Prod.mk.injEq, DataW.lit.injEq, Lit.string.injEq] at hs
    obtain ⟨⟨a⟩⟩ := s
    obtain ⟨⟨b⟩⟩ := r
    simp at hs
    rw [hs.1.1]
  subst hsr
  unfold Oper.wp
  simp [execOp, hop, hm, hx, hrun, Result.andThen]
  exact hK' _ _ hK
theorem grown_belowF {w w' : World} {b : Nat} (h : w.grownBy w' (some b)) {w0 : World} (h0 : Below w0.heap.size w0 w) (hb : w0.heap.size ≤ b) : Below w0.heap.size w0 w' :=
  ⟨h.os.trans h0.os, h.tape.trans h0.tape, h.output.trans h0.output, Nat.le_trans h0.size h.size, fun k hk => (h.block k (Nat.lt_of_lt_of_le hk h0.size) (fun e => by cases e; omega)).trans (h0.block k hk)⟩
def flagD : DataW Unit := (((DataW.map []).put (.int .i64 1) (.lit (.string [99]))).put (.int .i64 2) (.lit (.string [122]))).put (.int .i64 128) (.lit (.string [110]))
def flagT (n : Int) : ByteArray := if n = 1 then ⟨#[99]⟩ else if n = 2 then ⟨#[122]⟩ else ⟨#[110]⟩
def digT (n : Int) : ByteArray := if n = 0 then ⟨#[48]⟩ else if n = 1 then ⟨#[49]⟩ else ⟨#[52]⟩
theorem flag_at {n : Int} (h : n = 1 ∨ n = 2 ∨ n = 128) : flagD.atKey (.int .i64 n) (.lit (.string [])) = .lit (.string (flagT n).data.toList) := by
  rcases h with rfl | rfl | rfl <;> rfl
theorem flagT_size (n : Int) : (flagT n).size = 1 := by
  unfold flagT
  repeat' split
  all_goals rfl
theorem digT_size (n : Int) : (digT n).size = 1 := by
  unfold digT
  repeat' split
  all_goals rfl
set_option maxRecDepth 100000 in
set_option maxHeartbeats 4000000 in
theorem stepT24_any (t u n : Int) (hu : u = 0 ∨ u = 1) (hn : n = 1 ∨ n = 2 ∨ n = 128) (w : World) :
    Calls Tryz.prog 39 #[.agg #[.int .i64 24, .int .i64 t, .int .i64 u, .int .i64 n], .func (.func 37) #[] #[]] w fun e w' => e = .returned (.string ((⟨#[102]⟩ ++ digT u) ++ flagT n)) ∧ Below w.heap.size w w' := by
  obtain ⟨k0, bW, sW⟩ := boxes1 w (.cells #[.int .i64 24, .int .i64 t, .int .i64 u, .int .i64 n] 59)
  have k0 : rowB _ _ _ _ := k0
  have s0 := rowB_cell k0 0 (v := .int .i64 24) rfl
  go_enter Tryz.func39, Tryz.ntmps39
  go_upto_region 1 with (fail)
  generalize w.alloc (.cells #[.int .i64 24, .int .i64 t, .int .i64 u, .int .i64 n] 59) = w1 at *
  go_upto_region 2 with (fail)
  go_cut [6] (fun s wx => s = .string ⟨#[102]⟩ ∧ wx = w1)
  case first =>
    go_wp2_with (go_at_call 38; refine (limitS_any _ _ _ _).mono ?_; rintro e w' ⟨rfl, rfl⟩)
    go_meet
    case rel => exact ⟨by kernel_rfl, rfl⟩
  case rest =>
  obtain ⟨rfl, hwc⟩ := hcut
  subst hwc
  go_upto_region 20 with (fail)
  have s2 := rowB_cell k0 2 (v := .int .i64 u) rfl
  have s3 := rowB_cell k0 3 (v := .int .i64 n) rfl
  have hM0 := World.ownsMap_made wc Tryz.prog 3 (plainElem (H := Unit) Tryz.prog 9)
  have b0 := bW.alloc bW.size (.map #[] 0)
  have r0 := rowB_alloc k0 (.map #[] 0)
  have hn0 : w.heap.size ≠ wc.heap.size := by omega
  clear sW
  have hmm := @run_makeMap Tryz.prog
  go_wp2_with (refine wpList_insert_text _ rfl _ _ _ 87 rfl 3 9 (int_keyed Tryz.underlying3) Tryz.underlying87 (plainElem (H := Unit) Tryz.prog 9) wc.heap.size 0 _ rfl hM0 (by decide) _ _ _ rfl rfl (keyOf_int_mk Tryz.underlying3 (by decide)) _ [] (plainElem_string Tryz.underlying9 (by decide)) ?_)
  intro w2 hM1 g1
  have b1 := grown_belowF g1 b0 bW.size
  have r1 : rowB w2 w.heap.size 59 _ := (g1.block _ (rowB_lt r0) (fun e => hn0 (Option.some.inj e))).trans r0
  clear hmm hM0 g1 b0 r0 s2 s3 s0 k0
  go_wp2_with (refine wpList_insert_text _ rfl _ _ _ 87 rfl 3 9 (int_keyed Tryz.underlying3) Tryz.underlying87 (plainElem (H := Unit) Tryz.prog 9) wc.heap.size 1 _ rfl hM1 (by decide) _ _ _ rfl rfl (keyOf_int_mk Tryz.underlying3 (by decide)) _ [] (plainElem_string Tryz.underlying9 (by decide)) ?_)
  intro w3 hM2 g2
  have b2 := grown_belowF g2 b1 bW.size
  have r2 : rowB w3 w.heap.size 59 _ := (g2.block _ (rowB_lt r1) (fun e => hn0 (Option.some.inj e))).trans r1
  clear hM1 g2 b1 r1
  go_wp2_with (refine wpList_insert_text _ rfl _ _ _ 87 rfl 3 9 (int_keyed Tryz.underlying3) Tryz.underlying87 (plainElem (H := Unit) Tryz.prog 9) wc.heap.size 2 _ rfl hM2 (by decide) _ _ _ rfl rfl (keyOf_int_mk Tryz.underlying3 (by decide)) _ [] (plainElem_string Tryz.underlying9 (by decide)) ?_)
  intro w4 hM3 g3
  have b3 := grown_belowF g3 b2 bW.size
  have r3 : rowB w4 w.heap.size 59 _ := (g3.block _ (rowB_lt r2) (fun e => hn0 (Option.some.inj e))).trans r2
  clear hM2 g3 b2 r2
  have s2 := rowB_cell r3 2 (v := .int .i64 u) rfl
  have s3 := rowB_cell r3 3 (v := .int .i64 n) rfl
  have hf := flagT_size n
  have hwf : (Lit.int .i64 n).wf = true := by rcases hn with rfl | rfl | rfl <;> decide
  have HF := Lib.hid (flag_at hn)
  have hU : Utf8.encode (48 + u) = digT u := by rcases hu with rfl | rfl <;> kernel_rfl
  have hU0 : 0 ≤ u ∧ u ≤ 1 := by omega
  have hD := digT_size u
  go_wp2_with (at_lookup; refine wpList_lookup_own_text _ rfl _ _ 87 rfl 3 9 (int_keyed Tryz.underlying3) Tryz.underlying87 Tryz.underlying9 (Tryz.zeroValue9 _) wc.heap.size 3 _ rfl hM3 _ _ rfl (keyOf_int_mk Tryz.underlying3 hwf) (flagT n) HF.out ?_)
  go_ret
  exact ⟨rfl, b3⟩
end Go.Proofs.YtbgjnegojoaimaaGreatDoor
