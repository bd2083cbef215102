/- Package scale: models as a function that is ranged over; the test of Least. -/
import Derived.Test.YthflbbjilebhlaaUv
import Derived.Test.YthflbbjilebhlaaVb
set_option linter.unusedSimpArgs false
set_option linter.unusedVariables false
namespace Go.Proofs.Ythflbbjilebhlaa
open Go Go.RowKit Go.Shelf Sc
attribute [local go_sem] Oper.semAt_some

set_option maxRecDepth 100000 in
theorem models_any (C : Array Value) (F0 : Nat) (cps : Array Value) (w : World) (h : ∃ a b c d e f g, C = #[a, b, c, d, e, f, g]) :
    Calls Try.prog 67 #[.agg C, .func (.func F0) #[] cps] w fun e w' => e = .returned (.func (.func 99) #[] #[.pointer (some ⟨w.heap.size + 1, 0, none⟩), .pointer (some ⟨w.heap.size, 0, none⟩)]) ∧ (w.alloc (.cells C 95)).alloc (.cells #[.func (.func F0) #[] cps] 118) = w' := by
  obtain ⟨a, b, c, d, e, f, g, rfl⟩ := h
  go_enter Try.func67, Try.ntmps67
  go_wp2_with fail
  go_ret
  exact ⟨rfl, rfl⟩
theorem valid_road {c : Cse} (hV : Valid c) (r : Int × Int) (hr : r ∈ c.rds) : RoadIn c r := by
  have h := hV.rd r hr
  exact ⟨h.1, h.2.1, h.2.2.1, h.2.2.2.1⟩
/-- Is no road flat? -/
def seenB (c : Cse) (s : Scl) : Bool := !(c.rds.any (flatR c s))
set_option maxRecDepth 100000 in
set_option maxHeartbeats 4000000 in
theorem least1_any (c : Cse) (hv rv : Value) (s : Scl) (bC : Nat) (w : World) (hC : CseAt w c hv rv) (hV : Valid c) (hs : 1 ≤ s.1 ∧ s.1 ≤ 30 ∧ 1 ≤ s.2)
    (hb : w.heap[bC]? = some (.cells #[.int .i64 c.kind, .int .i64 c.base, .int .i64 c.most, hv, rv] 25 (0, 0))) :
    Calls Try.prog 73 #[.agg (mdC (mdP c hv rv s) (cut8 c s)), .pointer (some ⟨bC, 0, none⟩)] w fun e w' => e = .returned (.bool (seenB c s)) ∧ Below w.heap.size w w' := by
  have hA : ∀ W1, Below w.heap.size w W1 → _ := fun W1 hb1 => rany_any c hv rv rv s c.rds W1 (hC.rd.below hb1) hV.r8 (hC.below hb1) hV hs (fun r hr => valid_road hV r hr)
  obtain ⟨R, hR⟩ : ∃ R, c.rds.any (flatR c s) = R := ⟨_, rfl⟩
  have hA2 := hA
  unfold seenB
  rw [hR] at hA2 ⊢
  have HA := Lib.hid hA2
  obtain ⟨W, hW, hG, hbw⟩ : ∃ W, w.alloc (Obj.cells (mdC (mdP c hv rv s) (cut8 c s)) 99) = W ∧ MdBlk W w.heap.size (mdP c hv rv s) (cut8 c s) ∧ Below w.heap.size w W := ⟨_, rfl, heap_alloc_new _ _, by go_grown⟩
  have HW := Lib.hid hW
  have HG := Lib.hid hG
  have HB := Lib.hid hbw
  have HPL := Lib.hid (mdP_len c hv rv s)
  have HC8 := Lib.hid (cut8_len c s)
  generalize mdP c hv rv s = p at *
  generalize cut8 c s = cs at *
  obtain ⟨ra, rn, rc, rfl⟩ : ∃ a n c, rv = .slice a n c := by obtain ⟨_, a, cap, h, _⟩ := hC.rd; exact ⟨_, _, _, h⟩
  have c4 := cellOf ((hbw.block _ (lt_of_block hb)).trans hb) 4 (.slice ra rn rc) rfl
  have cl := lt_of_block ((hbw.block _ (lt_of_block hb)).trans hb)
  clear hA hA2 hR hW hG hbw hb hC hV hs
  go_enter Try.func73, Try.ntmps73
  go_upto_region 1 with fail
  rw [HW.out]
  go_wp2_with (refine md_load rfl (.tmp 2) rfl w.heap.size rfl p cs HG.out HPL.out HC8.out ?_)
  refine (HA.out _ HB.out).mono ?_
  rintro e w2 ⟨rfl, hb⟩
  have HB2 := Lib.hid (HB.out.trans (hb.mono HB.out.size))
  clear hb
  go_wp2_with fail
  go_ret
  exact ⟨rfl, HB2.out⟩
/-- An operation that yields a value and is no call, within a fence. -/
theorem wpListIn_val {F : Fence} {n : Nat} {P : Program} {ops : Array Oper} {rest : List Oper} {o : Oper} {a : Act} {w : World} {Q : Exit → Act → World → Prop} (hg : o.guard = none) (ha : o.about P w a.eval = none) (hd : ∀ c, o.op ≠ .defer c)
    (v : Value) (w' : World) (hrun : (execOp a.eval o).run P w = .ok (.value v) w') (h : wpListIn F n P ops Q rest (a.put o.dst v) w') : wpListIn F n P ops Q (o :: rest) a w := by
  refine wpListIn_plain hg fun K hK => ?_
  unfold Oper.wpIn
  refine ⟨fun f hf => (by rw [ha] at hf; cases hf), ?_⟩
  rw [Oper.semAt_plain F _ _ hd, hrun, Oper.uponIn_value]
  exact hK _ _ h
theorem md_loadIn {F : Fence} {n : Nat} {ops : Array Oper} {rest : List Oper} {o : Oper} {a : Act} {w : World} {Q : Exit → Act → World → Prop} (hgd : o.guard = none) (x : Operand) (ho : o.op = .load 99 x)
    (g : Nat) (hx : a.eval x = .pointer (some ⟨g, 0, none⟩)) (p : List Value) (cs : List Int) (hF : MdBlk w g p cs) (hp : p.length = 9) (hm : cs.length = 8)
    (h : wpListIn F n Try.prog ops Q rest (a.put o.dst (.agg (mdC p cs))) w) : wpListIn F n Try.prog ops Q (o :: rest) a w :=
  wpListIn_val hgd (by simp [Oper.about, ho]) (by rw [ho]; intro c e; cases e) _ w (exec_md ho hx w hF hp hm) h
/-- A model in its cell, and whether there is one. -/
theorem md_results {fn : Func} {q u : Tmp} (h : fn.results = #[.cell q 99, .cell u 4]) (tmps : Array Value) (w : World) (g g2 : Nat) (p : List Value) (cs : List Int) (b : Bool)
    (hp : tmps.getD q undef = .pointer (some ⟨g, 0, none⟩)) (hq : tmps.getD u undef = .pointer (some ⟨g2, 0, none⟩)) (hF : MdBlk w g p cs) (hl : p.length = 9) (hm : cs.length = 8) (hg2 : w.heap[g2]? = some (.cells #[.bool b] 4 (0, 0))) :
    (results fn tmps).run Try.prog w = .ok (.tuple #[.agg (mdC p cs), .bool b]) w := by
  have h1 := run_loadVar_row (P := Try.prog) w g 99 99 (mdC p cs) (0, 0) _ hF Try.underlying99 rfl (by rw [mdSize, md_size, hl, hm])
  have c2 : w.cell? ⟨g2, 0, none⟩ = some (.bool b) := cellOf hg2 0 _ rfl
  have hp' : tmps[q]?.getD undef = .pointer (some ⟨g, 0, none⟩) := by simpa using hp
  have hq' : tmps[u]?.getD undef = .pointer (some ⟨g2, 0, none⟩) := by simpa using hq
  simp only [results, h]
  simp [Sem.run_bind, Result.andThen, hp', hq', asAddr, h1]
  simp [go_sem, c2]
end Go.Proofs.Ythflbbjilebhlaa
