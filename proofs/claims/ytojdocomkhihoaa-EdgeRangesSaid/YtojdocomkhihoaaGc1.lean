/- Package edge: whole structs loaded and stored in a fenced walk. -/
import Derived.Test.YtojdocomkhihoaaGb1
import Derived.RangeFuncNested
import Derived.RangeFuncBox
import Derived.Shelf.RegionOpen
import Derived.OwnWalkIn
import Derived.TacticsInMore
set_option linter.unusedSimpArgs false
set_option linter.unusedVariables false
namespace Go.Proofs.Ytojdocomkhihoaa
open Go Go.RowKit Go.Shelf Ed

theorem lkIn_load {F : Fence} {n : Nat} {ops : Array Oper} {rest : List Oper} {o : Oper} {a : Act} {w : World} {Q : Exit → Act → World → Prop} (hgd : o.guard = none) (x : Operand) (ho : o.op = .load 89 x)
    (g : Nat) (hx : a.eval x = .pointer (some ⟨g, 0, none⟩)) (tol : Int) (sv ev : Value) (ws : List Int) (hF : LkBlk w g tol sv ev ws) (hm : ws.length = 16)
    (h : wpListIn F n Try.prog ops Q rest (a.put o.dst (.agg (lkC tol sv ev ws))) w) : wpListIn F n Try.prog ops Q (o :: rest) a w := by
  refine wpListIn_plain hgd fun K hK => ?_
  unfold Oper.wpIn
  refine ⟨?_, ?_⟩
  · simp [Oper.about, ho]
  · rw [Oper.semAt_plain F _ _ (by rw [ho]; intro c hc'; cases hc')]
    unfold execOp
    simp only [ho, hx, Instr.loadAt, Instr.sureAddr, Sem.run_bind, Sem.run_pure, Result.andThen_ok, lk_var hF hm]
    exact hK _ _ h
theorem chIn_load {F : Fence} {n : Nat} {ops : Array Oper} {rest : List Oper} {o : Oper} {a : Act} {w : World} {Q : Exit → Act → World → Prop} (hgd : o.guard = none) (x : Operand) (ho : o.op = .load 96 x)
    (g : Nat) (hx : a.eval x = .pointer (some ⟨g, 0, none⟩)) (m : List Int) (hF : ChBlk w g m) (hm : m.length = 5)
    (h : wpListIn F n Try.prog ops Q rest (a.put o.dst (.agg (chC m))) w) : wpListIn F n Try.prog ops Q (o :: rest) a w := by
  refine wpListIn_plain hgd fun K hK => ?_
  unfold Oper.wpIn
  refine ⟨?_, ?_⟩
  · simp [Oper.about, ho]
  · rw [Oper.semAt_plain F _ _ (by rw [ho]; intro c hc'; cases hc')]
    unfold execOp
    simp only [ho, hx, Instr.loadAt, Instr.sureAddr, Sem.run_bind, Sem.run_pure, Result.andThen_ok, ch_var hF hm]
    exact hK _ _ h
theorem chIn_store {F : Fence} {n : Nat} {ops : Array Oper} {rest : List Oper} {o : Oper} {a : Act} {w : World} {Q : Exit → Act → World → Prop} (hgd : o.guard = none) (x y : Operand) (ho : o.op = .store 96 x y)
    (g : Nat) (hx : a.eval x = .pointer (some ⟨g, 0, none⟩)) (m old : List Int) (hy : a.eval y = .agg (chC m)) (hF : ChBlk w g old) (hm : m.length = 5) (ho' : old.length = 5) (hd : o.dst = none)
    (h : wpListIn F n Try.prog ops Q rest a (w.setRow g (chC m))) : wpListIn F n Try.prog ops Q (o :: rest) a w := by
  refine wpListIn_plain hgd fun K hK => ?_
  unfold Oper.wpIn
  refine ⟨?_, ?_⟩
  · simp [Oper.about, ho]
  · rw [Oper.semAt_plain F _ _ (by rw [ho]; intro c hc'; cases hc')]
    unfold execOp
    simp only [ho, hx, hy, Instr.storeAt, Instr.sureAddr, Sem.run_bind, Sem.run_pure, Result.andThen_ok, run_storeVar_row w g 96 96 (chC old) (chC m) hF (by rw [chSize, ch_size, hm]) (by rw [ch_size, ch_size, hm, ho']) (ch_one m)]
    exact hK _ _ (by rw [hd]; exact h)
theorem blk_own {β : Type} (b : Nat) (f : β → Array Value) (t : TypeId) (fr : Nat × Nat) : Own (fun s W => W.heap[b]? = some (.cells (f s) t fr)) := by
  intro s X Y row h hg hr
  refine (hg.block b (lt_of_block h) (fun e => ?_)).trans h
  obtain ⟨o, ho, hc⟩ := hr b e.symm
  have h' : X.heap[b]? = _ := h
  rw [h'] at ho; cases ho; cases hc
theorem lkBlk_own {β : Type} (b : Nat) (tol : Int) (sv ev : Value) (ws : List Int) : Own (fun (_ : β) W => LkBlk W b tol sv ev ws) := blk_own b (fun _ => lkC tol sv ev ws) _ _
theorem chBlk_own {β : Type} (b : Nat) (f : β → List Int) : Own (fun s W => ChBlk W b (f s)) := blk_own b (fun s => chC (f s)) _ _
end Go.Proofs.Ytojdocomkhihoaa
