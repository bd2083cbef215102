/- Package carve: the better one of two ways. -/
import Derived.Test.YtnciomoapajonaaCwn
import Derived.Test.YtnciomoapajonaaCwa
set_option linter.unusedSimpArgs false
set_option linter.unusedVariables false
namespace Go.Proofs.Ytnciomoapajonaa
open Go Go.RowKit Go.Shelf Cv

def wayV (a : Int × Nd) : Value := .agg #[.int .i64 a.1, .int .i64 a.2.1, .int .i64 a.2.2]
def rkA (q : Bool) : Value := if q then .agg #[.int .i64 1, .int .i64 0] else .agg #[.int .i64 0, .int .i64 1]
/-- What is before what, as a function that is handed on. -/
def rkV (q : Bool) : Value := .func (.func 70) #[rkA q] #[]
theorem before_any (q : Bool) (a b : Int × Nd) (w : World) : Calls Try.prog 70 #[rkA q, wayV a, wayV b] w fun e w' => e = .returned (.bool (ltN q a.2 b.2)) ∧ Below w.heap.size w w' := by
  obtain ⟨h, p, m⟩ := a
  obtain ⟨h', p', m'⟩ := b
  cases q
  · exact before_01 h p m h' p' m' w
  · have := before_10 h p m h' p' m' w
    exact this
theorem al3 (w : World) (A B C : Obj) : ∃ W, ((w.alloc A).alloc B).alloc C = W ∧ W.heap[w.heap.size]? = some A ∧ W.heap[w.heap.size + 1]? = some B ∧ W.heap[w.heap.size + 1 + 1]? = some C ∧ Below w.heap.size w W ∧ W.heap.size = w.heap.size + 3 := by
  refine ⟨_, rfl, ?_, ?_, ?_, ?_, ?_⟩
  · have h := heap_alloc_new w A
    have h2 := (Below.heap_alloc _ B _ (lt_of_block h)).trans h
    exact (Below.heap_alloc _ C _ (lt_of_block h2)).trans h2
  · have h := heap_alloc_new (w.alloc A) B
    rw [show (w.alloc A).heap.size = w.heap.size + 1 by simp] at h
    exact (Below.heap_alloc _ C _ (lt_of_block h)).trans h
  · have h := heap_alloc_new ((w.alloc A).alloc B) C
    rw [show ((w.alloc A).alloc B).heap.size = w.heap.size + 1 + 1 by simp] at h
    exact h
  · go_grown
  · simp
theorem way_result {fn : Func} {p : Tmp} (h : fn.results = #[.cell p 119]) (tmps : Array Value) (w : World) (g : Nat) (x y z : Value)
    (hp : tmps.getD p undef = .pointer (some ⟨g, 0, none⟩)) (hg : w.heap[g]? = some (.cells #[x, y, z] 119 (0, 0))) :
    (results fn tmps).run Try.prog w = .ok (.agg #[x, y, z]) w := by
  have c0 : w.cell? ⟨g, 0, none⟩ = some x := cellOf hg 0 _ rfl
  have c1 : w.cell? ⟨g, 1, none⟩ = some y := cellOf hg 1 _ rfl
  have c2 : w.cell? ⟨g, 2, none⟩ = some z := cellOf hg 2 _ rfl
  have hp' : tmps[p]?.getD undef = .pointer (some ⟨g, 0, none⟩) := by simpa using hp
  simp only [results, h]
  simp [Sem.run_bind, Result.andThen, hp', asAddr, go_sem, c0, c1, c2]
set_option maxRecDepth 100000 in
set_option maxHeartbeats 2000000 in
theorem better_any (q : Bool) (a b : Int × Nd) (w : World) : Calls Try.prog 91 #[wayV a, wayV b, rkV q] w fun e w' => e = .returned (wayV (bet q a b)) ∧ Below w.heap.size w w' := by
  obtain ⟨h, p, m⟩ := a
  obtain ⟨h', p', m'⟩ := b
  have HBF := Lib.hid (before_any q (h', p', m') (h, p, m))
  have HBT : Hid (bet q (h, p, m) (h', p', m') = if ltN q (p', m') (p, m) then (h', p', m') else (h, p, m)) := rfl
  generalize ltN q (p', m') (p, m) = t at *
  have HA := Lib.hid (al3 w (Obj.cells #[.int .i64 h, .int .i64 p, .int .i64 m] 119) (Obj.cells #[.int .i64 h', .int .i64 p', .int .i64 m'] 119) (Obj.cells #[.int .i64 0, .int .i64 0, .int .i64 0] 119))
  unfold wayV rkV at *
  simp only at *
  go_enter Try.func91, Try.ntmps91
  go_wp2_with fail
  obtain ⟨W0, hW0, hA1, hA2, hA3, hB, _⟩ := HA.out
  rw [hW0]
  have HA1 := Lib.hid hA1
  have HA2 := Lib.hid hA2
  have HA3 := Lib.hid hA3
  have HB := Lib.hid hB
  clear hA1 hA2 hA3 hB hW0 HA
  refine (HBF.out W0).mono ?_
  rintro e w1 ⟨rfl, hb⟩
  have HC1 := Lib.hid ((hb.block _ (lt_of_block HA1.out)).trans HA1.out)
  have HC2 := Lib.hid ((hb.block _ (lt_of_block HA2.out)).trans HA2.out)
  have HC3 := Lib.hid ((hb.block _ (lt_of_block HA3.out)).trans HA3.out)
  have HB1 := Lib.hid (HB.out.trans (hb.mono HB.out.size))
  clear hb HA1 HA2 HA3 HB HBF
  have a0 := cellOf HC1.out 0 _ rfl
  have a1 := cellOf HC1.out 1 _ rfl
  have a2 := cellOf HC1.out 2 _ rfl
  have b0 := cellOf HC2.out 0 _ rfl
  have b1 := cellOf HC2.out 1 _ rfl
  have b2 := cellOf HC2.out 2 _ rfl
  have c0 := cellOf HC3.out 0 _ rfl
  have c1 := cellOf HC3.out 1 _ rfl
  have c2 := cellOf HC3.out 2 _ rfl
  have f0 := frozen_of_row _ _ 0 _ _ HC3.out
  have f1 := frozen_of_row _ _ 1 _ _ HC3.out
  have f2 := frozen_of_row _ _ 2 _ _ HC3.out
  cases t
  · go_wp2_with fail
    refine bodyPost_ret (way_result rfl _ _ (w.heap.size + 1 + 1) _ _ _ rfl (three_set HC3.out)) rfl ⟨by rw [HBT.out]; rfl, three_below HB1.out (by omega)⟩
  · go_wp2_with fail
    refine bodyPost_ret (way_result rfl _ _ (w.heap.size + 1 + 1) _ _ _ rfl (three_set HC3.out)) rfl ⟨by rw [HBT.out]; rfl, three_below HB1.out (by omega)⟩
end Go.Proofs.Ytnciomoapajonaa
