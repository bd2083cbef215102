/- Package carve: Prevents. -/
import Derived.Test.YtnciomoapajonaaCwe
import Derived.Test.YtnciomoapajonaaHeld
set_option linter.unusedSimpArgs false
set_option linter.unusedVariables false
namespace Go.Proofs.Ytnciomoapajonaa
open Go Go.RowKit Go.Shelf Cv
attribute [local go_sem] Oper.semAt_some

theorem keepS2 {W w w' : World} {b : Nat} {v1 v2 : Value} (h : w.cell? ⟨b, 0, none⟩ = some v1 ∧ w.cell? ⟨b, 1, none⟩ = some v2 ∧ Below W.heap.size W w) (hb : Below w.heap.size w w') :
    w'.cell? ⟨b, 0, none⟩ = some v1 ∧ w'.cell? ⟨b, 1, none⟩ = some v2 ∧ Below W.heap.size W w' := by
  obtain ⟨h1, h2, h3⟩ := h
  exact ⟨(hb.cell (p := ⟨b, 0, none⟩) (World.block_lt_of_cell? w _ h1)).trans h1, (hb.cell (p := ⟨b, 1, none⟩) (World.block_lt_of_cell? w _ h2)).trans h2, h3.trans (hb.mono h3.size)⟩
theorem keepsFrom_below {B : Nat} {W W' : World} (h : Below W.heap.size W W') : KeepsFrom B W W' := ⟨h.size, fun k _ _ hk _ => (h.block k (lt_of_block hk)).trans hk⟩
/-- By how much two points differ at least. -/
def farL (l : List Pt) (a b : Nat) : Int := max 0 (max ((l.getD a default).lo - (l.getD b default).hi) ((l.getD b default).lo - (l.getD a default).hi))
def badB (st : Int) (l : List Pt) (p : Nat × Nat) : Bool := decide (st * ((p.2 : Int) - p.1) < farL l p.1 p.2)
/-- What Prevents answers. -/
def prevR (r : Row) : Int × Int × Int :=
  if errR r = 0 then (match (pairsL r.pts.length).find? (badB r.st r.pts) with | some p => ((p.1 : Int), (p.2 : Int), 0) | none => (0, 0, 4)) else (0, 0, errR r)
theorem prev_res {fn : Func} {p q u : Tmp} (h : fn.results = #[.cell p 3, .cell q 3, .cell u 25]) (tmps : Array Value) (w : World) (g1 g2 g3 : Nat) (x y z : Value)
    (hp : tmps.getD p undef = .pointer (some ⟨g1, 0, none⟩)) (hq : tmps.getD q undef = .pointer (some ⟨g2, 0, none⟩)) (hu : tmps.getD u undef = .pointer (some ⟨g3, 0, none⟩))
    (h1 : w.heap[g1]? = some (.cells #[x] 3 (0, 0))) (h2 : w.heap[g2]? = some (.cells #[y] 3 (0, 0))) (h3 : w.heap[g3]? = some (.cells #[z] 25 (0, 0))) :
    (results fn tmps).run Try.prog w = .ok (.tuple #[x, y, z]) w := by
  have c0 : w.cell? ⟨g1, 0, none⟩ = some x := cellOf h1 0 _ rfl
  have c1 : w.cell? ⟨g2, 0, none⟩ = some y := cellOf h2 0 _ rfl
  have c2 : w.cell? ⟨g3, 0, none⟩ = some z := cellOf h3 0 _ rfl
  have hp' : tmps[p]?.getD undef = .pointer (some ⟨g1, 0, none⟩) := by simpa using hp
  have hq' : tmps[q]?.getD undef = .pointer (some ⟨g2, 0, none⟩) := by simpa using hq
  have hu' : tmps[u]?.getD undef = .pointer (some ⟨g3, 0, none⟩) := by simpa using hu
  simp only [results, h]
  simp [Sem.run_bind, Result.andThen, hp', hq', hu', asAddr, go_sem, c0, c1, c2]
theorem st3 {W w0 : World} {B a b c : Nat} {t1 t2 t3 : TypeId} {z1 z2 z3 : Value} (x y z : Value) (h1 : W.heap[a]? = some (.cells #[z1] t1 (0, 0))) (h2 : W.heap[b]? = some (.cells #[z2] t2 (0, 0))) (h3 : W.heap[c]? = some (.cells #[z3] t3 (0, 0)))
    (n1 : a ≠ b) (n2 : a ≠ c) (n3 : b ≠ c) (b1 : B ≤ a) (b2 : B ≤ b) (b3 : B ≤ c) (hB : Below B w0 W) :
    (((W.setCell ⟨a, 0, none⟩ x).setCell ⟨b, 0, none⟩ y).setCell ⟨c, 0, none⟩ z).heap[a]? = some (.cells #[x] t1 (0, 0)) ∧
    (((W.setCell ⟨a, 0, none⟩ x).setCell ⟨b, 0, none⟩ y).setCell ⟨c, 0, none⟩ z).heap[b]? = some (.cells #[y] t2 (0, 0)) ∧
    (((W.setCell ⟨a, 0, none⟩ x).setCell ⟨b, 0, none⟩ y).setCell ⟨c, 0, none⟩ z).heap[c]? = some (.cells #[z] t3 (0, 0)) ∧
    Below B w0 (((W.setCell ⟨a, 0, none⟩ x).setCell ⟨b, 0, none⟩ y).setCell ⟨c, 0, none⟩ z) ∧ KeepsOthers W (((W.setCell ⟨a, 0, none⟩ x).setCell ⟨b, 0, none⟩ y).setCell ⟨c, 0, none⟩ z) := by
  have p1 : (W.setCell ⟨a, 0, none⟩ x).heap[a]? = some (.cells #[x] t1 (0, 0)) := heap_setCell_same W a 0 _ _ x h1
  have p2 : ((W.setCell ⟨a, 0, none⟩ x).setCell ⟨b, 0, none⟩ y).heap[a]? = some (.cells #[x] t1 (0, 0)) := (Below.heap_setCell _ ⟨b, 0, none⟩ y a n1).trans p1
  have q1 : (W.setCell ⟨a, 0, none⟩ x).heap[b]? = some (.cells #[z2] t2 (0, 0)) := (Below.heap_setCell _ ⟨a, 0, none⟩ x b (Ne.symm n1)).trans h2
  have q2 : ((W.setCell ⟨a, 0, none⟩ x).setCell ⟨b, 0, none⟩ y).heap[b]? = some (.cells #[y] t2 (0, 0)) := heap_setCell_same _ b 0 _ _ y q1
  have r1 : (W.setCell ⟨a, 0, none⟩ x).heap[c]? = some (.cells #[z3] t3 (0, 0)) := (Below.heap_setCell _ ⟨a, 0, none⟩ x c (Ne.symm n2)).trans h3
  have r2 : ((W.setCell ⟨a, 0, none⟩ x).setCell ⟨b, 0, none⟩ y).heap[c]? = some (.cells #[z3] t3 (0, 0)) := (Below.heap_setCell _ ⟨b, 0, none⟩ y c (Ne.symm n3)).trans r1
  exact ⟨(Below.heap_setCell _ ⟨c, 0, none⟩ z a n2).trans p2, (Below.heap_setCell _ ⟨c, 0, none⟩ z b n3).trans q2, heap_setCell_same _ c 0 _ _ z r2,
    ((hB.setCell (p := ⟨a, 0, none⟩) b1 x).setCell (p := ⟨b, 0, none⟩) b2 y).setCell (p := ⟨c, 0, none⟩) b3 z, (KeepsOthers.setCell _ _ _).trans ((KeepsOthers.setCell _ _ _).trans (KeepsOthers.setCell _ _ _))⟩
/-- Three results, as they stand when an error is handed on. -/
def SE (w : World) (a b c : Nat) (e : Value) (W : World) : Prop :=
  (W.heap[a]? = some (.cells #[.int .i64 0] 3 (0, 0)) ∧ W.heap[b]? = some (.cells #[.int .i64 0] 3 (0, 0)) ∧ W.heap[c]? = some (.cells #[e] 25 (0, 0)) ∧ Below w.heap.size w W) ∧ (a < b ∧ b < c ∧ w.heap.size ≤ a)
theorem SE.drew {w : World} {a b c : Nat} {e : Value} {W : World} (h : SE w a b c e W) : SE w a b c e W.drew := ⟨⟨h.1.1, h.1.2.1, h.1.2.2.1, h.1.2.2.2.drew⟩, h.2⟩
theorem SE.cell {w : World} {a b c : Nat} {e : Value} {W : World} (h : SE w a b c e W) : W.cell? ⟨c, 0, none⟩ = some e := cellOf h.1.2.2.1 0 _ rfl
theorem SE.keepA {w : World} {a b c : Nat} {e : Value} {W : World} (h : W.cell? ⟨c, 0, none⟩ = some e ∧ SE w a b c e W) : (W.setCell ⟨a, 0, none⟩ (.int .i64 0)).cell? ⟨c, 0, none⟩ = some e ∧ SE w a b c e (W.setCell ⟨a, 0, none⟩ (.int .i64 0)) := by
  obtain ⟨_, ⟨h1, h2, h3, h4⟩, n1, n2, n3⟩ := h
  have q : SE w a b c e (W.setCell ⟨a, 0, none⟩ (.int .i64 0)) := ⟨⟨heap_setCell_same W a 0 _ _ _ h1, (Below.heap_setCell _ ⟨a, 0, none⟩ _ b (by simp; omega)).trans h2, (Below.heap_setCell _ ⟨a, 0, none⟩ _ c (by simp; omega)).trans h3, h4.setCell (p := ⟨a, 0, none⟩) n3 _⟩, n1, n2, n3⟩
  exact ⟨q.cell, q⟩
theorem SE.keepB {w : World} {a b c : Nat} {e : Value} {W : World} (h : W.cell? ⟨c, 0, none⟩ = some e ∧ SE w a b c e W) : (W.setCell ⟨b, 0, none⟩ (.int .i64 0)).cell? ⟨c, 0, none⟩ = some e ∧ SE w a b c e (W.setCell ⟨b, 0, none⟩ (.int .i64 0)) := by
  obtain ⟨_, ⟨h1, h2, h3, h4⟩, n1, n2, n3⟩ := h
  have q : SE w a b c e (W.setCell ⟨b, 0, none⟩ (.int .i64 0)) := ⟨⟨(Below.heap_setCell _ ⟨b, 0, none⟩ _ a (by simp; omega)).trans h1, heap_setCell_same W b 0 _ _ _ h2, (Below.heap_setCell _ ⟨b, 0, none⟩ _ c (by simp; omega)).trans h3, h4.setCell (p := ⟨b, 0, none⟩) (show w.heap.size ≤ b by omega) _⟩, n1, n2, n3⟩
  exact ⟨q.cell, q⟩
theorem SE.keepC {w : World} {a b c : Nat} {e : Value} {W : World} (h : W.cell? ⟨c, 0, none⟩ = some e ∧ SE w a b c e W) : (W.setCell ⟨c, 0, none⟩ e).cell? ⟨c, 0, none⟩ = some e ∧ SE w a b c e (W.setCell ⟨c, 0, none⟩ e) := by
  obtain ⟨_, ⟨h1, h2, h3, h4⟩, n1, n2, n3⟩ := h
  have q : SE w a b c e (W.setCell ⟨c, 0, none⟩ e) := ⟨⟨(Below.heap_setCell _ ⟨c, 0, none⟩ _ a (by simp; omega)).trans h1, (Below.heap_setCell _ ⟨c, 0, none⟩ _ b (by simp; omega)).trans h2, heap_setCell_same W c 0 _ _ _ h3, h4.setCell (p := ⟨c, 0, none⟩) (show w.heap.size ≤ c by omega) _⟩, n1, n2, n3⟩
  exact ⟨q.cell, q⟩
theorem find_first {α : Type} (p : α → Bool) (l pre : List α) (x : α) (h : pre ++ [x] <+: l) (hp : pre.all (fun y => !p y) = true) (hx : p x = true) : l.find? p = some x := by
  obtain ⟨t, rfl⟩ := h
  rw [List.append_assoc, List.find?_append]
  have : pre.find? p = none := by
    rw [List.find?_eq_none]
    intro y hy
    have := List.all_eq_true.1 hp y hy
    simpa using this
  rw [this]
  simp [hx]
theorem find_no {α : Type} (p : α → Bool) (l : List α) (hp : l.all (fun y => !p y) = true) : l.find? p = none := by
  rw [List.find?_eq_none]
  intro y hy
  have := List.all_eq_true.1 hp y hy
  simpa using this
theorem al4 (w : World) (A B C D : Obj) : ∃ W, (((w.alloc A).alloc B).alloc C).alloc D = W ∧ W.heap[w.heap.size + 1]? = some B ∧ W.heap[w.heap.size + 1 + 1]? = some C ∧ W.heap[w.heap.size + 1 + 1 + 1]? = some D ∧ Below w.heap.size w W ∧ W.heap.size = w.heap.size + 4 := by
  refine ⟨_, rfl, ?_, ?_, ?_, ?_, ?_⟩
  · have h := heap_alloc_new (w.alloc A) B
    rw [show (w.alloc A).heap.size = w.heap.size + 1 by simp] at h
    have h2 := (Below.heap_alloc _ C _ (lt_of_block h)).trans h
    exact (Below.heap_alloc _ D _ (lt_of_block h2)).trans h2
  · have h := heap_alloc_new ((w.alloc A).alloc B) C
    rw [show ((w.alloc A).alloc B).heap.size = w.heap.size + 1 + 1 by simp] at h
    exact (Below.heap_alloc _ D _ (lt_of_block h)).trans h
  · have h := heap_alloc_new (((w.alloc A).alloc B).alloc C) D
    rw [show (((w.alloc A).alloc B).alloc C).heap.size = w.heap.size + 1 + 1 + 1 by simp] at h
    exact h
  · go_grown
  · simp
def noBad (st : Int) (l : List Pt) {n : Nat} (pre : List (Pr n)) : Bool := (pre.map (·.1)).all fun y => !badB st l y
set_option maxRecDepth 100000 in
set_option maxHeartbeats 4000000 in
theorem prevents_any (r : Row) (pv : Value) (w : World) (hP : PtsAt w pv r.pts) :
    Calls Try.prog 21 #[.agg #[.int .i64 r.st, pv]] w fun e w' => e = .returned (.tuple #[.int .i64 (prevR r).1, .int .i64 (prevR r).2.1, .int .i64 (prevR r).2.2]) ∧ Below w.heap.size w w' := by
  obtain ⟨st, pts⟩ := r
  simp only at hP ⊢
  obtain ⟨lp, pa, pc, rfl, _, _⟩ := id hP
  refine (callsIn_wide (n := 4)).1 ?_
  refine callsIn_of_wp_marks Try.func21 rfl trivial ?_ rfl
  simp only [Try.ntmps21, List.size_toArray, List.length_cons, List.length_nil, Nat.reduceAdd, Nat.reduceSub, Array.replicate_succ, Array.replicate_zero, List.push_toArray, List.append_toArray, List.nil_append, List.cons_append]
  obtain ⟨W0, hW0, HX, HY, HE, HB, hs⟩ := al4 w (Obj.cells #[.int .i64 st, .slice pa pts.length pc] 24) (Obj.cells #[.int .i64 0] 3) (Obj.cells #[.int .i64 0] 3) (Obj.cells #[.int .i64 0] 25)
  have HP0 := Lib.hid (hP.below HB)
  have HX := Lib.hid HX
  have HY := Lib.hid HY
  have HE := Lib.hid HE
  have HB := Lib.hid HB
  have HW0 := Lib.hid hW0
  clear hW0
  gi_wp2_with fail
  rw [HW0.out]
  clear HW0
  refine ⟨trivial, ?_⟩
  by_cases hz : errR ⟨st, pts⟩ = 0
  · refine (callsIn_wide.2 (look_ok ⟨st, pts⟩ (.slice pa pts.length pc) W0 HP0.out hz)).mono ?_
    rintro e w1 ⟨rfl, hb⟩
    have hs1 := hb.size
    have HX1 := Lib.hid ((hb.block _ (lt_of_block HX.out)).trans HX.out)
    have HY1 := Lib.hid ((hb.block _ (lt_of_block HY.out)).trans HY.out)
    have HE1 := Lib.hid ((hb.block _ (lt_of_block HE.out)).trans HE.out)
    have HB1 := Lib.hid (HB.out.trans (hb.mono HB.out.size))
    have e0 := cellOf HE1.out 0 _ rfl
    have e1 := frozen_of_row _ _ 0 _ _ HE1.out
    have hV := (check_valid ⟨st, pts⟩).1 hz
    have HZ := Lib.hid hz
    have HV := Lib.hid hV
    have HPW := Lib.hid hP
    have hel := lt_of_block HE1.out
    clear hb hz hV hP HX HY HE HB HP0
    gi_wp2_with fail
    obtain ⟨V, HV0, HX2, HY2, HE2, HL2, HB2, hs2⟩ : ∃ V, Hid ((w1.setCell ⟨w.heap.size + 1 + 1 + 1, 0, none⟩ (.int .i64 0)).alloc (Obj.cells #[.int .i64 st, .slice pa pts.length pc] 76) = V) ∧ Hid (V.heap[w.heap.size + 1]? = some (.cells #[.int .i64 0] 3 (0, 0))) ∧ Hid (V.heap[w.heap.size + 1 + 1]? = some (.cells #[.int .i64 0] 3 (0, 0))) ∧ Hid (V.heap[w.heap.size + 1 + 1 + 1]? = some (.cells #[.int .i64 0] 25 (0, 0))) ∧ Hid (V.heap[w1.heap.size]? = some (.cells #[.int .i64 st, .slice pa pts.length pc] 76 (0, 0))) ∧ Hid (Below w.heap.size w V) ∧ V.heap.size = w1.heap.size + 1 := by
      have q1 : (w1.setCell ⟨w.heap.size + 1 + 1 + 1, 0, none⟩ (.int .i64 0)).heap[w.heap.size + 1]? = some (.cells #[.int .i64 0] 3 (0, 0)) := (heap_setCell_other w1 (⟨w.heap.size + 1 + 1 + 1, 0, none⟩ : Addr) _ _ (by simp)).trans HX1.out
      have q2 : (w1.setCell ⟨w.heap.size + 1 + 1 + 1, 0, none⟩ (.int .i64 0)).heap[w.heap.size + 1 + 1]? = some (.cells #[.int .i64 0] 3 (0, 0)) := (heap_setCell_other w1 (⟨w.heap.size + 1 + 1 + 1, 0, none⟩ : Addr) _ _ (by simp)).trans HY1.out
      have q3 : (w1.setCell ⟨w.heap.size + 1 + 1 + 1, 0, none⟩ (.int .i64 0)).heap[w.heap.size + 1 + 1 + 1]? = some (.cells #[.int .i64 0] 25 (0, 0)) := heap_setCell_same w1 _ 0 _ _ _ HE1.out
      have q4 : Below w.heap.size w (w1.setCell ⟨w.heap.size + 1 + 1 + 1, 0, none⟩ (.int .i64 0)) := HB1.out.setCell (p := ⟨w.heap.size + 1 + 1 + 1, 0, none⟩) (show w.heap.size ≤ w.heap.size + 1 + 1 + 1 by omega) _
      have q5 := heap_alloc_new (w1.setCell ⟨w.heap.size + 1 + 1 + 1, 0, none⟩ (.int .i64 0)) (Obj.cells #[.int .i64 st, .slice pa pts.length pc] 76)
      have q6 := q4.alloc q4.size (Obj.cells #[.int .i64 st, .slice pa pts.length pc] 76)
      rw [show (w1.setCell ⟨w.heap.size + 1 + 1 + 1, 0, none⟩ (.int .i64 0)).heap.size = w1.heap.size by simp] at q5
      exact ⟨_, rfl, (Below.heap_alloc _ _ _ (lt_of_block q1)).trans q1, (Below.heap_alloc _ _ _ (lt_of_block q2)).trans q2, (Below.heap_alloc _ _ _ (lt_of_block q3)).trans q3, q5, q6, by simp⟩
    rw [HV0.out]
    clear HV0 HX1 HY1 HE1 HB1 e0 e1 hel
    obtain ⟨bl, hbl⟩ : ∃ bl, w1.heap.size = bl := ⟨_, rfl⟩
    have hbl4 : w.heap.size + 4 ≤ bl := by omega
    rw [hbl] at HL2 hs2 ⊢
    clear hs1 hbl
    refine ⟨trivial, ?_⟩
    refine (pairs_in 3 st (.slice pa pts.length pc) _).mono ?_
    rintro e w3 ⟨rfl, rfl⟩
    have HX3 := Lib.hid ((Below.heap_alloc V (Obj.cells #[.int .i64 st, .slice pa pts.length pc] 76) _ (lt_of_block HX2.out)).trans HX2.out)
    have HY3 := Lib.hid ((Below.heap_alloc V (Obj.cells #[.int .i64 st, .slice pa pts.length pc] 76) _ (lt_of_block HY2.out)).trans HY2.out)
    have HE3 := Lib.hid ((Below.heap_alloc V (Obj.cells #[.int .i64 st, .slice pa pts.length pc] 76) _ (lt_of_block HE2.out)).trans HE2.out)
    have HL3 := Lib.hid ((Below.heap_alloc V (Obj.cells #[.int .i64 st, .slice pa pts.length pc] 76) _ (lt_of_block HL2.out)).trans HL2.out)
    have HN3 := Lib.hid (heap_alloc_new V (Obj.cells #[.int .i64 st, .slice pa pts.length pc] 76))
    have HB3 := Lib.hid (HB2.out.alloc HB2.out.size (Obj.cells #[.int .i64 st, .slice pa pts.length pc] 76))
    have hs3 : (V.alloc (Obj.cells #[.int .i64 st, .slice pa pts.length pc] 76)).heap.size = bl + 2 := by simp [hs2]
    rw [hs2] at HN3 ⊢
    generalize V.alloc (Obj.cells #[.int .i64 st, .slice pa pts.length pc] 76) = W3 at *
    clear HX2 HY2 HE2 HL2 HB2 hs2
    gi_wp2_with fail
    have hstop := prs_stops 3 (by omega) (bl + 1) st pa pts.length pc HV.out.n10 W3 HN3.out
    refine wpIn_rangeFunc_ownH rfl (by omega) (gf := 76) (lb := #[.pointer (some ⟨bl + 1, 0, none⟩)]) rfl trivial (enters_of Try.func76 (by kernel_rfl) rfl)
      hstop (fun h k => KB.trans h k) (fun W l o o' hl _ _ _ => KB.putObj W l o' (by omega)) (Below.refl _ _) (fun _ => rfl)
      (fun pre W => W.heap[w.heap.size + 1]? = some (.cells #[.int .i64 0] 3 (0, 0)) ∧ W.heap[w.heap.size + 1 + 1]? = some (.cells #[.int .i64 0] 3 (0, 0)) ∧ W.heap[w.heap.size + 1 + 1 + 1]? = some (.cells #[.int .i64 0] 25 (0, 0)) ∧ W.heap[bl]? = some (.cells #[.int .i64 st, .slice pa pts.length pc] 76 (0, 0)) ∧ Below w.heap.size w W ∧ noBad st pts pre = true)
      (fun c pre W => c = .ret ∧ ∃ p0 : List (Pr pts.length), ∃ x : Pr pts.length, pre = p0 ++ [x] ∧ noBad st pts p0 = true ∧ badB st pts x.1 = true ∧ W.heap[w.heap.size + 1]? = some (.cells #[.int .i64 (x.1.1 : Int)] 3 (0, 0)) ∧ W.heap[w.heap.size + 1 + 1]? = some (.cells #[.int .i64 (x.1.2 : Int)] 3 (0, 0)) ∧ W.heap[w.heap.size + 1 + 1 + 1]? = some (.cells #[.int .i64 0] 25 (0, 0)) ∧ Below w.heap.size w W)
      (OwnFrom.and (Own.from (blk_own _ (fun _ => #[.int .i64 0]) _ _) _) (OwnFrom.and (Own.from (blk_own _ (fun _ => #[.int .i64 0]) _ _) _) (OwnFrom.and (Own.from (blk_own _ (fun _ => #[.int .i64 0]) _ _) _) (OwnFrom.and (Own.from (blk_own _ (fun _ => #[.int .i64 st, .slice pa pts.length pc]) _ _) _) (OwnFrom.and (ownFrom_below (Nat.le_refl _) (by omega)) (ownFrom_pure _ _))))))
      ?hIx
      ⟨HX3.out, HY3.out, HE3.out, HL3.out, HB3.out, rfl⟩
      (fun x a' W => a' = { tmps := #[.agg #[.int .i64 st, .slice pa pts.length pc], .pointer (some ⟨w.heap.size, 0, none⟩), .pointer (some ⟨w.heap.size + 1, 0, none⟩), .pointer (some ⟨w.heap.size + 1 + 1, 0, none⟩), .pointer (some ⟨w.heap.size + 1 + 1 + 1, 0, none⟩), .pointer (some ⟨bl, 0, none⟩), .int .i64 (x.1.1 : Int), .int .i64 (x.1.2 : Int), .tuple #[.agg #[.int .i64 st, .slice pa pts.length pc], .int .i64 0], .agg #[.int .i64 st, .slice pa pts.length pc], .tuple #[.agg #[.int .i64 st, .slice pa pts.length pc], .int .i64 0], .agg #[.int .i64 st, .slice pa pts.length pc], .int .i64 0, .int .i64 0, .bool false, undef, .agg #[.int .i64 st, .slice pa pts.length pc], .func (.func 76) #[] #[.pointer (some ⟨bl + 1, 0, none⟩)], .int .i64 (x.1.1 : Int), .int .i64 (x.1.2 : Int), undef, undef, undef, undef, undef, undef, undef, undef, undef, undef, undef, undef, undef, undef], defers := [] })
      ?hAx ?assign ?body ?done ?stop
    case hIx =>
      rintro c pre X Y row ⟨rfl, p0, x, rfl, k1, k2, h1, h2, h3, h4⟩ hg hr
      have B := fun (b : Nat) (C : Array Value) (t : TypeId) (fr : Nat × Nat) (h : X.heap[b]? = some (.cells C t fr)) => (blk_own b (fun _ : Unit => C) t fr () X Y row h hg (fun r e => (hr r e).2) : Y.heap[b]? = some (.cells C t fr))
      exact ⟨rfl, p0, x, rfl, k1, k2, B _ _ _ _ h1, B _ _ _ _ h2, B _ _ _ _ h3, ownFrom_below (β := Unit) (Nat.le_refl _) (by omega) () X Y row h4 hg hr⟩
    case hAx => exact fun x a' _ X Y row h _ _ => h
    case assign =>
      rintro l pre ⟨⟨a, b⟩, hab⟩ W K hI hK
      unfold encP
      gi_wp2
      exact hK _ _ (KeepsFrom.refl _ _) (KB.refl _ _) hI rfl
    case body =>
      rintro l pre ⟨⟨a, b⟩, hab⟩ a' W hl ⟨r, hr⟩ ⟨iX, iY, iE, iL, iB, iN⟩ rfl hlt
      have ha : a < pts.length := by have := hab.1; have := hab.2; simp only at *; omega
      have hb : b < pts.length := hab.2
      have hab1 : a < b := hab.1
      have n10 := HV.out.n10
      simp only at n10
      have HAP : Hid (∀ w', Below W.heap.size W w' → Calls Try.prog 57 #[.agg #[.int .i64 st, .slice pa pts.length pc], .int .i64 (a : Int), .int .i64 (b : Int)] w' fun e w'' => e = .returned (.int .i64 (farL pts a b)) ∧ Below w'.heap.size w' w'') := by
        intro w' hbw
        have h := apart_any st (.slice pa pts.length pc) pts a b w' ((HPW.out.below iB).below hbw) ha hb HV.out.ok
        have e : farL pts a b = max 0 (max (pts[a].lo - pts[b].hi) (pts[b].lo - pts[a].hi)) := by simp [farL, List.getD_eq_getElem?_getD, ha, hb]
        rw [e]
        exact h
      have l0 : W.cell? ⟨bl, 0, none⟩ = some (.int .i64 st) := cellOf iL 0 _ rfl
      have l1 : W.cell? ⟨bl, 1, none⟩ = some (.slice pa pts.length pc) := cellOf iL 1 _ rfl
      obtain ⟨dd, hdd⟩ : ∃ dd : Int, (b : Int) - a = dd := ⟨_, rfl⟩
      have s0 := HV.out.s0
      have s2 := HV.out.s200
      simp only at s0 s2
      have d1 : 1 ≤ dd := by omega
      have d9 : dd ≤ 9 := by omega
      have HM0 : 0 ≤ st * dd := Int.mul_nonneg s0 (by omega)
      have HM9 : st * dd ≤ 1800 := by have := Int.mul_le_mul s2 d9 (by omega) (show (0 : Int) ≤ 200 by omega); omega
      have wd : IntKind.i64.wrap ((b : Int) - a) = dd := by rw [IntKind.wrap_i64]; omega
      have wm : IntKind.i64.wrap (st * dd) = st * dd := by rw [IntKind.wrap_i64]; omega
      have HBD : Hid (badB st pts (a, b) = decide (st * dd < farL pts a b)) := by show _ = _; unfold badB; simp only; rw [hdd]
      obtain ⟨mm, hmm⟩ : ∃ mm, st * dd = mm := ⟨_, rfl⟩
      have wm := wm.trans hmm
      rw [hmm] at HBD HM0 HM9
      have HMM := Lib.hid hmm
      have HDD := Lib.hid hdd
      have HIX := Lib.hid iX
      have HIY := Lib.hid iY
      have HIE := Lib.hid iE
      have HIL := Lib.hid iL
      have HIB := Lib.hid iB
      have HIN := Lib.hid iN
      generalize farL pts a b = ff at *
      clear hmm hdd iX iY iE iL iB iN hlt hstop s0 s2 ha hb n10
      simp only
      refine wpIn_block ?_
      refine wpIn_seq_k (fun K0 hK0 => ?_)
      refine wpIn_region_held (S := (fun W' => W'.cell? ⟨bl, 0, none⟩ = some (.int .i64 st) ∧ W'.cell? ⟨bl, 1, none⟩ = some (.slice pa pts.length pc) ∧ Below W.heap.size W W')) (by kernel_rfl) (by kernel_rfl) (by rintro ⟨_, _, h⟩; exact h) ?_ (fun hh0 => ?_)
      · try dsimp only
        exact ⟨l0, l1, (Below.refl _ _).drew⟩
      refine wpAnyH_take (i := 0) (v := ?_) rfl (by as_aux_lemma => kernel_rfl) (by as_aux_lemma => kernel_rfl) (by as_aux_lemma => kernel_rfl) (fun _ _ _ h => h) (Or.inl ⟨by rfl, ?_⟩) (by assumption) ?_
      rotate_left
      · intro w hSw
        try dsimp only at hSw
        go_simp
        try with_reducible rfl
      try simp only [Act.put, List.getElem_toArray, List.getElem_cons_succ, List.getElem_cons_zero, List.setIfInBounds_toArray, List.set_cons_zero, List.set_cons_succ]
      refine wpAnyH_take (i := 1) (v := ?_) rfl (by as_aux_lemma => kernel_rfl) (by as_aux_lemma => kernel_rfl) (by as_aux_lemma => kernel_rfl) (fun _ _ _ h => h) (Or.inl ⟨by rfl, ?_⟩) (by assumption) ?_
      rotate_left
      · intro w hSw
        try dsimp only at hSw
        go_simp
        try with_reducible rfl
      try simp only [Act.put, List.getElem_toArray, List.getElem_cons_succ, List.getElem_cons_zero, List.setIfInBounds_toArray, List.set_cons_zero, List.set_cons_succ]
      refine wpAnyH_take (i := 2) (v := ?_) rfl (by as_aux_lemma => kernel_rfl) (by as_aux_lemma => kernel_rfl) (by as_aux_lemma => kernel_rfl) (fun _ _ _ h => h) (Or.inl ⟨by rfl, ?_⟩) (by assumption) ?_
      rotate_left
      · intro w hSw
        try dsimp only at hSw
        go_simp
        try with_reducible rfl
      try simp only [Act.put, List.getElem_toArray, List.getElem_cons_succ, List.getElem_cons_zero, List.setIfInBounds_toArray, List.set_cons_zero, List.set_cons_succ]
      refine wpAnyH_take (i := 4) (v := ?_) rfl (by as_aux_lemma => kernel_rfl) (by as_aux_lemma => kernel_rfl) (by as_aux_lemma => kernel_rfl) (fun _ _ _ h => h) (Or.inl ⟨by rfl, ?_⟩) (by assumption) ?_
      rotate_left
      · intro w hSw
        try dsimp only at hSw
        go_simp
        try with_reducible rfl
      try simp only [Act.put, List.getElem_toArray, List.getElem_cons_succ, List.getElem_cons_zero, List.setIfInBounds_toArray, List.set_cons_zero, List.set_cons_succ]
      refine wpAnyH_take (i := 5) (v := ?_) rfl (by as_aux_lemma => kernel_rfl) (by as_aux_lemma => kernel_rfl) (by as_aux_lemma => kernel_rfl) (fun _ _ _ h => h) (Or.inl ⟨by rfl, ?_⟩) (by assumption) ?_
      rotate_left
      · intro w hSw
        try dsimp only at hSw
        go_simp
        try with_reducible rfl
      try simp only [Act.put, List.getElem_toArray, List.getElem_cons_succ, List.getElem_cons_zero, List.setIfInBounds_toArray, List.set_cons_zero, List.set_cons_succ]
      refine wpAnyH_take (i := 6) (v := ?_) rfl (by as_aux_lemma => kernel_rfl) (by as_aux_lemma => kernel_rfl) (by as_aux_lemma => kernel_rfl) (fun _ _ _ h => h) (Or.inl ⟨by rfl, ?_⟩) (by assumption) ?_
      rotate_left
      · intro w hSw
        try dsimp only at hSw
        go_simp
        try with_reducible rfl
      try simp only [Act.put, List.getElem_toArray, List.getElem_cons_succ, List.getElem_cons_zero, List.setIfInBounds_toArray, List.set_cons_zero, List.set_cons_succ]
      refine wpAnyH_take (i := 7) (v := ?_) rfl (by as_aux_lemma => kernel_rfl) (by as_aux_lemma => kernel_rfl) (by as_aux_lemma => kernel_rfl) (fun _ _ _ h => h) (Or.inl ⟨by rfl, ?_⟩) (by assumption) ?_
      rotate_left
      · intro w hSw
        try dsimp only at hSw
        go_simp
        try with_reducible rfl
      try simp only [Act.put, List.getElem_toArray, List.getElem_cons_succ, List.getElem_cons_zero, List.setIfInBounds_toArray, List.set_cons_zero, List.set_cons_succ]
      refine wpAnyH_take (i := 8) (v := ?_) rfl (by as_aux_lemma => kernel_rfl) (by as_aux_lemma => kernel_rfl) (by as_aux_lemma => kernel_rfl) (fun _ _ _ h => h) (Or.inl ⟨by rfl, ?_⟩) (by assumption) ?_
      rotate_left
      · intro w hSw
        try dsimp only at hSw
        go_simp
        try with_reducible rfl
      try simp only [Act.put, List.getElem_toArray, List.getElem_cons_succ, List.getElem_cons_zero, List.setIfInBounds_toArray, List.set_cons_zero, List.set_cons_succ]
      refine wpAnyH_take (i := 9) (v := ?_) rfl (by as_aux_lemma => kernel_rfl) (by as_aux_lemma => kernel_rfl) (by as_aux_lemma => kernel_rfl) (fun _ _ _ h => h) (Or.inl ⟨by rfl, ?_⟩) (by assumption) ?_
      rotate_left
      · intro w hSw
        try dsimp only at hSw
        go_simp
        try with_reducible rfl
      try simp only [Act.put, List.getElem_toArray, List.getElem_cons_succ, List.getElem_cons_zero, List.setIfInBounds_toArray, List.set_cons_zero, List.set_cons_succ]
      refine wpAnyH_take (i := 10) (v := ?_) rfl (by as_aux_lemma => kernel_rfl) (by as_aux_lemma => kernel_rfl) (by as_aux_lemma => kernel_rfl) (fun _ _ _ h => h) (Or.inl ⟨by rfl, ?_⟩) (by assumption) ?_
      rotate_left
      · intro w hSw
        try dsimp only at hSw
        go_simp
        try with_reducible rfl
      try simp only [Act.put, List.getElem_toArray, List.getElem_cons_succ, List.getElem_cons_zero, List.setIfInBounds_toArray, List.set_cons_zero, List.set_cons_succ]
      refine wpAnyH_ready (rs := [3]) (by as_aux_lemma => kernel_rfl) (by simp) ?_
      refine AllReadyH.cons rfl (fun K hK => ?_) AllReadyH.nil
      go_simp
      refine (HAP.out _ hh0.2.2).mono ?_
      rintro e w' ⟨rfl, hb⟩
      refine hK.out _ _ ?_ (fun hh1 => ?_)
      · try dsimp only
        exact keepS2 hh0 hb
      clear hK K hh0
      try simp only [Act.put, List.getElem_toArray, List.getElem_cons_succ, List.getElem_cons_zero, List.setIfInBounds_toArray, List.set_cons_zero, List.set_cons_succ]
      refine wpAnyH_take (i := 11) (v := ?_) rfl (by as_aux_lemma => kernel_rfl) (by as_aux_lemma => kernel_rfl) (by as_aux_lemma => kernel_rfl) (fun _ _ _ h => h) (Or.inl ⟨by rfl, ?_⟩) (by assumption) ?_
      rotate_left
      · intro w hSw
        try dsimp only at hSw
        go_simp
        try with_reducible rfl
      try simp only [Act.put, List.getElem_toArray, List.getElem_cons_succ, List.getElem_cons_zero, List.setIfInBounds_toArray, List.set_cons_zero, List.set_cons_succ]
      refine wpAnyH_done (by as_aux_lemma => kernel_rfl) ?_ _
      refine hK0 _ _ ?_
      clear hK0 K0
      have B6 := hh1.2.2
      have jX := Lib.hid ((B6.block _ (lt_of_block HIX.out)).trans HIX.out)
      have jY := Lib.hid ((B6.block _ (lt_of_block HIY.out)).trans HIY.out)
      have jE := Lib.hid ((B6.block _ (lt_of_block HIE.out)).trans HIE.out)
      have jL := Lib.hid ((B6.block _ (lt_of_block HIL.out)).trans HIL.out)
      have jB := Lib.hid (HIB.out.trans (B6.mono HIB.out.size))
      have jB6 := Lib.hid B6
      have f1 := frozen_of_row _ _ 0 _ _ jX.out
      have f2 := frozen_of_row _ _ 0 _ _ jY.out
      have f3 := frozen_of_row _ _ 0 _ _ jE.out
      have k1 := cellOf jX.out 0 _ rfl
      have k2 := cellOf jY.out 0 _ rfl
      have k3 := cellOf jE.out 0 _ rfl
      have u1 := lt_of_block jX.out
      have u2 := lt_of_block jY.out
      have u3 := lt_of_block jE.out
      clear B6 hh1 HAP l0 l1 wd
      by_cases hq : mm < ff
      · have HQ := Lib.hid hq
        gi_wp2_with fail
        obtain ⟨m1, m2, m3, m4, m5⟩ := st3 (B := w.heap.size) (w0 := w) (.int .i64 (a : Int)) (.int .i64 (b : Int)) (.int .i64 0) jX.out jY.out jE.out (by omega) (by omega) (by omega) (by omega) (by omega) (by omega) jB.out
        exact ⟨(keepsFrom_below jB6.out).trans (m5.from _), rfl, pre, ⟨(a, b), hab⟩, rfl, HIN.out, by rw [HBD.out]; exact decide_eq_true HQ.out, m1, m2, m3, m4⟩
      · have HQ := Lib.hid hq
        gi_wp2_with fail
        refine ⟨keepsFrom_below jB6.out, KB.below jB6.out, jX.out, jY.out, jE.out, jL.out, jB.out, ?_⟩
        unfold noBad
        rw [List.map_append, List.all_append]
        have e1 := HIN.out
        unfold noBad at e1
        rw [e1]
        have e2 := HBD.out
        rw [decide_eq_false (by have := HQ.out; omega)] at e2
        simp [e2]
    case done =>
      rintro D ys W hD hys ⟨iX, iY, iE, iL, iB, iN⟩ hK
      have HK := Lib.hid hK
      have HIX := Lib.hid iX
      have HIY := Lib.hid iY
      have HIE := Lib.hid iE
      have HIB := Lib.hid iB
      have HPR : Hid (prevR ⟨st, pts⟩ = (0, 0, 4)) := by
        show _ = _
        unfold prevR
        rw [if_pos HZ.out]
        have := find_no (badB st pts) (pairsL pts.length) (by rw [← hys]; exact iN)
        simp only [this]
      have f1 := frozen_of_row _ _ 0 _ _ iX
      have f2 := frozen_of_row _ _ 0 _ _ iY
      have f3 := frozen_of_row _ _ 0 _ _ iE
      have k1 := cellOf iX 0 _ rfl
      have k2 := cellOf iY 0 _ rfl
      have k3 := cellOf iE 0 _ rfl
      have u1 := lt_of_block iX
      have u2 := lt_of_block iY
      have u3 := lt_of_block iE
      have uD := lt_of_block hK
      clear iX iY iE iL iB iN hK hys hstop
      gi_wp2_with fail
      obtain ⟨m1, m2, m3, m4, m5⟩ := st3 (B := w.heap.size) (w0 := w) (.int .i64 0) (.int .i64 0) (.int .i64 4) HIX.out HIY.out HIE.out (by omega) (by omega) (by omega) (by omega) (by omega) (by omega) HIB.out
      have HK2 := m5.same D _ HK.out rfl
      refine ⟨by simp, .inl ⟨_, _, rfl, run_takeDeferred HK2, ?_⟩⟩
      exact ⟨_, prev_res rfl _ _ (w.heap.size + 1) (w.heap.size + 1 + 1) (w.heap.size + 1 + 1 + 1) _ _ _ rfl rfl rfl (KB.putObj _ _ _ (by omega) _ m1) (KB.putObj _ _ _ (by omega) _ m2) (KB.putObj _ _ _ (by omega) _ m3), by rw [HPR.out], m4.trans (belowK_b (w := w) (Nat.le_refl _) _ D _ _ (by omega) HK2 rfl rfl)⟩
    case stop =>
      rintro D c pre W hD hsp ⟨rfl, p0, x, rfl, k1, k2, h1, h2, h3, h4⟩ hK
      have HK := Lib.hid hK
      have H1 := Lib.hid h1
      have H2 := Lib.hid h2
      have H3 := Lib.hid h3
      have H4 := Lib.hid h4
      have HPR : Hid (prevR ⟨st, pts⟩ = ((x.1.1 : Int), (x.1.2 : Int), 0)) := by
        show _ = _
        unfold prevR
        rw [if_pos HZ.out]
        rw [List.map_append] at hsp
        unfold noBad at k1
        have := find_first (badB st pts) (pairsL pts.length) (p0.map (fun x => x.1)) x.1 hsp k1 k2
        simp only [this]
      clear h1 h2 h3 h4 hK hsp k1 k2 hstop
      gi_wp2_with fail
      refine ⟨by simp, .inl ⟨_, _, rfl, run_takeDeferred HK.out, ?_⟩⟩
      exact ⟨_, prev_res rfl _ _ (w.heap.size + 1) (w.heap.size + 1 + 1) (w.heap.size + 1 + 1 + 1) _ _ _ rfl rfl rfl (KB.putObj _ _ _ (by omega) _ H1.out) (KB.putObj _ _ _ (by omega) _ H2.out) (KB.putObj _ _ _ (by omega) _ H3.out), by rw [HPR.out], H4.out.trans (belowK_b (w := w) (Nat.le_refl _) _ D _ _ (by omega) HK.out rfl rfl)⟩
  · refine (callsIn_wide.2 (look_no ⟨st, pts⟩ (.slice pa pts.length pc) W0 HP0.out hz)).mono ?_
    rintro e w1 ⟨rfl, hb⟩
    have hs1 := hb.size
    have HX1 := Lib.hid ((hb.block _ (lt_of_block HX.out)).trans HX.out)
    have HY1 := Lib.hid ((hb.block _ (lt_of_block HY.out)).trans HY.out)
    have HE1 := Lib.hid ((hb.block _ (lt_of_block HE.out)).trans HE.out)
    have HB1 := Lib.hid (HB.out.trans (hb.mono HB.out.size))
    have e0 := cellOf HE1.out 0 _ rfl
    have e1 := frozen_of_row _ _ 0 _ _ HE1.out
    have hel := lt_of_block HE1.out
    have HPR : Hid (prevR ⟨st, pts⟩ = (0, 0, errR ⟨st, pts⟩)) := by
      show _ = _
      unfold prevR
      rw [if_neg hz]
    generalize errR ⟨st, pts⟩ = er at *
    have tz : (er != 0) = true := by simp [hz]
    clear hb hz hP HX HY HE HB HP0
    gi_wp2_with fail
    obtain ⟨V, HV0, hSE⟩ : ∃ V, Hid ((w1.setCell ⟨w.heap.size + 1 + 1 + 1, 0, none⟩ (.int .i64 er)).alloc (Obj.cells #[.int .i64 0, .slice none 0 0] 76) = V) ∧ SE w (w.heap.size + 1) (w.heap.size + 1 + 1) (w.heap.size + 1 + 1 + 1) (.int .i64 er) V := by
      have q1 := (heap_setCell_other w1 (⟨w.heap.size + 1 + 1 + 1, 0, none⟩ : Addr) (w.heap.size + 1) (.int .i64 er) (by simp)).trans HX1.out
      have q2 := (heap_setCell_other w1 (⟨w.heap.size + 1 + 1 + 1, 0, none⟩ : Addr) (w.heap.size + 1 + 1) (.int .i64 er) (by simp)).trans HY1.out
      have q3 := heap_setCell_same w1 (w.heap.size + 1 + 1 + 1) 0 _ _ (.int .i64 er) HE1.out
      have q4 : Below w.heap.size w (w1.setCell ⟨w.heap.size + 1 + 1 + 1, 0, none⟩ (.int .i64 er)) := HB1.out.setCell (p := ⟨w.heap.size + 1 + 1 + 1, 0, none⟩) (show w.heap.size ≤ w.heap.size + 1 + 1 + 1 by omega) _
      exact ⟨_, rfl, ⟨(Below.heap_alloc _ _ _ (lt_of_block q1)).trans q1, (Below.heap_alloc _ _ _ (lt_of_block q2)).trans q2, (Below.heap_alloc _ _ _ (lt_of_block q3)).trans q3, q4.alloc q4.size _⟩, by omega, by omega, by omega⟩
    rw [HV0.out]
    clear HV0 HX1 HY1 HE1 HB1 e0 e1 hel
    have e0 := hSE.cell
    refine wpIn_wide.2 ?_
    refine wp_region_noPanic ?_
    refine wp_region_held_drew (S := (fun W' => W'.cell? ⟨w.heap.size + 1 + 1 + 1, 0, none⟩ = some (.int .i64 er) ∧ SE w (w.heap.size + 1) (w.heap.size + 1 + 1) (w.heap.size + 1 + 1 + 1) (.int .i64 er) W')) (by kernel_rfl) ?_ (fun hh0 => ?_)
    · try dsimp only
      exact ⟨e0, hSE.drew⟩
    refine wpAnyH_take (i := 0) (v := ?_) rfl (by as_aux_lemma => kernel_rfl) (by as_aux_lemma => kernel_rfl) (by as_aux_lemma => kernel_rfl) (fun _ _ _ h => h) (Or.inl ⟨by rfl, ?_⟩) (by assumption) ?_
    rotate_left
    · intro w hSw
      try dsimp only at hSw
      go_simp
      try with_reducible rfl
    try simp only [Act.put, List.getElem_toArray, List.getElem_cons_succ, List.getElem_cons_zero, List.setIfInBounds_toArray, List.set_cons_zero, List.set_cons_succ]
    refine wpAnyH_ready (rs := [1]) (by as_aux_lemma => kernel_rfl) (by simp) ?_
    refine AllReadyH.cons rfl (fun K hK => ?_) AllReadyH.nil
    have g1 := hh0.2.1.1
    have g2 := hh0.2.1.2.1
    have g3 := hh0.2.1.2.2.1
    have fz1 := frozen_of_row _ _ 0 _ _ g1
    have fz2 := frozen_of_row _ _ 0 _ _ g2
    have fz3 := frozen_of_row _ _ 0 _ _ g3
    have ca1 := cellOf g1 0 _ rfl
    have ca2 := cellOf g2 0 _ rfl
    have ca3 := cellOf g3 0 _ rfl
    go_simp
    clear g1 g2 g3 fz1 fz2 fz3 ca1 ca2 ca3
    refine hK.out _ _ ?_ (fun hh1 => ?_)
    · try dsimp only
      exact SE.keepA hh0
    clear hK K hh0
    try simp only [Act.put, List.getElem_toArray, List.getElem_cons_succ, List.getElem_cons_zero, List.setIfInBounds_toArray, List.set_cons_zero, List.set_cons_succ]
    refine wpAnyH_ready (rs := [2]) (by as_aux_lemma => kernel_rfl) (by simp) ?_
    refine AllReadyH.cons rfl (fun K hK => ?_) AllReadyH.nil
    have g1 := hh1.2.1.1
    have g2 := hh1.2.1.2.1
    have g3 := hh1.2.1.2.2.1
    have fz1 := frozen_of_row _ _ 0 _ _ g1
    have fz2 := frozen_of_row _ _ 0 _ _ g2
    have fz3 := frozen_of_row _ _ 0 _ _ g3
    have ca1 := cellOf g1 0 _ rfl
    have ca2 := cellOf g2 0 _ rfl
    have ca3 := cellOf g3 0 _ rfl
    go_simp
    clear g1 g2 g3 fz1 fz2 fz3 ca1 ca2 ca3
    refine hK.out _ _ ?_ (fun hh2 => ?_)
    · try dsimp only
      exact SE.keepB hh1
    clear hK K hh1
    try simp only [Act.put, List.getElem_toArray, List.getElem_cons_succ, List.getElem_cons_zero, List.setIfInBounds_toArray, List.set_cons_zero, List.set_cons_succ]
    refine wpAnyH_ready (rs := [3]) (by as_aux_lemma => kernel_rfl) (by simp) ?_
    refine AllReadyH.cons rfl (fun K hK => ?_) AllReadyH.nil
    have g1 := hh2.2.1.1
    have g2 := hh2.2.1.2.1
    have g3 := hh2.2.1.2.2.1
    have fz1 := frozen_of_row _ _ 0 _ _ g1
    have fz2 := frozen_of_row _ _ 0 _ _ g2
    have fz3 := frozen_of_row _ _ 0 _ _ g3
    have ca1 := cellOf g1 0 _ rfl
    have ca2 := cellOf g2 0 _ rfl
    have ca3 := cellOf g3 0 _ rfl
    go_simp
    clear g1 g2 g3 fz1 fz2 fz3 ca1 ca2 ca3
    refine hK.out _ _ ?_ (fun hh3 => ?_)
    · try dsimp only
      exact SE.keepC hh2
    clear hK K hh2
    try simp only [Act.put, List.getElem_toArray, List.getElem_cons_succ, List.getElem_cons_zero, List.setIfInBounds_toArray, List.set_cons_zero, List.set_cons_succ]
    refine wpAnyH_done (by as_aux_lemma => kernel_rfl) ?_ _
    refine NoPanic.normal ?_
    have SQ := hh3.2
    have m3 := Lib.hid SQ.1.2.2.2
    have m0 := Lib.hid SQ.1.1
    have m1 := Lib.hid SQ.1.2.1
    have m2 := Lib.hid SQ.1.2.2.1
    clear SQ hh3 e0 hSE
    gi_wp2_with fail
    exact ⟨_, prev_res rfl _ _ (w.heap.size + 1) (w.heap.size + 1 + 1) (w.heap.size + 1 + 1 + 1) _ _ _ rfl rfl rfl m0.out m1.out m2.out, by rw [HPR.out], m3.out⟩
end Go.Proofs.Ytnciomoapajonaa
