/- Package carve: what a step needs. -/
import Derived.Test.YtnciomoapajonaaCvq
import Derived.Test.YtnciomoapajonaaCvr
import Derived.BigQuiet
set_option linter.unusedSimpArgs false
set_option linter.unusedVariables false
namespace Go.Proofs.Ytnciomoapajonaa
open Go Go.RowKit Cv
theorem al_first (w : World) (A B C : Obj) (nq : Nat) : Hid (((((w.alloc A).alloc B).alloc C).drewN nq).heap[w.heap.size]? = some A) :=
  (Below.heap_alloc _ _ _ (lt_of_block ((Below.heap_alloc _ _ _ (lt_of_block (heap_alloc_new w A))).trans (heap_alloc_new w A)))).trans ((Below.heap_alloc _ _ _ (lt_of_block (heap_alloc_new w A))).trans (heap_alloc_new w A))
theorem al_last (w : World) (A B C : Obj) (nq : Nat) : Hid (((((w.alloc A).alloc B).alloc C).drewN nq).heap[w.heap.size + 1 + 1]? = some C) := by
  have h := heap_alloc_new ((w.alloc A).alloc B) C
  rw [show ((w.alloc A).alloc B).heap.size = w.heap.size + 1 + 1 by simp] at h
  exact h
theorem need_result {fn : Func} {p : Tmp} (h : fn.results = #[.cell p 104]) (tmps : Array Value) (w : World) (g : Nat) (x y : Value)
    (hp : tmps.getD p undef = .pointer (some ⟨g, 0, none⟩)) (hg : w.heap[g]? = some (.cells #[x, y] 104 (0, 0))) :
    (results fn tmps).run Try.prog w = .ok (.agg #[x, y]) w := by
  have c0 : w.cell? ⟨g, 0, none⟩ = some x := cellOf hg 0 _ rfl
  have c1 : w.cell? ⟨g, 1, none⟩ = some y := cellOf hg 1 _ rfl
  have hp' : tmps[p]?.getD undef = .pointer (some ⟨g, 0, none⟩) := by simpa using hp
  simp only [results, h]
  simp [Sem.run_bind, Result.andThen, hp', asAddr, go_sem, c0, c1]
theorem bel2 {w W w4 w5 : World} (h : Below w.heap.size w W) (hb : Below W.heap.size W w4) (hb2 : Below w4.heap.size w4 w5) : Below w.heap.size w w5 :=
  (h.trans (hb.mono h.size)).trans (hb2.mono (Nat.le_trans h.size hb.size))
theorem bel2d {w W w4 w5 : World} (h : Below w.heap.size w W) (hb : Below W.drew.heap.size W.drew w4) (hb2 : Below w4.heap.size w4 w5) : Below w.heap.size w w5 :=
  (h.drew.trans (hb.mono h.size)).trans (hb2.mono (Nat.le_trans h.size hb.size))
theorem keep2c {w w' : World} {b : Nat} {v1 v2 : Value} (h : w.cell? ⟨b, 0, none⟩ = some v1 ∧ w.cell? ⟨b, 1, none⟩ = some v2) (hb : Below w.heap.size w w') : w'.cell? ⟨b, 0, none⟩ = some v1 ∧ w'.cell? ⟨b, 1, none⟩ = some v2 := by
  obtain ⟨h1, h2⟩ := h
  exact ⟨(hb.cell (p := ⟨b, 0, none⟩) (World.block_lt_of_cell? w _ h1)).trans h1, (hb.cell (p := ⟨b, 1, none⟩) (World.block_lt_of_cell? w _ h2)).trans h2⟩
theorem keep2s {w : World} {b q : Nat} {v1 v2 x y : Value} (h : w.cell? ⟨b, 0, none⟩ = some v1 ∧ w.cell? ⟨b, 1, none⟩ = some v2) (hne : b ≠ q) : ((w.setCell ⟨q, 0, none⟩ x).setCell ⟨q, 1, none⟩ y).cell? ⟨b, 0, none⟩ = some v1 ∧ ((w.setCell ⟨q, 0, none⟩ x).setCell ⟨q, 1, none⟩ y).cell? ⟨b, 1, none⟩ = some v2 := by
  have e : ((w.setCell ⟨q, 0, none⟩ x).setCell ⟨q, 1, none⟩ y).heap[b]? = w.heap[b]? := (heap_setCell_other (w.setCell ⟨q, 0, none⟩ x) (⟨q, 1, none⟩ : Addr) b y hne).trans (heap_setCell_other w (⟨q, 0, none⟩ : Addr) b x hne)
  unfold World.cell? at h ⊢
  rw [e]
  exact h

set_option maxRecDepth 100000 in
set_option maxHeartbeats 4000000 in
theorem step_ahead (st : Int) (pv bv : Value) (pts : List Pt) (g h : Int) (w : World) (hP : PtsAt w pv pts) (hk : 0 < pts.length) (h0 : 0 ≤ h) (h9 : h ≤ 9000) (hok : ∀ p, p ∈ pts → PtOk p) :
    Calls Try.prog 92 #[.agg #[.int .i64 st, pv, bv], .agg #[.int .i64 (-1), .int .i64 g], .int .i64 h] w fun e w' => e = .returned (.agg #[.int .i64 (max 0 (h - pts[0].bd)), .int .i64 (max (0 : Int) (max (0 : Int) (pts[0].bd - h) - (0 : Int)))]) ∧ Below w.heap.size w w' := by
  obtain ⟨lp, pa, pc, rfl, _, _⟩ := id hP
  have HP0 := Lib.hid hP
  have HK := Lib.hid hk
  have HOK := Lib.hid hok
  have b0 := (hok pts[0] (List.getElem_mem _)).b0
  have b9 := (hok pts[0] (List.getElem_mem _)).b9
  clear hP hok
  go_enter Try.func92, Try.ntmps92
  go_wp2_with fail
  go_quiet (fail)
  go_wp2_with fail
  have HB : Hid (Below w.heap.size w ((((w.alloc (Obj.cells #[.int .i64 st, .slice pa pts.length pc, bv] 78)).alloc (Obj.cells #[.int .i64 (-1), .int .i64 g] 123)).alloc (Obj.cells #[.int .i64 0, .int .i64 0] 104)).drewN nq)) := by
    show Below _ _ _
    have hB0 : Below w.heap.size w (((w.alloc (Obj.cells #[.int .i64 st, .slice pa pts.length pc, bv] 78)).alloc (Obj.cells #[.int .i64 (-1), .int .i64 g] 123)).alloc (Obj.cells #[.int .i64 0, .int .i64 0] 104)) := by go_grown
    exact hB0.trans ⟨rfl, rfl, rfl, Nat.le_refl _, fun _ _ => rfl⟩
  have HA : Hid (((((w.alloc (Obj.cells #[.int .i64 st, .slice pa pts.length pc, bv] 78)).alloc (Obj.cells #[.int .i64 (-1), .int .i64 g] 123)).alloc (Obj.cells #[.int .i64 0, .int .i64 0] 104)).drewN nq).heap[w.heap.size]? = some (Obj.cells #[.int .i64 st, .slice pa pts.length pc, bv] 78 (0, 0))) := al_first w _ _ _ nq
  have HZ : Hid (((((w.alloc (Obj.cells #[.int .i64 st, .slice pa pts.length pc, bv] 78)).alloc (Obj.cells #[.int .i64 (-1), .int .i64 g] 123)).alloc (Obj.cells #[.int .i64 0, .int .i64 0] 104)).drewN nq).heap[w.heap.size + 1 + 1]? = some (Obj.cells #[.int .i64 0, .int .i64 0] 104 (0, 0))) := al_last w _ _ _ nq
  generalize ((((w.alloc (Obj.cells #[.int .i64 st, .slice pa pts.length pc, bv] 78)).alloc (Obj.cells #[.int .i64 (-1), .int .i64 g] 123)).alloc (Obj.cells #[.int .i64 0, .int .i64 0] 104)).drewN nq) = W at *
  have HPW := Lib.hid (HP0.out.below HB.out)
  have hAl := lt_of_block HA.out
  have hZl := lt_of_block HZ.out
  have a0 := cellOf HA.out 0 _ rfl
  have a1 := cellOf HA.out 1 _ rfl
  have HF := Lib.hid (fun (w' : World) (hb : Below W.heap.size W w') => filled_any st (.slice pa pts.length pc) pts (0) h w' (HPW.out.below hb) HK.out h0 h9 HOK.out)
  have HC := Lib.hid (fun (w' : World) (hb : Below W.heap.size W w') => carved_any st (.slice pa pts.length pc) pts (0) h w' (HPW.out.below hb) HK.out h0 h9 HOK.out)
  generalize hd : pts[0].bd = d at *
  have HDD := Lib.hid hd
  clear hd
  have m0 : 0 ≤ max 0 (d - h) := by omega
  have m9 : max 0 (d - h) ≤ 9000 := by omega
  generalize hm : max 0 (d - h) = m at *
  have HMM := Lib.hid hm
  clear hm
  have n0 : 0 ≤ max 0 (h - d) := by omega
  generalize hn : max 0 (h - d) = n at *
  have HNN := Lib.hid hn
  clear hn
  have hne : w.heap.size ≠ w.heap.size + 1 + 1 := by omega
  go_region_held3 (fun W' => W'.cell? ⟨w.heap.size, 0, none⟩ = some (.int .i64 st) ∧ W'.cell? ⟨w.heap.size, 1, none⟩ = some (.slice pa pts.length pc) )
    (first | exact ⟨a0, a1⟩ | assumption | (refine keep2c ?_ hb; assumption) | (refine keep2c ?_ hb2; assumption) | (refine keep2s ?_ hne; assumption))
    (first
    | (go_at_call 64; refine (HF.out _ (by first | exact Below.refl _ _ | exact (Below.refl _ _).drew)).mono ?_; rintro e w4 ⟨rfl, hb⟩)
    | (go_at_call 79; refine (HC.out _ (by first | exact hb | exact Below.trans ((Below.refl W.heap.size W).drew) hb)).mono ?_; rintro e w5 ⟨rfl, hb2⟩; have z4 := (hb.block _ hZl).trans HZ.out; have z5 := (hb2.block _ (lt_of_block z4)).trans z4; have s0 := cellOf z5 0 _ rfl; have s1 := cellOf z5 1 _ rfl; have q0 := frozen_of_row _ _ 0 _ _ z5; have q1 := frozen_of_row _ _ 1 _ _ z5; have hB5 : Below w.heap.size w w5 := by first | exact bel2 HB.out hb hb2 | exact bel2d HB.out hb hb2)
    | (go_at_call 80; refine (begun_any 0 m _ (by omega) (by omega) m0 (by omega)).mono ?_; rintro e w6 ⟨rfl, rfl⟩))
  have Z5 := Lib.hid z5
  go_wp2_with fail
  refine bodyPost_ret (need_result rfl _ _ (w.heap.size + 1 + 1) _ _ rfl (two_set Z5.out)) rfl ⟨?_, two_below hB5 (by omega)⟩
  rw [← HNN.out, ← HMM.out, ← HDD.out, Int.sub_zero]
  rfl
end Go.Proofs.Ytnciomoapajonaa
