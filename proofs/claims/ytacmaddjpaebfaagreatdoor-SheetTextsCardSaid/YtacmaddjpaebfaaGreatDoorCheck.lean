/- Check of package sheet. -/
import Derived.Test.YtacmaddjpaebfaaGreatDoorFault
import Derived.Deep.RegionWith
import Derived.Deep.Cut
set_option linter.unusedSimpArgs false
set_option linter.unusedVariables false
namespace Go.Proofs.YtacmaddjpaebfaaGreatDoor
open Go Go.RowKit Hs

/-- What Check answers. -/
def checkS (s : Sheet) : Int × Int × Int :=
  if ¬ (1 ≤ s.iv ∧ s.iv ≤ 1000) then (1, 0, 7)
  else if ¬ (1 ≤ s.pts.length ∧ s.pts.length ≤ 8) then (2, 0, 3)
  else if (firstBad (ptErr s.pts) s.pts.length).2 ≠ 0 then (2, (firstBad (ptErr s.pts) s.pts.length).1, (firstBad (ptErr s.pts) s.pts.length).2)
  else if 12 < s.notes.length then (3, 0, 3)
  else if (firstBad (ntErr s.iv s.pts.length s.notes) s.notes.length).2 ≠ 0 then (3, (firstBad (ntErr s.iv s.pts.length s.notes) s.notes.length).1, (firstBad (ntErr s.iv s.pts.length s.notes) s.notes.length).2)
  else (0, 0, 0)

/-- Two values read as the points and the notes of a sheet. -/
structure SheetAt (n : Nat) (w : World) (pv nv : Value) (s : Sheet) : Prop where
  pts : StrsAt n w pv s.pts
  notes : NotesAt n w nv s.notes
  sz : ∀ x, x ∈ s.pts → x.size ≤ 140737488351232
theorem SheetAt.below {n : Nat} {w w' : World} {pv nv : Value} {s : Sheet} (h : SheetAt n w pv nv s) (hb : Below n w w') : SheetAt n w' pv nv s := ⟨h.pts.below hb, h.notes.below hb, h.sz⟩
theorem SheetAt.mono {n n' : Nat} {w : World} {pv nv : Value} {s : Sheet} (h : SheetAt n w pv nv s) (hn : n ≤ n') : SheetAt n' w pv nv s := ⟨h.pts.mono hn, h.notes.mono hn, h.sz⟩

theorem within1_dec (lo hi x : Int) : (decide (lo ≤ x) && decide (x ≤ hi)) = decide (lo ≤ x ∧ x ≤ hi) := by simp

set_option maxRecDepth 100000 in
set_option maxHeartbeats 4000000 in
theorem check_any (s : Sheet) (pv nv : Value) (w : World) (hS : SheetAt w.heap.size w pv nv s) :
    Calls Tryz.prog 15 #[.agg #[.int .i64 s.iv, pv, nv]] w fun e w' => e = .returned (.tuple #[.int .i64 (checkS s).1, .int .i64 (checkS s).2.1, .int .i64 (checkS s).2.2]) ∧ Below w.heap.size w w' := by
  obtain ⟨iv, pts, notes⟩ := s
  obtain ⟨hP, hN, hsz⟩ := hS
  obtain ⟨lp, pa, pc, rfl, _⟩ := id hP
  obtain ⟨ln, na, nc, rfl, _⟩ := id hN
  simp only at hP hN hsz lp ln ⊢
  have HP := Lib.hid hP
  have HN := Lib.hid hN
  have HZ := Lib.hid hsz
  clear hP hN hsz
  have lp' : (pts.length : Int) ≤ 4611686018427387904 := by omega
  have ln' : (notes.length : Int) ≤ 4611686018427387904 := by omega
  by_cases h1 : 1 ≤ iv ∧ iv ≤ 1000
  · have d1 : (decide ((1 : Int) ≤ iv) && decide (iv ≤ 1000)) = true := by simp; omega
    by_cases h2 : 1 ≤ pts.length ∧ pts.length ≤ 8
    · have d2 : (decide ((1 : Int) ≤ (pts.length : Int)) && decide ((pts.length : Int) ≤ 8)) = true := by simp; omega
      go_enter Tryz.func15, Tryz.ntmps15
      go_wp2_with fail
      refine (within_1 _ _ _ _ _ _ (by simp)).mono ?_
      rintro e w' ⟨rfl, rfl⟩
      rw [d1]
      go_wp2_with fail
      refine (within_1 _ _ _ _ _ _ (by simp)).mono ?_
      rintro e w' ⟨rfl, rfl⟩
      rw [d2]
      go_wp2_with fail
      have hB : Below w.heap.size w ((((w.alloc (Obj.cells #[.int .i64 iv, .slice pa pts.length pc, .slice na notes.length nc] 25)).alloc (Obj.cells #[.int .i64 iv, .slice pa pts.length pc, .slice na notes.length nc, .int .i64 0] 80)).alloc (Obj.cells #[.int .i64 iv] 3)).alloc (Obj.cells #[.int .i64 pts.length] 3)) := by go_grown
      have hA : ((((w.alloc (Obj.cells #[.int .i64 iv, .slice pa pts.length pc, .slice na notes.length nc] 25)).alloc (Obj.cells #[.int .i64 iv, .slice pa pts.length pc, .slice na notes.length nc, .int .i64 0] 80)).alloc (Obj.cells #[.int .i64 iv] 3)).alloc (Obj.cells #[.int .i64 pts.length] 3)).heap[w.heap.size]? = some (.cells #[.int .i64 iv, .slice pa pts.length pc, .slice na notes.length nc] 25 (0, 0)) :=
        (Below.heap_alloc _ _ _ (by simp; omega)).trans ((Below.heap_alloc _ _ _ (by simp; omega)).trans ((Below.heap_alloc _ _ _ (by simp)).trans (heap_alloc_new _ _)))
      have hL : ((((w.alloc (Obj.cells #[.int .i64 iv, .slice pa pts.length pc, .slice na notes.length nc] 25)).alloc (Obj.cells #[.int .i64 iv, .slice pa pts.length pc, .slice na notes.length nc, .int .i64 0] 80)).alloc (Obj.cells #[.int .i64 iv] 3)).alloc (Obj.cells #[.int .i64 pts.length] 3)).heap[w.heap.size + 1]? = some (.cells #[.int .i64 iv, .slice pa pts.length pc, .slice na notes.length nc, .int .i64 0] 80 (0, 0)) :=
        (Below.heap_alloc _ _ _ (by simp)).trans ((Below.heap_alloc _ _ _ (by simp)).trans (heap_alloc2_new _ _ _))
      have hsz : ((((w.alloc (Obj.cells #[.int .i64 iv, .slice pa pts.length pc, .slice na notes.length nc] 25)).alloc (Obj.cells #[.int .i64 iv, .slice pa pts.length pc, .slice na notes.length nc, .int .i64 0] 80)).alloc (Obj.cells #[.int .i64 iv] 3)).alloc (Obj.cells #[.int .i64 pts.length] 3)).heap.size = w.heap.size + 1 + 1 + 1 + 1 := by simp
      generalize ((((w.alloc (Obj.cells #[.int .i64 iv, .slice pa pts.length pc, .slice na notes.length nc] 25)).alloc (Obj.cells #[.int .i64 iv, .slice pa pts.length pc, .slice na notes.length nc, .int .i64 0] 80)).alloc (Obj.cells #[.int .i64 iv] 3)).alloc (Obj.cells #[.int .i64 pts.length] 3)) = W at hB hA hL hsz ⊢
      have HSZ := Lib.hid hsz
      have a0 := cellOf hA 0 _ rfl
      have a1 := cellOf hA 1 _ rfl
      have a2 := cellOf hA 2 _ rfl
      have x1 : w.heap.size < W.heap.size := by omega
      have x2 : w.heap.size < W.heap.size + 1 := by omega
      have PW := (HP.out.below hB).mono hB.size
      have hB2 : Below W.heap.size W ((W.alloc (.map #[] 0)).alloc (.cells #[.map (some W.heap.size)] 127)).drew := by go_grown
      have hcall := firstFaultS_any (.slice pa pts.length pc) W.heap.size (W.heap.size + 1) pts ((W.alloc (.map #[] 0)).alloc (.cells #[.map (some W.heap.size)] 127)).drew ((PW.below hB2).mono hB2.size) h2.2 HZ.out
        (by simp) (((SeenAt.made W).kept (World.grownBy_alloc _ _ none) (by simp)).kept (row := none) (by exact below_grownBy ((Below.refl _ _).drew)) (by simp)) W.heap.size (Nat.le_refl _) (PW.below hB2) (by omega)
      have HCALL := Lib.hid hcall
      have HA := Lib.hid hA
      have HL := Lib.hid hL
      clear hcall hA hL hsz PW
      go_region_with (first
        | (go_at_call 56; refine (nameFault_any _).mono ?_; rintro e w' ⟨rfl, rfl⟩)
        | (go_at_call 55; refine HCALL.out.mono ?_; rintro e w' ⟨rfl, hb1⟩))
      all_goals
        have hB3 : Below w.heap.size w w' := hB.trans ((hB2.trans (hb1.mono (Nat.le_refl _))).mono hB.size)
        have hA' := ((hB2.trans hb1).block _ x1).trans HA.out
        have hL' := ((hB2.trans hb1).block (w.heap.size + 1) (by have := HSZ.out; omega)).trans HL.out
        have c2 := cellOf hA' 2 _ rfl
        have l0 := cellOf hL' 0 _ rfl
        have l1 := cellOf hL' 1 _ rfl
        have l2 := cellOf hL' 2 _ rfl
        have l3 := cellOf hL' 3 _ rfl
        clear hb1 hB hB2 hA' hL' a0 a1 a2 HCALL
        obtain ⟨fb, hfb⟩ : ∃ fb, Hid (fb = firstBad (ptErr pts) pts.length) := ⟨_, rfl⟩
        rw [← hfb.out]
        have hfd : Hid (checkS ⟨iv, pts, notes⟩ = if fb.2 ≠ 0 then (2, fb.1, fb.2) else if 12 < notes.length then (3, 0, 3) else if (firstBad (ntErr iv pts.length notes) notes.length).2 ≠ 0 then (3, (firstBad (ntErr iv pts.length notes) notes.length).1, (firstBad (ntErr iv pts.length notes) notes.length).2) else (0, 0, 0)) := by
          show _ = _
          unfold checkS
          rw [if_neg (by simp only; omega), if_neg (by simp only; omega), hfb.out]
        obtain ⟨p1, p2⟩ := fb
        by_cases h3 : p2 = 0
        · have t3 : (p2 != 0) = false := by simp [h3]
          have H3 := Lib.hid h3
          clear h3
          by_cases h4 : 12 < notes.length
          · have h4' : (12 : Int) < (notes.length : Int) := by omega
            have hfin : Hid (checkS ⟨iv, pts, notes⟩ = (3, 0, 3)) := by show _ = _; rw [hfd.out, if_neg (by simp [H3.out]), if_pos h4]
            clear h4
            go_wp2
            go_ret3
            exact ⟨by rw [hfin.out]; rfl, hB3⟩
          · have h4' : (notes.length : Int) ≤ 12 := by omega
            go_wp2_with fail
            refine (firstFaultN_any iv pa na pts.length pc notes.length nc (.slice na notes.length nc) notes _ h1.1 h1.2 h2.1 h2.2 ((HN.out.below hB3).mono hB3.size) (by omega)).mono ?_
            rintro e w4 ⟨rfl, hb4⟩
            have hB4 := hB3.trans (hb4.mono hB3.size)
            obtain ⟨fn, hfn⟩ : ∃ fn, Hid (fn = firstBad (ntErr iv pts.length notes) notes.length) := ⟨_, rfl⟩
            rw [← hfn.out]
            obtain ⟨q1, q2⟩ := fn
            clear hb4 c2 l0 l1 l2 l3 hB3
            by_cases h5 : q2 = 0
            · have t5 : (q2 != 0) = false := by simp [h5]
              have hfin : Hid (checkS ⟨iv, pts, notes⟩ = (0, 0, 0)) := by show _ = _; rw [hfd.out, if_neg (by simp [H3.out]), if_neg h4, ← hfn.out, if_neg (by simp [h5])]
              clear h5 h4
              go_wp2
              go_ret3
              exact ⟨by rw [hfin.out]; rfl, hB4⟩
            · have t5 : (q2 != 0) = true := by simp [h5]
              have hfin : Hid (checkS ⟨iv, pts, notes⟩ = (3, q1, q2)) := by show _ = _; rw [hfd.out, if_neg (by simp [H3.out]), if_neg h4, ← hfn.out, if_pos (by simpa using h5)]
              clear h5 h4
              go_wp2
              go_ret3
              exact ⟨by rw [hfin.out]; rfl, hB4⟩
        · have t3 : (p2 != 0) = true := by simp [h3]
          have hfin : Hid (checkS ⟨iv, pts, notes⟩ = (2, p1, p2)) := by show _ = _; rw [hfd.out, if_pos (by simpa using h3)]
          clear h3
          go_wp2
          go_ret3
          exact ⟨by rw [hfin.out]; rfl, hB3⟩
    · have d2 : (decide ((1 : Int) ≤ (pts.length : Int)) && decide ((pts.length : Int) ≤ 8)) = false := by simp; omega
      have hfin : Hid (checkS ⟨iv, pts, notes⟩ = (2, 0, 3)) := by show _ = _; unfold checkS; rw [if_neg (by simp only; omega), if_pos (by simp only; omega)]
      clear h1 h2
      go_enter Tryz.func15, Tryz.ntmps15
      go_wp2_with fail
      refine (within_1 _ _ _ _ _ _ (by simp)).mono ?_
      rintro e w' ⟨rfl, rfl⟩
      rw [d1]
      go_wp2_with fail
      refine (within_1 _ _ _ _ _ _ (by simp)).mono ?_
      rintro e w' ⟨rfl, rfl⟩
      rw [d2]
      go_wp2
      go_ret3
      exact ⟨by rw [hfin.out]; rfl, by go_grown⟩
  · have d1 : (decide ((1 : Int) ≤ iv) && decide (iv ≤ 1000)) = false := by simp; omega
    have hfin : Hid (checkS ⟨iv, pts, notes⟩ = (1, 0, 7)) := by show _ = _; unfold checkS; rw [if_pos (by simp only; omega)]
    clear h1
    go_enter Tryz.func15, Tryz.ntmps15
    go_wp2_with fail
    refine (within_1 _ _ _ _ _ _ (by simp)).mono ?_
    rintro e w' ⟨rfl, rfl⟩
    rw [d1]
    go_wp2
    go_ret3
    exact ⟨by rw [hfin.out]; rfl, by go_grown⟩
end Go.Proofs.YtacmaddjpaebfaaGreatDoor
