/- The reference of package carve: Bounds. -/
import Derived.Test.YtompoaglncgomaaRcx
import Derived.Test.YtompoaglncgomaaCwl
import Derived.Test.YtompoaglncgomaaLast
import Derived.Test.YtompoaglncgomaaHeld
import Derived.Test.YtompoaglncgomaaLasti
import Derived.BigRegion
import Derived.BigQuiet
set_option linter.unusedSimpArgs false
set_option linter.unusedVariables false
namespace Go.Proofs.Ytompoaglncgomaa
open Go Go.RowKit Go.Shelf Cv

/-- What the reference has reckoned of a point, behind some of the points. -/
def loA (r : Row) (i k : Nat) : Int := asks r.st r.pts.length (loF r) i k
def hiA (r : Row) (i k : Nat) : Int := -(asks r.st r.pts.length (fun i => -(hiF r i)) i k)
def bandsK (r : Row) (i : Nat) : List Sp := (List.range i).map fun i => (loA r i r.pts.length, hiA r i r.pts.length)
theorem bandsK_succ (r : Row) (i : Nat) : bandsK r (i + 1) = bandsK r i ++ [(loA r i r.pts.length, hiA r i r.pts.length)] := by
  unfold bandsK
  rw [List.range_succ, List.map_append]
  rfl
theorem loF_at (r : Row) (i : Nat) (h : i < r.pts.length) : loF r i = r.pts[i].lo := by
  unfold loF los
  simp [List.getD_eq_getElem?_getD, h]
theorem hiF_at (r : Row) (i : Nat) (h : i < r.pts.length) : hiF r i = r.pts[i].hi := by
  unfold hiF his
  simp [List.getD_eq_getElem?_getD, h]
theorem loA_zero (r : Row) (i : Nat) (h : i < r.pts.length) : loA r i 0 = r.pts[i].lo := loF_at r i h
theorem hiA_zero (r : Row) (i : Nat) (h : i < r.pts.length) : hiA r i 0 = r.pts[i].hi := by
  unfold hiA asks
  rw [hiF_at r i h]
  omega
theorem loA_succ (r : Row) (i k : Nat) (h : k < r.pts.length) : loA r i (k + 1) = max (loA r i k) (r.pts[k].lo - r.st * steps i k) := by
  unfold loA
  rw [asks, loF_at r k h]
theorem hiA_succ (r : Row) (i k : Nat) (h : k < r.pts.length) : hiA r i (k + 1) = min (hiA r i k) (r.pts[k].hi + r.st * steps i k) := by
  unfold hiA
  rw [asks, hiF_at r k h]
  omega
theorem A_bd (r : Row) (hv : Valid r) (i : Nat) (hi : i < r.pts.length) : ∀ k, k ≤ r.pts.length → 0 ≤ loA r i k ∧ loA r i k ≤ 9000 ∧ 0 ≤ hiA r i k ∧ hiA r i k ≤ 9000 := by
  intro k
  have oki := hv.ok r.pts[i] (List.getElem_mem _)
  induction k with
  | zero =>
    intro _
    rw [loA_zero r i hi, hiA_zero r i hi]
    exact ⟨oki.l0, oki.l9, oki.h0, oki.h9⟩
  | succ k ih =>
    intro hk
    have h := ih (by omega)
    have okk := hv.ok r.pts[k] (List.getElem_mem _)
    have hs : 0 ≤ r.st * steps i k := Int.mul_nonneg hv.s0 (steps_nonneg _ _)
    rw [loA_succ r i k (by omega), hiA_succ r i k (by omega)]
    have := okk.l9
    have := okk.h0
    omega
theorem bandsK_all (r : Row) (hst : 0 ≤ r.st) : bandsK r r.pts.length = bandsR r := by
  unfold bandsK bandsR
  apply List.map_congr_left
  intro i hi
  have hi' : i < r.pts.length := List.mem_range.1 hi
  have e1 := low_asks r.st hst (los r) i (by simpa [los] using hi')
  have e2 := high_asks r.st hst (his r) i (by simpa [his] using hi')
  have l1 : (los r).length = r.pts.length := by simp [los]
  have l2 : (his r).length = r.pts.length := by simp [his]
  rw [l1] at e1
  rw [l2] at e2
  exact Prod.ext e1.symm e2.symm

set_option maxRecDepth 100000 in
set_option maxHeartbeats 8000000 in
theorem rbounds_any (r : Row) (pv : Value) (w : World) (hP : PtsAt w pv r.pts) :
    Calls Try.prog 19 #[.agg #[.int .i64 r.st, pv]] w fun e w' => ∃ v, e = .returned (.tuple #[v, .int .i64 (boundsR r).2]) ∧ w'.ownsRow w.heap.size 56 2 v (boundsR r).1.length (passC (boundsR r).1) ∧ Below w.heap.size w w' := by
  obtain ⟨st, pts⟩ := r
  simp only at hP ⊢
  obtain ⟨i0, hi0⟩ := info_of_underlying Try.underlying56
  have HI : Hid (i0.zero = some (.agg #[.int .i64 0, .int .i64 0]) ∧ i0.size = 2 ∧ i0.bytes = 16) := by
    have h := spanInfo
    rw [hi0] at h
    simp at h
    exact h
  obtain ⟨lp, pa, pc, rfl, _, _⟩ := id hP
  have HP := Lib.hid hP
  clear hP
  have HW0 : Hid (Below w.heap.size w (w.alloc (Obj.cells #[.int .i64 st, .slice pa pts.length pc] 24))) := by show Below _ _ _; go_grown
  have HRB := Lib.hid (heap_alloc_new w (Obj.cells #[.int .i64 st, .slice pa pts.length pc] 24))
  have HC := Lib.hid (rcheck_any ⟨st, pts⟩ (.slice pa pts.length pc) (w.alloc (Obj.cells #[.int .i64 st, .slice pa pts.length pc] 24)) (HP.out.below HW0.out))
  obtain ⟨c1, HC1⟩ : ∃ c, Hid ((checkR ⟨st, pts⟩).1 = c) := ⟨_, rfl⟩
  obtain ⟨c2, HC2⟩ : ∃ c, Hid ((checkR ⟨st, pts⟩).2.1 = c) := ⟨_, rfl⟩
  obtain ⟨c3, HC3⟩ : ∃ c, Hid ((checkR ⟨st, pts⟩).2.2 = c) := ⟨_, rfl⟩
  have HE : Hid (errR ⟨st, pts⟩ = c3) := by show _ = _; unfold errR; rw [HC3.out]
  rw [HC1.out, HC2.out, HC3.out] at HC
  clear HC1 HC2 HC3
  by_cases hz : c3 = 0
  · subst hz
    have HV := Lib.hid ((check_valid _).1 HE.out)
    have h10 : pts.length ≤ 10 := HV.out.n10
    go_enter Try.func19, Try.ntmps19
    go_wp2_with fail
    refine HC.out.mono ?_
    rintro e w0 ⟨rfl, hb⟩
    have HB0 := Lib.hid (HW0.out.trans (hb.mono HW0.out.size))
    have HR0 := Lib.hid ((hb.block _ (lt_of_block HRB.out)).trans HRB.out)
    clear hb HC HRB HW0
    have r0 := cellOf HR0.out 0 _ rfl
    have r1 := cellOf HR0.out 1 _ rfl
    go_wp2_with fail
    have HSA := Lib.hid (some_any ⟨st, pts⟩ (.slice pa pts.length pc) st HV.out.s0 (by have : st ≤ 200 := HV.out.s200; omega) h10 HV.out.ok w0 (HP.out.below HB0.out))
    obtain ⟨B, HB⟩ : ∃ B, Hid (crossB ⟨st, pts⟩ = B) := ⟨_, rfl⟩
    simp only [HB.out] at HSA
    refine HSA.out.mono ?_
    rintro e w1 ⟨rfl, hb⟩
    have HB1 := Lib.hid (HB0.out.trans (hb.mono HB0.out.size))
    have HR1 := Lib.hid ((hb.block _ (lt_of_block HR0.out)).trans HR0.out)
    clear hb HSA HR0 HB0 r0 r1
    have r0 := cellOf HR1.out 0 _ rfl
    have r1 := cellOf HR1.out 1 _ rfl
    cases B
    · have HBR : Hid (boundsR ⟨st, pts⟩ = (bandsK ⟨st, pts⟩ pts.length, 0)) := by
        show _ = _
        have := bandsK_all ⟨st, pts⟩ HV.out.s0
        rw [show bandsK ⟨st, pts⟩ pts.length = bandsR ⟨st, pts⟩ from this]
        unfold boundsR boundE
        rw [HE.out, HB.out]
        rfl
      go_wp2_with fail
      clear r0 r1
      go_loopg [7, 8] pts.length (fun g v i wr => ∃ (k : Nat) (acc : List (Int × Int)) (sa : Option Addr) (n sc : Nat), g + k = pts.length ∧ i = .int .i64 k ∧ v = .slice sa n sc ∧ wr.ownsRow w1.heap.size 56 2 (.slice sa n sc) n (passC acc) ∧ Hid (n = acc.length) ∧ Hid (acc = bandsK ⟨st, pts⟩ k) ∧ Hid (Below w1.heap.size w1 wr))
      case atStart => exact ⟨0, [], none, 0, 0, rfl, rfl, rfl, World.ownsRow_nil _ _ _ _, rfl, rfl, Below.refl _ _⟩
      case round =>
        obtain ⟨k, acc, sa, n, sc, hk, rfl, rfl, hown, hna, HAC, HR⟩ := hrel
        obtain ⟨wo, hwo⟩ : ∃ wo, wo = wr := ⟨_, rfl⟩
        subst hwo
        have HRo := Lib.hid ((HR.out.block _ (lt_of_block HR1.out)).trans HR1.out)
        have r0 := cellOf HRo.out 0 _ rfl
        have r1 := cellOf HRo.out 1 _ rfl
        have HPo := Lib.hid ((HP.out.below HB1.out).below HR.out)
        by_cases hlt : k < pts.length
        · have kI : (k : Int) < (pts.length : Int) := by omega
          obtain ⟨g', rfl⟩ : ∃ g', gk = g' + 1 := ⟨gk - 1, by omega⟩
          obtain ⟨b, o, rfl, c0, c1, c2⟩ := HPo.out.get hlt
          have lr := lt_of_block HRo.out
          have lb := World.block_lt_of_cell? wo ⟨b, o + k * 3, none⟩ c0
          simp only at lr lb
          go_wp2_with fail
          go_region
          clear r0 r1 lr lb c0 c1 c2
          have HG0 : Hid (((wo.alloc (Obj.cells #[.int .i64 pts[k].lo, .int .i64 pts[k].hi] 56)).drew).heap[wo.heap.size]? = some (Obj.cells #[.int .i64 (loA ⟨st, pts⟩ k 0), .int .i64 (hiA ⟨st, pts⟩ k 0)] 56 (0, 0))) := by
            show _ = _
            rw [loA_zero ⟨st, pts⟩ k hlt, hiA_zero ⟨st, pts⟩ k hlt]
            exact heap_alloc_new wo _
          have HQ0 : Hid (Below wo.heap.size wo ((wo.alloc (Obj.cells #[.int .i64 pts[k].lo, .int .i64 pts[k].hi] 56)).drew)) := ((Below.refl _ _).alloc (Nat.le_refl _) _).drew
          go_wp2_with fail
          generalize (wo.alloc (Obj.cells #[.int .i64 pts[k].lo, .int .i64 pts[k].hi] 56)).drew = wi at *
          go_loopg [10] pts.length (fun g2 i2 wq => ∃ j : Nat, g2 + j = pts.length ∧ i2 = .int .i64 j ∧ Hid (wq.heap[wo.heap.size]? = some (Obj.cells #[.int .i64 (loA ⟨st, pts⟩ k j), .int .i64 (hiA ⟨st, pts⟩ k j)] 56 (0, 0))) ∧ Hid (Below wo.heap.size wo wq))
          case atStart => exact ⟨0, by omega, rfl, HG0.out, HQ0.out⟩
          case round =>
            clear HG0 HQ0
            obtain ⟨j, hj, rfl, HG, HQ⟩ := hrel
            have HRw := Lib.hid ((HQ.out.block _ (lt_of_block HRo.out)).trans HRo.out)
            have r0 := cellOf HRw.out 0 _ rfl
            have r1 := cellOf HRw.out 1 _ rfl
            by_cases hlt2 : j < pts.length
            · have jI : (j : Int) < (pts.length : Int) := by omega
              obtain ⟨b', o', e, d0, d1, d2⟩ := (HPo.out.below HQ.out).get hlt2
              simp only [Option.some.injEq, Addr.mk.injEq, and_true] at e
              obtain ⟨rfl, rfl⟩ := e
              have g0 := cellOf HG.out 0 _ rfl
              have g1 := cellOf HG.out 1 _ rfl
              have q0 := frozen_of_row _ _ 0 _ _ HG.out
              have q1 := frozen_of_row _ _ 1 _ _ HG.out
              have lg := lt_of_block HG.out
              have lr := lt_of_block HRw.out
              have lb := World.block_lt_of_cell? wr ⟨b, o + j * 3, none⟩ d0
              simp only at lr lb
              have HST : Hid (∀ n, Calls Try.prog 54 #[.int .i64 (k : Int), .int .i64 (j : Int)] (wr.drewN n) fun e w'' => e = .returned (.int .i64 (steps k j)) ∧ ∃ m, w'' = wr.drewN m) := fun n => (steps_any k j (by omega) (by omega) (wr.drewN n)).mono fun e w'' h => ⟨h.1, n, h.2.symm⟩
              have bd := A_bd ⟨st, pts⟩ HV.out k hlt j (by show j ≤ pts.length; omega)
              have okj := HV.out.ok pts[j] (List.getElem_mem _)
              have HLs : Hid (loA ⟨st, pts⟩ k (j + 1) = max (loA ⟨st, pts⟩ k j) (pts[j].lo - st * steps k j)) := loA_succ ⟨st, pts⟩ k j hlt2
              have HHs : Hid (hiA ⟨st, pts⟩ k (j + 1) = min (hiA ⟨st, pts⟩ k j) (pts[j].hi + st * steps k j)) := hiA_succ ⟨st, pts⟩ k j hlt2
              have hs0 : 0 ≤ steps k j := steps_nonneg k j
              have hs9 : steps k j ≤ 10 := by unfold steps; omega
              have t0 : 0 ≤ st := HV.out.s0
              have t9 : st ≤ 200 := HV.out.s200
              have m0 : 0 ≤ st * steps k j := Int.mul_nonneg t0 hs0
              have m9 : st * steps k j ≤ 2000 := by
                have := Int.mul_le_mul t9 hs9 hs0 (by omega : (0 : Int) ≤ 200)
                omega
              have p0 := okj.l0
              have p1 := okj.l9
              have p2 := okj.h0
              have p3 := okj.h9
              clear okj
              obtain ⟨bd0, bd1, bd2, bd3⟩ := bd
              generalize steps k j = s at *
              generalize loA ⟨st, pts⟩ k j = x at *
              generalize hiA ⟨st, pts⟩ k j = y at *
              generalize pts[j] = p at *
              obtain ⟨pb, plo, phi⟩ := p
              simp only at d0 d1 d2 p0 p1 p2 p3
              go_wp2_with fail
              go_quiet ((go_at_call 54; exact HST.out _))
              have HGz : Hid ((wr.drewN nq).heap[wo.heap.size]? = some (Obj.cells #[.int .i64 x, .int .i64 y] 56 (0, 0))) := HG.out
              have HQz : Hid (Below wo.heap.size wo (wr.drewN nq)) := HQ.out.trans ⟨rfl, rfl, rfl, Nat.le_refl _, fun _ _ => rfl⟩
              have HRz : Hid ((wr.drewN nq).heap[w.heap.size]? = some (Obj.cells #[.int .i64 st, .slice (some ⟨b, o, none⟩) pts.length pc] 24 (0, 0))) := HRw.out
              have e1 : (wr.drewN nq).cell? ⟨b, o + j * 3 + 1, none⟩ = some (.int .i64 plo) := d1
              have e2 : (wr.drewN nq).cell? ⟨b, o + j * 3 + 2, none⟩ = some (.int .i64 phi) := d2
              have lb' : b < (wr.drewN nq).heap.size := lb
              clear r0 r1 d0 d1 d2 g0 g1 q0 q1 lg lr lb HST HG HQ HRw
              go_wp2_with fail
              generalize st * s = far at *
              generalize wr.drewN nq = wz at *
              have r0 := cellOf HRz.out 0 _ rfl
              have r1 := cellOf HRz.out 1 _ rfl
              have g0 := cellOf HGz.out 0 _ rfl
              have g1 := cellOf HGz.out 1 _ rfl
              have q0 := frozen_of_row _ _ 0 _ _ HGz.out
              have q1 := frozen_of_row _ _ 1 _ _ HGz.out
              have lg := lt_of_block HGz.out
              have lr := lt_of_block HRz.out
              refine wp_region_noPanic ?_
              refine wp_region_last (S := (fun W' => W'.cell? ⟨w.heap.size, 1, none⟩ = some (.slice (some ⟨b, o, none⟩) pts.length pc) ∧ W'.cell? ⟨b, o + j * 3 + 1, none⟩ = some (.int .i64 plo) ∧ W'.cell? ⟨b, o + j * 3 + 2, none⟩ = some (.int .i64 phi) ∧ W'.cell? ⟨wo.heap.size, 0, none⟩ = some (.int .i64 x) ∧ W'.cell? ⟨wo.heap.size, 1, none⟩ = some (.int .i64 y) ∧ Below wz.heap.size wz W')) 23 (by kernel_rfl) (by decide) (fun inv0 => ?_)
              have hh0 := (show (fun W' => W'.cell? ⟨w.heap.size, 1, none⟩ = some (.slice (some ⟨b, o, none⟩) pts.length pc) ∧ W'.cell? ⟨b, o + j * 3 + 1, none⟩ = some (.int .i64 plo) ∧ W'.cell? ⟨b, o + j * 3 + 2, none⟩ = some (.int .i64 phi) ∧ W'.cell? ⟨wo.heap.size, 0, none⟩ = some (.int .i64 x) ∧ W'.cell? ⟨wo.heap.size, 1, none⟩ = some (.int .i64 y) ∧ Below wz.heap.size wz W') wz.drew from ⟨r1, e1, e2, g0, g1, (Below.refl _ _).drew⟩)
              refine wpAnyZ_take (i := 0) (v := ?_) rfl (Lib.hid ⟨by as_aux_lemma => kernel_rfl, by as_aux_lemma => kernel_rfl, by as_aux_lemma => kernel_rfl, rfl⟩) (by decide) inv0 (by as_aux_lemma => kernel_rfl) (by as_aux_lemma => kernel_rfl) (fun _ _ _ h => h) (Or.inl ⟨by rfl, ?_⟩) hh0 (fun inv1 => ?_)
              rotate_left
              · intro w hSw
                try dsimp only at hSw
                go_simp
                try with_reducible rfl
              clear inv0
              try simp only [Act.put, List.getElem_toArray, List.getElem_cons_succ, List.getElem_cons_zero, List.setIfInBounds_toArray, List.set_cons_zero, List.set_cons_succ]
              refine wpAnyZ_take (i := 1) (v := ?_) rfl (Lib.hid ⟨by as_aux_lemma => kernel_rfl, by as_aux_lemma => kernel_rfl, by as_aux_lemma => kernel_rfl, rfl⟩) (by decide) inv1 (by as_aux_lemma => kernel_rfl) (by as_aux_lemma => kernel_rfl) (fun _ _ _ h => h) (Or.inl ⟨by rfl, ?_⟩) hh0 (fun inv2 => ?_)
              rotate_left
              · intro w hSw
                try dsimp only at hSw
                go_simp
                try with_reducible rfl
              clear inv1
              try simp only [Act.put, List.getElem_toArray, List.getElem_cons_succ, List.getElem_cons_zero, List.setIfInBounds_toArray, List.set_cons_zero, List.set_cons_succ]
              refine wpAnyZ_take (i := 2) (v := ?_) rfl (Lib.hid ⟨by as_aux_lemma => kernel_rfl, by as_aux_lemma => kernel_rfl, by as_aux_lemma => kernel_rfl, rfl⟩) (by decide) inv2 (by as_aux_lemma => kernel_rfl) (by as_aux_lemma => kernel_rfl) (fun _ _ _ h => h) (Or.inl ⟨by rfl, ?_⟩) hh0 (fun inv3 => ?_)
              rotate_left
              · intro w hSw
                try dsimp only at hSw
                go_simp
                try with_reducible rfl
              clear inv2
              try simp only [Act.put, List.getElem_toArray, List.getElem_cons_succ, List.getElem_cons_zero, List.setIfInBounds_toArray, List.set_cons_zero, List.set_cons_succ]
              refine wpAnyZ_take (i := 3) (v := ?_) rfl (Lib.hid ⟨by as_aux_lemma => kernel_rfl, by as_aux_lemma => kernel_rfl, by as_aux_lemma => kernel_rfl, rfl⟩) (by decide) inv3 (by as_aux_lemma => kernel_rfl) (by as_aux_lemma => kernel_rfl) (fun _ _ _ h => h) (Or.inl ⟨by rfl, ?_⟩) hh0 (fun inv4 => ?_)
              rotate_left
              · intro w hSw
                try dsimp only at hSw
                go_simp
                try with_reducible rfl
              clear inv3
              try simp only [Act.put, List.getElem_toArray, List.getElem_cons_succ, List.getElem_cons_zero, List.setIfInBounds_toArray, List.set_cons_zero, List.set_cons_succ]
              refine wpAnyZ_take (i := 4) (v := ?_) rfl (Lib.hid ⟨by as_aux_lemma => kernel_rfl, by as_aux_lemma => kernel_rfl, by as_aux_lemma => kernel_rfl, rfl⟩) (by decide) inv4 (by as_aux_lemma => kernel_rfl) (by as_aux_lemma => kernel_rfl) (fun _ _ _ h => h) (Or.inl ⟨by rfl, ?_⟩) hh0 (fun inv5 => ?_)
              rotate_left
              · intro w hSw
                try dsimp only at hSw
                go_simp
                try with_reducible rfl
              clear inv4
              try simp only [Act.put, List.getElem_toArray, List.getElem_cons_succ, List.getElem_cons_zero, List.setIfInBounds_toArray, List.set_cons_zero, List.set_cons_succ]
              refine wpAnyZ_take (i := 5) (v := ?_) rfl (Lib.hid ⟨by as_aux_lemma => kernel_rfl, by as_aux_lemma => kernel_rfl, by as_aux_lemma => kernel_rfl, rfl⟩) (by decide) inv5 (by as_aux_lemma => kernel_rfl) (by as_aux_lemma => kernel_rfl) (fun _ _ _ h => h) (Or.inl ⟨by rfl, ?_⟩) hh0 (fun inv6 => ?_)
              rotate_left
              · intro w hSw
                try dsimp only at hSw
                go_simp
                try with_reducible rfl
              clear inv5
              try simp only [Act.put, List.getElem_toArray, List.getElem_cons_succ, List.getElem_cons_zero, List.setIfInBounds_toArray, List.set_cons_zero, List.set_cons_succ]
              refine wpAnyZ_take (i := 6) (v := ?_) rfl (Lib.hid ⟨by as_aux_lemma => kernel_rfl, by as_aux_lemma => kernel_rfl, by as_aux_lemma => kernel_rfl, rfl⟩) (by decide) inv6 (by as_aux_lemma => kernel_rfl) (by as_aux_lemma => kernel_rfl) (fun _ _ _ h => h) (Or.inl ⟨by rfl, ?_⟩) hh0 (fun inv7 => ?_)
              rotate_left
              · intro w hSw
                try dsimp only at hSw
                go_simp
                try with_reducible rfl
              clear inv6
              try simp only [Act.put, List.getElem_toArray, List.getElem_cons_succ, List.getElem_cons_zero, List.setIfInBounds_toArray, List.set_cons_zero, List.set_cons_succ]
              refine wpAnyZ_take (i := 7) (v := ?_) rfl (Lib.hid ⟨by as_aux_lemma => kernel_rfl, by as_aux_lemma => kernel_rfl, by as_aux_lemma => kernel_rfl, rfl⟩) (by decide) inv7 (by as_aux_lemma => kernel_rfl) (by as_aux_lemma => kernel_rfl) (fun _ _ _ h => h) (Or.inl ⟨by rfl, ?_⟩) hh0 (fun inv8 => ?_)
              rotate_left
              · intro w hSw
                try dsimp only at hSw
                go_simp
                try with_reducible rfl
              clear inv7
              try simp only [Act.put, List.getElem_toArray, List.getElem_cons_succ, List.getElem_cons_zero, List.setIfInBounds_toArray, List.set_cons_zero, List.set_cons_succ]
              refine wpAnyZ_take (i := 8) (v := ?_) rfl (Lib.hid ⟨by as_aux_lemma => kernel_rfl, by as_aux_lemma => kernel_rfl, by as_aux_lemma => kernel_rfl, rfl⟩) (by decide) inv8 (by as_aux_lemma => kernel_rfl) (by as_aux_lemma => kernel_rfl) (fun _ _ _ h => h) (Or.inl ⟨by rfl, ?_⟩) hh0 (fun inv9 => ?_)
              rotate_left
              · intro w hSw
                try dsimp only at hSw
                go_simp
                try with_reducible rfl
              clear inv8
              try simp only [Act.put, List.getElem_toArray, List.getElem_cons_succ, List.getElem_cons_zero, List.setIfInBounds_toArray, List.set_cons_zero, List.set_cons_succ]
              refine wpAnyZ_take (i := 9) (v := ?_) rfl (Lib.hid ⟨by as_aux_lemma => kernel_rfl, by as_aux_lemma => kernel_rfl, by as_aux_lemma => kernel_rfl, rfl⟩) (by decide) inv9 (by as_aux_lemma => kernel_rfl) (by as_aux_lemma => kernel_rfl) (fun _ _ _ h => h) (Or.inl ⟨by rfl, ?_⟩) hh0 (fun inv10 => ?_)
              rotate_left
              · intro w hSw
                try dsimp only at hSw
                go_simp
                try with_reducible rfl
              clear inv9
              try simp only [Act.put, List.getElem_toArray, List.getElem_cons_succ, List.getElem_cons_zero, List.setIfInBounds_toArray, List.set_cons_zero, List.set_cons_succ]
              refine wpAnyZ_take (i := 10) (v := ?_) rfl (Lib.hid ⟨by as_aux_lemma => kernel_rfl, by as_aux_lemma => kernel_rfl, by as_aux_lemma => kernel_rfl, rfl⟩) (by decide) inv10 (by as_aux_lemma => kernel_rfl) (by as_aux_lemma => kernel_rfl) (fun _ _ _ h => h) (Or.inl ⟨by rfl, ?_⟩) hh0 (fun inv11 => ?_)
              rotate_left
              · intro w hSw
                try dsimp only at hSw
                go_simp
                try with_reducible rfl
              clear inv10
              try simp only [Act.put, List.getElem_toArray, List.getElem_cons_succ, List.getElem_cons_zero, List.setIfInBounds_toArray, List.set_cons_zero, List.set_cons_succ]
              refine wpAnyZ_take (i := 11) (v := ?_) rfl (Lib.hid ⟨by as_aux_lemma => kernel_rfl, by as_aux_lemma => kernel_rfl, by as_aux_lemma => kernel_rfl, rfl⟩) (by decide) inv11 (by as_aux_lemma => kernel_rfl) (by as_aux_lemma => kernel_rfl) (fun _ _ _ h => h) (Or.inl ⟨by rfl, ?_⟩) hh0 (fun inv12 => ?_)
              rotate_left
              · intro w hSw
                try dsimp only at hSw
                go_simp
                try with_reducible rfl
              clear inv11
              try simp only [Act.put, List.getElem_toArray, List.getElem_cons_succ, List.getElem_cons_zero, List.setIfInBounds_toArray, List.set_cons_zero, List.set_cons_succ]
              refine wpAnyZ_take (i := 12) (v := ?_) rfl (Lib.hid ⟨by as_aux_lemma => kernel_rfl, by as_aux_lemma => kernel_rfl, by as_aux_lemma => kernel_rfl, rfl⟩) (by decide) inv12 (by as_aux_lemma => kernel_rfl) (by as_aux_lemma => kernel_rfl) (fun _ _ _ h => h) (Or.inl ⟨by rfl, ?_⟩) hh0 (fun inv13 => ?_)
              rotate_left
              · intro w hSw
                try dsimp only at hSw
                go_simp
                try with_reducible rfl
              clear inv12
              try simp only [Act.put, List.getElem_toArray, List.getElem_cons_succ, List.getElem_cons_zero, List.setIfInBounds_toArray, List.set_cons_zero, List.set_cons_succ]
              refine wpAnyZ_take (i := 13) (v := ?_) rfl (Lib.hid ⟨by as_aux_lemma => kernel_rfl, by as_aux_lemma => kernel_rfl, by as_aux_lemma => kernel_rfl, rfl⟩) (by decide) inv13 (by as_aux_lemma => kernel_rfl) (by as_aux_lemma => kernel_rfl) (fun _ _ _ h => h) (Or.inl ⟨by rfl, ?_⟩) hh0 (fun inv14 => ?_)
              rotate_left
              · intro w hSw
                try dsimp only at hSw
                go_simp
                try with_reducible rfl
              clear inv13
              try simp only [Act.put, List.getElem_toArray, List.getElem_cons_succ, List.getElem_cons_zero, List.setIfInBounds_toArray, List.set_cons_zero, List.set_cons_succ]
              refine wpAnyZ_take (i := 14) (v := ?_) rfl (Lib.hid ⟨by as_aux_lemma => kernel_rfl, by as_aux_lemma => kernel_rfl, by as_aux_lemma => kernel_rfl, rfl⟩) (by decide) inv14 (by as_aux_lemma => kernel_rfl) (by as_aux_lemma => kernel_rfl) (fun _ _ _ h => h) (Or.inl ⟨by rfl, ?_⟩) hh0 (fun inv15 => ?_)
              rotate_left
              · intro w hSw
                try dsimp only at hSw
                go_simp
                try with_reducible rfl
              clear inv14
              try simp only [Act.put, List.getElem_toArray, List.getElem_cons_succ, List.getElem_cons_zero, List.setIfInBounds_toArray, List.set_cons_zero, List.set_cons_succ]
              refine wpAnyZ_take (i := 15) (v := ?_) rfl (Lib.hid ⟨by as_aux_lemma => kernel_rfl, by as_aux_lemma => kernel_rfl, by as_aux_lemma => kernel_rfl, rfl⟩) (by decide) inv15 (by as_aux_lemma => kernel_rfl) (by as_aux_lemma => kernel_rfl) (fun _ _ _ h => h) (Or.inl ⟨by rfl, ?_⟩) hh0 (fun inv16 => ?_)
              rotate_left
              · intro w hSw
                try dsimp only at hSw
                go_simp
                try with_reducible rfl
              clear inv15
              try simp only [Act.put, List.getElem_toArray, List.getElem_cons_succ, List.getElem_cons_zero, List.setIfInBounds_toArray, List.set_cons_zero, List.set_cons_succ]
              refine wpAnyZ_take (i := 16) (v := ?_) rfl (Lib.hid ⟨by as_aux_lemma => kernel_rfl, by as_aux_lemma => kernel_rfl, by as_aux_lemma => kernel_rfl, rfl⟩) (by decide) inv16 (by as_aux_lemma => kernel_rfl) (by as_aux_lemma => kernel_rfl) (fun _ _ _ h => h) (Or.inl ⟨by rfl, ?_⟩) hh0 (fun inv17 => ?_)
              rotate_left
              · intro w hSw
                try dsimp only at hSw
                go_simp
                try with_reducible rfl
              clear inv16
              try simp only [Act.put, List.getElem_toArray, List.getElem_cons_succ, List.getElem_cons_zero, List.setIfInBounds_toArray, List.set_cons_zero, List.set_cons_succ]
              refine wpAnyZ_take (i := 17) (v := ?_) rfl (Lib.hid ⟨by as_aux_lemma => kernel_rfl, by as_aux_lemma => kernel_rfl, by as_aux_lemma => kernel_rfl, rfl⟩) (by decide) inv17 (by as_aux_lemma => kernel_rfl) (by as_aux_lemma => kernel_rfl) (fun _ _ _ h => h) (Or.inl ⟨by rfl, ?_⟩) hh0 (fun inv18 => ?_)
              rotate_left
              · intro w hSw
                try dsimp only at hSw
                go_simp
                try with_reducible rfl
              clear inv17
              try simp only [Act.put, List.getElem_toArray, List.getElem_cons_succ, List.getElem_cons_zero, List.setIfInBounds_toArray, List.set_cons_zero, List.set_cons_succ]
              refine wpAnyZ_take (i := 18) (v := ?_) rfl (Lib.hid ⟨by as_aux_lemma => kernel_rfl, by as_aux_lemma => kernel_rfl, by as_aux_lemma => kernel_rfl, rfl⟩) (by decide) inv18 (by as_aux_lemma => kernel_rfl) (by as_aux_lemma => kernel_rfl) (fun _ _ _ h => h) (Or.inl ⟨by rfl, ?_⟩) hh0 (fun inv19 => ?_)
              rotate_left
              · intro w hSw
                try dsimp only at hSw
                go_simp
                try with_reducible rfl
              clear inv18
              try simp only [Act.put, List.getElem_toArray, List.getElem_cons_succ, List.getElem_cons_zero, List.setIfInBounds_toArray, List.set_cons_zero, List.set_cons_succ]
              refine wpAnyZ_take (i := 19) (v := ?_) rfl (Lib.hid ⟨by as_aux_lemma => kernel_rfl, by as_aux_lemma => kernel_rfl, by as_aux_lemma => kernel_rfl, rfl⟩) (by decide) inv19 (by as_aux_lemma => kernel_rfl) (by as_aux_lemma => kernel_rfl) (fun _ _ _ h => h) (Or.inl ⟨by rfl, ?_⟩) hh0 (fun inv20 => ?_)
              rotate_left
              · intro w hSw
                try dsimp only at hSw
                go_simp
                try with_reducible rfl
              clear inv19
              try simp only [Act.put, List.getElem_toArray, List.getElem_cons_succ, List.getElem_cons_zero, List.setIfInBounds_toArray, List.set_cons_zero, List.set_cons_succ]
              refine wpAnyZ_take (i := 20) (v := ?_) rfl (Lib.hid ⟨by as_aux_lemma => kernel_rfl, by as_aux_lemma => kernel_rfl, by as_aux_lemma => kernel_rfl, rfl⟩) (by decide) inv20 (by as_aux_lemma => kernel_rfl) (by as_aux_lemma => kernel_rfl) (fun _ _ _ h => h) (Or.inl ⟨by rfl, ?_⟩) hh0 (fun inv21 => ?_)
              rotate_left
              · intro w hSw
                try dsimp only at hSw
                go_simp
                try with_reducible rfl
              clear inv20
              try simp only [Act.put, List.getElem_toArray, List.getElem_cons_succ, List.getElem_cons_zero, List.setIfInBounds_toArray, List.set_cons_zero, List.set_cons_succ]
              refine wpAnyZ_take (i := 21) (v := ?_) rfl (Lib.hid ⟨by as_aux_lemma => kernel_rfl, by as_aux_lemma => kernel_rfl, by as_aux_lemma => kernel_rfl, rfl⟩) (by decide) inv21 (by as_aux_lemma => kernel_rfl) (by as_aux_lemma => kernel_rfl) (fun _ _ _ h => h) (Or.inl ⟨by rfl, ?_⟩) hh0 (fun inv22 => ?_)
              rotate_left
              · intro w hSw
                try dsimp only at hSw
                go_simp
                try with_reducible rfl
              clear inv21
              try simp only [Act.put, List.getElem_toArray, List.getElem_cons_succ, List.getElem_cons_zero, List.setIfInBounds_toArray, List.set_cons_zero, List.set_cons_succ]
              refine wpAnyZ_take (i := 22) (v := ?_) rfl (Lib.hid ⟨by as_aux_lemma => kernel_rfl, by as_aux_lemma => kernel_rfl, by as_aux_lemma => kernel_rfl, rfl⟩) (by decide) inv22 (by as_aux_lemma => kernel_rfl) (by as_aux_lemma => kernel_rfl) (fun _ _ _ h => h) (Or.inl ⟨by rfl, ?_⟩) hh0 (fun inv23 => ?_)
              rotate_left
              · intro w hSw
                try dsimp only at hSw
                go_simp
                try with_reducible rfl
              clear inv22
              try simp only [Act.put, List.getElem_toArray, List.getElem_cons_succ, List.getElem_cons_zero, List.setIfInBounds_toArray, List.set_cons_zero, List.set_cons_succ]
              refine wpAnyZ_all (rs := [23]) (by as_aux_lemma => kernel_rfl) (by simp) ?_
              intro i hi
              obtain rfl : i = 23 := by simpa using hi
              refine step_Z rfl (fun K hK => ?_)
              have B6 := hh0.2.2.2.2.2
              have jN := Lib.hid ((B6.block _ (lt_of_block HGz.out)).trans HGz.out)
              have f0 := frozen_of_row _ _ 0 _ _ jN.out
              have f1 := frozen_of_row _ _ 1 _ _ jN.out
              have k0 := hh0.2.2.2.1
              have k1 := hh0.2.2.2.2.1
              have u1 := lt_of_block jN.out
              go_simp
              refine hK.out _ _ (fun h => absurd rfl h) ?_
              clear hK K
              try simp only [Act.put, List.getElem_toArray, List.getElem_cons_succ, List.getElem_cons_zero, List.setIfInBounds_toArray, List.set_cons_zero, List.set_cons_succ]
              refine wpAnyZ_done (by as_aux_lemma => kernel_rfl) ?_ _
              refine NoPanic.normal ?_
              have wl : IntKind.i64.wrap (plo - far) = plo - far := by rw [IntKind.wrap_i64]; omega
              have wh : IntKind.i64.wrap (phi + far) = phi + far := by rw [IntKind.wrap_i64]; omega
              rw [wl, wh]
              clear wl wh hh0
              have HGn : Hid ((((wz.setCell ⟨wo.heap.size, 0, none⟩ (.int .i64 (max x (plo - far)))).setCell ⟨wo.heap.size, 1, none⟩ (.int .i64 (min y (phi + far)))).drew).heap[wo.heap.size]? = some (Obj.cells #[.int .i64 (loA ⟨st, pts⟩ k (j + 1)), .int .i64 (hiA ⟨st, pts⟩ k (j + 1))] 56 (0, 0))) := by
                show _ = _
                rw [HLs.out, HHs.out]
                exact two_set HGz.out
              have HQn : Hid (Below wo.heap.size wo (((wz.setCell ⟨wo.heap.size, 0, none⟩ (.int .i64 (max x (plo - far)))).setCell ⟨wo.heap.size, 1, none⟩ (.int .i64 (min y (phi + far)))).drew)) := (two_below HQz.out (Nat.le_refl _)).drew
              generalize ((wz.setCell ⟨wo.heap.size, 0, none⟩ (.int .i64 (max x (plo - far)))).setCell ⟨wo.heap.size, 1, none⟩ (.int .i64 (min y (phi + far)))).drew = wn at *
              clear r0 r1 e1 e2 g0 g1 q0 q1 lg lr lb' HGz HQz HRz HLs HHs
              go_wp2
              go_roundg (gk - 1)
              case measure => omega
              case rel => exact ⟨j + 1, by omega, by go_num, HGn.out, HQn⟩
            · obtain rfl : j = pts.length := by omega
              clear hlt2 hj
              have hownQ := own_below hown HQ.out
              have HRq : Hid (Below w1.heap.size w1 wr) := HR.out.trans (HQ.out.mono HR.out.size)
              have HBK : Hid (bandsK ⟨st, pts⟩ (k + 1) = acc ++ [(loA ⟨st, pts⟩ k pts.length, hiA ⟨st, pts⟩ k pts.length)]) := by
                show _ = _
                rw [bandsK_succ, HAC.out]
              have hn10 : n ≤ 10 := by
                rw [hna.out, HAC.out]
                simp [bandsK]
                omega
              generalize loA ⟨st, pts⟩ k pts.length = x at *
              generalize hiA ⟨st, pts⟩ k pts.length = y at *
              have g0 := cellOf HG.out 0 _ rfl
              have g1 := cellOf HG.out 1 _ rfl
              have lg := lt_of_block HG.out
              have hownA := hownQ.alloc (Obj.cells #[.int .i64 x, .int .i64 y] 56)
              have hHb : Hid (Below w1.heap.size w1 (wr.alloc (Obj.cells #[.int .i64 x, .int .i64 y] 56))) := HRq.out.alloc HRq.out.size _
              clear hown hownQ
              go_wp2_with (at_builtin; refine wpList_append_own _ rfl _ _ 28 rfl w1.heap.size 56 i0 (.agg #[.int .i64 0, .int .i64 0]) 2 16 Try.underlying28 hi0 HI.out.1 HI.out.2.1 HI.out.2.2 rfl (by decide) _ _ _ rfl hownA ⟨wr.heap.size, 0, none⟩ 1 1 [.int .i64 x, .int .i64 y] rfl rfl ?pa1 ?pa2 ?pa3 ?pa4 ?pa5 ?_)
              case pa1 =>
                intro j u hj
                match j, hj with
                | 0, hj => simp at hj; subst hj; simp [Addr.add]
                | 1, hj => simp at hj; subst hj; simp [Addr.add]
                | j + 2, hj => simp at hj
              case pa2 =>
                intro u hu
                simp at hu
                rcases hu with rfl | rfl <;> rfl
              case pa3 => unfold maxLen; omega
              case pa4 => omega
              case pa5 => exact hHb.out.size
              · intro v' w3 hown3 hgrow _
                have hB3 : Hid (Below w1.heap.size w1 w3) := hHb.out.grown hgrow hHb.out.size (fun g hg => (hownA.lt g hg).1)
                obtain ⟨sa', sc', rfl⟩ := own_slice hown3
                clear hgrow hownA
                go_wp2
                go_roundg g'
                case measure => omega
                case rel => exact ⟨k + 1, acc ++ [(x, y)], sa', n + 1, sc', by omega, by go_num, rfl, by rw [passC_append]; exact hown3, by show _ = _; rw [List.length_append, ← hna.out]; rfl, HBK.out.symm, hB3⟩
        · have HF : Hid (bandsK ⟨st, pts⟩ pts.length = acc) := by
            have e : k = pts.length := by omega
            have := HAC.out
            rw [e] at this
            exact this.symm
          obtain rfl : k = pts.length := by omega
          clear hlt hk HAC
          go_wp2
          go_ret2
          refine ⟨_, by rw [HBR.out]; rfl, ?_, HB1.out.trans (HR.out.mono HB1.out.size)⟩
          rw [HBR.out]
          show World.ownsRow _ _ _ _ _ (bandsK ⟨st, pts⟩ pts.length).length _
          rw [HF.out, ← hna.out]
          exact own_base hown HB1.out.size
    · have HBR : Hid (boundsR ⟨st, pts⟩ = ([], 9)) := by show _ = _; unfold boundsR boundE; rw [HE.out, HB.out]; rfl
      go_wp2
      go_ret2
      exact ⟨_, by rw [HBR.out]; rfl, by rw [HBR.out]; exact World.ownsRow_nil _ _ _ _, HB1.out⟩
  · have HBR : Hid (boundsR ⟨st, pts⟩ = ([], c3)) := by show _ = _; unfold boundsR boundE; rw [HE.out, if_neg hz, if_neg hz]
    have t3 : (c3 == 0) = false := by simp [hz]
    have t4 : (c3 != 0) = true := by simp [hz]
    go_enter Try.func19, Try.ntmps19
    go_wp2_with fail
    refine HC.out.mono ?_
    rintro e w0 ⟨rfl, hb⟩
    have HB0 := Lib.hid (HW0.out.trans (hb.mono HW0.out.size))
    clear hb HC HRB HW0
    go_wp2
    go_ret2
    exact ⟨_, by rw [HBR.out]; rfl, by rw [HBR.out]; exact World.ownsRow_nil _ _ _ _, HB0.out⟩
end Go.Proofs.Ytompoaglncgomaa
