/- Package edge: bound. -/
import Derived.Test.YtojdocomkhihoaaFi1
set_option linter.unusedSimpArgs false
set_option linter.unusedVariables false
namespace Go.Proofs.Ytojdocomkhihoaa
open Go Go.RowKit Ed

set_option maxRecDepth 100000 in
set_option maxHeartbeats 8000000 in
theorem bound_any (c : Cas) (sv ev : Value) (ws : List Int) (hw : ws.length = 16) (hsb : SpBd ws) (p : List Int) (hpl : p.length = 8) (hp : PuBd p) (w : World) (hC : CasAt w c sv ev) (hv : Valid c) :
    Calls Try.prog 67 #[.agg (lkC c.tol sv ev ws), .agg (chC p)] w fun e w' => e = .returned (.int .i64 (bndC c ws p)) ∧ Below w.heap.size w w' := by
  obtain ⟨tol, shs, eds⟩ := c
  obtain ⟨hS, hE⟩ := hC
  simp only [bndC] at hS hE ⊢
  obtain ⟨ls, sa, sc, rfl, lsc, hsn, _⟩ := id hS
  obtain ⟨le, ea, ec, rfl, lec, _⟩ := id hE
  have n5 : shs.length ≤ 5 := hv.n5
  have m8 : eds.length ≤ 8 := hv.m8
  have HEO := Lib.hid hv.ed
  have HOK := Lib.hid hv.sh
  have hne : ∀ k, k < eds.length → (eds.getD k default).a.toNat ≠ (eds.getD k default).b.toNat := fun k hk => by
    have hg : eds.getD k default = eds[k] := by simp [List.getD_eq_getElem?_getD, hk]
    rw [hg]
    obtain ⟨q1, q2, q3, q4, q5, q6, q7, q8⟩ := hv.ed eds[k] (List.getElem_mem hk)
    omega
  have HGB : Hid (∀ k, k ≤ eds.length → ∀ i, -100000 * (k : Int) ≤ (givTo eds p k).getD i 0 ∧ (givTo eds p k).getD i 0 ≤ 100000 * (k : Int)) := givTo_bd eds p hp hne
  obtain ⟨n, hn⟩ : ∃ n, shs.length = n := ⟨_, rfl⟩
  obtain ⟨m, hm⟩ : ∃ m, eds.length = m := ⟨_, rfl⟩
  simp only [hn] at ls lsc hS n5 HEO ⊢
  simp only [hm] at le lec hE m8 HGB ⊢
  have HNN := Lib.hid hn
  have HMM := Lib.hid hm
  have HE := Lib.hid hE
  have HS := Lib.hid hS
  have HW := Lib.hid hw
  have HSB := Lib.hid hsb
  have HP := Lib.hid hp
  have HPL := Lib.hid hpl
  have nI : (n : Int) ≤ 5 := by omega
  have mI : (m : Int) ≤ 8 := by omega
  obtain ⟨W, hW, q1, q2, q3, hb, hsz⟩ := al3 w (Obj.cells (lkC tol (.slice sa n sc) (.slice ea m ec) ws) 89) (Obj.cells (chC p) 109) (Obj.cells (chC z5) 95)
  have HK : Hid (LkBlk W w.heap.size tol (.slice sa n sc) (.slice ea m ec) ws) := q1
  have HKX : Hid (PuBlk W (w.heap.size + 1) p) := q2
  have HKZ : Hid (GvBlk W (w.heap.size + 1 + 1) z5) := q3
  have HB := Lib.hid hb
  have HWW := Lib.hid hW
  have HSZ := Lib.hid hsz
  have c1 : (((w.alloc (Obj.cells (lkC tol (.slice sa n sc) (.slice ea m ec) ws) 89)).alloc (Obj.cells (chC p) 109)).alloc (Obj.cells (chC z5) 95)).cell? ⟨w.heap.size, 2, none⟩ = some (.slice ea m ec) := by rw [hW]; exact HK.out.c2
  have hz := (zero_of_info gvZero).1
  clear hW q1 q2 q3 hb hsz hS hE hv hn hm hsn hw hsb le lec ls lsc hp hpl hne
  go_enter Try.func67, Try.ntmps67
  go_wp2_with fail
  clear c1 hz
  rw [HWW.out]
  clear HWW
  go_loopg [5, 15] m (fun g u v wr => ∃ k : Nat, g + k = m ∧ v = .int .i64 k ∧ u = .int .i64 (bndE ws p k) ∧ Hid (LkBlk wr w.heap.size tol (.slice sa n sc) (.slice ea m ec) ws) ∧ Hid (PuBlk wr (w.heap.size + 1) p) ∧ Hid (GvBlk wr (w.heap.size + 1 + 1) (givTo eds p k)) ∧ Hid (Below w.heap.size w wr))
  case atStart => exact ⟨0, by omega, rfl, rfl, HK, HKX, HKZ, HB⟩
  case round =>
    clear HK HKX HKZ HB
    obtain ⟨k, hk, rfl, rfl, HK, HKX, HKZ, HB⟩ := hrel
    by_cases hkm : k < m
    · have kI : (k : Int) < (m : Int) := by omega
      have k8 : (k : Int) < 8 := by omega
      have k8n : k < 8 := by omega
      have hk' : k < eds.length := by rw [HMM.out]; exact hkm
      obtain ⟨eb, eo, pa, pc, rfl, d0, d1, d2, hpp⟩ := (HE.out.below HB.out).get hk'
      have hok := HEO.out eds[k] (List.getElem_mem hk')
      have hget : eds.getD k default = eds[k] := by simp [List.getD_eq_getElem?_getD, hk']
      have HLS : Hid (givTo eds p (k + 1) = givStep eds[k].a.toNat eds[k].b.toNat (p.getD k 0) (givTo eds p k)) := by show _ = _; rw [← hget]; rfl
      have HST : Hid (bndE ws p (k + 1) = bndE ws p k + (max (p.getD k 0) 0 * (wL ws k).1 + min (p.getD k 0) 0 * (wL ws k).2)) := rfl
      have HBD := Lib.hid (HGB.out k (by omega))
      obtain ⟨D1, D2⟩ := bndE_bd ws p HSB.out HP.out k
      obtain ⟨y1, y2⟩ := HP.out k
      have HTL : Hid ((givTo eds p k).length = 5) := givTo_length eds p k
      obtain ⟨b1, b2, b3, b4⟩ := HSB.out k
      have x0 := (HK.out.span k (by omega) HW.out).1
      have x1 := (HK.out.span k (by omega) HW.out).2
      have py := HKX.out.cell k (by rw [HPL.out]; omega)
      generalize eds[k] = d at *
      generalize givTo eds p k = X at *
      generalize bndE ws p k = D at *
      obtain ⟨y, hy⟩ : ∃ v, p.getD k 0 = v := ⟨_, rfl⟩
      rw [hy] at py HST HLS y1 y2
      have HPY := Lib.hid hy
      clear hy
      obtain ⟨lo, hlo⟩ : ∃ v, (wL ws k).1 = v := ⟨_, rfl⟩
      obtain ⟨up, hup⟩ : ∃ v, (wL ws k).2 = v := ⟨_, rfl⟩
      rw [hlo] at x0 b1 b2 HST
      rw [hup] at x1 b3 b4 HST
      obtain ⟨da, db, ps⟩ := d
      simp only at d0 d1 d2 hpp
      obtain ⟨q1, q2, q3, q4, q5, q6, q7, q8⟩ := hok
      simp only at q1 q2 q3 q4 q5 q6 q7
      obtain ⟨an, rfl⟩ : ∃ an : Nat, da = an := ⟨da.toNat, by omega⟩
      obtain ⟨bn, rfl⟩ : ∃ bn : Nat, db = bn := ⟨db.toNat, by omega⟩
      have a5 : (an : Int) < 5 := by omega
      have b5 : (bn : Int) < 5 := by omega
      have a5n : an < 5 := by omega
      have b5n : bn < 5 := by omega
      obtain ⟨np, hnp⟩ : ∃ np, ps.length = np := ⟨_, rfl⟩
      rw [hnp] at d2
      have hsl := World.block_lt_of_cell? wr ⟨eb, eo + k * 3, none⟩ d0
      simp only [Int.toNat_natCast] at HLS
      have q5' : an ≠ bn := by intro e; exact q5 (by rw [e])
      have HLS2 : Hid (givTo eds p (k + 1) = (X.set an (X.getD an 0 + y)).set bn (X.getD bn 0 - y)) := by
        show _ = _
        rw [HLS.out]
        unfold givStep
        simp only [getD_set]
        simp [q5']
      have ya := HKZ.out.cell an (by rw [HTL.out]; omega)
      have yb := HKZ.out.cell bn (by rw [HTL.out]; omega)
      obtain ⟨xa1, xa2⟩ := HBD.out an
      obtain ⟨xb1, xb2⟩ := HBD.out bn
      obtain ⟨xa, hxa⟩ : ∃ v, X.getD an 0 = v := ⟨_, rfl⟩
      obtain ⟨xb, hxb⟩ : ∃ v, X.getD bn 0 = v := ⟨_, rfl⟩
      have HXB0 := Lib.hid hxb
      rw [hxa] at ya xa1 xa2 HLS2
      rw [hxb] at yb xb1 xb2 HLS2
      have s1 : IntKind.i64.wrap (xa + y) = xa + y := by rw [IntKind.wrap_i64] <;> omega
      have s2 : IntKind.i64.wrap (xb - y) = xb - y := by rw [IntKind.wrap_i64] <;> omega
      have hba : Below wr.heap.size wr (wr.alloc (Obj.cells #[.int .i64 (an : Int), .int .i64 (bn : Int), .slice pa np pc] 71)) := by go_grown
      have HEB := Lib.hid (heap_alloc_new wr (Obj.cells #[.int .i64 (an : Int), .int .i64 (bn : Int), .slice pa np pc] 71))
      have HKa := Lib.hid (HK.out.below hba HK.out.lt)
      have HXa := Lib.hid (HKX.out.below hba HKX.out.lt)
      have HZa := Lib.hid (HKZ.out.below hba HKZ.out.lt)
      have HBa := Lib.hid (HB.out.trans (hba.mono HB.out.size))
      have HXB := Lib.hid HKZ.out.lt
      have ya' := keepK ya hba
      have yb' := keepK yb hba
      have py' := keepK py hba
      have HLO := Lib.hid hlo
      have HUP := Lib.hid hup
      clear hget hk' hba hpp hxa hxb hnp HLS HBD hlo hup
      go_wp2_with fail
      generalize hwa : wr.alloc (Obj.cells #[.int .i64 (an : Int), .int .i64 (bn : Int), .slice pa np pc] 71) = wa at *
      clear hwa d0 d1 d2 x0 x1 py ya yb hsl
      have e0 := cellOf HEB.out 0 _ rfl
      have fz := frozen_of_row _ _ an _ _ HZa.out
      have gl := HZa.out.lt
      refine wp_region_noPanic ?_
      refine wp_region_last (S := (fun W' => W'.cell? ⟨wr.heap.size, 0, none⟩ = some (.int .i64 (an : Int)) ∧ W'.cell? ⟨w.heap.size + 1, k, none⟩ = some (.int .i64 y) ∧ W'.cell? ⟨w.heap.size + 1 + 1, an, none⟩ = some (.int .i64 xa))) 9 (by kernel_rfl) (by decide) (fun inv0 => ?_)
      have hh0 := (show _ ∧ _ ∧ _ from ⟨e0, py', ya'⟩)
      refine wpAnyZ_take (i := 0) (v := ?_) rfl (Lib.hid ⟨by as_aux_lemma => kernel_rfl, by as_aux_lemma => kernel_rfl, by as_aux_lemma => kernel_rfl, rfl⟩) (by decide) inv0 (by as_aux_lemma => kernel_rfl) (by as_aux_lemma => kernel_rfl) (fun _ _ _ h => h) (Or.inl ⟨by rfl, ?_⟩) hh0 (fun inv1 => ?_)
      rotate_left
      · intro w hSw
        try dsimp only at hSw
        go_simp
        try with_reducible rfl
      clear inv0
      try simp only [Act.put, List.getElem_toArray, List.getElem_cons_succ, List.getElem_cons_zero, List.setIfInBounds_toArray, List.set_cons_zero, List.set_cons_succ]
      refine wpAnyZ_take (i := 1) (v := ?_) rfl (Lib.hid ⟨by as_aux_lemma => kernel_rfl, by as_aux_lemma => kernel_rfl, by as_aux_lemma => kernel_rfl, rfl⟩) (by decide) inv1 (by as_aux_lemma => kernel_rfl) (by as_aux_lemma => kernel_rfl) (fun _ _ _ h => h) (Or.inl ⟨by rfl, ?_⟩) hh0 (fun inv2 => ?_)
      rotate_left
      · intro w hSw
        try dsimp only at hSw
        go_simp
        try with_reducible rfl
      clear inv1
      try simp only [Act.put, List.getElem_toArray, List.getElem_cons_succ, List.getElem_cons_zero, List.setIfInBounds_toArray, List.set_cons_zero, List.set_cons_succ]
      refine wpAnyZ_take (i := 2) (v := ?_) rfl (Lib.hid ⟨by as_aux_lemma => kernel_rfl, by as_aux_lemma => kernel_rfl, by as_aux_lemma => kernel_rfl, rfl⟩) (by decide) inv2 (by as_aux_lemma => kernel_rfl) (by as_aux_lemma => kernel_rfl) (fun _ _ _ h => h) (Or.inl ⟨by rfl, ?_⟩) hh0 (fun inv3 => ?_)
      rotate_left
      · intro w hSw
        try dsimp only at hSw
        go_simp
        try with_reducible rfl
      clear inv2
      try simp only [Act.put, List.getElem_toArray, List.getElem_cons_succ, List.getElem_cons_zero, List.setIfInBounds_toArray, List.set_cons_zero, List.set_cons_succ]
      refine wpAnyZ_take (i := 3) (v := ?_) rfl (Lib.hid ⟨by as_aux_lemma => kernel_rfl, by as_aux_lemma => kernel_rfl, by as_aux_lemma => kernel_rfl, rfl⟩) (by decide) inv3 (by as_aux_lemma => kernel_rfl) (by as_aux_lemma => kernel_rfl) (fun _ _ _ h => h) (Or.inl ⟨by rfl, ?_⟩) hh0 (fun inv4 => ?_)
      rotate_left
      · intro w hSw
        try dsimp only at hSw
        go_simp
        try with_reducible rfl
      clear inv3
      try simp only [Act.put, List.getElem_toArray, List.getElem_cons_succ, List.getElem_cons_zero, List.setIfInBounds_toArray, List.set_cons_zero, List.set_cons_succ]
      refine wpAnyZ_take (i := 4) (v := ?_) rfl (Lib.hid ⟨by as_aux_lemma => kernel_rfl, by as_aux_lemma => kernel_rfl, by as_aux_lemma => kernel_rfl, rfl⟩) (by decide) inv4 (by as_aux_lemma => kernel_rfl) (by as_aux_lemma => kernel_rfl) (fun _ _ _ h => h) (Or.inl ⟨by rfl, ?_⟩) hh0 (fun inv5 => ?_)
      rotate_left
      · intro w hSw
        try dsimp only at hSw
        go_simp
        try with_reducible rfl
      clear inv4
      try simp only [Act.put, List.getElem_toArray, List.getElem_cons_succ, List.getElem_cons_zero, List.setIfInBounds_toArray, List.set_cons_zero, List.set_cons_succ]
      refine wpAnyZ_take (i := 5) (v := ?_) rfl (Lib.hid ⟨by as_aux_lemma => kernel_rfl, by as_aux_lemma => kernel_rfl, by as_aux_lemma => kernel_rfl, rfl⟩) (by decide) inv5 (by as_aux_lemma => kernel_rfl) (by as_aux_lemma => kernel_rfl) (fun _ _ _ h => h) (Or.inl ⟨by rfl, ?_⟩) hh0 (fun inv6 => ?_)
      rotate_left
      · intro w hSw
        try dsimp only at hSw
        go_simp
        try with_reducible rfl
      clear inv5
      try simp only [Act.put, List.getElem_toArray, List.getElem_cons_succ, List.getElem_cons_zero, List.setIfInBounds_toArray, List.set_cons_zero, List.set_cons_succ]
      refine wpAnyZ_take (i := 6) (v := ?_) rfl (Lib.hid ⟨by as_aux_lemma => kernel_rfl, by as_aux_lemma => kernel_rfl, by as_aux_lemma => kernel_rfl, rfl⟩) (by decide) inv6 (by as_aux_lemma => kernel_rfl) (by as_aux_lemma => kernel_rfl) (fun _ _ _ h => h) (Or.inl ⟨by rfl, ?_⟩) hh0 (fun inv7 => ?_)
      rotate_left
      · intro w hSw
        try dsimp only at hSw
        go_simp
        try with_reducible rfl
      clear inv6
      try simp only [Act.put, List.getElem_toArray, List.getElem_cons_succ, List.getElem_cons_zero, List.setIfInBounds_toArray, List.set_cons_zero, List.set_cons_succ]
      refine wpAnyZ_take (i := 7) (v := ?_) rfl (Lib.hid ⟨by as_aux_lemma => kernel_rfl, by as_aux_lemma => kernel_rfl, by as_aux_lemma => kernel_rfl, rfl⟩) (by decide) inv7 (by as_aux_lemma => kernel_rfl) (by as_aux_lemma => kernel_rfl) (fun _ _ _ h => h) (Or.inl ⟨by rfl, ?_⟩) hh0 (fun inv8 => ?_)
      rotate_left
      · intro w hSw
        try dsimp only at hSw
        go_simp
        try with_reducible rfl
      clear inv7
      try simp only [Act.put, List.getElem_toArray, List.getElem_cons_succ, List.getElem_cons_zero, List.setIfInBounds_toArray, List.set_cons_zero, List.set_cons_succ]
      refine wpAnyZ_take (i := 8) (v := ?_) rfl (Lib.hid ⟨by as_aux_lemma => kernel_rfl, by as_aux_lemma => kernel_rfl, by as_aux_lemma => kernel_rfl, rfl⟩) (by decide) inv8 (by as_aux_lemma => kernel_rfl) (by as_aux_lemma => kernel_rfl) (fun _ _ _ h => h) (Or.inl ⟨by rfl, ?_⟩) hh0 (fun inv9 => ?_)
      rotate_left
      · intro w hSw
        try dsimp only at hSw
        go_simp
        try with_reducible rfl
      clear inv8
      try simp only [Act.put, List.getElem_toArray, List.getElem_cons_succ, List.getElem_cons_zero, List.setIfInBounds_toArray, List.set_cons_zero, List.set_cons_succ]
      refine wpAnyZ_all (rs := [9]) (by as_aux_lemma => kernel_rfl) (by simp) ?_
      intro i hi
      obtain rfl : i = 9 := by simpa using hi
      refine step_Z rfl (fun K hK => ?_)
      go_simp
      refine hK.out _ _ (fun h => absurd rfl h) ?_
      clear hK K
      try simp only [Act.put, List.getElem_toArray, List.getElem_cons_succ, List.getElem_cons_zero, List.setIfInBounds_toArray, List.set_cons_zero, List.set_cons_succ]
      refine wpAnyZ_done (by as_aux_lemma => kernel_rfl) ?_ _
      refine NoPanic.normal ?_
      go_wp2_with fail
      have HZ2 : Hid (GvBlk ((wa.setCell ⟨w.heap.size + 1 + 1, an, none⟩ (.int .i64 (xa + y))).drew) (w.heap.size + 1 + 1) (X.set an (xa + y))) := HZa.out.set an (xa + y)
      have HK2 : Hid (LkBlk ((wa.setCell ⟨w.heap.size + 1 + 1, an, none⟩ (.int .i64 (xa + y))).drew) w.heap.size tol (.slice sa n sc) (.slice (some ⟨eb, eo, none⟩) m ec) ws) := (heap_setCell_other wa (⟨w.heap.size + 1 + 1, an, none⟩ : Addr) w.heap.size _ (by show w.heap.size ≠ w.heap.size + 1 + 1; have := HXB.out; omega)).trans HKa.out
      have HX2 : Hid (PuBlk ((wa.setCell ⟨w.heap.size + 1 + 1, an, none⟩ (.int .i64 (xa + y))).drew) (w.heap.size + 1) p) := (heap_setCell_other wa (⟨w.heap.size + 1 + 1, an, none⟩ : Addr) (w.heap.size + 1) _ (by show (w.heap.size + 1) ≠ w.heap.size + 1 + 1; have := HXB.out; omega)).trans HXa.out
      have HE2 : Hid (((wa.setCell ⟨w.heap.size + 1 + 1, an, none⟩ (.int .i64 (xa + y))).drew).heap[wr.heap.size]? = some (.cells #[.int .i64 (an : Int), .int .i64 (bn : Int), .slice pa np pc] 71 (0, 0))) := (heap_setCell_other wa (⟨w.heap.size + 1 + 1, an, none⟩ : Addr) wr.heap.size _ (by show wr.heap.size ≠ w.heap.size + 1 + 1; have := HXB.out; omega)).trans HEB.out
      have HB2 : Hid (Below w.heap.size w ((wa.setCell ⟨w.heap.size + 1 + 1, an, none⟩ (.int .i64 (xa + y))).drew)) := (HBa.out.setCell (p := ⟨w.heap.size + 1 + 1, an, none⟩) (show w.heap.size ≤ w.heap.size + 1 + 1 by omega) _).trans ⟨rfl, rfl, rfl, Nat.le_refl _, fun _ _ => rfl⟩
      generalize HWW : (wa.setCell ⟨w.heap.size + 1 + 1, an, none⟩ (.int .i64 (xa + y))).drew = w2 at *
      clear HWW
      clear e0 fz gl ya' yb' py' HKa HXa HZa HBa HEB
      have e1 := cellOf HE2.out 1 _ rfl
      have fz := frozen_of_row _ _ bn _ _ HZ2.out
      have gl := HZ2.out.lt
      have yb2 : w2.cell? ⟨w.heap.size + 1 + 1, bn, none⟩ = some (.int .i64 xb) := by have h := HZ2.out.cell bn (by rw [List.length_set, HTL.out]; omega); rw [getD_set, if_neg (fun h => q5' h.1), HXB0.out] at h; exact h
      have py2 : w2.cell? ⟨w.heap.size + 1, k, none⟩ = some (.int .i64 y) := by have h := HX2.out.cell k (by rw [HPL.out]; omega); rw [HPY.out] at h; exact h
      refine wp_region_noPanic ?_
      refine wp_region_last (S := (fun W' => W'.cell? ⟨wr.heap.size, 1, none⟩ = some (.int .i64 (bn : Int)) ∧ W'.cell? ⟨w.heap.size + 1, k, none⟩ = some (.int .i64 y) ∧ W'.cell? ⟨w.heap.size + 1 + 1, bn, none⟩ = some (.int .i64 xb))) 9 (by kernel_rfl) (by decide) (fun inv0 => ?_)
      have hh0 := (show _ ∧ _ ∧ _ from ⟨e1, py2, yb2⟩)
      refine wpAnyZ_take (i := 0) (v := ?_) rfl (Lib.hid ⟨by as_aux_lemma => kernel_rfl, by as_aux_lemma => kernel_rfl, by as_aux_lemma => kernel_rfl, rfl⟩) (by decide) inv0 (by as_aux_lemma => kernel_rfl) (by as_aux_lemma => kernel_rfl) (fun _ _ _ h => h) (Or.inl ⟨by rfl, ?_⟩) hh0 (fun inv1 => ?_)
      rotate_left
      · intro w hSw
        try dsimp only at hSw
        go_simp
        try with_reducible rfl
      clear inv0
      try simp only [Act.put, List.getElem_toArray, List.getElem_cons_succ, List.getElem_cons_zero, List.setIfInBounds_toArray, List.set_cons_zero, List.set_cons_succ]
      refine wpAnyZ_take (i := 1) (v := ?_) rfl (Lib.hid ⟨by as_aux_lemma => kernel_rfl, by as_aux_lemma => kernel_rfl, by as_aux_lemma => kernel_rfl, rfl⟩) (by decide) inv1 (by as_aux_lemma => kernel_rfl) (by as_aux_lemma => kernel_rfl) (fun _ _ _ h => h) (Or.inl ⟨by rfl, ?_⟩) hh0 (fun inv2 => ?_)
      rotate_left
      · intro w hSw
        try dsimp only at hSw
        go_simp
        try with_reducible rfl
      clear inv1
      try simp only [Act.put, List.getElem_toArray, List.getElem_cons_succ, List.getElem_cons_zero, List.setIfInBounds_toArray, List.set_cons_zero, List.set_cons_succ]
      refine wpAnyZ_take (i := 2) (v := ?_) rfl (Lib.hid ⟨by as_aux_lemma => kernel_rfl, by as_aux_lemma => kernel_rfl, by as_aux_lemma => kernel_rfl, rfl⟩) (by decide) inv2 (by as_aux_lemma => kernel_rfl) (by as_aux_lemma => kernel_rfl) (fun _ _ _ h => h) (Or.inl ⟨by rfl, ?_⟩) hh0 (fun inv3 => ?_)
      rotate_left
      · intro w hSw
        try dsimp only at hSw
        go_simp
        try with_reducible rfl
      clear inv2
      try simp only [Act.put, List.getElem_toArray, List.getElem_cons_succ, List.getElem_cons_zero, List.setIfInBounds_toArray, List.set_cons_zero, List.set_cons_succ]
      refine wpAnyZ_take (i := 3) (v := ?_) rfl (Lib.hid ⟨by as_aux_lemma => kernel_rfl, by as_aux_lemma => kernel_rfl, by as_aux_lemma => kernel_rfl, rfl⟩) (by decide) inv3 (by as_aux_lemma => kernel_rfl) (by as_aux_lemma => kernel_rfl) (fun _ _ _ h => h) (Or.inl ⟨by rfl, ?_⟩) hh0 (fun inv4 => ?_)
      rotate_left
      · intro w hSw
        try dsimp only at hSw
        go_simp
        try with_reducible rfl
      clear inv3
      try simp only [Act.put, List.getElem_toArray, List.getElem_cons_succ, List.getElem_cons_zero, List.setIfInBounds_toArray, List.set_cons_zero, List.set_cons_succ]
      refine wpAnyZ_take (i := 4) (v := ?_) rfl (Lib.hid ⟨by as_aux_lemma => kernel_rfl, by as_aux_lemma => kernel_rfl, by as_aux_lemma => kernel_rfl, rfl⟩) (by decide) inv4 (by as_aux_lemma => kernel_rfl) (by as_aux_lemma => kernel_rfl) (fun _ _ _ h => h) (Or.inl ⟨by rfl, ?_⟩) hh0 (fun inv5 => ?_)
      rotate_left
      · intro w hSw
        try dsimp only at hSw
        go_simp
        try with_reducible rfl
      clear inv4
      try simp only [Act.put, List.getElem_toArray, List.getElem_cons_succ, List.getElem_cons_zero, List.setIfInBounds_toArray, List.set_cons_zero, List.set_cons_succ]
      refine wpAnyZ_take (i := 5) (v := ?_) rfl (Lib.hid ⟨by as_aux_lemma => kernel_rfl, by as_aux_lemma => kernel_rfl, by as_aux_lemma => kernel_rfl, rfl⟩) (by decide) inv5 (by as_aux_lemma => kernel_rfl) (by as_aux_lemma => kernel_rfl) (fun _ _ _ h => h) (Or.inl ⟨by rfl, ?_⟩) hh0 (fun inv6 => ?_)
      rotate_left
      · intro w hSw
        try dsimp only at hSw
        go_simp
        try with_reducible rfl
      clear inv5
      try simp only [Act.put, List.getElem_toArray, List.getElem_cons_succ, List.getElem_cons_zero, List.setIfInBounds_toArray, List.set_cons_zero, List.set_cons_succ]
      refine wpAnyZ_take (i := 6) (v := ?_) rfl (Lib.hid ⟨by as_aux_lemma => kernel_rfl, by as_aux_lemma => kernel_rfl, by as_aux_lemma => kernel_rfl, rfl⟩) (by decide) inv6 (by as_aux_lemma => kernel_rfl) (by as_aux_lemma => kernel_rfl) (fun _ _ _ h => h) (Or.inl ⟨by rfl, ?_⟩) hh0 (fun inv7 => ?_)
      rotate_left
      · intro w hSw
        try dsimp only at hSw
        go_simp
        try with_reducible rfl
      clear inv6
      try simp only [Act.put, List.getElem_toArray, List.getElem_cons_succ, List.getElem_cons_zero, List.setIfInBounds_toArray, List.set_cons_zero, List.set_cons_succ]
      refine wpAnyZ_take (i := 7) (v := ?_) rfl (Lib.hid ⟨by as_aux_lemma => kernel_rfl, by as_aux_lemma => kernel_rfl, by as_aux_lemma => kernel_rfl, rfl⟩) (by decide) inv7 (by as_aux_lemma => kernel_rfl) (by as_aux_lemma => kernel_rfl) (fun _ _ _ h => h) (Or.inl ⟨by rfl, ?_⟩) hh0 (fun inv8 => ?_)
      rotate_left
      · intro w hSw
        try dsimp only at hSw
        go_simp
        try with_reducible rfl
      clear inv7
      try simp only [Act.put, List.getElem_toArray, List.getElem_cons_succ, List.getElem_cons_zero, List.setIfInBounds_toArray, List.set_cons_zero, List.set_cons_succ]
      refine wpAnyZ_take (i := 8) (v := ?_) rfl (Lib.hid ⟨by as_aux_lemma => kernel_rfl, by as_aux_lemma => kernel_rfl, by as_aux_lemma => kernel_rfl, rfl⟩) (by decide) inv8 (by as_aux_lemma => kernel_rfl) (by as_aux_lemma => kernel_rfl) (fun _ _ _ h => h) (Or.inl ⟨by rfl, ?_⟩) hh0 (fun inv9 => ?_)
      rotate_left
      · intro w hSw
        try dsimp only at hSw
        go_simp
        try with_reducible rfl
      clear inv8
      try simp only [Act.put, List.getElem_toArray, List.getElem_cons_succ, List.getElem_cons_zero, List.setIfInBounds_toArray, List.set_cons_zero, List.set_cons_succ]
      refine wpAnyZ_all (rs := [9]) (by as_aux_lemma => kernel_rfl) (by simp) ?_
      intro i hi
      obtain rfl : i = 9 := by simpa using hi
      refine step_Z rfl (fun K hK => ?_)
      go_simp
      refine hK.out _ _ (fun h => absurd rfl h) ?_
      clear hK K
      try simp only [Act.put, List.getElem_toArray, List.getElem_cons_succ, List.getElem_cons_zero, List.setIfInBounds_toArray, List.set_cons_zero, List.set_cons_succ]
      refine wpAnyZ_done (by as_aux_lemma => kernel_rfl) ?_ _
      refine NoPanic.normal ?_
      go_wp2_with fail
      have HZ3 : Hid (GvBlk ((w2.setCell ⟨w.heap.size + 1 + 1, bn, none⟩ (.int .i64 (xb - y))).drew) (w.heap.size + 1 + 1) ((X.set an (xa + y)).set bn (xb - y))) := HZ2.out.set bn (xb - y)
      have HK3 : Hid (LkBlk ((w2.setCell ⟨w.heap.size + 1 + 1, bn, none⟩ (.int .i64 (xb - y))).drew) w.heap.size tol (.slice sa n sc) (.slice (some ⟨eb, eo, none⟩) m ec) ws) := (heap_setCell_other w2 (⟨w.heap.size + 1 + 1, bn, none⟩ : Addr) w.heap.size _ (by show w.heap.size ≠ w.heap.size + 1 + 1; have := HXB.out; omega)).trans HK2.out
      have HX3 : Hid (PuBlk ((w2.setCell ⟨w.heap.size + 1 + 1, bn, none⟩ (.int .i64 (xb - y))).drew) (w.heap.size + 1) p) := (heap_setCell_other w2 (⟨w.heap.size + 1 + 1, bn, none⟩ : Addr) (w.heap.size + 1) _ (by show (w.heap.size + 1) ≠ w.heap.size + 1 + 1; have := HXB.out; omega)).trans HX2.out
      have HE3 : Hid (((w2.setCell ⟨w.heap.size + 1 + 1, bn, none⟩ (.int .i64 (xb - y))).drew).heap[wr.heap.size]? = some (.cells #[.int .i64 (an : Int), .int .i64 (bn : Int), .slice pa np pc] 71 (0, 0))) := (heap_setCell_other w2 (⟨w.heap.size + 1 + 1, bn, none⟩ : Addr) wr.heap.size _ (by show wr.heap.size ≠ w.heap.size + 1 + 1; have := HXB.out; omega)).trans HE2.out
      have HB3 : Hid (Below w.heap.size w ((w2.setCell ⟨w.heap.size + 1 + 1, bn, none⟩ (.int .i64 (xb - y))).drew)) := (HB2.out.setCell (p := ⟨w.heap.size + 1 + 1, bn, none⟩) (show w.heap.size ≤ w.heap.size + 1 + 1 by omega) _).trans ⟨rfl, rfl, rfl, Nat.le_refl _, fun _ _ => rfl⟩
      generalize HWW : (w2.setCell ⟨w.heap.size + 1 + 1, bn, none⟩ (.int .i64 (xb - y))).drew = w3 at *
      clear HWW
      rw [← HLS2.out] at HZ3
      clear e1 fz gl yb2 py2 HK2 HX2 HZ2 HE2 HB2
      have py3 : w3.cell? ⟨w.heap.size + 1, k, none⟩ = some (.int .i64 y) := by have h := HX3.out.cell k (by rw [HPL.out]; omega); rw [HPY.out] at h; exact h
      have x0' : w3.cell? ⟨w.heap.size, 3 + k * 2, none⟩ = some (.int .i64 lo) := by rw [(HK3.out.span k (by omega) HW.out).1, HLO.out]
      have x1' : w3.cell? ⟨w.heap.size, 3 + k * 2 + 1, none⟩ = some (.int .i64 up) := by rw [(HK3.out.span k (by omega) HW.out).2, HUP.out]
      obtain ⟨mx, hmx⟩ : ∃ v, max y 0 = v := ⟨_, rfl⟩
      obtain ⟨mn, hmn⟩ : ∃ v, min y 0 = v := ⟨_, rfl⟩
      have m1 := mul_in (a := mx) (b := lo) (A := 100000) (B := 20000) (by omega) (by omega) (by omega) (by omega)
      have m2 := mul_in (a := mn) (b := up) (A := 100000) (B := 20000) (by omega) (by omega) (by omega) (by omega)
      obtain ⟨p1, hp1⟩ : ∃ v, mx * lo = v := ⟨_, rfl⟩
      obtain ⟨p2, hp2⟩ : ∃ v, mn * up = v := ⟨_, rfl⟩
      rw [hmx, hmn, hp1, hp2] at HST
      rw [hp1] at m1
      rw [hp2] at m2
      have s3 : IntKind.i64.wrap (mx * lo) = p1 := by rw [hp1, IntKind.wrap_i64] <;> omega
      have s4 : IntKind.i64.wrap (mn * up) = p2 := by rw [hp2, IntKind.wrap_i64] <;> omega
      have s5 : IntKind.i64.wrap (p1 + p2) = p1 + p2 := by rw [IntKind.wrap_i64] <;> omega
      have s6 : IntKind.i64.wrap (D + (p1 + p2)) = D + (p1 + p2) := by rw [IntKind.wrap_i64] <;> omega
      clear s1 s2 m1 m2 hp1 hp2 xa1 xa2 xb1 xb2 HLS2
      have HV : Hid (IntKind.i64.wrap (D + IntKind.i64.wrap (IntKind.i64.wrap ((if y < 0 then 0 else y) * lo) + IntKind.i64.wrap ((if 0 < y then 0 else y) * up))) = bndE ws p (k + 1)) := by
        have e1 : (if y < 0 then 0 else y) = mx := by rw [← hmx]; split <;> omega
        have e2 : (if 0 < y then 0 else y) = mn := by rw [← hmn]; split <;> omega
        show _ = _
        rw [e1, e2, s3, s4, s5, s6, HST.out]
      clear s3 s4 s5 s6 HST
      have HMX := Lib.hid hmx
      have HMN := Lib.hid hmn
      clear hmx hmn
      refine wp_region_noPanic ?_
      refine wp_region_held_drew (S := (fun W' => W'.cell? ⟨w.heap.size + 1, k, none⟩ = some (.int .i64 y) ∧ W'.cell? ⟨w.heap.size, 3 + k * 2, none⟩ = some (.int .i64 lo) ∧ W'.cell? ⟨w.heap.size, 3 + k * 2 + 1, none⟩ = some (.int .i64 up))) (by kernel_rfl) ?_ (fun hh0 => ?_)
      · try dsimp only
        exact ⟨py3, x0', x1'⟩
      refine wpAnyH_take (i := 0) (v := ?_) rfl (by as_aux_lemma => kernel_rfl) (by as_aux_lemma => kernel_rfl) (by as_aux_lemma => kernel_rfl) (fun _ _ _ h => h) (Or.inl ⟨by rfl, ?_⟩) (by assumption) ?_
      rotate_left
      · intro w hSw
        try dsimp only at hSw
        go_simp
        try with_reducible rfl
      try simp only [Act.put, List.getElem_toArray, List.getElem_cons_succ, List.getElem_cons_zero, List.setIfInBounds_toArray, List.set_cons_zero, List.set_cons_succ]
      refine wpAnyH_take (i := 1) (v := ?_) rfl (by as_aux_lemma => kernel_rfl) (by as_aux_lemma => kernel_rfl) (by as_aux_lemma => kernel_rfl) (fun _ _ _ h => h) (Or.inl ⟨by rfl, ?_⟩) (by assumption) ?_
      rotate_left
      · intro w hSw
        try dsimp only at hSw
        go_simp
        try with_reducible rfl
      try simp only [Act.put, List.getElem_toArray, List.getElem_cons_succ, List.getElem_cons_zero, List.setIfInBounds_toArray, List.set_cons_zero, List.set_cons_succ]
      refine wpAnyH_take (i := 2) (v := ?_) rfl (by as_aux_lemma => kernel_rfl) (by as_aux_lemma => kernel_rfl) (by as_aux_lemma => kernel_rfl) (fun _ _ _ h => h) (Or.inl ⟨by rfl, ?_⟩) (by assumption) ?_
      rotate_left
      · intro w hSw
        try dsimp only at hSw
        go_simp
        try with_reducible rfl
      try simp only [Act.put, List.getElem_toArray, List.getElem_cons_succ, List.getElem_cons_zero, List.setIfInBounds_toArray, List.set_cons_zero, List.set_cons_succ]
      refine wpAnyH_take (i := 3) (v := ?_) rfl (by as_aux_lemma => kernel_rfl) (by as_aux_lemma => kernel_rfl) (by as_aux_lemma => kernel_rfl) (fun _ _ _ h => h) (Or.inl ⟨by rfl, ?_⟩) (by assumption) ?_
      rotate_left
      · intro w hSw
        try dsimp only at hSw
        go_simp
        try with_reducible rfl
      try simp only [Act.put, List.getElem_toArray, List.getElem_cons_succ, List.getElem_cons_zero, List.setIfInBounds_toArray, List.set_cons_zero, List.set_cons_succ]
      refine wpAnyH_take (i := 4) (v := ?_) rfl (by as_aux_lemma => kernel_rfl) (by as_aux_lemma => kernel_rfl) (by as_aux_lemma => kernel_rfl) (fun _ _ _ h => h) (Or.inl ⟨by rfl, ?_⟩) (by assumption) ?_
      rotate_left
      · intro w hSw
        try dsimp only at hSw
        go_simp
        try with_reducible rfl
      try simp only [Act.put, List.getElem_toArray, List.getElem_cons_succ, List.getElem_cons_zero, List.setIfInBounds_toArray, List.set_cons_zero, List.set_cons_succ]
      refine wpAnyH_take (i := 5) (v := ?_) rfl (by as_aux_lemma => kernel_rfl) (by as_aux_lemma => kernel_rfl) (by as_aux_lemma => kernel_rfl) (fun _ _ _ h => h) (Or.inl ⟨by rfl, ?_⟩) (by assumption) ?_
      rotate_left
      · intro w hSw
        try dsimp only at hSw
        go_simp
        try with_reducible rfl
      try simp only [Act.put, List.getElem_toArray, List.getElem_cons_succ, List.getElem_cons_zero, List.setIfInBounds_toArray, List.set_cons_zero, List.set_cons_succ]
      refine wpAnyH_take (i := 6) (v := ?_) rfl (by as_aux_lemma => kernel_rfl) (by as_aux_lemma => kernel_rfl) (by as_aux_lemma => kernel_rfl) (fun _ _ _ h => h) (Or.inl ⟨by rfl, ?_⟩) (by assumption) ?_
      rotate_left
      · intro w hSw
        try dsimp only at hSw
        go_simp
        try with_reducible rfl
      try simp only [Act.put, List.getElem_toArray, List.getElem_cons_succ, List.getElem_cons_zero, List.setIfInBounds_toArray, List.set_cons_zero, List.set_cons_succ]
      refine wpAnyH_take (i := 7) (v := ?_) rfl (by as_aux_lemma => kernel_rfl) (by as_aux_lemma => kernel_rfl) (by as_aux_lemma => kernel_rfl) (fun _ _ _ h => h) (Or.inl ⟨by rfl, ?_⟩) (by assumption) ?_
      rotate_left
      · intro w hSw
        try dsimp only at hSw
        go_simp
        try with_reducible rfl
      try simp only [Act.put, List.getElem_toArray, List.getElem_cons_succ, List.getElem_cons_zero, List.setIfInBounds_toArray, List.set_cons_zero, List.set_cons_succ]
      refine wpAnyH_take (i := 8) (v := ?_) rfl (by as_aux_lemma => kernel_rfl) (by as_aux_lemma => kernel_rfl) (by as_aux_lemma => kernel_rfl) (fun _ _ _ h => h) (Or.inl ⟨by rfl, ?_⟩) (by assumption) ?_
      rotate_left
      · intro w hSw
        try dsimp only at hSw
        go_simp
        try with_reducible rfl
      try simp only [Act.put, List.getElem_toArray, List.getElem_cons_succ, List.getElem_cons_zero, List.setIfInBounds_toArray, List.set_cons_zero, List.set_cons_succ]
      refine wpAnyH_take (i := 9) (v := ?_) rfl (by as_aux_lemma => kernel_rfl) (by as_aux_lemma => kernel_rfl) (by as_aux_lemma => kernel_rfl) (fun _ _ _ h => h) (Or.inl ⟨by rfl, ?_⟩) (by assumption) ?_
      rotate_left
      · intro w hSw
        try dsimp only at hSw
        go_simp
        try with_reducible rfl
      try simp only [Act.put, List.getElem_toArray, List.getElem_cons_succ, List.getElem_cons_zero, List.setIfInBounds_toArray, List.set_cons_zero, List.set_cons_succ]
      refine wpAnyH_take (i := 10) (v := ?_) rfl (by as_aux_lemma => kernel_rfl) (by as_aux_lemma => kernel_rfl) (by as_aux_lemma => kernel_rfl) (fun _ _ _ h => h) (Or.inl ⟨by rfl, ?_⟩) (by assumption) ?_
      rotate_left
      · intro w hSw
        try dsimp only at hSw
        go_simp
        try with_reducible rfl
      try simp only [Act.put, List.getElem_toArray, List.getElem_cons_succ, List.getElem_cons_zero, List.setIfInBounds_toArray, List.set_cons_zero, List.set_cons_succ]
      refine wpAnyH_take (i := 11) (v := ?_) rfl (by as_aux_lemma => kernel_rfl) (by as_aux_lemma => kernel_rfl) (by as_aux_lemma => kernel_rfl) (fun _ _ _ h => h) (Or.inl ⟨by rfl, ?_⟩) (by assumption) ?_
      rotate_left
      · intro w hSw
        try dsimp only at hSw
        go_simp
        try with_reducible rfl
      try simp only [Act.put, List.getElem_toArray, List.getElem_cons_succ, List.getElem_cons_zero, List.setIfInBounds_toArray, List.set_cons_zero, List.set_cons_succ]
      refine wpAnyH_take (i := 12) (v := ?_) rfl (by as_aux_lemma => kernel_rfl) (by as_aux_lemma => kernel_rfl) (by as_aux_lemma => kernel_rfl) (fun _ _ _ h => h) (Or.inl ⟨by rfl, ?_⟩) (by assumption) ?_
      rotate_left
      · intro w hSw
        try dsimp only at hSw
        go_simp
        try with_reducible rfl
      try simp only [Act.put, List.getElem_toArray, List.getElem_cons_succ, List.getElem_cons_zero, List.setIfInBounds_toArray, List.set_cons_zero, List.set_cons_succ]
      refine wpAnyH_take (i := 13) (v := ?_) rfl (by as_aux_lemma => kernel_rfl) (by as_aux_lemma => kernel_rfl) (by as_aux_lemma => kernel_rfl) (fun _ _ _ h => h) (Or.inl ⟨by rfl, ?_⟩) (by assumption) ?_
      rotate_left
      · intro w hSw
        try dsimp only at hSw
        go_simp
        try with_reducible rfl
      try simp only [Act.put, List.getElem_toArray, List.getElem_cons_succ, List.getElem_cons_zero, List.setIfInBounds_toArray, List.set_cons_zero, List.set_cons_succ]
      refine wpAnyH_take (i := 14) (v := ?_) rfl (by as_aux_lemma => kernel_rfl) (by as_aux_lemma => kernel_rfl) (by as_aux_lemma => kernel_rfl) (fun _ _ _ h => h) (Or.inl ⟨by rfl, ?_⟩) (by assumption) ?_
      rotate_left
      · intro w hSw
        try dsimp only at hSw
        go_simp
        try with_reducible rfl
      try simp only [Act.put, List.getElem_toArray, List.getElem_cons_succ, List.getElem_cons_zero, List.setIfInBounds_toArray, List.set_cons_zero, List.set_cons_succ]
      refine wpAnyH_take (i := 15) (v := ?_) rfl (by as_aux_lemma => kernel_rfl) (by as_aux_lemma => kernel_rfl) (by as_aux_lemma => kernel_rfl) (fun _ _ _ h => h) (Or.inl ⟨by rfl, ?_⟩) (by assumption) ?_
      rotate_left
      · intro w hSw
        try dsimp only at hSw
        go_simp
        try with_reducible rfl
      try simp only [Act.put, List.getElem_toArray, List.getElem_cons_succ, List.getElem_cons_zero, List.setIfInBounds_toArray, List.set_cons_zero, List.set_cons_succ]
      refine wpAnyH_take (i := 16) (v := ?_) rfl (by as_aux_lemma => kernel_rfl) (by as_aux_lemma => kernel_rfl) (by as_aux_lemma => kernel_rfl) (fun _ _ _ h => h) (Or.inl ⟨by rfl, ?_⟩) (by assumption) ?_
      rotate_left
      · intro w hSw
        try dsimp only at hSw
        go_simp
        try with_reducible rfl
      try simp only [Act.put, List.getElem_toArray, List.getElem_cons_succ, List.getElem_cons_zero, List.setIfInBounds_toArray, List.set_cons_zero, List.set_cons_succ]
      refine wpAnyH_take (i := 17) (v := ?_) rfl (by as_aux_lemma => kernel_rfl) (by as_aux_lemma => kernel_rfl) (by as_aux_lemma => kernel_rfl) (fun _ _ _ h => h) (Or.inl ⟨by rfl, ?_⟩) (by assumption) ?_
      rotate_left
      · intro w hSw
        try dsimp only at hSw
        go_simp
        try with_reducible rfl
      try simp only [Act.put, List.getElem_toArray, List.getElem_cons_succ, List.getElem_cons_zero, List.setIfInBounds_toArray, List.set_cons_zero, List.set_cons_succ]
      refine wpAnyH_take (i := 18) (v := ?_) rfl (by as_aux_lemma => kernel_rfl) (by as_aux_lemma => kernel_rfl) (by as_aux_lemma => kernel_rfl) (fun _ _ _ h => h) (Or.inl ⟨by rfl, ?_⟩) (by assumption) ?_
      rotate_left
      · intro w hSw
        try dsimp only at hSw
        go_simp
        try with_reducible rfl
      try simp only [Act.put, List.getElem_toArray, List.getElem_cons_succ, List.getElem_cons_zero, List.setIfInBounds_toArray, List.set_cons_zero, List.set_cons_succ]
      refine wpAnyH_take (i := 19) (v := ?_) rfl (by as_aux_lemma => kernel_rfl) (by as_aux_lemma => kernel_rfl) (by as_aux_lemma => kernel_rfl) (fun _ _ _ h => h) (Or.inl ⟨by rfl, ?_⟩) (by assumption) ?_
      rotate_left
      · intro w hSw
        try dsimp only at hSw
        go_simp
        try with_reducible rfl
      try simp only [Act.put, List.getElem_toArray, List.getElem_cons_succ, List.getElem_cons_zero, List.setIfInBounds_toArray, List.set_cons_zero, List.set_cons_succ]
      refine wpAnyH_take (i := 20) (v := ?_) rfl (by as_aux_lemma => kernel_rfl) (by as_aux_lemma => kernel_rfl) (by as_aux_lemma => kernel_rfl) (fun _ _ _ h => h) (Or.inl ⟨by rfl, ?_⟩) (by assumption) ?_
      rotate_left
      · intro w hSw
        try dsimp only at hSw
        go_simp
        try with_reducible rfl
      try simp only [Act.put, List.getElem_toArray, List.getElem_cons_succ, List.getElem_cons_zero, List.setIfInBounds_toArray, List.set_cons_zero, List.set_cons_succ]
      refine wpAnyH_take (i := 21) (v := ?_) rfl (by as_aux_lemma => kernel_rfl) (by as_aux_lemma => kernel_rfl) (by as_aux_lemma => kernel_rfl) (fun _ _ _ h => h) (Or.inl ⟨by rfl, ?_⟩) (by assumption) ?_
      rotate_left
      · intro w hSw
        try dsimp only at hSw
        go_simp
        try with_reducible rfl
      try simp only [Act.put, List.getElem_toArray, List.getElem_cons_succ, List.getElem_cons_zero, List.setIfInBounds_toArray, List.set_cons_zero, List.set_cons_succ]
      refine wpAnyH_take (i := 22) (v := ?_) rfl (by as_aux_lemma => kernel_rfl) (by as_aux_lemma => kernel_rfl) (by as_aux_lemma => kernel_rfl) (fun _ _ _ h => h) (Or.inl ⟨by rfl, ?_⟩) (by assumption) ?_
      rotate_left
      · intro w hSw
        try dsimp only at hSw
        go_simp
        try with_reducible rfl
      try simp only [Act.put, List.getElem_toArray, List.getElem_cons_succ, List.getElem_cons_zero, List.setIfInBounds_toArray, List.set_cons_zero, List.set_cons_succ]
      refine wpAnyH_ready (rs := [23]) (by as_aux_lemma => kernel_rfl) (by simp) ?_
      refine AllReadyH.cons rfl (fun K hK => ?_) AllReadyH.nil
      go_simp
      refine hK.out _ _ ?_ (fun hh1 => ?_)
      · try dsimp only
        exact hh0
      clear hK K hh0
      try simp only [Act.put, List.getElem_toArray, List.getElem_cons_succ, List.getElem_cons_zero, List.setIfInBounds_toArray, List.set_cons_zero, List.set_cons_succ]
      refine wpAnyH_done (by as_aux_lemma => kernel_rfl) ?_ _
      refine NoPanic.normal ?_
      clear hh1 py3 x0' x1'
      rw [HV.out]
      try rw [HV.out]
      generalize (if y < 0 then (0 : Int) else y) = u1
      generalize (if 0 < y then (0 : Int) else y) = u2
      go_wp2
      go_roundg (gk - 1)
      case measure => omega
      case rel => exact ⟨k + 1, by omega, by go_num, rfl, HK3, HX3, HZ3, HB3.out.trans ⟨rfl, rfl, rfl, Nat.le_refl _, fun _ _ => rfl⟩⟩
    · obtain rfl : k = m := by omega
      have kI : ¬ (k : Int) < (k : Int) := by omega
      clear hkm hk
      have c1 := HK.out.c1
      have HG0 := HGB.out k (Nat.le_refl _)
      have HG : Hid (∀ i, -800000 ≤ (givTo eds p k).getD i 0 ∧ (givTo eds p k).getD i 0 ≤ 800000) := fun i => by have := HG0 i; omega
      have hbe := bndE_bd ws p HSB.out HP.out k
      have HTL : Hid ((givTo eds p k).length = 5) := givTo_length eds p k
      obtain ⟨G, hG⟩ : ∃ G, givTo eds p k = G := ⟨_, rfl⟩
      rw [hG] at HKZ HG HTL
      have HGE := Lib.hid hG
      obtain ⟨E, hE⟩ : ∃ E, bndE ws p k = E := ⟨_, rfl⟩
      rw [hE] at hbe ⊢
      have HEE := Lib.hid hE
      have HBS : Hid (∀ j, j ≤ n → -32000000000 - 4800000 * (j : Int) ≤ bndS shs G E j ∧ bndS shs G E j ≤ 32000000000) := fun j hj => bndS_bd shs HOK.out G HG.out E (by omega) (by omega) j (by rw [HNN.out]; exact hj)
      clear HG0 hG hE hbe HGB
      go_wp2_with fail
      clear c1
      rename World => V
      go_loopg [5, 66] n (fun g u v wr => ∃ j : Nat, g + j = n ∧ v = .int .i64 j ∧ u = .int .i64 (bndS shs G E j) ∧ Hid (Below V.heap.size V wr))
      case atStart => exact ⟨0, by omega, rfl, rfl, Below.refl _ _⟩
      case round =>
        obtain ⟨j, hj, rfl, rfl, HL⟩ := hrel
        by_cases hjn : j < n
        · have jI : (j : Int) < (n : Int) := by omega
          have j5 : (j : Int) < 5 := by omega
          have hj' : j < shs.length := by rw [HNN.out]; exact hjn
          obtain ⟨sb, so, rfl, d0, d1, d2⟩ := ((HS.out.below HB.out).below HL.out).get hj'
          have hok := HOK.out shs[j] (List.getElem_mem hj')
          have hget : shs.getD j default = shs[j] := by simp [List.getD_eq_getElem?_getD, hj']
          have y0 := (HKZ.out.below HL.out HKZ.out.lt).cell j (by rw [HTL.out]; omega)
          have yl := (HKZ.out.below HL.out HKZ.out.lt).lt
          have hbd := HBS.out j (by omega)
          have HST : Hid (bndS shs G E (j + 1) = bndS shs G E j - shs[j].most * max 0 (absI (G.getD j 0) - shs[j].wt)) := by show _ = _; rw [← hget]; rfl
          have hmb := mul_bd (a := shs[j].most) (b := max 0 (absI (G.getD j 0) - shs[j].wt)) (A := 6) (B := 800000) hok.m0 hok.m6 (by omega) (by have := HG.out j; have := hok.w0; unfold absI; omega)
          have hab : absI (G.getD j 0) ≤ 800000 ∧ 0 ≤ absI (G.getD j 0) := by have := HG.out j; unfold absI; omega
          have HUN : Hid (∀ W', Calls Try.prog 85 #[.int .i64 (G.getD j 0)] W' fun e w' => e = .returned (.int .i64 (absI (G.getD j 0))) ∧ W' = w') := fun W' => unsigned_any _ (by have := HG.out j; omega) (by have := HG.out j; omega) W'
          obtain ⟨F, hF⟩ : ∃ F, bndS shs G E j = F := ⟨_, rfl⟩
          rw [hF] at hbd HST ⊢
          clear hF
          generalize shs[j] = s at *
          generalize absI (G.getD j 0) = ab at *
          generalize G.getD j 0 = xk at *
          obtain ⟨nm, wt, most⟩ := s
          simp only at d0 d1 d2
          obtain ⟨t0', t20, m0, m6⟩ := hok
          simp only at t0' t20 m0 m6
          simp only at HST hmb
          obtain ⟨ab2, ab0⟩ := hab
          obtain ⟨f1, f2⟩ := hbd
          have s1 : IntKind.i64.wrap (ab - wt) = ab - wt := by rw [IntKind.wrap_i64] <;> omega
          obtain ⟨mz, hmz⟩ : ∃ v, max 0 (ab - wt) = v := ⟨_, rfl⟩
          rw [hmz] at HST hmb
          obtain ⟨pr, hpr⟩ : ∃ v, most * mz = v := ⟨_, rfl⟩
          rw [hpr] at HST hmb
          have HV : Hid (IntKind.i64.wrap (F - IntKind.i64.wrap (most * (if wt < ab then ab - wt else 0))) = bndS shs G E (j + 1)) := by
            have e : (if wt < ab then ab - wt else 0) = mz := by rw [← hmz]; split <;> omega
            have t1 : IntKind.i64.wrap pr = pr := by rw [IntKind.wrap_i64] <;> omega
            show _ = _
            rw [e, hpr, HST.out, t1, IntKind.wrap_i64] <;> omega
          have hsl := World.block_lt_of_cell? wr ⟨sb, so + j * 3, none⟩ d0
          have HL2 : Hid (Below V.heap.size V (wr.alloc (Obj.cells #[.string nm, .int .i64 wt, .int .i64 most] 66))) := HL.out.alloc HL.out.size _
          have x1 := cellOf (heap_alloc_new wr (Obj.cells #[.string nm, .int .i64 wt, .int .i64 most] 66)) 1 _ rfl
          have x2 := cellOf (heap_alloc_new wr (Obj.cells #[.string nm, .int .i64 wt, .int .i64 most] 66)) 2 _ rfl
          have y0' : (wr.alloc (Obj.cells #[.string nm, .int .i64 wt, .int .i64 most] 66)).cell? ⟨w.heap.size + 1 + 1, j, none⟩ = some (.int .i64 xk) := keepK y0 (by go_grown)
          clear hget hj' hpr hmz HST hmb
          go_wp2_with fail
          generalize hwa : wr.alloc (Obj.cells #[.string nm, .int .i64 wt, .int .i64 most] 66) = wa at *
          clear hwa d0 d1 d2 y0
          refine wp_region_noPanic ?_
          refine wp_region_held_drew (S := (fun W' => W'.cell? ⟨wr.heap.size, 1, none⟩ = some (.int .i64 wt) ∧ W'.cell? ⟨wr.heap.size, 2, none⟩ = some (.int .i64 most) ∧ W'.cell? ⟨w.heap.size + 1 + 1, j, none⟩ = some (.int .i64 xk))) (by kernel_rfl) ?_ (fun hh0 => ?_)
          · try dsimp only
            exact ⟨x1, x2, y0'⟩
          refine wpAnyH_take (i := 0) (v := ?_) rfl (by as_aux_lemma => kernel_rfl) (by as_aux_lemma => kernel_rfl) (by as_aux_lemma => kernel_rfl) (fun _ _ _ h => h) (Or.inl ⟨by rfl, ?_⟩) (by assumption) ?_
          rotate_left
          · intro w hSw
            try dsimp only at hSw
            go_simp
            try with_reducible rfl
          try simp only [Act.put, List.getElem_toArray, List.getElem_cons_succ, List.getElem_cons_zero, List.setIfInBounds_toArray, List.set_cons_zero, List.set_cons_succ]
          refine wpAnyH_take (i := 1) (v := ?_) rfl (by as_aux_lemma => kernel_rfl) (by as_aux_lemma => kernel_rfl) (by as_aux_lemma => kernel_rfl) (fun _ _ _ h => h) (Or.inl ⟨by rfl, ?_⟩) (by assumption) ?_
          rotate_left
          · intro w hSw
            try dsimp only at hSw
            go_simp
            try with_reducible rfl
          try simp only [Act.put, List.getElem_toArray, List.getElem_cons_succ, List.getElem_cons_zero, List.setIfInBounds_toArray, List.set_cons_zero, List.set_cons_succ]
          refine wpAnyH_take (i := 2) (v := ?_) rfl (by as_aux_lemma => kernel_rfl) (by as_aux_lemma => kernel_rfl) (by as_aux_lemma => kernel_rfl) (fun _ _ _ h => h) (Or.inl ⟨by rfl, ?_⟩) (by assumption) ?_
          rotate_left
          · intro w hSw
            try dsimp only at hSw
            go_simp
            try with_reducible rfl
          try simp only [Act.put, List.getElem_toArray, List.getElem_cons_succ, List.getElem_cons_zero, List.setIfInBounds_toArray, List.set_cons_zero, List.set_cons_succ]
          refine wpAnyH_take (i := 3) (v := ?_) rfl (by as_aux_lemma => kernel_rfl) (by as_aux_lemma => kernel_rfl) (by as_aux_lemma => kernel_rfl) (fun _ _ _ h => h) (Or.inl ⟨by rfl, ?_⟩) (by assumption) ?_
          rotate_left
          · intro w hSw
            try dsimp only at hSw
            go_simp
            try with_reducible rfl
          try simp only [Act.put, List.getElem_toArray, List.getElem_cons_succ, List.getElem_cons_zero, List.setIfInBounds_toArray, List.set_cons_zero, List.set_cons_succ]
          refine wpAnyH_take (i := 4) (v := ?_) rfl (by as_aux_lemma => kernel_rfl) (by as_aux_lemma => kernel_rfl) (by as_aux_lemma => kernel_rfl) (fun _ _ _ h => h) (Or.inl ⟨by rfl, ?_⟩) (by assumption) ?_
          rotate_left
          · intro w hSw
            try dsimp only at hSw
            go_simp
            try with_reducible rfl
          try simp only [Act.put, List.getElem_toArray, List.getElem_cons_succ, List.getElem_cons_zero, List.setIfInBounds_toArray, List.set_cons_zero, List.set_cons_succ]
          refine wpAnyH_take (i := 5) (v := ?_) rfl (by as_aux_lemma => kernel_rfl) (by as_aux_lemma => kernel_rfl) (by as_aux_lemma => kernel_rfl) (fun _ _ _ h => h) (Or.inl ⟨by rfl, ?_⟩) (by assumption) ?_
          rotate_left
          · intro w hSw
            try dsimp only at hSw
            go_simp
            try with_reducible rfl
          try simp only [Act.put, List.getElem_toArray, List.getElem_cons_succ, List.getElem_cons_zero, List.setIfInBounds_toArray, List.set_cons_zero, List.set_cons_succ]
          refine wpAnyH_take (i := 7) (v := ?_) rfl (by as_aux_lemma => kernel_rfl) (by as_aux_lemma => kernel_rfl) (by as_aux_lemma => kernel_rfl) (fun _ _ _ h => h) (Or.inl ⟨by rfl, ?_⟩) (by assumption) ?_
          rotate_left
          · intro w hSw
            try dsimp only at hSw
            go_simp
            try with_reducible rfl
          try simp only [Act.put, List.getElem_toArray, List.getElem_cons_succ, List.getElem_cons_zero, List.setIfInBounds_toArray, List.set_cons_zero, List.set_cons_succ]
          refine wpAnyH_take (i := 8) (v := ?_) rfl (by as_aux_lemma => kernel_rfl) (by as_aux_lemma => kernel_rfl) (by as_aux_lemma => kernel_rfl) (fun _ _ _ h => h) (Or.inl ⟨by rfl, ?_⟩) (by assumption) ?_
          rotate_left
          · intro w hSw
            try dsimp only at hSw
            go_simp
            try with_reducible rfl
          try simp only [Act.put, List.getElem_toArray, List.getElem_cons_succ, List.getElem_cons_zero, List.setIfInBounds_toArray, List.set_cons_zero, List.set_cons_succ]
          refine wpAnyH_ready (rs := [6]) (by as_aux_lemma => kernel_rfl) (by simp) ?_
          refine AllReadyH.cons rfl (fun K hK => ?_) AllReadyH.nil
          go_simp
          refine (HUN.out _).mono ?_
          rintro e wg ⟨rfl, rfl⟩
          refine hK.out _ _ ?_ (fun hh1 => ?_)
          · try dsimp only
            exact hh0
          clear hK K hh0
          try simp only [Act.put, List.getElem_toArray, List.getElem_cons_succ, List.getElem_cons_zero, List.setIfInBounds_toArray, List.set_cons_zero, List.set_cons_succ]
          refine wpAnyH_take (i := 9) (v := ?_) rfl (by as_aux_lemma => kernel_rfl) (by as_aux_lemma => kernel_rfl) (by as_aux_lemma => kernel_rfl) (fun _ _ _ h => h) (Or.inl ⟨by rfl, ?_⟩) (by assumption) ?_
          rotate_left
          · intro w hSw
            try dsimp only at hSw
            go_simp
            try with_reducible rfl
          try simp only [Act.put, List.getElem_toArray, List.getElem_cons_succ, List.getElem_cons_zero, List.setIfInBounds_toArray, List.set_cons_zero, List.set_cons_succ]
          refine wpAnyH_take (i := 10) (v := ?_) rfl (by as_aux_lemma => kernel_rfl) (by as_aux_lemma => kernel_rfl) (by as_aux_lemma => kernel_rfl) (fun _ _ _ h => h) (Or.inl ⟨by rfl, ?_⟩) (by assumption) ?_
          rotate_left
          · intro w hSw
            try dsimp only at hSw
            go_simp
            try with_reducible rfl
          try simp only [Act.put, List.getElem_toArray, List.getElem_cons_succ, List.getElem_cons_zero, List.setIfInBounds_toArray, List.set_cons_zero, List.set_cons_succ]
          refine wpAnyH_take (i := 11) (v := ?_) rfl (by as_aux_lemma => kernel_rfl) (by as_aux_lemma => kernel_rfl) (by as_aux_lemma => kernel_rfl) (fun _ _ _ h => h) (Or.inl ⟨by rfl, ?_⟩) (by assumption) ?_
          rotate_left
          · intro w hSw
            try dsimp only at hSw
            go_simp
            try with_reducible rfl
          try simp only [Act.put, List.getElem_toArray, List.getElem_cons_succ, List.getElem_cons_zero, List.setIfInBounds_toArray, List.set_cons_zero, List.set_cons_succ]
          refine wpAnyH_take (i := 12) (v := ?_) rfl (by as_aux_lemma => kernel_rfl) (by as_aux_lemma => kernel_rfl) (by as_aux_lemma => kernel_rfl) (fun _ _ _ h => h) (Or.inl ⟨by rfl, ?_⟩) (by assumption) ?_
          rotate_left
          · intro w hSw
            try dsimp only at hSw
            go_simp
            try with_reducible rfl
          try simp only [Act.put, List.getElem_toArray, List.getElem_cons_succ, List.getElem_cons_zero, List.setIfInBounds_toArray, List.set_cons_zero, List.set_cons_succ]
          refine wpAnyH_ready (rs := [13]) (by as_aux_lemma => kernel_rfl) (by simp) ?_
          refine AllReadyH.cons rfl (fun K hK => ?_) AllReadyH.nil
          go_simp
          refine hK.out _ _ ?_ (fun hh2 => ?_)
          · try dsimp only
            exact hh1
          clear hK K hh1
          try simp only [Act.put, List.getElem_toArray, List.getElem_cons_succ, List.getElem_cons_zero, List.setIfInBounds_toArray, List.set_cons_zero, List.set_cons_succ]
          refine wpAnyH_done (by as_aux_lemma => kernel_rfl) ?_ _
          refine NoPanic.normal ?_
          clear hh2 x1 x2 y0' yl hsl
          try rw [HV.out]
          generalize (if wt < ab then ab - wt else (0 : Int)) = u1
          go_wp2
          go_roundg (gk - 1)
          case measure => omega
          case rel => exact ⟨j + 1, by omega, by go_num, rfl, HL2.out.trans ⟨rfl, rfl, rfl, Nat.le_refl _, fun _ _ => rfl⟩⟩
        · obtain rfl : j = n := by omega
          have jI : ¬ (j : Int) < (j : Int) := by omega
          clear hjn hj
          go_wp2
          go_ret
          exact ⟨by rw [HGE.out, HEE.out]; rfl, HB.out.trans (HL.out.mono HB.out.size)⟩
end Go.Proofs.Ytojdocomkhihoaa
