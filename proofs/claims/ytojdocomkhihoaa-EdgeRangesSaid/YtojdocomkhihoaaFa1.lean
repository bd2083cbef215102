/- Package edge: firstApart. -/
import Derived.Test.YtojdocomkhihoaaEz
set_option linter.unusedSimpArgs false
set_option linter.unusedVariables false
namespace Go.Proofs.Ytojdocomkhihoaa
open Go Go.RowKit Ed

set_option maxRecDepth 100000 in
set_option maxHeartbeats 8000000 in
theorem firstApart_any (c : Cas) (sv ev : Value) (ws : List Int) (hw : ws.length = 16) (x : List Int) (hxl : x.length = 5) (hx : ∀ i, -1000000 ≤ x.getD i 0 ∧ x.getD i 0 ≤ 1000000) (w : World) (hC : CasAt w c sv ev) (hv : Valid c) :
    Calls Try.prog 58 #[.agg (lkC c.tol sv ev ws), .agg (chC x)] w fun e w' => e = .returned (.int .i64 (firstB (apartB ws c.eds x) 0 c.eds.length)) ∧ Below w.heap.size w w' := by
  obtain ⟨tol, shs, eds⟩ := c
  obtain ⟨hS, hE⟩ := hC
  simp only at hS hE ⊢
  obtain ⟨ls, sa, sc, rfl, lsc, hsn, _⟩ := id hS
  obtain ⟨le, ea, ec, rfl, lec, _⟩ := id hE
  have n5 : shs.length ≤ 5 := hv.n5
  have m8 : eds.length ≤ 8 := hv.m8
  have HOK := Lib.hid hv.sh
  have HEO := Lib.hid hv.ed
  obtain ⟨n, hn⟩ : ∃ n, shs.length = n := ⟨_, rfl⟩
  obtain ⟨m, hm⟩ : ∃ m, eds.length = m := ⟨_, rfl⟩
  simp only [hn] at ls lsc hS n5 HEO ⊢
  simp only [hm] at le lec hE m8 ⊢
  have HNN := Lib.hid hn
  have HMM := Lib.hid hm
  have HS := Lib.hid hS
  have HE := Lib.hid hE
  have HW := Lib.hid hw
  have nI : (n : Int) ≤ 5 := by omega
  have mI : (m : Int) ≤ 8 := by omega
  have HX := Lib.hid hx
  have HXL := Lib.hid hxl
  obtain ⟨W, hW, q1, q2, hb, hsz⟩ := al2 w (Obj.cells (lkC tol (.slice sa n sc) (.slice ea m ec) ws) 89) (Obj.cells (chC x) 96)
  have K : LkBlk W w.heap.size tol (.slice sa n sc) (.slice ea m ec) ws := q1
  have KX : ChBlk W (w.heap.size + 1) x := q2
  have HB := Lib.hid hb
  have HWW := Lib.hid hW
  have HK := Lib.hid K
  have HKX := Lib.hid KX
  have c1 : ((w.alloc (Obj.cells (lkC tol (.slice sa n sc) (.slice ea m ec) ws) 89)).alloc (Obj.cells (chC x) 96)).cell? ⟨w.heap.size, 2, none⟩ = some (.slice ea m ec) := by rw [hW]; exact K.c2
  clear hW q1 q2 hb hsz K KX
  clear hS hE hv hn hm hsn hw le lec ls lsc hx hxl
  go_enter Try.func58, Try.ntmps58
  go_wp2_with fail
  clear c1
  rw [HWW.out]
  clear HWW
  go_loopg [12] m (fun g v wr => ∃ k : Nat, g + k = m ∧ v = .int .i64 k ∧ Hid (∀ j, j < k → apartB ws eds x j = false) ∧ Hid (Below W.heap.size W wr))
  case atStart => exact ⟨0, by omega, rfl, fun j hj => absurd hj (Nat.not_lt_zero _), Below.refl _ _⟩
  case round =>
    obtain ⟨k, hk, rfl, HT, HL⟩ := hrel
    by_cases hkm : k < m
    · have kI : (k : Int) < (m : Int) := by omega
      have k8 : (k : Int) < 8 := by omega
      have hk' : k < eds.length := by rw [HMM.out]; exact hkm
      obtain ⟨eb, eo, pa, pc, rfl, d0, d1, d2, hpp⟩ := ((HE.out.below HB.out).below HL.out).get hk'
      have hok := HEO.out eds[k] (List.getElem_mem hk')
      have hget : eds.getD k default = eds[k] := by simp [List.getD_eq_getElem?_getD, hk']
      obtain ⟨x0, x1⟩ := (HK.out.below HL.out HK.out.lt).span k (by omega) HW.out
      have kl := (HK.out.below HL.out HK.out.lt).lt
      have HAP : Hid (apartB ws eds x k = !okIn (wL ws k).1 (wL ws k).2 (x.getD eds[k].a.toNat 0 - x.getD eds[k].b.toNat 0)) := by show _ = _; unfold apartB; rw [hget]; rfl
      generalize eds[k] = d at *
      generalize wL ws k = s at *
      obtain ⟨lo, hi⟩ := s
      simp only at x0 x1 HAP
      obtain ⟨da, db, ps⟩ := d
      simp only at d0 d1 d2 hpp
      obtain ⟨q1, q2, q3, q4, q5, q6, q7, q8⟩ := hok
      simp only at q1 q2 q3 q4 q5 q6 q7
      obtain ⟨an, rfl⟩ : ∃ an : Nat, da = an := ⟨da.toNat, by omega⟩
      obtain ⟨bn, rfl⟩ : ∃ bn : Nat, db = bn := ⟨db.toNat, by omega⟩
      have a5 : (an : Int) < 5 := by omega
      have b5 : (bn : Int) < 5 := by omega
      have a5n : an < 5 := by omega
      have b5n : bn < 5 := by omega
      obtain ⟨np, hnp⟩ : ∃ np, ps.length = np := ⟨_, rfl⟩
      rw [hnp] at d2
      have hsl := World.block_lt_of_cell? wr ⟨eb, eo + k * 3, none⟩ d0
      simp only [Int.toNat_natCast] at HAP
      have ya := (HKX.out.below HL.out HKX.out.lt).cell an (by rw [HXL.out]; omega)
      have yb := (HKX.out.below HL.out HKX.out.lt).cell bn (by rw [HXL.out]; omega)
      obtain ⟨xa1, xa2⟩ := HX.out an
      obtain ⟨xb1, xb2⟩ := HX.out bn
      generalize x.getD an 0 = xa at *
      generalize x.getD bn 0 = xb at *
      obtain ⟨z, hz⟩ : ∃ z, xa - xb = z := ⟨_, rfl⟩
      rw [hz] at HAP
      have s1 : IntKind.i64.wrap (xa - xb) = z := by rw [IntKind.wrap_i64] <;> omega
      obtain ⟨ok, hokv⟩ : ∃ b, okIn lo hi z = b := ⟨_, rfl⟩
      rw [hokv] at HAP
      have HWI : Hid (∀ W' v, IntsAt W' v [z] → Calls Try.prog 48 #[.int .i64 lo, .int .i64 hi, v] W' fun e w' => e = .returned (.bool ok) ∧ W' = w') := fun W' v h => by
        have h2 := within_any lo hi v [z] W' h
        simp only [allIn, List.all_cons, List.all_nil, Bool.and_true] at h2
        rw [hokv] at h2
        exact h2
      obtain ⟨wa, hwa, z1, z2, hba, hsa⟩ := al2 wr (Obj.cells #[.int .i64 (an : Int), .int .i64 (bn : Int), .slice pa np pc] 71) (Obj.cells #[.int .i64 lo, .int .i64 hi] 31)
      have HL2 := Lib.hid (HL.out.trans (hba.mono HL.out.size))
      have e0 := cellOf z1 0 _ rfl
      have e1 := cellOf z1 1 _ rfl
      have p0 := cellOf z2 0 _ rfl
      have p1 := cellOf z2 1 _ rfl
      have ya' := keepK ya hba
      have yb' := keepK yb hba
      have HWA := Lib.hid hwa
      clear hget hk' hz hokv z1 z2 hba hsa hwa hpp
      go_wp2_with fail
      rw [HWA.out]
      clear d0 d1 d2 x0 x1 kl ya yb hsl HWA
      refine wp_region_noPanic ?_
      refine wp_region_held_drew (S := (fun W' => W'.cell? ⟨wr.heap.size, 0, none⟩ = some (.int .i64 (an : Int)) ∧ W'.cell? ⟨wr.heap.size, 1, none⟩ = some (.int .i64 (bn : Int)) ∧ W'.cell? ⟨wr.heap.size + 1, 0, none⟩ = some (.int .i64 lo) ∧ W'.cell? ⟨wr.heap.size + 1, 1, none⟩ = some (.int .i64 hi) ∧ W'.cell? ⟨w.heap.size + 1, an, none⟩ = some (.int .i64 xa) ∧ W'.cell? ⟨w.heap.size + 1, bn, none⟩ = some (.int .i64 xb))) (by kernel_rfl) ?_ (fun hh0 => ?_)
      · try dsimp only
        exact ⟨e0, e1, p0, p1, ya', yb'⟩
      refine wpAnyH_take (i := 0) (v := ?_) rfl (by as_aux_lemma => kernel_rfl) (by as_aux_lemma => kernel_rfl) (by as_aux_lemma => kernel_rfl) (fun _ _ _ h => h) (Or.inl ⟨by rfl, ?_⟩) (by assumption) ?_
      rotate_left
      · intro w hSw
        try dsimp only at hSw
        go_simp
        try with_reducible rfl
      try simp only [Act.put, List.getElem_toArray, List.getElem_cons_succ, List.getElem_cons_zero, List.setIfInBounds_toArray, List.set_cons_zero, List.set_cons_succ]
      refine wpAnyH_take (i := 1) (v := ?_) rfl (by as_aux_lemma => kernel_rfl) (by as_aux_lemma => kernel_rfl) (by as_aux_lemma => kernel_rfl) (fun _ _ _ h => h) (Or.inl ⟨by rfl, ?_⟩) (by assumption) ?_
      rotate_left
      · intro w hSw
        try dsimp only at hSw
        go_simp
        try with_reducible rfl
      try simp only [Act.put, List.getElem_toArray, List.getElem_cons_succ, List.getElem_cons_zero, List.setIfInBounds_toArray, List.set_cons_zero, List.set_cons_succ]
      refine wpAnyH_take (i := 2) (v := ?_) rfl (by as_aux_lemma => kernel_rfl) (by as_aux_lemma => kernel_rfl) (by as_aux_lemma => kernel_rfl) (fun _ _ _ h => h) (Or.inl ⟨by rfl, ?_⟩) (by assumption) ?_
      rotate_left
      · intro w hSw
        try dsimp only at hSw
        go_simp
        try with_reducible rfl
      try simp only [Act.put, List.getElem_toArray, List.getElem_cons_succ, List.getElem_cons_zero, List.setIfInBounds_toArray, List.set_cons_zero, List.set_cons_succ]
      refine wpAnyH_take (i := 3) (v := ?_) rfl (by as_aux_lemma => kernel_rfl) (by as_aux_lemma => kernel_rfl) (by as_aux_lemma => kernel_rfl) (fun _ _ _ h => h) (Or.inl ⟨by rfl, ?_⟩) (by assumption) ?_
      rotate_left
      · intro w hSw
        try dsimp only at hSw
        go_simp
        try with_reducible rfl
      try simp only [Act.put, List.getElem_toArray, List.getElem_cons_succ, List.getElem_cons_zero, List.setIfInBounds_toArray, List.set_cons_zero, List.set_cons_succ]
      refine wpAnyH_take (i := 4) (v := ?_) rfl (by as_aux_lemma => kernel_rfl) (by as_aux_lemma => kernel_rfl) (by as_aux_lemma => kernel_rfl) (fun _ _ _ h => h) (Or.inl ⟨by rfl, ?_⟩) (by assumption) ?_
      rotate_left
      · intro w hSw
        try dsimp only at hSw
        go_simp
        try with_reducible rfl
      try simp only [Act.put, List.getElem_toArray, List.getElem_cons_succ, List.getElem_cons_zero, List.setIfInBounds_toArray, List.set_cons_zero, List.set_cons_succ]
      refine wpAnyH_take (i := 5) (v := ?_) rfl (by as_aux_lemma => kernel_rfl) (by as_aux_lemma => kernel_rfl) (by as_aux_lemma => kernel_rfl) (fun _ _ _ h => h) (Or.inl ⟨by rfl, ?_⟩) (by assumption) ?_
      rotate_left
      · intro w hSw
        try dsimp only at hSw
        go_simp
        try with_reducible rfl
      try simp only [Act.put, List.getElem_toArray, List.getElem_cons_succ, List.getElem_cons_zero, List.setIfInBounds_toArray, List.set_cons_zero, List.set_cons_succ]
      refine wpAnyH_take (i := 6) (v := ?_) rfl (by as_aux_lemma => kernel_rfl) (by as_aux_lemma => kernel_rfl) (by as_aux_lemma => kernel_rfl) (fun _ _ _ h => h) (Or.inl ⟨by rfl, ?_⟩) (by assumption) ?_
      rotate_left
      · intro w hSw
        try dsimp only at hSw
        go_simp
        try with_reducible rfl
      try simp only [Act.put, List.getElem_toArray, List.getElem_cons_succ, List.getElem_cons_zero, List.setIfInBounds_toArray, List.set_cons_zero, List.set_cons_succ]
      refine wpAnyH_take (i := 7) (v := ?_) rfl (by as_aux_lemma => kernel_rfl) (by as_aux_lemma => kernel_rfl) (by as_aux_lemma => kernel_rfl) (fun _ _ _ h => h) (Or.inl ⟨by rfl, ?_⟩) (by assumption) ?_
      rotate_left
      · intro w hSw
        try dsimp only at hSw
        go_simp
        try with_reducible rfl
      try simp only [Act.put, List.getElem_toArray, List.getElem_cons_succ, List.getElem_cons_zero, List.setIfInBounds_toArray, List.set_cons_zero, List.set_cons_succ]
      refine wpAnyH_take (i := 8) (v := ?_) rfl (by as_aux_lemma => kernel_rfl) (by as_aux_lemma => kernel_rfl) (by as_aux_lemma => kernel_rfl) (fun _ _ _ h => h) (Or.inl ⟨by rfl, ?_⟩) (by assumption) ?_
      rotate_left
      · intro w hSw
        try dsimp only at hSw
        go_simp
        try with_reducible rfl
      try simp only [Act.put, List.getElem_toArray, List.getElem_cons_succ, List.getElem_cons_zero, List.setIfInBounds_toArray, List.set_cons_zero, List.set_cons_succ]
      refine wpAnyH_take (i := 9) (v := ?_) rfl (by as_aux_lemma => kernel_rfl) (by as_aux_lemma => kernel_rfl) (by as_aux_lemma => kernel_rfl) (fun _ _ _ h => h) (Or.inl ⟨by rfl, ?_⟩) (by assumption) ?_
      rotate_left
      · intro w hSw
        try dsimp only at hSw
        go_simp
        try with_reducible rfl
      try simp only [Act.put, List.getElem_toArray, List.getElem_cons_succ, List.getElem_cons_zero, List.setIfInBounds_toArray, List.set_cons_zero, List.set_cons_succ]
      refine wpAnyH_take (i := 10) (v := ?_) rfl (by as_aux_lemma => kernel_rfl) (by as_aux_lemma => kernel_rfl) (by as_aux_lemma => kernel_rfl) (fun _ _ _ h => h) (Or.inl ⟨by rfl, ?_⟩) (by assumption) ?_
      rotate_left
      · intro w hSw
        try dsimp only at hSw
        go_simp
        try with_reducible rfl
      try simp only [Act.put, List.getElem_toArray, List.getElem_cons_succ, List.getElem_cons_zero, List.setIfInBounds_toArray, List.set_cons_zero, List.set_cons_succ]
      refine wpAnyH_take (i := 11) (v := ?_) rfl (by as_aux_lemma => kernel_rfl) (by as_aux_lemma => kernel_rfl) (by as_aux_lemma => kernel_rfl) (fun _ _ _ h => h) (Or.inl ⟨by rfl, ?_⟩) (by assumption) ?_
      rotate_left
      · intro w hSw
        try dsimp only at hSw
        go_simp
        try with_reducible rfl
      try simp only [Act.put, List.getElem_toArray, List.getElem_cons_succ, List.getElem_cons_zero, List.setIfInBounds_toArray, List.set_cons_zero, List.set_cons_succ]
      refine wpAnyH_take (i := 12) (v := ?_) rfl (by as_aux_lemma => kernel_rfl) (by as_aux_lemma => kernel_rfl) (by as_aux_lemma => kernel_rfl) (fun _ _ _ h => h) (Or.inl ⟨by rfl, ?_⟩) (by assumption) ?_
      rotate_left
      · intro w hSw
        try dsimp only at hSw
        go_simp
        try with_reducible rfl
      try simp only [Act.put, List.getElem_toArray, List.getElem_cons_succ, List.getElem_cons_zero, List.setIfInBounds_toArray, List.set_cons_zero, List.set_cons_succ]
      refine wpAnyH_ready (rs := [13]) (by as_aux_lemma => kernel_rfl) (by simp) ?_
      refine AllReadyH.cons rfl (fun K hK => ?_) AllReadyH.nil
      go_simp
      have hbn : Below wa.heap.size wa ((wa.alloc (Obj.cells #[.int .i64 z] 3)).drew) := by go_grown
      refine hK.out _ _ ?_ (fun hh1 => ?_)
      · try dsimp only
        exact ⟨keepK e0 hbn, keepK e1 hbn, keepK p0 hbn, keepK p1 hbn, keepK ya' hbn, keepK yb' hbn⟩
      clear hK K hh0
      try simp only [Act.put, List.getElem_toArray, List.getElem_cons_succ, List.getElem_cons_zero, List.setIfInBounds_toArray, List.set_cons_zero, List.set_cons_succ]
      refine wpAnyH_ready (rs := [14]) (by as_aux_lemma => kernel_rfl) (by simp) ?_
      refine AllReadyH.cons rfl (fun K hK => ?_) AllReadyH.nil
      go_simp
      refine (HWI.out _ _ ((ints1 wa _ rfl z _).below (by go_grown))).mono ?_
      rintro e wg ⟨rfl, rfl⟩
      refine hK.out _ _ ?_ (fun hh2 => ?_)
      · try dsimp only
        exact hh1
      clear hK K hh1
      try simp only [Act.put, List.getElem_toArray, List.getElem_cons_succ, List.getElem_cons_zero, List.setIfInBounds_toArray, List.set_cons_zero, List.set_cons_succ]
      refine wpAnyH_take (i := 15) (v := ?_) rfl (by as_aux_lemma => kernel_rfl) (by as_aux_lemma => kernel_rfl) (by as_aux_lemma => kernel_rfl) (fun _ _ _ h => h) (Or.inl ⟨by rfl, ?_⟩) (by assumption) ?_
      rotate_left
      · intro w hSw
        try dsimp only at hSw
        go_simp
        try with_reducible rfl
      try simp only [Act.put, List.getElem_toArray, List.getElem_cons_succ, List.getElem_cons_zero, List.setIfInBounds_toArray, List.set_cons_zero, List.set_cons_succ]
      refine wpAnyH_done (by as_aux_lemma => kernel_rfl) ?_ _
      refine NoPanic.normal ?_
      have HL3 := Lib.hid (HL2.out.trans (hbn.mono HL2.out.size))
      clear hh2 hbn e0 e1 p0 p1 ya' yb' HWI
      cases ok
      · go_wp2_with fail
        go_ret
        exact ⟨by rw [firstB_at (apartB ws eds x) m k hkm HT.out (by rw [HAP.out]; rfl)]; rfl, HB.out.trans (HL3.out.mono HB.out.size)⟩
      · have HT2 : Hid (∀ j, j < k + 1 → apartB ws eds x j = false) := fun j hj => by
          by_cases e : j = k
          · subst e; rw [HAP.out]; rfl
          · exact HT.out j (by omega)
        clear HT HAP
        go_wp2
        go_roundg (gk - 1)
        case measure => omega
        case rel => exact ⟨k + 1, by omega, by go_num, HT2, HL3⟩
    · obtain rfl : k = m := by omega
      have kI : ¬ (k : Int) < (k : Int) := by omega
      clear hkm hk
      go_wp2
      go_ret
      exact ⟨by rw [firstB_no (apartB ws eds x) k HT.out]; rfl, HB.out.trans (HL.out.mono HB.out.size)⟩
end Go.Proofs.Ytojdocomkhihoaa
