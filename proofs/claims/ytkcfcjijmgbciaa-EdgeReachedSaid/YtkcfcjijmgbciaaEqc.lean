/- EdgeReached: the call returns true, whatever its arguments and the memory in which it begins; its arguments read as they did. -/
import Derived.Test.YtkcfcjijmgbciaaLom
import Derived.Laws.StructEq
import Derived.Test.YtkcfcjijmgbciaaRows
import Derived.Test.YtkcfcjijmgbciaaEar
import Derived.ProofKit
import Derived.JoinedOf
import Derived.JoinedAt
set_option linter.unusedSimpArgs false
set_option linter.unusedVariables false
namespace Go.Proofs.Ytkcfcjijmgbciaa
open Go Go.RowKit Go.Shelf Ed

set_option maxRecDepth 100000 in
set_option maxHeartbeats 16000000 in
theorem lreached_any (c : Cas) (sv ev : Value) (x y : Int) (w : World) (hx : 0 ≤ x ∧ x ≤ 255) (hy : 0 ≤ y ∧ y ≤ 255) (hC : CasAt w c sv ev) :
    Calls Try.prog 11 #[.agg #[.int .i64 c.tol, sv, ev], .int .u8 x, .int .u8 y] w fun e w' => e = .returned (.bool true) ∧ Below w.heap.size w w' := by
  obtain ⟨x, rfl⟩ : ∃ k : Nat, x = k := ⟨x.toNat, by omega⟩
  obtain ⟨y, rfl⟩ : ∃ k : Nat, y = k := ⟨y.toNat, by omega⟩
  obtain ⟨sa, n, sc, rfl, hn⟩ : ∃ a n cc, sv = .slice a n cc ∧ n = c.shs.length := by obtain ⟨_, a, cap, h, _⟩ := hC.shs; exact ⟨_, _, _, h, rfl⟩
  obtain ⟨ea, m, ec, rfl⟩ : ∃ a n cc, ev = .slice a n cc := by obtain ⟨_, a, cap, h, _⟩ := hC.eds; exact ⟨_, _, _, h⟩
  obtain ⟨tol, htol⟩ : ∃ t, c.tol = t := ⟨_, rfl⟩
  have HTOL := Lib.hid htol
  have HN := Lib.hid hn
  have nlim : (n : Int) ≤ 4611686018427387904 := by have := hC.shs.1; omega
  obtain ⟨W, hW⟩ : ∃ W, w.alloc (Obj.cells #[.int .i64 tol, .slice sa n sc, .slice ea m ec] 25) = W := ⟨_, rfl⟩
  have hb : Below w.heap.size w W := by rw [← hW]; exact (Below.refl _ _).alloc (Nat.le_refl _) _
  have HR : Hid (W.heap[w.heap.size]? = some (Obj.cells #[.int .i64 tol, .slice sa n sc, .slice ea m ec] 25)) := by show _ = _; rw [← hW]; exact heap_alloc_new w _
  have HC := Lib.hid (hC.below hb)
  have HW := Lib.hid hW
  have HB := Lib.hid hb
  obtain ⟨x0, x9⟩ := hx
  obtain ⟨y0, y9⟩ := hy
  rw [htol]
  clear hW hb hC htol hn
  go_enter Try.func11, Try.ntmps11
  go_wp2_with fail
  rw [HW.out]
  clear HW
  have r0 := cellOf HR.out 0 _ rfl
  have r1 := cellOf HR.out 1 _ rfl
  have r2 := cellOf HR.out 2 _ rfl
  have rl := lt_of_block HR.out
  go_wp2_with fail
  clear r0 r1 r2 rl
  have hcall := lvalid_any c _ _ W HC.out
  rw [HTOL.out] at hcall
  refine hcall.mono ?_
  clear hcall
  rintro e w1 ⟨rfl, hb⟩
  have HR' := Lib.hid ((hb.block _ (lt_of_block HR.out)).trans HR.out)
  have HC' := Lib.hid (HC.out.below hb)
  have HB' := Lib.hid (HB.out.trans (hb.mono HB.out.size))
  clear HR
  have HR := HR'
  clear HR'
  clear HC
  have HC := HC'
  clear HC'
  clear HB
  have HB := HB'
  clear HB'
  clear hb
  by_cases h0 : errC c = 0
  · skip
    have HV := Lib.hid (valid_of h0)
    have H0 := Lib.hid h0
    rw [show decide (errC c = 0) = true by simp [h0]]
    clear h0
    have n1 : 1 ≤ n := by have := HV.out.n1; have := HN.out; omega
    have n5 : n ≤ 5 := by have := HV.out.n5; have := HN.out; omega
    have n1I : (1 : Int) ≤ n := by omega
    have n5I : (n : Int) ≤ 5 := by omega
    have nz : ((n : Int) == 0) = false := by rw [beq_eq_false_iff_ne]; omega
    have nd0 : ¬ n = 0 := by omega
    have nd1 : ¬ (n : Int) = -1 := by omega
    have em := tmod_nat x n
    have hxm : x % n < n := Nat.mod_lt _ (by omega)
    generalize hxn : x % n = i at *
    clear hxn
    have iI : (i : Int) < (n : Int) := by omega
    have r0 := cellOf HR.out 0 _ rfl
    have r1 := cellOf HR.out 1 _ rfl
    have r2 := cellOf HR.out 2 _ rfl
    have rl := lt_of_block HR.out
    go_wp2_with fail
    clear r0 r1 r2 rl
    clear em nz nd0 nd1
    have hin : i < c.shs.length := by have := HN.out; omega
    have HIN := Lib.hid hin
    have hcall := rangeT_any c _ _ (i : Int) w1 HC.out
    rw [HTOL.out] at hcall
    refine hcall.mono ?_
    clear hcall
    rintro e w2 ⟨rfl, hb⟩
    have HR' := Lib.hid ((hb.block _ (lt_of_block HR.out)).trans HR.out)
    have HC' := Lib.hid (HC.out.below hb)
    have HB' := Lib.hid (HB.out.trans (hb.mono HB.out.size))
    clear HR
    have HR := HR'
    clear HR'
    clear HC
    have HC := HC'
    clear HC'
    clear HB
    have HB := HB'
    clear HB'
    clear hb
    have hsp := range_spec c H0.out i hin
    clear hin
    obtain ⟨⟨⟨lo, hi⟩, er⟩, hre⟩ : ∃ x, rangeE c i = x := ⟨_, rfl⟩
    rw [hre] at hsp ⊢
    clear hre
    simp only at hsp ⊢
    rcases hsp with ⟨hs, hno⟩ | ⟨rfl, hs⟩
    · skip
      simp only [Prod.mk.injEq] at hs
      obtain ⟨⟨rfl, rfl⟩, rfl⟩ := hs
      clear hno
      have r0 := cellOf HR.out 0 _ rfl
      have r1 := cellOf HR.out 1 _ rfl
      have r2 := cellOf HR.out 2 _ rfl
      have rl := lt_of_block HR.out
      go_wp2_with fail
      clear r0 r1 r2 rl
      have hb := (Below.refl w2.heap.size w2).alloc (Nat.le_refl _) (Obj.cells #[.int .i64 0, .int .i64 0] 31)
      have HS := Lib.hid (heap_alloc_new w2 (Obj.cells #[.int .i64 0, .int .i64 0] 31))
      have HR' := Lib.hid ((hb.block _ (lt_of_block HR.out)).trans HR.out)
      have HC' := Lib.hid (HC.out.below hb)
      have HB' := Lib.hid (HB.out.trans (hb.mono HB.out.size))
      clear HR
      have HR := HR'
      clear HR'
      clear HC
      have HC := HC'
      clear HC'
      clear HB
      have HB := HB'
      clear HB'
      clear hb
      generalize w2.alloc (Obj.cells #[.int .i64 0, .int .i64 0] 31) = w3 at *
      obtain ⟨u8, hu8⟩ : ∃ u, w2.heap.size = u := ⟨_, rfl⟩
      rw [hu8] at HS ⊢
      clear hu8
      have s0c := cellOf HS.out 0 _ rfl
      have s1c := cellOf HS.out 1 _ rfl
      have KA : ∀ W' : World, Below w3.heap.size w3 W' → (W'.cell? ⟨u8, 0, none⟩ = some (.int .i64 0) ∧ W'.cell? ⟨u8, 1, none⟩ = some (.int .i64 0) ∧ Below w3.heap.size w3 W') := fun W' hb => ⟨keepK s0c hb, keepK s1c hb, hb⟩
      refine wp_region_noPanic ?_
      refine wp_region_held_drew (S := (fun W' => W'.cell? ⟨u8, 0, none⟩ = some (.int .i64 0) ∧ W'.cell? ⟨u8, 1, none⟩ = some (.int .i64 0) ∧ Below w3.heap.size w3 W')) (by kernel_rfl) ?_ (fun hh0 => ?_)
      · exact KA _ (Below.refl _ _).drew
      refine wpAnyH_take (i := 0) (v := ?_) rfl (by as_aux_lemma => kernel_rfl) (by as_aux_lemma => kernel_rfl) (by as_aux_lemma => kernel_rfl) (fun _ _ _ h => h) (Or.inl ⟨by rfl, ?_⟩) (by assumption) ?_
      rotate_left
      · intro w hSw
        try dsimp only at hSw
        go_simp
        try with_reducible rfl
      try simp only [Act.put, List.getElem_toArray, List.getElem_cons_succ, List.getElem_cons_zero, List.setIfInBounds_toArray, List.set_cons_zero, List.set_cons_succ]
      refine wpAnyH_take (i := 1) (v := ?_) rfl (by as_aux_lemma => kernel_rfl) (by as_aux_lemma => kernel_rfl) (by as_aux_lemma => kernel_rfl) (fun _ _ _ h => h) (Or.inl ⟨by rfl, ?_⟩) (by assumption) ?_
      rotate_left
      · intro w hSw
        try dsimp only at hSw
        go_simp
        try with_reducible rfl
      try simp only [Act.put, List.getElem_toArray, List.getElem_cons_succ, List.getElem_cons_zero, List.setIfInBounds_toArray, List.set_cons_zero, List.set_cons_succ]
      refine wpAnyH_take (i := 2) (v := ?_) rfl (by as_aux_lemma => kernel_rfl) (by as_aux_lemma => kernel_rfl) (by as_aux_lemma => kernel_rfl) (fun _ _ _ h => h) (Or.inl ⟨by rfl, ?_⟩) (by assumption) ?_
      rotate_left
      · intro w hSw
        try dsimp only at hSw
        go_simp
        try with_reducible rfl
      try simp only [Act.put, List.getElem_toArray, List.getElem_cons_succ, List.getElem_cons_zero, List.setIfInBounds_toArray, List.set_cons_zero, List.set_cons_succ]
      refine wpAnyH_take (i := 3) (v := ?_) rfl (by as_aux_lemma => kernel_rfl) (by as_aux_lemma => kernel_rfl) (by as_aux_lemma => kernel_rfl) (fun _ _ _ h => h) (Or.inl ⟨by rfl, ?_⟩) (by assumption) ?_
      rotate_left
      · intro w hSw
        try dsimp only at hSw
        go_simp
        try with_reducible rfl
      try simp only [Act.put, List.getElem_toArray, List.getElem_cons_succ, List.getElem_cons_zero, List.setIfInBounds_toArray, List.set_cons_zero, List.set_cons_succ]
      refine wpAnyH_ready (rs := [4]) (by as_aux_lemma => kernel_rfl) (by simp) ?_
      refine AllReadyH.cons rfl (fun K hK => ?_) AllReadyH.nil
      go_simp
      refine (lspan_any _ _ _).mono ?_
      rintro e ws ⟨rfl, hbs⟩
      refine hK.out _ _ (KA _ (Below.trans hh0.2.2 (Below.mono hbs (hh0.2.2).size))) (fun hh1 => ?_)
      clear hK K
      try simp only [Act.put, List.getElem_toArray, List.getElem_cons_succ, List.getElem_cons_zero, List.setIfInBounds_toArray, List.set_cons_zero, List.set_cons_succ]
      refine wpAnyH_take (i := 5) (v := ?_) rfl (by as_aux_lemma => kernel_rfl) (by as_aux_lemma => kernel_rfl) (by as_aux_lemma => kernel_rfl) (fun _ _ _ h => h) (Or.inl ⟨by rfl, ?_⟩) (by assumption) ?_
      rotate_left
      · intro w hSw
        try dsimp only at hSw
        go_simp
        try with_reducible rfl
      try simp only [Act.put, List.getElem_toArray, List.getElem_cons_succ, List.getElem_cons_zero, List.setIfInBounds_toArray, List.set_cons_zero, List.set_cons_succ]
      refine wpAnyH_take (i := 6) (v := ?_) rfl (by as_aux_lemma => kernel_rfl) (by as_aux_lemma => kernel_rfl) (by as_aux_lemma => kernel_rfl) (fun _ _ _ h => h) (Or.inl ⟨by rfl, ?_⟩) (by assumption) ?_
      rotate_left
      · intro w hSw
        try dsimp only at hSw
        go_simp
        try with_reducible rfl
      try simp only [Act.put, List.getElem_toArray, List.getElem_cons_succ, List.getElem_cons_zero, List.setIfInBounds_toArray, List.set_cons_zero, List.set_cons_succ]
      refine wpAnyH_take (i := 7) (v := ?_) rfl (by as_aux_lemma => kernel_rfl) (by as_aux_lemma => kernel_rfl) (by as_aux_lemma => kernel_rfl) (fun _ _ _ h => h) (Or.inl ⟨by rfl, ?_⟩) (by assumption) ?_
      rotate_left
      · intro w hSw
        try dsimp only at hSw
        go_simp
        try with_reducible rfl
      try simp only [Act.put, List.getElem_toArray, List.getElem_cons_succ, List.getElem_cons_zero, List.setIfInBounds_toArray, List.set_cons_zero, List.set_cons_succ]
      refine wpAnyH_ready (rs := [8]) (by as_aux_lemma => kernel_rfl) (by simp) ?_
      refine AllReadyH.cons rfl (fun K hK => ?_) AllReadyH.nil
      go_simp
      refine (awake_any _).mono ?_
      rintro e wt ⟨rfl, hbt⟩
      refine hK.out _ _ (KA _ (Below.trans hh1.2.2 (Below.mono hbt (hh1.2.2).size))) (fun hh2 => ?_)
      clear hK K
      try simp only [Act.put, List.getElem_toArray, List.getElem_cons_succ, List.getElem_cons_zero, List.setIfInBounds_toArray, List.set_cons_zero, List.set_cons_succ]
      refine wpAnyH_take (i := 9) (v := ?_) rfl (by as_aux_lemma => kernel_rfl) (by as_aux_lemma => kernel_rfl) (by as_aux_lemma => kernel_rfl) (fun _ _ _ h => h) (Or.inl ⟨by rfl, ?_⟩) (by assumption) ?_
      rotate_left
      · intro w hSw
        try dsimp only at hSw
        go_simp
        try with_reducible rfl
      try simp only [Act.put, List.getElem_toArray, List.getElem_cons_succ, List.getElem_cons_zero, List.setIfInBounds_toArray, List.set_cons_zero, List.set_cons_succ]
      refine wpAnyH_ready (rs := [10]) (by as_aux_lemma => kernel_rfl) (by simp) ?_
      refine AllReadyH.cons rfl (fun K hK => ?_) AllReadyH.nil
      go_simp
      refine hK.out _ _ hh2 (fun hh3 => ?_)
      clear hK K
      try simp only [Act.put, List.getElem_toArray, List.getElem_cons_succ, List.getElem_cons_zero, List.setIfInBounds_toArray, List.set_cons_zero, List.set_cons_succ]
      refine wpAnyH_done (by as_aux_lemma => kernel_rfl) ?_ _
      refine NoPanic.normal ?_
      have HBZ := Lib.hid (hh3.2.2)
      have HBF := Lib.hid (HB.out.trans (HBZ.out.mono HB.out.size))
      go_wp2_with fail
      go_ret
      exact ⟨rfl, HBF.out⟩
    · skip
      have r0 := cellOf HR.out 0 _ rfl
      have r1 := cellOf HR.out 1 _ rfl
      have r2 := cellOf HR.out 2 _ rfl
      have rl := lt_of_block HR.out
      go_wp2_with fail
      clear r0 r1 r2 rl
      have hb := (Below.refl w2.heap.size w2).alloc (Nat.le_refl _) (Obj.cells #[.int .i64 lo, .int .i64 hi] 31)
      have HS := Lib.hid (heap_alloc_new w2 (Obj.cells #[.int .i64 lo, .int .i64 hi] 31))
      have HR' := Lib.hid ((hb.block _ (lt_of_block HR.out)).trans HR.out)
      have HC' := Lib.hid (HC.out.below hb)
      have HB' := Lib.hid (HB.out.trans (hb.mono HB.out.size))
      clear HR
      have HR := HR'
      clear HR'
      clear HC
      have HC := HC'
      clear HC'
      clear HB
      have HB := HB'
      clear HB'
      clear hb
      generalize w2.alloc (Obj.cells #[.int .i64 lo, .int .i64 hi] 31) = w3 at *
      obtain ⟨u8, hu8⟩ : ∃ u, w2.heap.size = u := ⟨_, rfl⟩
      rw [hu8] at HS ⊢
      clear hu8
      have hin := HIN.out
      have HRG := Lib.hid hs
      have hmo := HV.out.sh _ (List.getElem_mem hin)
      obtain ⟨sb, so, heq, d0, d1, d2⟩ := HC.out.shs.get hin
      subst heq
      have hgd : c.shs.getD i default = c.shs[i] := getD_lt _ _ hin
      have m0 := hmo.m0
      have m6 := hmo.m6
      clear hmo
      have hlo : -c.shs[i].most ≤ lo ∧ lo ≤ hi ∧ hi ≤ c.shs[i].most := by
        obtain ⟨ya, aA, ea⟩ := hs.lo
        obtain ⟨yb, bA, eb⟩ := hs.hi
        have a1 := aA.bx i (by simp only [sysC]; exact hin)
        have b1 := bA.bx i (by simp only [sysC]; exact hin)
        have c1 := hs.all ya aA
        simp only [sysC, hgd] at a1 b1 ea eb c1
        omega
      have HGD : Hid ((c.shs.getD i default).most = c.shs[i].most) := by show _ = _; rw [hgd]
      clear hs hgd d0 d1
      generalize c.shs[i].most = most at *
      obtain ⟨l1, l2, l3⟩ := hlo
      have D2 := Lib.hid d2
      clear d2 hin
      have b1 : decide (lo < -most) = false := by simp; omega
      have b2 : decide (most < hi) = false := by simp; omega
      have b3 : decide (hi < lo) = false := by simp; omega
      have s0 : IntKind.i64.wrap (-most) = -most := by rw [IntKind.wrap_i64] <;> omega
      have s1 : IntKind.i64.wrap (2 * most) = 2 * most := by rw [IntKind.wrap_i64] <;> omega
      have s2 : IntKind.i64.wrap (2 * most + 1) = 2 * most + 1 := by rw [IntKind.wrap_i64] <;> omega
      obtain ⟨dv, hdv⟩ : ∃ d : Int, 2 * most + 1 = d := ⟨_, rfl⟩
      have hd1 : 1 ≤ dv := by omega
      have hd13 : dv ≤ 13 := by omega
      have em : (y : Int).tmod dv = (y : Int) % dv := Int.tmod_eq_emod_of_nonneg (by omega)
      have em0 : 0 ≤ (y : Int) % dv := Int.emod_nonneg _ (by omega)
      have em1 : (y : Int) % dv < dv := Int.emod_lt_of_pos _ (by omega)
      rw [hdv] at s2
      have nd0 : ¬ dv = 0 := by omega
      have nd1 : ¬ dv = -1 := by omega
      have dz : (dv == 0) = false := by rw [beq_eq_false_iff_ne]; omega
      obtain ⟨z, hz⟩ : ∃ z : Int, (y : Int) % dv = z := ⟨_, rfl⟩
      rw [hz] at em em0 em1
      have s3 : IntKind.i64.wrap z = z := by rw [IntKind.wrap_i64] <;> omega
      have s4 : IntKind.i64.wrap (z - most) = z - most := by rw [IntKind.wrap_i64] <;> omega
      obtain ⟨ch, hch⟩ : ∃ ch, z - most = ch := ⟨_, rfl⟩
      rw [hch] at s4
      have ch1 : -most ≤ ch := by omega
      have ch2 : ch ≤ most := by omega
      have d2 := D2.out
      have dl := World.block_lt_of_cell? w3 _ d2
      clear hz
      have r0 := cellOf HR.out 0 _ rfl
      have r1 := cellOf HR.out 1 _ rfl
      have r2 := cellOf HR.out 2 _ rfl
      have rl := lt_of_block HR.out
      have s0 := cellOf HS.out 0 _ rfl
      have s1 := cellOf HS.out 1 _ rfl
      have sl := lt_of_block HS.out
      go_wp2_with fail
      clear r0 r1 r2 rl s0 s1 sl
      clear d2 dl em em0 em1 nd0 nd1 dz s1 s2 s3 s4 hd1 hd13 b1 b2 b3 D2 hdv hch
      have hch6 : -6 ≤ ch ∧ ch ≤ 6 := by omega
      have hcall := only_any c HV.out _ _ i ch w3 HIN.out hch6 HC.out
      rw [HTOL.out] at hcall
      refine hcall.mono ?_
      clear hcall
      rintro e w4 ⟨sv2, rfl, hD, hb⟩
      have HR' := Lib.hid ((hb.block _ (lt_of_block HR.out)).trans HR.out)
      have HC' := Lib.hid (HC.out.below hb)
      have HB' := Lib.hid (HB.out.trans (hb.mono HB.out.size))
      have HS' := Lib.hid ((hb.block _ (lt_of_block HS.out)).trans HS.out)
      clear HR
      have HR := HR'
      clear HR'
      clear HC
      have HC := HC'
      clear HC'
      clear HB
      have HB := HB'
      clear HB'
      clear HS
      have HS := HS'
      clear HS'
      clear hb
      have HD := Lib.hid hD
      clear hD
      obtain ⟨sa2, n2, sc2, rfl⟩ : ∃ a n cc, sv2 = .slice a n cc := by obtain ⟨_, a, cap, h, _⟩ := HD.out.shs; exact ⟨_, _, _, h⟩
      obtain ⟨sz, hsz⟩ : ∃ s, max ch (-ch) = s := ⟨_, rfl⟩
      rw [hsz] at HD
      have HTD : Hid ((onlyC c i sz).tol = tol) := HTOL.out
      have hr := only_range c H0.out i HIN.out sz ⟨by omega, by have := HGD.out; omega⟩ HRG.out
      have hif1 : (if ch < -ch then -ch else ch) = sz := by split <;> omega
      have hif2 : (if lo < -sz then -sz else lo) = max lo (-sz) := by split <;> omega
      have hif3 : (if sz < hi then sz else hi) = min hi sz := by split <;> omega
      have hsz6 : 0 ≤ sz ∧ sz ≤ 6 := by omega
      have hab : ch = sz ∨ ch = -sz := by omega
      obtain ⟨wl, hwl⟩ : ∃ x, max lo (-sz) = x := ⟨_, rfl⟩
      obtain ⟨wh, hwh⟩ : ∃ x, min hi sz = x := ⟨_, rfl⟩
      rw [hwl] at hif2 hr
      rw [hwh] at hif3 hr
      have HWL := Lib.hid hwl
      have HWH := Lib.hid hwh
      have HAB := Lib.hid hab
      have hwb : -6 ≤ wl ∧ wl ≤ 6 ∧ -6 ≤ wh ∧ wh ≤ 6 := by omega
      have HRR := Lib.hid hr
      obtain ⟨sz0, sz6⟩ := hsz6
      obtain ⟨w1a, w1b, w1c, w1d⟩ := hwb
      clear hsz hwl hwh hab hr hch6
      have r0 := cellOf HR.out 0 _ rfl
      have r1 := cellOf HR.out 1 _ rfl
      have r2 := cellOf HR.out 2 _ rfl
      have rl := lt_of_block HR.out
      have s0 := cellOf HS.out 0 _ rfl
      have s1 := cellOf HS.out 1 _ rfl
      have sl := lt_of_block HS.out
      go_wp2_with fail
      clear r0 r1 r2 rl s0 s1 sl
      have hcall := rangeT_any (onlyC c i sz) _ _ (i : Int) w4 HD.out
      rw [HTD.out] at hcall
      refine hcall.mono ?_
      clear hcall
      rintro e w5 ⟨rfl, hb⟩
      have HR' := Lib.hid ((hb.block _ (lt_of_block HR.out)).trans HR.out)
      have HC' := Lib.hid (HC.out.below hb)
      have HB' := Lib.hid (HB.out.trans (hb.mono HB.out.size))
      have HS' := Lib.hid ((hb.block _ (lt_of_block HS.out)).trans HS.out)
      have HD' := Lib.hid (HD.out.below hb)
      clear HR
      have HR := HR'
      clear HR'
      clear HC
      have HC := HC'
      clear HC'
      clear HB
      have HB := HB'
      clear HB'
      clear HS
      have HS := HS'
      clear HS'
      clear HD
      have HD := HD'
      clear HD'
      clear hb
      rw [HRR.out]
      clear HRR
      have t0 : IntKind.i64.wrap (-ch) = -ch := by rw [IntKind.wrap_i64] <;> omega
      have t1 : IntKind.i64.wrap (-sz) = -sz := by rw [IntKind.wrap_i64] <;> omega
      by_cases hw1 : lo ≤ ch
      rotate_left
      · skip
        have k1 : decide (ch ≥ lo) = false := by simp; omega
        have k1' : decide (lo ≤ ch) = false := by simp; omega
        by_cases hgt : wh < wl
        · skip
          rw [if_pos hgt]
          by_cases hA : lo < -sz
          · skip
            by_cases hB : sz < hi
            · skip
              have eWL : wl = (-sz) := by have := HWL.out; omega
              have eWH : wh = sz := by have := HWH.out; omega
              first
              | (exfalso; have := HAB.out; omega)
              | (skip
                 have hg2 : sz < (-sz) := by omega
                 have EWL := Lib.hid eWL
                 have EWH := Lib.hid eWH
                 clear eWL eWH w1a w1b w1c w1d hif2 hif3
                 simp only
                 have r0 := cellOf HR.out 0 _ rfl
                 have r1 := cellOf HR.out 1 _ rfl
                 have r2 := cellOf HR.out 2 _ rfl
                 have rl := lt_of_block HR.out
                 have s0 := cellOf HS.out 0 _ rfl
                 have s1 := cellOf HS.out 1 _ rfl
                 have sl := lt_of_block HS.out
                 go_wp2_with fail
                 clear r0 r1 r2 rl s0 s1 sl
                 have hb := (Below.refl w5.heap.size w5).alloc (Nat.le_refl _) (Obj.cells #[.int .i64 0, .int .i64 0] 31)
                 have HT := Lib.hid (heap_alloc_new w5 (Obj.cells #[.int .i64 0, .int .i64 0] 31))
                 have HR' := Lib.hid ((hb.block _ (lt_of_block HR.out)).trans HR.out)
                 have HC' := Lib.hid (HC.out.below hb)
                 have HB' := Lib.hid (HB.out.trans (hb.mono HB.out.size))
                 have HS' := Lib.hid ((hb.block _ (lt_of_block HS.out)).trans HS.out)
                 have HD' := Lib.hid (HD.out.below hb)
                 clear HR
                 have HR := HR'
                 clear HR'
                 clear HC
                 have HC := HC'
                 clear HC'
                 clear HB
                 have HB := HB'
                 clear HB'
                 clear HS
                 have HS := HS'
                 clear HS'
                 clear HD
                 have HD := HD'
                 clear HD'
                 clear hb
                 generalize w5.alloc (Obj.cells #[.int .i64 0, .int .i64 0] 31) = w6 at *
                 obtain ⟨u12, hu12⟩ : ∃ u, w5.heap.size = u := ⟨_, rfl⟩
                 rw [hu12] at HT ⊢
                 clear hu12
                 have hcall := lspan_any (-sz) sz w6
                 refine hcall.mono ?_
                 clear hcall
                 rintro e w7 ⟨rfl, hb⟩
                 have HR' := Lib.hid ((hb.block _ (lt_of_block HR.out)).trans HR.out)
                 have HC' := Lib.hid (HC.out.below hb)
                 have HB' := Lib.hid (HB.out.trans (hb.mono HB.out.size))
                 have HS' := Lib.hid ((hb.block _ (lt_of_block HS.out)).trans HS.out)
                 have HD' := Lib.hid (HD.out.below hb)
                 have HT' := Lib.hid ((hb.block _ (lt_of_block HT.out)).trans HT.out)
                 clear HR
                 have HR := HR'
                 clear HR'
                 clear HC
                 have HC := HC'
                 clear HC'
                 clear HB
                 have HB := HB'
                 clear HB'
                 clear HS
                 have HS := HS'
                 clear HS'
                 clear HD
                 have HD := HD'
                 clear HD'
                 clear HT
                 have HT := HT'
                 clear HT'
                 clear hb
                 have r0 := cellOf HR.out 0 _ rfl
                 have r1 := cellOf HR.out 1 _ rfl
                 have r2 := cellOf HR.out 2 _ rfl
                 have rl := lt_of_block HR.out
                 have s0 := cellOf HS.out 0 _ rfl
                 have s1 := cellOf HS.out 1 _ rfl
                 have sl := lt_of_block HS.out
                 have q0 := cellOf HT.out 0 _ rfl
                 have q1 := cellOf HT.out 1 _ rfl
                 have ql := lt_of_block HT.out
                 go_wp2_with fail
                 clear r0 r1 r2 rl s0 s1 sl q0 q1 ql
                 have hb := (Below.refl w7.heap.size w7).alloc (Nat.le_refl _) (Obj.cells #[.int .i64 (-sz), .int .i64 sz] 31)
                 have HP := Lib.hid (heap_alloc_new w7 (Obj.cells #[.int .i64 (-sz), .int .i64 sz] 31))
                 have HR' := Lib.hid ((hb.block _ (lt_of_block HR.out)).trans HR.out)
                 have HC' := Lib.hid (HC.out.below hb)
                 have HB' := Lib.hid (HB.out.trans (hb.mono HB.out.size))
                 have HS' := Lib.hid ((hb.block _ (lt_of_block HS.out)).trans HS.out)
                 have HD' := Lib.hid (HD.out.below hb)
                 have HT' := Lib.hid ((hb.block _ (lt_of_block HT.out)).trans HT.out)
                 clear HR
                 have HR := HR'
                 clear HR'
                 clear HC
                 have HC := HC'
                 clear HC'
                 clear HB
                 have HB := HB'
                 clear HB'
                 clear HS
                 have HS := HS'
                 clear HS'
                 clear HD
                 have HD := HD'
                 clear HD'
                 clear HT
                 have HT := HT'
                 clear HT'
                 clear hb
                 generalize w7.alloc (Obj.cells #[.int .i64 (-sz), .int .i64 sz] 31) = w8 at *
                 obtain ⟨u16, hu16⟩ : ∃ u, w7.heap.size = u := ⟨_, rfl⟩
                 rw [hu16] at HP ⊢
                 clear hu16
                 refine (awake_any w8).mono ?_
                 rintro e wz ⟨rfl, hb⟩
                 have HBF := Lib.hid (HB.out.trans (hb.mono HB.out.size))
                 clear hb
                 go_wp2_with fail
                 go_ret
                 exact ⟨rfl, HBF.out⟩)
            · skip
              have eWL : wl = (-sz) := by have := HWL.out; omega
              have eWH : wh = hi := by have := HWH.out; omega
              first
              | (exfalso; have := HAB.out; omega)
              | (skip
                 have hB2 : decide (sz < hi) = false := by simp; omega
                 have hB3 : hi ≤ sz := by omega
                 have hg2 : hi < (-sz) := by omega
                 have EWL := Lib.hid eWL
                 have EWH := Lib.hid eWH
                 clear eWL eWH w1a w1b w1c w1d hif2 hif3
                 simp only
                 have r0 := cellOf HR.out 0 _ rfl
                 have r1 := cellOf HR.out 1 _ rfl
                 have r2 := cellOf HR.out 2 _ rfl
                 have rl := lt_of_block HR.out
                 have s0 := cellOf HS.out 0 _ rfl
                 have s1 := cellOf HS.out 1 _ rfl
                 have sl := lt_of_block HS.out
                 go_wp2_with fail
                 clear r0 r1 r2 rl s0 s1 sl
                 have hb := (Below.refl w5.heap.size w5).alloc (Nat.le_refl _) (Obj.cells #[.int .i64 0, .int .i64 0] 31)
                 have HT := Lib.hid (heap_alloc_new w5 (Obj.cells #[.int .i64 0, .int .i64 0] 31))
                 have HR' := Lib.hid ((hb.block _ (lt_of_block HR.out)).trans HR.out)
                 have HC' := Lib.hid (HC.out.below hb)
                 have HB' := Lib.hid (HB.out.trans (hb.mono HB.out.size))
                 have HS' := Lib.hid ((hb.block _ (lt_of_block HS.out)).trans HS.out)
                 have HD' := Lib.hid (HD.out.below hb)
                 clear HR
                 have HR := HR'
                 clear HR'
                 clear HC
                 have HC := HC'
                 clear HC'
                 clear HB
                 have HB := HB'
                 clear HB'
                 clear HS
                 have HS := HS'
                 clear HS'
                 clear HD
                 have HD := HD'
                 clear HD'
                 clear hb
                 generalize w5.alloc (Obj.cells #[.int .i64 0, .int .i64 0] 31) = w6 at *
                 obtain ⟨u12, hu12⟩ : ∃ u, w5.heap.size = u := ⟨_, rfl⟩
                 rw [hu12] at HT ⊢
                 clear hu12
                 have hcall := lspan_any (-sz) hi w6
                 refine hcall.mono ?_
                 clear hcall
                 rintro e w7 ⟨rfl, hb⟩
                 have HR' := Lib.hid ((hb.block _ (lt_of_block HR.out)).trans HR.out)
                 have HC' := Lib.hid (HC.out.below hb)
                 have HB' := Lib.hid (HB.out.trans (hb.mono HB.out.size))
                 have HS' := Lib.hid ((hb.block _ (lt_of_block HS.out)).trans HS.out)
                 have HD' := Lib.hid (HD.out.below hb)
                 have HT' := Lib.hid ((hb.block _ (lt_of_block HT.out)).trans HT.out)
                 clear HR
                 have HR := HR'
                 clear HR'
                 clear HC
                 have HC := HC'
                 clear HC'
                 clear HB
                 have HB := HB'
                 clear HB'
                 clear HS
                 have HS := HS'
                 clear HS'
                 clear HD
                 have HD := HD'
                 clear HD'
                 clear HT
                 have HT := HT'
                 clear HT'
                 clear hb
                 have r0 := cellOf HR.out 0 _ rfl
                 have r1 := cellOf HR.out 1 _ rfl
                 have r2 := cellOf HR.out 2 _ rfl
                 have rl := lt_of_block HR.out
                 have s0 := cellOf HS.out 0 _ rfl
                 have s1 := cellOf HS.out 1 _ rfl
                 have sl := lt_of_block HS.out
                 have q0 := cellOf HT.out 0 _ rfl
                 have q1 := cellOf HT.out 1 _ rfl
                 have ql := lt_of_block HT.out
                 go_wp2_with fail
                 clear r0 r1 r2 rl s0 s1 sl q0 q1 ql
                 have hb := (Below.refl w7.heap.size w7).alloc (Nat.le_refl _) (Obj.cells #[.int .i64 (-sz), .int .i64 hi] 31)
                 have HP := Lib.hid (heap_alloc_new w7 (Obj.cells #[.int .i64 (-sz), .int .i64 hi] 31))
                 have HR' := Lib.hid ((hb.block _ (lt_of_block HR.out)).trans HR.out)
                 have HC' := Lib.hid (HC.out.below hb)
                 have HB' := Lib.hid (HB.out.trans (hb.mono HB.out.size))
                 have HS' := Lib.hid ((hb.block _ (lt_of_block HS.out)).trans HS.out)
                 have HD' := Lib.hid (HD.out.below hb)
                 have HT' := Lib.hid ((hb.block _ (lt_of_block HT.out)).trans HT.out)
                 clear HR
                 have HR := HR'
                 clear HR'
                 clear HC
                 have HC := HC'
                 clear HC'
                 clear HB
                 have HB := HB'
                 clear HB'
                 clear HS
                 have HS := HS'
                 clear HS'
                 clear HD
                 have HD := HD'
                 clear HD'
                 clear HT
                 have HT := HT'
                 clear HT'
                 clear hb
                 generalize w7.alloc (Obj.cells #[.int .i64 (-sz), .int .i64 hi] 31) = w8 at *
                 obtain ⟨u16, hu16⟩ : ∃ u, w7.heap.size = u := ⟨_, rfl⟩
                 rw [hu16] at HP ⊢
                 clear hu16
                 refine (awake_any w8).mono ?_
                 rintro e wz ⟨rfl, hb⟩
                 have HBF := Lib.hid (HB.out.trans (hb.mono HB.out.size))
                 clear hb
                 go_wp2_with fail
                 go_ret
                 exact ⟨rfl, HBF.out⟩)
          · skip
            by_cases hB : sz < hi
            · skip
              have eWL : wl = lo := by have := HWL.out; omega
              have eWH : wh = sz := by have := HWH.out; omega
              first
              | (exfalso; have := HAB.out; omega)
              | (skip
                 have hA2 : decide (lo < -sz) = false := by simp; omega
                 have hA3 : -sz ≤ lo := by omega
                 have hg2 : sz < lo := by omega
                 have EWL := Lib.hid eWL
                 have EWH := Lib.hid eWH
                 clear eWL eWH w1a w1b w1c w1d hif2 hif3
                 simp only
                 have r0 := cellOf HR.out 0 _ rfl
                 have r1 := cellOf HR.out 1 _ rfl
                 have r2 := cellOf HR.out 2 _ rfl
                 have rl := lt_of_block HR.out
                 have s0 := cellOf HS.out 0 _ rfl
                 have s1 := cellOf HS.out 1 _ rfl
                 have sl := lt_of_block HS.out
                 go_wp2_with fail
                 clear r0 r1 r2 rl s0 s1 sl
                 have hb := (Below.refl w5.heap.size w5).alloc (Nat.le_refl _) (Obj.cells #[.int .i64 0, .int .i64 0] 31)
                 have HT := Lib.hid (heap_alloc_new w5 (Obj.cells #[.int .i64 0, .int .i64 0] 31))
                 have HR' := Lib.hid ((hb.block _ (lt_of_block HR.out)).trans HR.out)
                 have HC' := Lib.hid (HC.out.below hb)
                 have HB' := Lib.hid (HB.out.trans (hb.mono HB.out.size))
                 have HS' := Lib.hid ((hb.block _ (lt_of_block HS.out)).trans HS.out)
                 have HD' := Lib.hid (HD.out.below hb)
                 clear HR
                 have HR := HR'
                 clear HR'
                 clear HC
                 have HC := HC'
                 clear HC'
                 clear HB
                 have HB := HB'
                 clear HB'
                 clear HS
                 have HS := HS'
                 clear HS'
                 clear HD
                 have HD := HD'
                 clear HD'
                 clear hb
                 generalize w5.alloc (Obj.cells #[.int .i64 0, .int .i64 0] 31) = w6 at *
                 obtain ⟨u12, hu12⟩ : ∃ u, w5.heap.size = u := ⟨_, rfl⟩
                 rw [hu12] at HT ⊢
                 clear hu12
                 have hcall := lspan_any lo sz w6
                 refine hcall.mono ?_
                 clear hcall
                 rintro e w7 ⟨rfl, hb⟩
                 have HR' := Lib.hid ((hb.block _ (lt_of_block HR.out)).trans HR.out)
                 have HC' := Lib.hid (HC.out.below hb)
                 have HB' := Lib.hid (HB.out.trans (hb.mono HB.out.size))
                 have HS' := Lib.hid ((hb.block _ (lt_of_block HS.out)).trans HS.out)
                 have HD' := Lib.hid (HD.out.below hb)
                 have HT' := Lib.hid ((hb.block _ (lt_of_block HT.out)).trans HT.out)
                 clear HR
                 have HR := HR'
                 clear HR'
                 clear HC
                 have HC := HC'
                 clear HC'
                 clear HB
                 have HB := HB'
                 clear HB'
                 clear HS
                 have HS := HS'
                 clear HS'
                 clear HD
                 have HD := HD'
                 clear HD'
                 clear HT
                 have HT := HT'
                 clear HT'
                 clear hb
                 have r0 := cellOf HR.out 0 _ rfl
                 have r1 := cellOf HR.out 1 _ rfl
                 have r2 := cellOf HR.out 2 _ rfl
                 have rl := lt_of_block HR.out
                 have s0 := cellOf HS.out 0 _ rfl
                 have s1 := cellOf HS.out 1 _ rfl
                 have sl := lt_of_block HS.out
                 have q0 := cellOf HT.out 0 _ rfl
                 have q1 := cellOf HT.out 1 _ rfl
                 have ql := lt_of_block HT.out
                 go_wp2_with fail
                 clear r0 r1 r2 rl s0 s1 sl q0 q1 ql
                 have hb := (Below.refl w7.heap.size w7).alloc (Nat.le_refl _) (Obj.cells #[.int .i64 lo, .int .i64 sz] 31)
                 have HP := Lib.hid (heap_alloc_new w7 (Obj.cells #[.int .i64 lo, .int .i64 sz] 31))
                 have HR' := Lib.hid ((hb.block _ (lt_of_block HR.out)).trans HR.out)
                 have HC' := Lib.hid (HC.out.below hb)
                 have HB' := Lib.hid (HB.out.trans (hb.mono HB.out.size))
                 have HS' := Lib.hid ((hb.block _ (lt_of_block HS.out)).trans HS.out)
                 have HD' := Lib.hid (HD.out.below hb)
                 have HT' := Lib.hid ((hb.block _ (lt_of_block HT.out)).trans HT.out)
                 clear HR
                 have HR := HR'
                 clear HR'
                 clear HC
                 have HC := HC'
                 clear HC'
                 clear HB
                 have HB := HB'
                 clear HB'
                 clear HS
                 have HS := HS'
                 clear HS'
                 clear HD
                 have HD := HD'
                 clear HD'
                 clear HT
                 have HT := HT'
                 clear HT'
                 clear hb
                 generalize w7.alloc (Obj.cells #[.int .i64 lo, .int .i64 sz] 31) = w8 at *
                 obtain ⟨u16, hu16⟩ : ∃ u, w7.heap.size = u := ⟨_, rfl⟩
                 rw [hu16] at HP ⊢
                 clear hu16
                 refine (awake_any w8).mono ?_
                 rintro e wz ⟨rfl, hb⟩
                 have HBF := Lib.hid (HB.out.trans (hb.mono HB.out.size))
                 clear hb
                 go_wp2_with fail
                 go_ret
                 exact ⟨rfl, HBF.out⟩)
            · skip
              have eWL : wl = lo := by have := HWL.out; omega
              have eWH : wh = hi := by have := HWH.out; omega
              first
              | (exfalso; have := HAB.out; omega)
              | (skip
                 have hA2 : decide (lo < -sz) = false := by simp; omega
                 have hA3 : -sz ≤ lo := by omega
                 have hB2 : decide (sz < hi) = false := by simp; omega
                 have hB3 : hi ≤ sz := by omega
                 have hg2 : hi < lo := by omega
                 have EWL := Lib.hid eWL
                 have EWH := Lib.hid eWH
                 clear eWL eWH w1a w1b w1c w1d hif2 hif3
                 simp only
                 have r0 := cellOf HR.out 0 _ rfl
                 have r1 := cellOf HR.out 1 _ rfl
                 have r2 := cellOf HR.out 2 _ rfl
                 have rl := lt_of_block HR.out
                 have s0 := cellOf HS.out 0 _ rfl
                 have s1 := cellOf HS.out 1 _ rfl
                 have sl := lt_of_block HS.out
                 go_wp2_with fail
                 clear r0 r1 r2 rl s0 s1 sl
                 have hb := (Below.refl w5.heap.size w5).alloc (Nat.le_refl _) (Obj.cells #[.int .i64 0, .int .i64 0] 31)
                 have HT := Lib.hid (heap_alloc_new w5 (Obj.cells #[.int .i64 0, .int .i64 0] 31))
                 have HR' := Lib.hid ((hb.block _ (lt_of_block HR.out)).trans HR.out)
                 have HC' := Lib.hid (HC.out.below hb)
                 have HB' := Lib.hid (HB.out.trans (hb.mono HB.out.size))
                 have HS' := Lib.hid ((hb.block _ (lt_of_block HS.out)).trans HS.out)
                 have HD' := Lib.hid (HD.out.below hb)
                 clear HR
                 have HR := HR'
                 clear HR'
                 clear HC
                 have HC := HC'
                 clear HC'
                 clear HB
                 have HB := HB'
                 clear HB'
                 clear HS
                 have HS := HS'
                 clear HS'
                 clear HD
                 have HD := HD'
                 clear HD'
                 clear hb
                 generalize w5.alloc (Obj.cells #[.int .i64 0, .int .i64 0] 31) = w6 at *
                 obtain ⟨u12, hu12⟩ : ∃ u, w5.heap.size = u := ⟨_, rfl⟩
                 rw [hu12] at HT ⊢
                 clear hu12
                 have hcall := lspan_any lo hi w6
                 refine hcall.mono ?_
                 clear hcall
                 rintro e w7 ⟨rfl, hb⟩
                 have HR' := Lib.hid ((hb.block _ (lt_of_block HR.out)).trans HR.out)
                 have HC' := Lib.hid (HC.out.below hb)
                 have HB' := Lib.hid (HB.out.trans (hb.mono HB.out.size))
                 have HS' := Lib.hid ((hb.block _ (lt_of_block HS.out)).trans HS.out)
                 have HD' := Lib.hid (HD.out.below hb)
                 have HT' := Lib.hid ((hb.block _ (lt_of_block HT.out)).trans HT.out)
                 clear HR
                 have HR := HR'
                 clear HR'
                 clear HC
                 have HC := HC'
                 clear HC'
                 clear HB
                 have HB := HB'
                 clear HB'
                 clear HS
                 have HS := HS'
                 clear HS'
                 clear HD
                 have HD := HD'
                 clear HD'
                 clear HT
                 have HT := HT'
                 clear HT'
                 clear hb
                 have r0 := cellOf HR.out 0 _ rfl
                 have r1 := cellOf HR.out 1 _ rfl
                 have r2 := cellOf HR.out 2 _ rfl
                 have rl := lt_of_block HR.out
                 have s0 := cellOf HS.out 0 _ rfl
                 have s1 := cellOf HS.out 1 _ rfl
                 have sl := lt_of_block HS.out
                 have q0 := cellOf HT.out 0 _ rfl
                 have q1 := cellOf HT.out 1 _ rfl
                 have ql := lt_of_block HT.out
                 go_wp2_with fail
                 clear r0 r1 r2 rl s0 s1 sl q0 q1 ql
                 have hb := (Below.refl w7.heap.size w7).alloc (Nat.le_refl _) (Obj.cells #[.int .i64 lo, .int .i64 hi] 31)
                 have HP := Lib.hid (heap_alloc_new w7 (Obj.cells #[.int .i64 lo, .int .i64 hi] 31))
                 have HR' := Lib.hid ((hb.block _ (lt_of_block HR.out)).trans HR.out)
                 have HC' := Lib.hid (HC.out.below hb)
                 have HB' := Lib.hid (HB.out.trans (hb.mono HB.out.size))
                 have HS' := Lib.hid ((hb.block _ (lt_of_block HS.out)).trans HS.out)
                 have HD' := Lib.hid (HD.out.below hb)
                 have HT' := Lib.hid ((hb.block _ (lt_of_block HT.out)).trans HT.out)
                 clear HR
                 have HR := HR'
                 clear HR'
                 clear HC
                 have HC := HC'
                 clear HC'
                 clear HB
                 have HB := HB'
                 clear HB'
                 clear HS
                 have HS := HS'
                 clear HS'
                 clear HD
                 have HD := HD'
                 clear HD'
                 clear HT
                 have HT := HT'
                 clear HT'
                 clear hb
                 generalize w7.alloc (Obj.cells #[.int .i64 lo, .int .i64 hi] 31) = w8 at *
                 obtain ⟨u16, hu16⟩ : ∃ u, w7.heap.size = u := ⟨_, rfl⟩
                 rw [hu16] at HP ⊢
                 clear hu16
                 refine (awake_any w8).mono ?_
                 rintro e wz ⟨rfl, hb⟩
                 have HBF := Lib.hid (HB.out.trans (hb.mono HB.out.size))
                 clear hb
                 go_wp2_with fail
                 go_ret
                 exact ⟨rfl, HBF.out⟩)
        · skip
          rw [if_neg hgt]
          by_cases hA : lo < -sz
          · skip
            by_cases hB : sz < hi
            · skip
              have eWL : wl = (-sz) := by have := HWL.out; omega
              have eWH : wh = sz := by have := HWH.out; omega
              first
              | (exfalso; have := HAB.out; omega)
              | (skip
                 have hg2 : decide (sz < (-sz)) = false := by simp; omega
                 have EWL := Lib.hid eWL
                 have EWH := Lib.hid eWH
                 rw [eWL, eWH]
                 clear eWL eWH w1a w1b w1c w1d hgt hif2 hif3
                 simp only
                 have r0 := cellOf HR.out 0 _ rfl
                 have r1 := cellOf HR.out 1 _ rfl
                 have r2 := cellOf HR.out 2 _ rfl
                 have rl := lt_of_block HR.out
                 have s0 := cellOf HS.out 0 _ rfl
                 have s1 := cellOf HS.out 1 _ rfl
                 have sl := lt_of_block HS.out
                 go_wp2_with fail
                 clear r0 r1 r2 rl s0 s1 sl
                 have hb := (Below.refl w5.heap.size w5).alloc (Nat.le_refl _) (Obj.cells #[.int .i64 (-sz), .int .i64 sz] 31)
                 have HT := Lib.hid (heap_alloc_new w5 (Obj.cells #[.int .i64 (-sz), .int .i64 sz] 31))
                 have HR' := Lib.hid ((hb.block _ (lt_of_block HR.out)).trans HR.out)
                 have HC' := Lib.hid (HC.out.below hb)
                 have HB' := Lib.hid (HB.out.trans (hb.mono HB.out.size))
                 have HS' := Lib.hid ((hb.block _ (lt_of_block HS.out)).trans HS.out)
                 have HD' := Lib.hid (HD.out.below hb)
                 clear HR
                 have HR := HR'
                 clear HR'
                 clear HC
                 have HC := HC'
                 clear HC'
                 clear HB
                 have HB := HB'
                 clear HB'
                 clear HS
                 have HS := HS'
                 clear HS'
                 clear HD
                 have HD := HD'
                 clear HD'
                 clear hb
                 generalize w5.alloc (Obj.cells #[.int .i64 (-sz), .int .i64 sz] 31) = w6 at *
                 obtain ⟨u12, hu12⟩ : ∃ u, w5.heap.size = u := ⟨_, rfl⟩
                 rw [hu12] at HT ⊢
                 clear hu12
                 have hcall := lspan_any (-sz) sz w6
                 refine hcall.mono ?_
                 clear hcall
                 rintro e w7 ⟨rfl, hb⟩
                 have HR' := Lib.hid ((hb.block _ (lt_of_block HR.out)).trans HR.out)
                 have HC' := Lib.hid (HC.out.below hb)
                 have HB' := Lib.hid (HB.out.trans (hb.mono HB.out.size))
                 have HS' := Lib.hid ((hb.block _ (lt_of_block HS.out)).trans HS.out)
                 have HD' := Lib.hid (HD.out.below hb)
                 have HT' := Lib.hid ((hb.block _ (lt_of_block HT.out)).trans HT.out)
                 clear HR
                 have HR := HR'
                 clear HR'
                 clear HC
                 have HC := HC'
                 clear HC'
                 clear HB
                 have HB := HB'
                 clear HB'
                 clear HS
                 have HS := HS'
                 clear HS'
                 clear HD
                 have HD := HD'
                 clear HD'
                 clear HT
                 have HT := HT'
                 clear HT'
                 clear hb
                 have r0 := cellOf HR.out 0 _ rfl
                 have r1 := cellOf HR.out 1 _ rfl
                 have r2 := cellOf HR.out 2 _ rfl
                 have rl := lt_of_block HR.out
                 have s0 := cellOf HS.out 0 _ rfl
                 have s1 := cellOf HS.out 1 _ rfl
                 have sl := lt_of_block HS.out
                 have q0 := cellOf HT.out 0 _ rfl
                 have q1 := cellOf HT.out 1 _ rfl
                 have ql := lt_of_block HT.out
                 go_wp2_with fail
                 clear r0 r1 r2 rl s0 s1 sl q0 q1 ql
                 have hb := (Below.refl w7.heap.size w7).alloc (Nat.le_refl _) (Obj.cells #[.int .i64 (-sz), .int .i64 sz] 31)
                 have HP := Lib.hid (heap_alloc_new w7 (Obj.cells #[.int .i64 (-sz), .int .i64 sz] 31))
                 have HR' := Lib.hid ((hb.block _ (lt_of_block HR.out)).trans HR.out)
                 have HC' := Lib.hid (HC.out.below hb)
                 have HB' := Lib.hid (HB.out.trans (hb.mono HB.out.size))
                 have HS' := Lib.hid ((hb.block _ (lt_of_block HS.out)).trans HS.out)
                 have HD' := Lib.hid (HD.out.below hb)
                 have HT' := Lib.hid ((hb.block _ (lt_of_block HT.out)).trans HT.out)
                 clear HR
                 have HR := HR'
                 clear HR'
                 clear HC
                 have HC := HC'
                 clear HC'
                 clear HB
                 have HB := HB'
                 clear HB'
                 clear HS
                 have HS := HS'
                 clear HS'
                 clear HD
                 have HD := HD'
                 clear HD'
                 clear HT
                 have HT := HT'
                 clear HT'
                 clear hb
                 generalize w7.alloc (Obj.cells #[.int .i64 (-sz), .int .i64 sz] 31) = w8 at *
                 obtain ⟨u16, hu16⟩ : ∃ u, w7.heap.size = u := ⟨_, rfl⟩
                 rw [hu16] at HP ⊢
                 clear hu16
                 refine (awake_any w8).mono ?_
                 rintro e wz ⟨rfl, hb⟩
                 have HBF := Lib.hid (HB.out.trans (hb.mono HB.out.size))
                 clear hb
                 go_wp2_with fail
                 go_ret
                 exact ⟨rfl, HBF.out⟩)
            · skip
              have eWL : wl = (-sz) := by have := HWL.out; omega
              have eWH : wh = hi := by have := HWH.out; omega
              first
              | (exfalso; have := HAB.out; omega)
              | (skip
                 have hB2 : decide (sz < hi) = false := by simp; omega
                 have hB3 : hi ≤ sz := by omega
                 have hg2 : decide (hi < (-sz)) = false := by simp; omega
                 have EWL := Lib.hid eWL
                 have EWH := Lib.hid eWH
                 rw [eWL, eWH]
                 clear eWL eWH w1a w1b w1c w1d hgt hif2 hif3
                 simp only
                 have r0 := cellOf HR.out 0 _ rfl
                 have r1 := cellOf HR.out 1 _ rfl
                 have r2 := cellOf HR.out 2 _ rfl
                 have rl := lt_of_block HR.out
                 have s0 := cellOf HS.out 0 _ rfl
                 have s1 := cellOf HS.out 1 _ rfl
                 have sl := lt_of_block HS.out
                 go_wp2_with fail
                 clear r0 r1 r2 rl s0 s1 sl
                 have hb := (Below.refl w5.heap.size w5).alloc (Nat.le_refl _) (Obj.cells #[.int .i64 (-sz), .int .i64 hi] 31)
                 have HT := Lib.hid (heap_alloc_new w5 (Obj.cells #[.int .i64 (-sz), .int .i64 hi] 31))
                 have HR' := Lib.hid ((hb.block _ (lt_of_block HR.out)).trans HR.out)
                 have HC' := Lib.hid (HC.out.below hb)
                 have HB' := Lib.hid (HB.out.trans (hb.mono HB.out.size))
                 have HS' := Lib.hid ((hb.block _ (lt_of_block HS.out)).trans HS.out)
                 have HD' := Lib.hid (HD.out.below hb)
                 clear HR
                 have HR := HR'
                 clear HR'
                 clear HC
                 have HC := HC'
                 clear HC'
                 clear HB
                 have HB := HB'
                 clear HB'
                 clear HS
                 have HS := HS'
                 clear HS'
                 clear HD
                 have HD := HD'
                 clear HD'
                 clear hb
                 generalize w5.alloc (Obj.cells #[.int .i64 (-sz), .int .i64 hi] 31) = w6 at *
                 obtain ⟨u12, hu12⟩ : ∃ u, w5.heap.size = u := ⟨_, rfl⟩
                 rw [hu12] at HT ⊢
                 clear hu12
                 have hcall := lspan_any (-sz) hi w6
                 refine hcall.mono ?_
                 clear hcall
                 rintro e w7 ⟨rfl, hb⟩
                 have HR' := Lib.hid ((hb.block _ (lt_of_block HR.out)).trans HR.out)
                 have HC' := Lib.hid (HC.out.below hb)
                 have HB' := Lib.hid (HB.out.trans (hb.mono HB.out.size))
                 have HS' := Lib.hid ((hb.block _ (lt_of_block HS.out)).trans HS.out)
                 have HD' := Lib.hid (HD.out.below hb)
                 have HT' := Lib.hid ((hb.block _ (lt_of_block HT.out)).trans HT.out)
                 clear HR
                 have HR := HR'
                 clear HR'
                 clear HC
                 have HC := HC'
                 clear HC'
                 clear HB
                 have HB := HB'
                 clear HB'
                 clear HS
                 have HS := HS'
                 clear HS'
                 clear HD
                 have HD := HD'
                 clear HD'
                 clear HT
                 have HT := HT'
                 clear HT'
                 clear hb
                 have r0 := cellOf HR.out 0 _ rfl
                 have r1 := cellOf HR.out 1 _ rfl
                 have r2 := cellOf HR.out 2 _ rfl
                 have rl := lt_of_block HR.out
                 have s0 := cellOf HS.out 0 _ rfl
                 have s1 := cellOf HS.out 1 _ rfl
                 have sl := lt_of_block HS.out
                 have q0 := cellOf HT.out 0 _ rfl
                 have q1 := cellOf HT.out 1 _ rfl
                 have ql := lt_of_block HT.out
                 go_wp2_with fail
                 clear r0 r1 r2 rl s0 s1 sl q0 q1 ql
                 have hb := (Below.refl w7.heap.size w7).alloc (Nat.le_refl _) (Obj.cells #[.int .i64 (-sz), .int .i64 hi] 31)
                 have HP := Lib.hid (heap_alloc_new w7 (Obj.cells #[.int .i64 (-sz), .int .i64 hi] 31))
                 have HR' := Lib.hid ((hb.block _ (lt_of_block HR.out)).trans HR.out)
                 have HC' := Lib.hid (HC.out.below hb)
                 have HB' := Lib.hid (HB.out.trans (hb.mono HB.out.size))
                 have HS' := Lib.hid ((hb.block _ (lt_of_block HS.out)).trans HS.out)
                 have HD' := Lib.hid (HD.out.below hb)
                 have HT' := Lib.hid ((hb.block _ (lt_of_block HT.out)).trans HT.out)
                 clear HR
                 have HR := HR'
                 clear HR'
                 clear HC
                 have HC := HC'
                 clear HC'
                 clear HB
                 have HB := HB'
                 clear HB'
                 clear HS
                 have HS := HS'
                 clear HS'
                 clear HD
                 have HD := HD'
                 clear HD'
                 clear HT
                 have HT := HT'
                 clear HT'
                 clear hb
                 generalize w7.alloc (Obj.cells #[.int .i64 (-sz), .int .i64 hi] 31) = w8 at *
                 obtain ⟨u16, hu16⟩ : ∃ u, w7.heap.size = u := ⟨_, rfl⟩
                 rw [hu16] at HP ⊢
                 clear hu16
                 refine (awake_any w8).mono ?_
                 rintro e wz ⟨rfl, hb⟩
                 have HBF := Lib.hid (HB.out.trans (hb.mono HB.out.size))
                 clear hb
                 go_wp2_with fail
                 go_ret
                 exact ⟨rfl, HBF.out⟩)
          · skip
            by_cases hB : sz < hi
            · skip
              have eWL : wl = lo := by have := HWL.out; omega
              have eWH : wh = sz := by have := HWH.out; omega
              first
              | (exfalso; have := HAB.out; omega)
              | (skip
                 have hA2 : decide (lo < -sz) = false := by simp; omega
                 have hA3 : -sz ≤ lo := by omega
                 have hg2 : decide (sz < lo) = false := by simp; omega
                 have EWL := Lib.hid eWL
                 have EWH := Lib.hid eWH
                 rw [eWL, eWH]
                 clear eWL eWH w1a w1b w1c w1d hgt hif2 hif3
                 simp only
                 have r0 := cellOf HR.out 0 _ rfl
                 have r1 := cellOf HR.out 1 _ rfl
                 have r2 := cellOf HR.out 2 _ rfl
                 have rl := lt_of_block HR.out
                 have s0 := cellOf HS.out 0 _ rfl
                 have s1 := cellOf HS.out 1 _ rfl
                 have sl := lt_of_block HS.out
                 go_wp2_with fail
                 clear r0 r1 r2 rl s0 s1 sl
                 have hb := (Below.refl w5.heap.size w5).alloc (Nat.le_refl _) (Obj.cells #[.int .i64 lo, .int .i64 sz] 31)
                 have HT := Lib.hid (heap_alloc_new w5 (Obj.cells #[.int .i64 lo, .int .i64 sz] 31))
                 have HR' := Lib.hid ((hb.block _ (lt_of_block HR.out)).trans HR.out)
                 have HC' := Lib.hid (HC.out.below hb)
                 have HB' := Lib.hid (HB.out.trans (hb.mono HB.out.size))
                 have HS' := Lib.hid ((hb.block _ (lt_of_block HS.out)).trans HS.out)
                 have HD' := Lib.hid (HD.out.below hb)
                 clear HR
                 have HR := HR'
                 clear HR'
                 clear HC
                 have HC := HC'
                 clear HC'
                 clear HB
                 have HB := HB'
                 clear HB'
                 clear HS
                 have HS := HS'
                 clear HS'
                 clear HD
                 have HD := HD'
                 clear HD'
                 clear hb
                 generalize w5.alloc (Obj.cells #[.int .i64 lo, .int .i64 sz] 31) = w6 at *
                 obtain ⟨u12, hu12⟩ : ∃ u, w5.heap.size = u := ⟨_, rfl⟩
                 rw [hu12] at HT ⊢
                 clear hu12
                 have hcall := lspan_any lo sz w6
                 refine hcall.mono ?_
                 clear hcall
                 rintro e w7 ⟨rfl, hb⟩
                 have HR' := Lib.hid ((hb.block _ (lt_of_block HR.out)).trans HR.out)
                 have HC' := Lib.hid (HC.out.below hb)
                 have HB' := Lib.hid (HB.out.trans (hb.mono HB.out.size))
                 have HS' := Lib.hid ((hb.block _ (lt_of_block HS.out)).trans HS.out)
                 have HD' := Lib.hid (HD.out.below hb)
                 have HT' := Lib.hid ((hb.block _ (lt_of_block HT.out)).trans HT.out)
                 clear HR
                 have HR := HR'
                 clear HR'
                 clear HC
                 have HC := HC'
                 clear HC'
                 clear HB
                 have HB := HB'
                 clear HB'
                 clear HS
                 have HS := HS'
                 clear HS'
                 clear HD
                 have HD := HD'
                 clear HD'
                 clear HT
                 have HT := HT'
                 clear HT'
                 clear hb
                 have r0 := cellOf HR.out 0 _ rfl
                 have r1 := cellOf HR.out 1 _ rfl
                 have r2 := cellOf HR.out 2 _ rfl
                 have rl := lt_of_block HR.out
                 have s0 := cellOf HS.out 0 _ rfl
                 have s1 := cellOf HS.out 1 _ rfl
                 have sl := lt_of_block HS.out
                 have q0 := cellOf HT.out 0 _ rfl
                 have q1 := cellOf HT.out 1 _ rfl
                 have ql := lt_of_block HT.out
                 go_wp2_with fail
                 clear r0 r1 r2 rl s0 s1 sl q0 q1 ql
                 have hb := (Below.refl w7.heap.size w7).alloc (Nat.le_refl _) (Obj.cells #[.int .i64 lo, .int .i64 sz] 31)
                 have HP := Lib.hid (heap_alloc_new w7 (Obj.cells #[.int .i64 lo, .int .i64 sz] 31))
                 have HR' := Lib.hid ((hb.block _ (lt_of_block HR.out)).trans HR.out)
                 have HC' := Lib.hid (HC.out.below hb)
                 have HB' := Lib.hid (HB.out.trans (hb.mono HB.out.size))
                 have HS' := Lib.hid ((hb.block _ (lt_of_block HS.out)).trans HS.out)
                 have HD' := Lib.hid (HD.out.below hb)
                 have HT' := Lib.hid ((hb.block _ (lt_of_block HT.out)).trans HT.out)
                 clear HR
                 have HR := HR'
                 clear HR'
                 clear HC
                 have HC := HC'
                 clear HC'
                 clear HB
                 have HB := HB'
                 clear HB'
                 clear HS
                 have HS := HS'
                 clear HS'
                 clear HD
                 have HD := HD'
                 clear HD'
                 clear HT
                 have HT := HT'
                 clear HT'
                 clear hb
                 generalize w7.alloc (Obj.cells #[.int .i64 lo, .int .i64 sz] 31) = w8 at *
                 obtain ⟨u16, hu16⟩ : ∃ u, w7.heap.size = u := ⟨_, rfl⟩
                 rw [hu16] at HP ⊢
                 clear hu16
                 refine (awake_any w8).mono ?_
                 rintro e wz ⟨rfl, hb⟩
                 have HBF := Lib.hid (HB.out.trans (hb.mono HB.out.size))
                 clear hb
                 go_wp2_with fail
                 go_ret
                 exact ⟨rfl, HBF.out⟩)
            · skip
              have eWL : wl = lo := by have := HWL.out; omega
              have eWH : wh = hi := by have := HWH.out; omega
              first
              | (exfalso; have := HAB.out; omega)
              | (skip
                 have hA2 : decide (lo < -sz) = false := by simp; omega
                 have hA3 : -sz ≤ lo := by omega
                 have hB2 : decide (sz < hi) = false := by simp; omega
                 have hB3 : hi ≤ sz := by omega
                 have hg2 : decide (hi < lo) = false := by simp; omega
                 have EWL := Lib.hid eWL
                 have EWH := Lib.hid eWH
                 rw [eWL, eWH]
                 clear eWL eWH w1a w1b w1c w1d hgt hif2 hif3
                 simp only
                 have r0 := cellOf HR.out 0 _ rfl
                 have r1 := cellOf HR.out 1 _ rfl
                 have r2 := cellOf HR.out 2 _ rfl
                 have rl := lt_of_block HR.out
                 have s0 := cellOf HS.out 0 _ rfl
                 have s1 := cellOf HS.out 1 _ rfl
                 have sl := lt_of_block HS.out
                 go_wp2_with fail
                 clear r0 r1 r2 rl s0 s1 sl
                 have hb := (Below.refl w5.heap.size w5).alloc (Nat.le_refl _) (Obj.cells #[.int .i64 lo, .int .i64 hi] 31)
                 have HT := Lib.hid (heap_alloc_new w5 (Obj.cells #[.int .i64 lo, .int .i64 hi] 31))
                 have HR' := Lib.hid ((hb.block _ (lt_of_block HR.out)).trans HR.out)
                 have HC' := Lib.hid (HC.out.below hb)
                 have HB' := Lib.hid (HB.out.trans (hb.mono HB.out.size))
                 have HS' := Lib.hid ((hb.block _ (lt_of_block HS.out)).trans HS.out)
                 have HD' := Lib.hid (HD.out.below hb)
                 clear HR
                 have HR := HR'
                 clear HR'
                 clear HC
                 have HC := HC'
                 clear HC'
                 clear HB
                 have HB := HB'
                 clear HB'
                 clear HS
                 have HS := HS'
                 clear HS'
                 clear HD
                 have HD := HD'
                 clear HD'
                 clear hb
                 generalize w5.alloc (Obj.cells #[.int .i64 lo, .int .i64 hi] 31) = w6 at *
                 obtain ⟨u12, hu12⟩ : ∃ u, w5.heap.size = u := ⟨_, rfl⟩
                 rw [hu12] at HT ⊢
                 clear hu12
                 have hcall := lspan_any lo hi w6
                 refine hcall.mono ?_
                 clear hcall
                 rintro e w7 ⟨rfl, hb⟩
                 have HR' := Lib.hid ((hb.block _ (lt_of_block HR.out)).trans HR.out)
                 have HC' := Lib.hid (HC.out.below hb)
                 have HB' := Lib.hid (HB.out.trans (hb.mono HB.out.size))
                 have HS' := Lib.hid ((hb.block _ (lt_of_block HS.out)).trans HS.out)
                 have HD' := Lib.hid (HD.out.below hb)
                 have HT' := Lib.hid ((hb.block _ (lt_of_block HT.out)).trans HT.out)
                 clear HR
                 have HR := HR'
                 clear HR'
                 clear HC
                 have HC := HC'
                 clear HC'
                 clear HB
                 have HB := HB'
                 clear HB'
                 clear HS
                 have HS := HS'
                 clear HS'
                 clear HD
                 have HD := HD'
                 clear HD'
                 clear HT
                 have HT := HT'
                 clear HT'
                 clear hb
                 have r0 := cellOf HR.out 0 _ rfl
                 have r1 := cellOf HR.out 1 _ rfl
                 have r2 := cellOf HR.out 2 _ rfl
                 have rl := lt_of_block HR.out
                 have s0 := cellOf HS.out 0 _ rfl
                 have s1 := cellOf HS.out 1 _ rfl
                 have sl := lt_of_block HS.out
                 have q0 := cellOf HT.out 0 _ rfl
                 have q1 := cellOf HT.out 1 _ rfl
                 have ql := lt_of_block HT.out
                 go_wp2_with fail
                 clear r0 r1 r2 rl s0 s1 sl q0 q1 ql
                 have hb := (Below.refl w7.heap.size w7).alloc (Nat.le_refl _) (Obj.cells #[.int .i64 lo, .int .i64 hi] 31)
                 have HP := Lib.hid (heap_alloc_new w7 (Obj.cells #[.int .i64 lo, .int .i64 hi] 31))
                 have HR' := Lib.hid ((hb.block _ (lt_of_block HR.out)).trans HR.out)
                 have HC' := Lib.hid (HC.out.below hb)
                 have HB' := Lib.hid (HB.out.trans (hb.mono HB.out.size))
                 have HS' := Lib.hid ((hb.block _ (lt_of_block HS.out)).trans HS.out)
                 have HD' := Lib.hid (HD.out.below hb)
                 have HT' := Lib.hid ((hb.block _ (lt_of_block HT.out)).trans HT.out)
                 clear HR
                 have HR := HR'
                 clear HR'
                 clear HC
                 have HC := HC'
                 clear HC'
                 clear HB
                 have HB := HB'
                 clear HB'
                 clear HS
                 have HS := HS'
                 clear HS'
                 clear HD
                 have HD := HD'
                 clear HD'
                 clear HT
                 have HT := HT'
                 clear HT'
                 clear hb
                 generalize w7.alloc (Obj.cells #[.int .i64 lo, .int .i64 hi] 31) = w8 at *
                 obtain ⟨u16, hu16⟩ : ∃ u, w7.heap.size = u := ⟨_, rfl⟩
                 rw [hu16] at HP ⊢
                 clear hu16
                 refine (awake_any w8).mono ?_
                 rintro e wz ⟨rfl, hb⟩
                 have HBF := Lib.hid (HB.out.trans (hb.mono HB.out.size))
                 clear hb
                 go_wp2_with fail
                 go_ret
                 exact ⟨rfl, HBF.out⟩)
      by_cases hw2 : ch ≤ hi
      rotate_left
      · skip
        have k2 : decide (ch ≤ hi) = false := by simp; omega
        by_cases hgt : wh < wl
        · skip
          rw [if_pos hgt]
          by_cases hA : lo < -sz
          · skip
            by_cases hB : sz < hi
            · skip
              have eWL : wl = (-sz) := by have := HWL.out; omega
              have eWH : wh = sz := by have := HWH.out; omega
              first
              | (exfalso; have := HAB.out; omega)
              | (skip
                 have hg2 : sz < (-sz) := by omega
                 have EWL := Lib.hid eWL
                 have EWH := Lib.hid eWH
                 clear eWL eWH w1a w1b w1c w1d hif2 hif3
                 simp only
                 have r0 := cellOf HR.out 0 _ rfl
                 have r1 := cellOf HR.out 1 _ rfl
                 have r2 := cellOf HR.out 2 _ rfl
                 have rl := lt_of_block HR.out
                 have s0 := cellOf HS.out 0 _ rfl
                 have s1 := cellOf HS.out 1 _ rfl
                 have sl := lt_of_block HS.out
                 go_wp2_with fail
                 clear r0 r1 r2 rl s0 s1 sl
                 have hb := (Below.refl w5.heap.size w5).alloc (Nat.le_refl _) (Obj.cells #[.int .i64 0, .int .i64 0] 31)
                 have HT := Lib.hid (heap_alloc_new w5 (Obj.cells #[.int .i64 0, .int .i64 0] 31))
                 have HR' := Lib.hid ((hb.block _ (lt_of_block HR.out)).trans HR.out)
                 have HC' := Lib.hid (HC.out.below hb)
                 have HB' := Lib.hid (HB.out.trans (hb.mono HB.out.size))
                 have HS' := Lib.hid ((hb.block _ (lt_of_block HS.out)).trans HS.out)
                 have HD' := Lib.hid (HD.out.below hb)
                 clear HR
                 have HR := HR'
                 clear HR'
                 clear HC
                 have HC := HC'
                 clear HC'
                 clear HB
                 have HB := HB'
                 clear HB'
                 clear HS
                 have HS := HS'
                 clear HS'
                 clear HD
                 have HD := HD'
                 clear HD'
                 clear hb
                 generalize w5.alloc (Obj.cells #[.int .i64 0, .int .i64 0] 31) = w6 at *
                 obtain ⟨u12, hu12⟩ : ∃ u, w5.heap.size = u := ⟨_, rfl⟩
                 rw [hu12] at HT ⊢
                 clear hu12
                 have hcall := lspan_any (-sz) sz w6
                 refine hcall.mono ?_
                 clear hcall
                 rintro e w7 ⟨rfl, hb⟩
                 have HR' := Lib.hid ((hb.block _ (lt_of_block HR.out)).trans HR.out)
                 have HC' := Lib.hid (HC.out.below hb)
                 have HB' := Lib.hid (HB.out.trans (hb.mono HB.out.size))
                 have HS' := Lib.hid ((hb.block _ (lt_of_block HS.out)).trans HS.out)
                 have HD' := Lib.hid (HD.out.below hb)
                 have HT' := Lib.hid ((hb.block _ (lt_of_block HT.out)).trans HT.out)
                 clear HR
                 have HR := HR'
                 clear HR'
                 clear HC
                 have HC := HC'
                 clear HC'
                 clear HB
                 have HB := HB'
                 clear HB'
                 clear HS
                 have HS := HS'
                 clear HS'
                 clear HD
                 have HD := HD'
                 clear HD'
                 clear HT
                 have HT := HT'
                 clear HT'
                 clear hb
                 have r0 := cellOf HR.out 0 _ rfl
                 have r1 := cellOf HR.out 1 _ rfl
                 have r2 := cellOf HR.out 2 _ rfl
                 have rl := lt_of_block HR.out
                 have s0 := cellOf HS.out 0 _ rfl
                 have s1 := cellOf HS.out 1 _ rfl
                 have sl := lt_of_block HS.out
                 have q0 := cellOf HT.out 0 _ rfl
                 have q1 := cellOf HT.out 1 _ rfl
                 have ql := lt_of_block HT.out
                 go_wp2_with fail
                 clear r0 r1 r2 rl s0 s1 sl q0 q1 ql
                 have hb := (Below.refl w7.heap.size w7).alloc (Nat.le_refl _) (Obj.cells #[.int .i64 (-sz), .int .i64 sz] 31)
                 have HP := Lib.hid (heap_alloc_new w7 (Obj.cells #[.int .i64 (-sz), .int .i64 sz] 31))
                 have HR' := Lib.hid ((hb.block _ (lt_of_block HR.out)).trans HR.out)
                 have HC' := Lib.hid (HC.out.below hb)
                 have HB' := Lib.hid (HB.out.trans (hb.mono HB.out.size))
                 have HS' := Lib.hid ((hb.block _ (lt_of_block HS.out)).trans HS.out)
                 have HD' := Lib.hid (HD.out.below hb)
                 have HT' := Lib.hid ((hb.block _ (lt_of_block HT.out)).trans HT.out)
                 clear HR
                 have HR := HR'
                 clear HR'
                 clear HC
                 have HC := HC'
                 clear HC'
                 clear HB
                 have HB := HB'
                 clear HB'
                 clear HS
                 have HS := HS'
                 clear HS'
                 clear HD
                 have HD := HD'
                 clear HD'
                 clear HT
                 have HT := HT'
                 clear HT'
                 clear hb
                 generalize w7.alloc (Obj.cells #[.int .i64 (-sz), .int .i64 sz] 31) = w8 at *
                 obtain ⟨u16, hu16⟩ : ∃ u, w7.heap.size = u := ⟨_, rfl⟩
                 rw [hu16] at HP ⊢
                 clear hu16
                 refine (awake_any w8).mono ?_
                 rintro e wz ⟨rfl, hb⟩
                 have HBF := Lib.hid (HB.out.trans (hb.mono HB.out.size))
                 clear hb
                 go_wp2_with fail
                 go_ret
                 exact ⟨rfl, HBF.out⟩)
            · skip
              have eWL : wl = (-sz) := by have := HWL.out; omega
              have eWH : wh = hi := by have := HWH.out; omega
              first
              | (exfalso; have := HAB.out; omega)
              | (skip
                 have hB2 : decide (sz < hi) = false := by simp; omega
                 have hB3 : hi ≤ sz := by omega
                 have hg2 : hi < (-sz) := by omega
                 have EWL := Lib.hid eWL
                 have EWH := Lib.hid eWH
                 clear eWL eWH w1a w1b w1c w1d hif2 hif3
                 simp only
                 have r0 := cellOf HR.out 0 _ rfl
                 have r1 := cellOf HR.out 1 _ rfl
                 have r2 := cellOf HR.out 2 _ rfl
                 have rl := lt_of_block HR.out
                 have s0 := cellOf HS.out 0 _ rfl
                 have s1 := cellOf HS.out 1 _ rfl
                 have sl := lt_of_block HS.out
                 go_wp2_with fail
                 clear r0 r1 r2 rl s0 s1 sl
                 have hb := (Below.refl w5.heap.size w5).alloc (Nat.le_refl _) (Obj.cells #[.int .i64 0, .int .i64 0] 31)
                 have HT := Lib.hid (heap_alloc_new w5 (Obj.cells #[.int .i64 0, .int .i64 0] 31))
                 have HR' := Lib.hid ((hb.block _ (lt_of_block HR.out)).trans HR.out)
                 have HC' := Lib.hid (HC.out.below hb)
                 have HB' := Lib.hid (HB.out.trans (hb.mono HB.out.size))
                 have HS' := Lib.hid ((hb.block _ (lt_of_block HS.out)).trans HS.out)
                 have HD' := Lib.hid (HD.out.below hb)
                 clear HR
                 have HR := HR'
                 clear HR'
                 clear HC
                 have HC := HC'
                 clear HC'
                 clear HB
                 have HB := HB'
                 clear HB'
                 clear HS
                 have HS := HS'
                 clear HS'
                 clear HD
                 have HD := HD'
                 clear HD'
                 clear hb
                 generalize w5.alloc (Obj.cells #[.int .i64 0, .int .i64 0] 31) = w6 at *
                 obtain ⟨u12, hu12⟩ : ∃ u, w5.heap.size = u := ⟨_, rfl⟩
                 rw [hu12] at HT ⊢
                 clear hu12
                 have hcall := lspan_any (-sz) hi w6
                 refine hcall.mono ?_
                 clear hcall
                 rintro e w7 ⟨rfl, hb⟩
                 have HR' := Lib.hid ((hb.block _ (lt_of_block HR.out)).trans HR.out)
                 have HC' := Lib.hid (HC.out.below hb)
                 have HB' := Lib.hid (HB.out.trans (hb.mono HB.out.size))
                 have HS' := Lib.hid ((hb.block _ (lt_of_block HS.out)).trans HS.out)
                 have HD' := Lib.hid (HD.out.below hb)
                 have HT' := Lib.hid ((hb.block _ (lt_of_block HT.out)).trans HT.out)
                 clear HR
                 have HR := HR'
                 clear HR'
                 clear HC
                 have HC := HC'
                 clear HC'
                 clear HB
                 have HB := HB'
                 clear HB'
                 clear HS
                 have HS := HS'
                 clear HS'
                 clear HD
                 have HD := HD'
                 clear HD'
                 clear HT
                 have HT := HT'
                 clear HT'
                 clear hb
                 have r0 := cellOf HR.out 0 _ rfl
                 have r1 := cellOf HR.out 1 _ rfl
                 have r2 := cellOf HR.out 2 _ rfl
                 have rl := lt_of_block HR.out
                 have s0 := cellOf HS.out 0 _ rfl
                 have s1 := cellOf HS.out 1 _ rfl
                 have sl := lt_of_block HS.out
                 have q0 := cellOf HT.out 0 _ rfl
                 have q1 := cellOf HT.out 1 _ rfl
                 have ql := lt_of_block HT.out
                 go_wp2_with fail
                 clear r0 r1 r2 rl s0 s1 sl q0 q1 ql
                 have hb := (Below.refl w7.heap.size w7).alloc (Nat.le_refl _) (Obj.cells #[.int .i64 (-sz), .int .i64 hi] 31)
                 have HP := Lib.hid (heap_alloc_new w7 (Obj.cells #[.int .i64 (-sz), .int .i64 hi] 31))
                 have HR' := Lib.hid ((hb.block _ (lt_of_block HR.out)).trans HR.out)
                 have HC' := Lib.hid (HC.out.below hb)
                 have HB' := Lib.hid (HB.out.trans (hb.mono HB.out.size))
                 have HS' := Lib.hid ((hb.block _ (lt_of_block HS.out)).trans HS.out)
                 have HD' := Lib.hid (HD.out.below hb)
                 have HT' := Lib.hid ((hb.block _ (lt_of_block HT.out)).trans HT.out)
                 clear HR
                 have HR := HR'
                 clear HR'
                 clear HC
                 have HC := HC'
                 clear HC'
                 clear HB
                 have HB := HB'
                 clear HB'
                 clear HS
                 have HS := HS'
                 clear HS'
                 clear HD
                 have HD := HD'
                 clear HD'
                 clear HT
                 have HT := HT'
                 clear HT'
                 clear hb
                 generalize w7.alloc (Obj.cells #[.int .i64 (-sz), .int .i64 hi] 31) = w8 at *
                 obtain ⟨u16, hu16⟩ : ∃ u, w7.heap.size = u := ⟨_, rfl⟩
                 rw [hu16] at HP ⊢
                 clear hu16
                 refine (awake_any w8).mono ?_
                 rintro e wz ⟨rfl, hb⟩
                 have HBF := Lib.hid (HB.out.trans (hb.mono HB.out.size))
                 clear hb
                 go_wp2_with fail
                 go_ret
                 exact ⟨rfl, HBF.out⟩)
          · skip
            by_cases hB : sz < hi
            · skip
              have eWL : wl = lo := by have := HWL.out; omega
              have eWH : wh = sz := by have := HWH.out; omega
              first
              | (exfalso; have := HAB.out; omega)
              | (skip
                 have hA2 : decide (lo < -sz) = false := by simp; omega
                 have hA3 : -sz ≤ lo := by omega
                 have hg2 : sz < lo := by omega
                 have EWL := Lib.hid eWL
                 have EWH := Lib.hid eWH
                 clear eWL eWH w1a w1b w1c w1d hif2 hif3
                 simp only
                 have r0 := cellOf HR.out 0 _ rfl
                 have r1 := cellOf HR.out 1 _ rfl
                 have r2 := cellOf HR.out 2 _ rfl
                 have rl := lt_of_block HR.out
                 have s0 := cellOf HS.out 0 _ rfl
                 have s1 := cellOf HS.out 1 _ rfl
                 have sl := lt_of_block HS.out
                 go_wp2_with fail
                 clear r0 r1 r2 rl s0 s1 sl
                 have hb := (Below.refl w5.heap.size w5).alloc (Nat.le_refl _) (Obj.cells #[.int .i64 0, .int .i64 0] 31)
                 have HT := Lib.hid (heap_alloc_new w5 (Obj.cells #[.int .i64 0, .int .i64 0] 31))
                 have HR' := Lib.hid ((hb.block _ (lt_of_block HR.out)).trans HR.out)
                 have HC' := Lib.hid (HC.out.below hb)
                 have HB' := Lib.hid (HB.out.trans (hb.mono HB.out.size))
                 have HS' := Lib.hid ((hb.block _ (lt_of_block HS.out)).trans HS.out)
                 have HD' := Lib.hid (HD.out.below hb)
                 clear HR
                 have HR := HR'
                 clear HR'
                 clear HC
                 have HC := HC'
                 clear HC'
                 clear HB
                 have HB := HB'
                 clear HB'
                 clear HS
                 have HS := HS'
                 clear HS'
                 clear HD
                 have HD := HD'
                 clear HD'
                 clear hb
                 generalize w5.alloc (Obj.cells #[.int .i64 0, .int .i64 0] 31) = w6 at *
                 obtain ⟨u12, hu12⟩ : ∃ u, w5.heap.size = u := ⟨_, rfl⟩
                 rw [hu12] at HT ⊢
                 clear hu12
                 have hcall := lspan_any lo sz w6
                 refine hcall.mono ?_
                 clear hcall
                 rintro e w7 ⟨rfl, hb⟩
                 have HR' := Lib.hid ((hb.block _ (lt_of_block HR.out)).trans HR.out)
                 have HC' := Lib.hid (HC.out.below hb)
                 have HB' := Lib.hid (HB.out.trans (hb.mono HB.out.size))
                 have HS' := Lib.hid ((hb.block _ (lt_of_block HS.out)).trans HS.out)
                 have HD' := Lib.hid (HD.out.below hb)
                 have HT' := Lib.hid ((hb.block _ (lt_of_block HT.out)).trans HT.out)
                 clear HR
                 have HR := HR'
                 clear HR'
                 clear HC
                 have HC := HC'
                 clear HC'
                 clear HB
                 have HB := HB'
                 clear HB'
                 clear HS
                 have HS := HS'
                 clear HS'
                 clear HD
                 have HD := HD'
                 clear HD'
                 clear HT
                 have HT := HT'
                 clear HT'
                 clear hb
                 have r0 := cellOf HR.out 0 _ rfl
                 have r1 := cellOf HR.out 1 _ rfl
                 have r2 := cellOf HR.out 2 _ rfl
                 have rl := lt_of_block HR.out
                 have s0 := cellOf HS.out 0 _ rfl
                 have s1 := cellOf HS.out 1 _ rfl
                 have sl := lt_of_block HS.out
                 have q0 := cellOf HT.out 0 _ rfl
                 have q1 := cellOf HT.out 1 _ rfl
                 have ql := lt_of_block HT.out
                 go_wp2_with fail
                 clear r0 r1 r2 rl s0 s1 sl q0 q1 ql
                 have hb := (Below.refl w7.heap.size w7).alloc (Nat.le_refl _) (Obj.cells #[.int .i64 lo, .int .i64 sz] 31)
                 have HP := Lib.hid (heap_alloc_new w7 (Obj.cells #[.int .i64 lo, .int .i64 sz] 31))
                 have HR' := Lib.hid ((hb.block _ (lt_of_block HR.out)).trans HR.out)
                 have HC' := Lib.hid (HC.out.below hb)
                 have HB' := Lib.hid (HB.out.trans (hb.mono HB.out.size))
                 have HS' := Lib.hid ((hb.block _ (lt_of_block HS.out)).trans HS.out)
                 have HD' := Lib.hid (HD.out.below hb)
                 have HT' := Lib.hid ((hb.block _ (lt_of_block HT.out)).trans HT.out)
                 clear HR
                 have HR := HR'
                 clear HR'
                 clear HC
                 have HC := HC'
                 clear HC'
                 clear HB
                 have HB := HB'
                 clear HB'
                 clear HS
                 have HS := HS'
                 clear HS'
                 clear HD
                 have HD := HD'
                 clear HD'
                 clear HT
                 have HT := HT'
                 clear HT'
                 clear hb
                 generalize w7.alloc (Obj.cells #[.int .i64 lo, .int .i64 sz] 31) = w8 at *
                 obtain ⟨u16, hu16⟩ : ∃ u, w7.heap.size = u := ⟨_, rfl⟩
                 rw [hu16] at HP ⊢
                 clear hu16
                 refine (awake_any w8).mono ?_
                 rintro e wz ⟨rfl, hb⟩
                 have HBF := Lib.hid (HB.out.trans (hb.mono HB.out.size))
                 clear hb
                 go_wp2_with fail
                 go_ret
                 exact ⟨rfl, HBF.out⟩)
            · skip
              have eWL : wl = lo := by have := HWL.out; omega
              have eWH : wh = hi := by have := HWH.out; omega
              first
              | (exfalso; have := HAB.out; omega)
              | (skip
                 have hA2 : decide (lo < -sz) = false := by simp; omega
                 have hA3 : -sz ≤ lo := by omega
                 have hB2 : decide (sz < hi) = false := by simp; omega
                 have hB3 : hi ≤ sz := by omega
                 have hg2 : hi < lo := by omega
                 have EWL := Lib.hid eWL
                 have EWH := Lib.hid eWH
                 clear eWL eWH w1a w1b w1c w1d hif2 hif3
                 simp only
                 have r0 := cellOf HR.out 0 _ rfl
                 have r1 := cellOf HR.out 1 _ rfl
                 have r2 := cellOf HR.out 2 _ rfl
                 have rl := lt_of_block HR.out
                 have s0 := cellOf HS.out 0 _ rfl
                 have s1 := cellOf HS.out 1 _ rfl
                 have sl := lt_of_block HS.out
                 go_wp2_with fail
                 clear r0 r1 r2 rl s0 s1 sl
                 have hb := (Below.refl w5.heap.size w5).alloc (Nat.le_refl _) (Obj.cells #[.int .i64 0, .int .i64 0] 31)
                 have HT := Lib.hid (heap_alloc_new w5 (Obj.cells #[.int .i64 0, .int .i64 0] 31))
                 have HR' := Lib.hid ((hb.block _ (lt_of_block HR.out)).trans HR.out)
                 have HC' := Lib.hid (HC.out.below hb)
                 have HB' := Lib.hid (HB.out.trans (hb.mono HB.out.size))
                 have HS' := Lib.hid ((hb.block _ (lt_of_block HS.out)).trans HS.out)
                 have HD' := Lib.hid (HD.out.below hb)
                 clear HR
                 have HR := HR'
                 clear HR'
                 clear HC
                 have HC := HC'
                 clear HC'
                 clear HB
                 have HB := HB'
                 clear HB'
                 clear HS
                 have HS := HS'
                 clear HS'
                 clear HD
                 have HD := HD'
                 clear HD'
                 clear hb
                 generalize w5.alloc (Obj.cells #[.int .i64 0, .int .i64 0] 31) = w6 at *
                 obtain ⟨u12, hu12⟩ : ∃ u, w5.heap.size = u := ⟨_, rfl⟩
                 rw [hu12] at HT ⊢
                 clear hu12
                 have hcall := lspan_any lo hi w6
                 refine hcall.mono ?_
                 clear hcall
                 rintro e w7 ⟨rfl, hb⟩
                 have HR' := Lib.hid ((hb.block _ (lt_of_block HR.out)).trans HR.out)
                 have HC' := Lib.hid (HC.out.below hb)
                 have HB' := Lib.hid (HB.out.trans (hb.mono HB.out.size))
                 have HS' := Lib.hid ((hb.block _ (lt_of_block HS.out)).trans HS.out)
                 have HD' := Lib.hid (HD.out.below hb)
                 have HT' := Lib.hid ((hb.block _ (lt_of_block HT.out)).trans HT.out)
                 clear HR
                 have HR := HR'
                 clear HR'
                 clear HC
                 have HC := HC'
                 clear HC'
                 clear HB
                 have HB := HB'
                 clear HB'
                 clear HS
                 have HS := HS'
                 clear HS'
                 clear HD
                 have HD := HD'
                 clear HD'
                 clear HT
                 have HT := HT'
                 clear HT'
                 clear hb
                 have r0 := cellOf HR.out 0 _ rfl
                 have r1 := cellOf HR.out 1 _ rfl
                 have r2 := cellOf HR.out 2 _ rfl
                 have rl := lt_of_block HR.out
                 have s0 := cellOf HS.out 0 _ rfl
                 have s1 := cellOf HS.out 1 _ rfl
                 have sl := lt_of_block HS.out
                 have q0 := cellOf HT.out 0 _ rfl
                 have q1 := cellOf HT.out 1 _ rfl
                 have ql := lt_of_block HT.out
                 go_wp2_with fail
                 clear r0 r1 r2 rl s0 s1 sl q0 q1 ql
                 have hb := (Below.refl w7.heap.size w7).alloc (Nat.le_refl _) (Obj.cells #[.int .i64 lo, .int .i64 hi] 31)
                 have HP := Lib.hid (heap_alloc_new w7 (Obj.cells #[.int .i64 lo, .int .i64 hi] 31))
                 have HR' := Lib.hid ((hb.block _ (lt_of_block HR.out)).trans HR.out)
                 have HC' := Lib.hid (HC.out.below hb)
                 have HB' := Lib.hid (HB.out.trans (hb.mono HB.out.size))
                 have HS' := Lib.hid ((hb.block _ (lt_of_block HS.out)).trans HS.out)
                 have HD' := Lib.hid (HD.out.below hb)
                 have HT' := Lib.hid ((hb.block _ (lt_of_block HT.out)).trans HT.out)
                 clear HR
                 have HR := HR'
                 clear HR'
                 clear HC
                 have HC := HC'
                 clear HC'
                 clear HB
                 have HB := HB'
                 clear HB'
                 clear HS
                 have HS := HS'
                 clear HS'
                 clear HD
                 have HD := HD'
                 clear HD'
                 clear HT
                 have HT := HT'
                 clear HT'
                 clear hb
                 generalize w7.alloc (Obj.cells #[.int .i64 lo, .int .i64 hi] 31) = w8 at *
                 obtain ⟨u16, hu16⟩ : ∃ u, w7.heap.size = u := ⟨_, rfl⟩
                 rw [hu16] at HP ⊢
                 clear hu16
                 refine (awake_any w8).mono ?_
                 rintro e wz ⟨rfl, hb⟩
                 have HBF := Lib.hid (HB.out.trans (hb.mono HB.out.size))
                 clear hb
                 go_wp2_with fail
                 go_ret
                 exact ⟨rfl, HBF.out⟩)
        · skip
          rw [if_neg hgt]
          by_cases hA : lo < -sz
          · skip
            by_cases hB : sz < hi
            · skip
              have eWL : wl = (-sz) := by have := HWL.out; omega
              have eWH : wh = sz := by have := HWH.out; omega
              first
              | (exfalso; have := HAB.out; omega)
              | (skip
                 have hg2 : decide (sz < (-sz)) = false := by simp; omega
                 have EWL := Lib.hid eWL
                 have EWH := Lib.hid eWH
                 rw [eWL, eWH]
                 clear eWL eWH w1a w1b w1c w1d hgt hif2 hif3
                 simp only
                 have r0 := cellOf HR.out 0 _ rfl
                 have r1 := cellOf HR.out 1 _ rfl
                 have r2 := cellOf HR.out 2 _ rfl
                 have rl := lt_of_block HR.out
                 have s0 := cellOf HS.out 0 _ rfl
                 have s1 := cellOf HS.out 1 _ rfl
                 have sl := lt_of_block HS.out
                 go_wp2_with fail
                 clear r0 r1 r2 rl s0 s1 sl
                 have hb := (Below.refl w5.heap.size w5).alloc (Nat.le_refl _) (Obj.cells #[.int .i64 (-sz), .int .i64 sz] 31)
                 have HT := Lib.hid (heap_alloc_new w5 (Obj.cells #[.int .i64 (-sz), .int .i64 sz] 31))
                 have HR' := Lib.hid ((hb.block _ (lt_of_block HR.out)).trans HR.out)
                 have HC' := Lib.hid (HC.out.below hb)
                 have HB' := Lib.hid (HB.out.trans (hb.mono HB.out.size))
                 have HS' := Lib.hid ((hb.block _ (lt_of_block HS.out)).trans HS.out)
                 have HD' := Lib.hid (HD.out.below hb)
                 clear HR
                 have HR := HR'
                 clear HR'
                 clear HC
                 have HC := HC'
                 clear HC'
                 clear HB
                 have HB := HB'
                 clear HB'
                 clear HS
                 have HS := HS'
                 clear HS'
                 clear HD
                 have HD := HD'
                 clear HD'
                 clear hb
                 generalize w5.alloc (Obj.cells #[.int .i64 (-sz), .int .i64 sz] 31) = w6 at *
                 obtain ⟨u12, hu12⟩ : ∃ u, w5.heap.size = u := ⟨_, rfl⟩
                 rw [hu12] at HT ⊢
                 clear hu12
                 have hcall := lspan_any (-sz) sz w6
                 refine hcall.mono ?_
                 clear hcall
                 rintro e w7 ⟨rfl, hb⟩
                 have HR' := Lib.hid ((hb.block _ (lt_of_block HR.out)).trans HR.out)
                 have HC' := Lib.hid (HC.out.below hb)
                 have HB' := Lib.hid (HB.out.trans (hb.mono HB.out.size))
                 have HS' := Lib.hid ((hb.block _ (lt_of_block HS.out)).trans HS.out)
                 have HD' := Lib.hid (HD.out.below hb)
                 have HT' := Lib.hid ((hb.block _ (lt_of_block HT.out)).trans HT.out)
                 clear HR
                 have HR := HR'
                 clear HR'
                 clear HC
                 have HC := HC'
                 clear HC'
                 clear HB
                 have HB := HB'
                 clear HB'
                 clear HS
                 have HS := HS'
                 clear HS'
                 clear HD
                 have HD := HD'
                 clear HD'
                 clear HT
                 have HT := HT'
                 clear HT'
                 clear hb
                 have r0 := cellOf HR.out 0 _ rfl
                 have r1 := cellOf HR.out 1 _ rfl
                 have r2 := cellOf HR.out 2 _ rfl
                 have rl := lt_of_block HR.out
                 have s0 := cellOf HS.out 0 _ rfl
                 have s1 := cellOf HS.out 1 _ rfl
                 have sl := lt_of_block HS.out
                 have q0 := cellOf HT.out 0 _ rfl
                 have q1 := cellOf HT.out 1 _ rfl
                 have ql := lt_of_block HT.out
                 go_wp2_with fail
                 clear r0 r1 r2 rl s0 s1 sl q0 q1 ql
                 have hb := (Below.refl w7.heap.size w7).alloc (Nat.le_refl _) (Obj.cells #[.int .i64 (-sz), .int .i64 sz] 31)
                 have HP := Lib.hid (heap_alloc_new w7 (Obj.cells #[.int .i64 (-sz), .int .i64 sz] 31))
                 have HR' := Lib.hid ((hb.block _ (lt_of_block HR.out)).trans HR.out)
                 have HC' := Lib.hid (HC.out.below hb)
                 have HB' := Lib.hid (HB.out.trans (hb.mono HB.out.size))
                 have HS' := Lib.hid ((hb.block _ (lt_of_block HS.out)).trans HS.out)
                 have HD' := Lib.hid (HD.out.below hb)
                 have HT' := Lib.hid ((hb.block _ (lt_of_block HT.out)).trans HT.out)
                 clear HR
                 have HR := HR'
                 clear HR'
                 clear HC
                 have HC := HC'
                 clear HC'
                 clear HB
                 have HB := HB'
                 clear HB'
                 clear HS
                 have HS := HS'
                 clear HS'
                 clear HD
                 have HD := HD'
                 clear HD'
                 clear HT
                 have HT := HT'
                 clear HT'
                 clear hb
                 generalize w7.alloc (Obj.cells #[.int .i64 (-sz), .int .i64 sz] 31) = w8 at *
                 obtain ⟨u16, hu16⟩ : ∃ u, w7.heap.size = u := ⟨_, rfl⟩
                 rw [hu16] at HP ⊢
                 clear hu16
                 refine (awake_any w8).mono ?_
                 rintro e wz ⟨rfl, hb⟩
                 have HBF := Lib.hid (HB.out.trans (hb.mono HB.out.size))
                 clear hb
                 go_wp2_with fail
                 go_ret
                 exact ⟨rfl, HBF.out⟩)
            · skip
              have eWL : wl = (-sz) := by have := HWL.out; omega
              have eWH : wh = hi := by have := HWH.out; omega
              first
              | (exfalso; have := HAB.out; omega)
              | (skip
                 have hB2 : decide (sz < hi) = false := by simp; omega
                 have hB3 : hi ≤ sz := by omega
                 have hg2 : decide (hi < (-sz)) = false := by simp; omega
                 have EWL := Lib.hid eWL
                 have EWH := Lib.hid eWH
                 rw [eWL, eWH]
                 clear eWL eWH w1a w1b w1c w1d hgt hif2 hif3
                 simp only
                 have r0 := cellOf HR.out 0 _ rfl
                 have r1 := cellOf HR.out 1 _ rfl
                 have r2 := cellOf HR.out 2 _ rfl
                 have rl := lt_of_block HR.out
                 have s0 := cellOf HS.out 0 _ rfl
                 have s1 := cellOf HS.out 1 _ rfl
                 have sl := lt_of_block HS.out
                 go_wp2_with fail
                 clear r0 r1 r2 rl s0 s1 sl
                 have hb := (Below.refl w5.heap.size w5).alloc (Nat.le_refl _) (Obj.cells #[.int .i64 (-sz), .int .i64 hi] 31)
                 have HT := Lib.hid (heap_alloc_new w5 (Obj.cells #[.int .i64 (-sz), .int .i64 hi] 31))
                 have HR' := Lib.hid ((hb.block _ (lt_of_block HR.out)).trans HR.out)
                 have HC' := Lib.hid (HC.out.below hb)
                 have HB' := Lib.hid (HB.out.trans (hb.mono HB.out.size))
                 have HS' := Lib.hid ((hb.block _ (lt_of_block HS.out)).trans HS.out)
                 have HD' := Lib.hid (HD.out.below hb)
                 clear HR
                 have HR := HR'
                 clear HR'
                 clear HC
                 have HC := HC'
                 clear HC'
                 clear HB
                 have HB := HB'
                 clear HB'
                 clear HS
                 have HS := HS'
                 clear HS'
                 clear HD
                 have HD := HD'
                 clear HD'
                 clear hb
                 generalize w5.alloc (Obj.cells #[.int .i64 (-sz), .int .i64 hi] 31) = w6 at *
                 obtain ⟨u12, hu12⟩ : ∃ u, w5.heap.size = u := ⟨_, rfl⟩
                 rw [hu12] at HT ⊢
                 clear hu12
                 have hcall := lspan_any (-sz) hi w6
                 refine hcall.mono ?_
                 clear hcall
                 rintro e w7 ⟨rfl, hb⟩
                 have HR' := Lib.hid ((hb.block _ (lt_of_block HR.out)).trans HR.out)
                 have HC' := Lib.hid (HC.out.below hb)
                 have HB' := Lib.hid (HB.out.trans (hb.mono HB.out.size))
                 have HS' := Lib.hid ((hb.block _ (lt_of_block HS.out)).trans HS.out)
                 have HD' := Lib.hid (HD.out.below hb)
                 have HT' := Lib.hid ((hb.block _ (lt_of_block HT.out)).trans HT.out)
                 clear HR
                 have HR := HR'
                 clear HR'
                 clear HC
                 have HC := HC'
                 clear HC'
                 clear HB
                 have HB := HB'
                 clear HB'
                 clear HS
                 have HS := HS'
                 clear HS'
                 clear HD
                 have HD := HD'
                 clear HD'
                 clear HT
                 have HT := HT'
                 clear HT'
                 clear hb
                 have r0 := cellOf HR.out 0 _ rfl
                 have r1 := cellOf HR.out 1 _ rfl
                 have r2 := cellOf HR.out 2 _ rfl
                 have rl := lt_of_block HR.out
                 have s0 := cellOf HS.out 0 _ rfl
                 have s1 := cellOf HS.out 1 _ rfl
                 have sl := lt_of_block HS.out
                 have q0 := cellOf HT.out 0 _ rfl
                 have q1 := cellOf HT.out 1 _ rfl
                 have ql := lt_of_block HT.out
                 go_wp2_with fail
                 clear r0 r1 r2 rl s0 s1 sl q0 q1 ql
                 have hb := (Below.refl w7.heap.size w7).alloc (Nat.le_refl _) (Obj.cells #[.int .i64 (-sz), .int .i64 hi] 31)
                 have HP := Lib.hid (heap_alloc_new w7 (Obj.cells #[.int .i64 (-sz), .int .i64 hi] 31))
                 have HR' := Lib.hid ((hb.block _ (lt_of_block HR.out)).trans HR.out)
                 have HC' := Lib.hid (HC.out.below hb)
                 have HB' := Lib.hid (HB.out.trans (hb.mono HB.out.size))
                 have HS' := Lib.hid ((hb.block _ (lt_of_block HS.out)).trans HS.out)
                 have HD' := Lib.hid (HD.out.below hb)
                 have HT' := Lib.hid ((hb.block _ (lt_of_block HT.out)).trans HT.out)
                 clear HR
                 have HR := HR'
                 clear HR'
                 clear HC
                 have HC := HC'
                 clear HC'
                 clear HB
                 have HB := HB'
                 clear HB'
                 clear HS
                 have HS := HS'
                 clear HS'
                 clear HD
                 have HD := HD'
                 clear HD'
                 clear HT
                 have HT := HT'
                 clear HT'
                 clear hb
                 generalize w7.alloc (Obj.cells #[.int .i64 (-sz), .int .i64 hi] 31) = w8 at *
                 obtain ⟨u16, hu16⟩ : ∃ u, w7.heap.size = u := ⟨_, rfl⟩
                 rw [hu16] at HP ⊢
                 clear hu16
                 refine (awake_any w8).mono ?_
                 rintro e wz ⟨rfl, hb⟩
                 have HBF := Lib.hid (HB.out.trans (hb.mono HB.out.size))
                 clear hb
                 go_wp2_with fail
                 go_ret
                 exact ⟨rfl, HBF.out⟩)
          · skip
            by_cases hB : sz < hi
            · skip
              have eWL : wl = lo := by have := HWL.out; omega
              have eWH : wh = sz := by have := HWH.out; omega
              first
              | (exfalso; have := HAB.out; omega)
              | (skip
                 have hA2 : decide (lo < -sz) = false := by simp; omega
                 have hA3 : -sz ≤ lo := by omega
                 have hg2 : decide (sz < lo) = false := by simp; omega
                 have EWL := Lib.hid eWL
                 have EWH := Lib.hid eWH
                 rw [eWL, eWH]
                 clear eWL eWH w1a w1b w1c w1d hgt hif2 hif3
                 simp only
                 have r0 := cellOf HR.out 0 _ rfl
                 have r1 := cellOf HR.out 1 _ rfl
                 have r2 := cellOf HR.out 2 _ rfl
                 have rl := lt_of_block HR.out
                 have s0 := cellOf HS.out 0 _ rfl
                 have s1 := cellOf HS.out 1 _ rfl
                 have sl := lt_of_block HS.out
                 go_wp2_with fail
                 clear r0 r1 r2 rl s0 s1 sl
                 have hb := (Below.refl w5.heap.size w5).alloc (Nat.le_refl _) (Obj.cells #[.int .i64 lo, .int .i64 sz] 31)
                 have HT := Lib.hid (heap_alloc_new w5 (Obj.cells #[.int .i64 lo, .int .i64 sz] 31))
                 have HR' := Lib.hid ((hb.block _ (lt_of_block HR.out)).trans HR.out)
                 have HC' := Lib.hid (HC.out.below hb)
                 have HB' := Lib.hid (HB.out.trans (hb.mono HB.out.size))
                 have HS' := Lib.hid ((hb.block _ (lt_of_block HS.out)).trans HS.out)
                 have HD' := Lib.hid (HD.out.below hb)
                 clear HR
                 have HR := HR'
                 clear HR'
                 clear HC
                 have HC := HC'
                 clear HC'
                 clear HB
                 have HB := HB'
                 clear HB'
                 clear HS
                 have HS := HS'
                 clear HS'
                 clear HD
                 have HD := HD'
                 clear HD'
                 clear hb
                 generalize w5.alloc (Obj.cells #[.int .i64 lo, .int .i64 sz] 31) = w6 at *
                 obtain ⟨u12, hu12⟩ : ∃ u, w5.heap.size = u := ⟨_, rfl⟩
                 rw [hu12] at HT ⊢
                 clear hu12
                 have hcall := lspan_any lo sz w6
                 refine hcall.mono ?_
                 clear hcall
                 rintro e w7 ⟨rfl, hb⟩
                 have HR' := Lib.hid ((hb.block _ (lt_of_block HR.out)).trans HR.out)
                 have HC' := Lib.hid (HC.out.below hb)
                 have HB' := Lib.hid (HB.out.trans (hb.mono HB.out.size))
                 have HS' := Lib.hid ((hb.block _ (lt_of_block HS.out)).trans HS.out)
                 have HD' := Lib.hid (HD.out.below hb)
                 have HT' := Lib.hid ((hb.block _ (lt_of_block HT.out)).trans HT.out)
                 clear HR
                 have HR := HR'
                 clear HR'
                 clear HC
                 have HC := HC'
                 clear HC'
                 clear HB
                 have HB := HB'
                 clear HB'
                 clear HS
                 have HS := HS'
                 clear HS'
                 clear HD
                 have HD := HD'
                 clear HD'
                 clear HT
                 have HT := HT'
                 clear HT'
                 clear hb
                 have r0 := cellOf HR.out 0 _ rfl
                 have r1 := cellOf HR.out 1 _ rfl
                 have r2 := cellOf HR.out 2 _ rfl
                 have rl := lt_of_block HR.out
                 have s0 := cellOf HS.out 0 _ rfl
                 have s1 := cellOf HS.out 1 _ rfl
                 have sl := lt_of_block HS.out
                 have q0 := cellOf HT.out 0 _ rfl
                 have q1 := cellOf HT.out 1 _ rfl
                 have ql := lt_of_block HT.out
                 go_wp2_with fail
                 clear r0 r1 r2 rl s0 s1 sl q0 q1 ql
                 have hb := (Below.refl w7.heap.size w7).alloc (Nat.le_refl _) (Obj.cells #[.int .i64 lo, .int .i64 sz] 31)
                 have HP := Lib.hid (heap_alloc_new w7 (Obj.cells #[.int .i64 lo, .int .i64 sz] 31))
                 have HR' := Lib.hid ((hb.block _ (lt_of_block HR.out)).trans HR.out)
                 have HC' := Lib.hid (HC.out.below hb)
                 have HB' := Lib.hid (HB.out.trans (hb.mono HB.out.size))
                 have HS' := Lib.hid ((hb.block _ (lt_of_block HS.out)).trans HS.out)
                 have HD' := Lib.hid (HD.out.below hb)
                 have HT' := Lib.hid ((hb.block _ (lt_of_block HT.out)).trans HT.out)
                 clear HR
                 have HR := HR'
                 clear HR'
                 clear HC
                 have HC := HC'
                 clear HC'
                 clear HB
                 have HB := HB'
                 clear HB'
                 clear HS
                 have HS := HS'
                 clear HS'
                 clear HD
                 have HD := HD'
                 clear HD'
                 clear HT
                 have HT := HT'
                 clear HT'
                 clear hb
                 generalize w7.alloc (Obj.cells #[.int .i64 lo, .int .i64 sz] 31) = w8 at *
                 obtain ⟨u16, hu16⟩ : ∃ u, w7.heap.size = u := ⟨_, rfl⟩
                 rw [hu16] at HP ⊢
                 clear hu16
                 refine (awake_any w8).mono ?_
                 rintro e wz ⟨rfl, hb⟩
                 have HBF := Lib.hid (HB.out.trans (hb.mono HB.out.size))
                 clear hb
                 go_wp2_with fail
                 go_ret
                 exact ⟨rfl, HBF.out⟩)
            · skip
              have eWL : wl = lo := by have := HWL.out; omega
              have eWH : wh = hi := by have := HWH.out; omega
              first
              | (exfalso; have := HAB.out; omega)
              | (skip
                 have hA2 : decide (lo < -sz) = false := by simp; omega
                 have hA3 : -sz ≤ lo := by omega
                 have hB2 : decide (sz < hi) = false := by simp; omega
                 have hB3 : hi ≤ sz := by omega
                 have hg2 : decide (hi < lo) = false := by simp; omega
                 have EWL := Lib.hid eWL
                 have EWH := Lib.hid eWH
                 rw [eWL, eWH]
                 clear eWL eWH w1a w1b w1c w1d hgt hif2 hif3
                 simp only
                 have r0 := cellOf HR.out 0 _ rfl
                 have r1 := cellOf HR.out 1 _ rfl
                 have r2 := cellOf HR.out 2 _ rfl
                 have rl := lt_of_block HR.out
                 have s0 := cellOf HS.out 0 _ rfl
                 have s1 := cellOf HS.out 1 _ rfl
                 have sl := lt_of_block HS.out
                 go_wp2_with fail
                 clear r0 r1 r2 rl s0 s1 sl
                 have hb := (Below.refl w5.heap.size w5).alloc (Nat.le_refl _) (Obj.cells #[.int .i64 lo, .int .i64 hi] 31)
                 have HT := Lib.hid (heap_alloc_new w5 (Obj.cells #[.int .i64 lo, .int .i64 hi] 31))
                 have HR' := Lib.hid ((hb.block _ (lt_of_block HR.out)).trans HR.out)
                 have HC' := Lib.hid (HC.out.below hb)
                 have HB' := Lib.hid (HB.out.trans (hb.mono HB.out.size))
                 have HS' := Lib.hid ((hb.block _ (lt_of_block HS.out)).trans HS.out)
                 have HD' := Lib.hid (HD.out.below hb)
                 clear HR
                 have HR := HR'
                 clear HR'
                 clear HC
                 have HC := HC'
                 clear HC'
                 clear HB
                 have HB := HB'
                 clear HB'
                 clear HS
                 have HS := HS'
                 clear HS'
                 clear HD
                 have HD := HD'
                 clear HD'
                 clear hb
                 generalize w5.alloc (Obj.cells #[.int .i64 lo, .int .i64 hi] 31) = w6 at *
                 obtain ⟨u12, hu12⟩ : ∃ u, w5.heap.size = u := ⟨_, rfl⟩
                 rw [hu12] at HT ⊢
                 clear hu12
                 have hcall := lspan_any lo hi w6
                 refine hcall.mono ?_
                 clear hcall
                 rintro e w7 ⟨rfl, hb⟩
                 have HR' := Lib.hid ((hb.block _ (lt_of_block HR.out)).trans HR.out)
                 have HC' := Lib.hid (HC.out.below hb)
                 have HB' := Lib.hid (HB.out.trans (hb.mono HB.out.size))
                 have HS' := Lib.hid ((hb.block _ (lt_of_block HS.out)).trans HS.out)
                 have HD' := Lib.hid (HD.out.below hb)
                 have HT' := Lib.hid ((hb.block _ (lt_of_block HT.out)).trans HT.out)
                 clear HR
                 have HR := HR'
                 clear HR'
                 clear HC
                 have HC := HC'
                 clear HC'
                 clear HB
                 have HB := HB'
                 clear HB'
                 clear HS
                 have HS := HS'
                 clear HS'
                 clear HD
                 have HD := HD'
                 clear HD'
                 clear HT
                 have HT := HT'
                 clear HT'
                 clear hb
                 have r0 := cellOf HR.out 0 _ rfl
                 have r1 := cellOf HR.out 1 _ rfl
                 have r2 := cellOf HR.out 2 _ rfl
                 have rl := lt_of_block HR.out
                 have s0 := cellOf HS.out 0 _ rfl
                 have s1 := cellOf HS.out 1 _ rfl
                 have sl := lt_of_block HS.out
                 have q0 := cellOf HT.out 0 _ rfl
                 have q1 := cellOf HT.out 1 _ rfl
                 have ql := lt_of_block HT.out
                 go_wp2_with fail
                 clear r0 r1 r2 rl s0 s1 sl q0 q1 ql
                 have hb := (Below.refl w7.heap.size w7).alloc (Nat.le_refl _) (Obj.cells #[.int .i64 lo, .int .i64 hi] 31)
                 have HP := Lib.hid (heap_alloc_new w7 (Obj.cells #[.int .i64 lo, .int .i64 hi] 31))
                 have HR' := Lib.hid ((hb.block _ (lt_of_block HR.out)).trans HR.out)
                 have HC' := Lib.hid (HC.out.below hb)
                 have HB' := Lib.hid (HB.out.trans (hb.mono HB.out.size))
                 have HS' := Lib.hid ((hb.block _ (lt_of_block HS.out)).trans HS.out)
                 have HD' := Lib.hid (HD.out.below hb)
                 have HT' := Lib.hid ((hb.block _ (lt_of_block HT.out)).trans HT.out)
                 clear HR
                 have HR := HR'
                 clear HR'
                 clear HC
                 have HC := HC'
                 clear HC'
                 clear HB
                 have HB := HB'
                 clear HB'
                 clear HS
                 have HS := HS'
                 clear HS'
                 clear HD
                 have HD := HD'
                 clear HD'
                 clear HT
                 have HT := HT'
                 clear HT'
                 clear hb
                 generalize w7.alloc (Obj.cells #[.int .i64 lo, .int .i64 hi] 31) = w8 at *
                 obtain ⟨u16, hu16⟩ : ∃ u, w7.heap.size = u := ⟨_, rfl⟩
                 rw [hu16] at HP ⊢
                 clear hu16
                 refine (awake_any w8).mono ?_
                 rintro e wz ⟨rfl, hb⟩
                 have HBF := Lib.hid (HB.out.trans (hb.mono HB.out.size))
                 clear hb
                 go_wp2_with fail
                 go_ret
                 exact ⟨rfl, HBF.out⟩)
      by_cases hgt : wh < wl
      · skip
        exfalso
        have := HWL.out; have := HWH.out; have := HAB.out
        omega
      · skip
        rw [if_neg hgt]
        by_cases hcl : ch = wl
        · skip
          by_cases hA : lo < -sz
          · skip
            by_cases hB : sz < hi
            · skip
              have eWL : wl = (-sz) := by have := HWL.out; omega
              have eWH : wh = sz := by have := HWH.out; omega
              first
              | (exfalso; have := HAB.out; omega)
              | (skip
                 have hg2 : decide (sz < (-sz)) = false := by simp; omega
                 have kk : (ch == (-sz)) = true := by simp; omega
                 have EWL := Lib.hid eWL
                 have EWH := Lib.hid eWH
                 rw [eWL, eWH]
                 clear eWL eWH w1a w1b w1c w1d hcl hgt hif2 hif3
                 simp only
                 have r0 := cellOf HR.out 0 _ rfl
                 have r1 := cellOf HR.out 1 _ rfl
                 have r2 := cellOf HR.out 2 _ rfl
                 have rl := lt_of_block HR.out
                 have s0 := cellOf HS.out 0 _ rfl
                 have s1 := cellOf HS.out 1 _ rfl
                 have sl := lt_of_block HS.out
                 go_wp2_with fail
                 clear r0 r1 r2 rl s0 s1 sl
                 have hb := (Below.refl w5.heap.size w5).alloc (Nat.le_refl _) (Obj.cells #[.int .i64 (-sz), .int .i64 sz] 31)
                 have HT := Lib.hid (heap_alloc_new w5 (Obj.cells #[.int .i64 (-sz), .int .i64 sz] 31))
                 have HR' := Lib.hid ((hb.block _ (lt_of_block HR.out)).trans HR.out)
                 have HC' := Lib.hid (HC.out.below hb)
                 have HB' := Lib.hid (HB.out.trans (hb.mono HB.out.size))
                 have HS' := Lib.hid ((hb.block _ (lt_of_block HS.out)).trans HS.out)
                 have HD' := Lib.hid (HD.out.below hb)
                 clear HR
                 have HR := HR'
                 clear HR'
                 clear HC
                 have HC := HC'
                 clear HC'
                 clear HB
                 have HB := HB'
                 clear HB'
                 clear HS
                 have HS := HS'
                 clear HS'
                 clear HD
                 have HD := HD'
                 clear HD'
                 clear hb
                 generalize w5.alloc (Obj.cells #[.int .i64 (-sz), .int .i64 sz] 31) = w6 at *
                 obtain ⟨u12, hu12⟩ : ∃ u, w5.heap.size = u := ⟨_, rfl⟩
                 rw [hu12] at HT ⊢
                 clear hu12
                 have hcall := lspan_any (-sz) sz w6
                 refine hcall.mono ?_
                 clear hcall
                 rintro e w7 ⟨rfl, hb⟩
                 have HR' := Lib.hid ((hb.block _ (lt_of_block HR.out)).trans HR.out)
                 have HC' := Lib.hid (HC.out.below hb)
                 have HB' := Lib.hid (HB.out.trans (hb.mono HB.out.size))
                 have HS' := Lib.hid ((hb.block _ (lt_of_block HS.out)).trans HS.out)
                 have HD' := Lib.hid (HD.out.below hb)
                 have HT' := Lib.hid ((hb.block _ (lt_of_block HT.out)).trans HT.out)
                 clear HR
                 have HR := HR'
                 clear HR'
                 clear HC
                 have HC := HC'
                 clear HC'
                 clear HB
                 have HB := HB'
                 clear HB'
                 clear HS
                 have HS := HS'
                 clear HS'
                 clear HD
                 have HD := HD'
                 clear HD'
                 clear HT
                 have HT := HT'
                 clear HT'
                 clear hb
                 have r0 := cellOf HR.out 0 _ rfl
                 have r1 := cellOf HR.out 1 _ rfl
                 have r2 := cellOf HR.out 2 _ rfl
                 have rl := lt_of_block HR.out
                 have s0 := cellOf HS.out 0 _ rfl
                 have s1 := cellOf HS.out 1 _ rfl
                 have sl := lt_of_block HS.out
                 have q0 := cellOf HT.out 0 _ rfl
                 have q1 := cellOf HT.out 1 _ rfl
                 have ql := lt_of_block HT.out
                 go_wp2_with fail
                 clear r0 r1 r2 rl s0 s1 sl q0 q1 ql
                 have hb := (Below.refl w7.heap.size w7).alloc (Nat.le_refl _) (Obj.cells #[.int .i64 (-sz), .int .i64 sz] 31)
                 have HP := Lib.hid (heap_alloc_new w7 (Obj.cells #[.int .i64 (-sz), .int .i64 sz] 31))
                 have HR' := Lib.hid ((hb.block _ (lt_of_block HR.out)).trans HR.out)
                 have HC' := Lib.hid (HC.out.below hb)
                 have HB' := Lib.hid (HB.out.trans (hb.mono HB.out.size))
                 have HS' := Lib.hid ((hb.block _ (lt_of_block HS.out)).trans HS.out)
                 have HD' := Lib.hid (HD.out.below hb)
                 have HT' := Lib.hid ((hb.block _ (lt_of_block HT.out)).trans HT.out)
                 clear HR
                 have HR := HR'
                 clear HR'
                 clear HC
                 have HC := HC'
                 clear HC'
                 clear HB
                 have HB := HB'
                 clear HB'
                 clear HS
                 have HS := HS'
                 clear HS'
                 clear HD
                 have HD := HD'
                 clear HD'
                 clear HT
                 have HT := HT'
                 clear HT'
                 clear hb
                 generalize w7.alloc (Obj.cells #[.int .i64 (-sz), .int .i64 sz] 31) = w8 at *
                 obtain ⟨u16, hu16⟩ : ∃ u, w7.heap.size = u := ⟨_, rfl⟩
                 rw [hu16] at HP ⊢
                 clear hu16
                 refine (awake_any w8).mono ?_
                 rintro e wz ⟨rfl, hb⟩
                 have HBF := Lib.hid (HB.out.trans (hb.mono HB.out.size))
                 clear hb
                 go_wp2_with fail
                 go_ret
                 exact ⟨rfl, HBF.out⟩)
            · skip
              have eWL : wl = (-sz) := by have := HWL.out; omega
              have eWH : wh = hi := by have := HWH.out; omega
              first
              | (exfalso; have := HAB.out; omega)
              | (skip
                 have hB2 : decide (sz < hi) = false := by simp; omega
                 have hB3 : hi ≤ sz := by omega
                 have hg2 : decide (hi < (-sz)) = false := by simp; omega
                 have kk : (ch == (-sz)) = true := by simp; omega
                 have EWL := Lib.hid eWL
                 have EWH := Lib.hid eWH
                 rw [eWL, eWH]
                 clear eWL eWH w1a w1b w1c w1d hcl hgt hif2 hif3
                 simp only
                 have r0 := cellOf HR.out 0 _ rfl
                 have r1 := cellOf HR.out 1 _ rfl
                 have r2 := cellOf HR.out 2 _ rfl
                 have rl := lt_of_block HR.out
                 have s0 := cellOf HS.out 0 _ rfl
                 have s1 := cellOf HS.out 1 _ rfl
                 have sl := lt_of_block HS.out
                 go_wp2_with fail
                 clear r0 r1 r2 rl s0 s1 sl
                 have hb := (Below.refl w5.heap.size w5).alloc (Nat.le_refl _) (Obj.cells #[.int .i64 (-sz), .int .i64 hi] 31)
                 have HT := Lib.hid (heap_alloc_new w5 (Obj.cells #[.int .i64 (-sz), .int .i64 hi] 31))
                 have HR' := Lib.hid ((hb.block _ (lt_of_block HR.out)).trans HR.out)
                 have HC' := Lib.hid (HC.out.below hb)
                 have HB' := Lib.hid (HB.out.trans (hb.mono HB.out.size))
                 have HS' := Lib.hid ((hb.block _ (lt_of_block HS.out)).trans HS.out)
                 have HD' := Lib.hid (HD.out.below hb)
                 clear HR
                 have HR := HR'
                 clear HR'
                 clear HC
                 have HC := HC'
                 clear HC'
                 clear HB
                 have HB := HB'
                 clear HB'
                 clear HS
                 have HS := HS'
                 clear HS'
                 clear HD
                 have HD := HD'
                 clear HD'
                 clear hb
                 generalize w5.alloc (Obj.cells #[.int .i64 (-sz), .int .i64 hi] 31) = w6 at *
                 obtain ⟨u12, hu12⟩ : ∃ u, w5.heap.size = u := ⟨_, rfl⟩
                 rw [hu12] at HT ⊢
                 clear hu12
                 have hcall := lspan_any (-sz) hi w6
                 refine hcall.mono ?_
                 clear hcall
                 rintro e w7 ⟨rfl, hb⟩
                 have HR' := Lib.hid ((hb.block _ (lt_of_block HR.out)).trans HR.out)
                 have HC' := Lib.hid (HC.out.below hb)
                 have HB' := Lib.hid (HB.out.trans (hb.mono HB.out.size))
                 have HS' := Lib.hid ((hb.block _ (lt_of_block HS.out)).trans HS.out)
                 have HD' := Lib.hid (HD.out.below hb)
                 have HT' := Lib.hid ((hb.block _ (lt_of_block HT.out)).trans HT.out)
                 clear HR
                 have HR := HR'
                 clear HR'
                 clear HC
                 have HC := HC'
                 clear HC'
                 clear HB
                 have HB := HB'
                 clear HB'
                 clear HS
                 have HS := HS'
                 clear HS'
                 clear HD
                 have HD := HD'
                 clear HD'
                 clear HT
                 have HT := HT'
                 clear HT'
                 clear hb
                 have r0 := cellOf HR.out 0 _ rfl
                 have r1 := cellOf HR.out 1 _ rfl
                 have r2 := cellOf HR.out 2 _ rfl
                 have rl := lt_of_block HR.out
                 have s0 := cellOf HS.out 0 _ rfl
                 have s1 := cellOf HS.out 1 _ rfl
                 have sl := lt_of_block HS.out
                 have q0 := cellOf HT.out 0 _ rfl
                 have q1 := cellOf HT.out 1 _ rfl
                 have ql := lt_of_block HT.out
                 go_wp2_with fail
                 clear r0 r1 r2 rl s0 s1 sl q0 q1 ql
                 have hb := (Below.refl w7.heap.size w7).alloc (Nat.le_refl _) (Obj.cells #[.int .i64 (-sz), .int .i64 hi] 31)
                 have HP := Lib.hid (heap_alloc_new w7 (Obj.cells #[.int .i64 (-sz), .int .i64 hi] 31))
                 have HR' := Lib.hid ((hb.block _ (lt_of_block HR.out)).trans HR.out)
                 have HC' := Lib.hid (HC.out.below hb)
                 have HB' := Lib.hid (HB.out.trans (hb.mono HB.out.size))
                 have HS' := Lib.hid ((hb.block _ (lt_of_block HS.out)).trans HS.out)
                 have HD' := Lib.hid (HD.out.below hb)
                 have HT' := Lib.hid ((hb.block _ (lt_of_block HT.out)).trans HT.out)
                 clear HR
                 have HR := HR'
                 clear HR'
                 clear HC
                 have HC := HC'
                 clear HC'
                 clear HB
                 have HB := HB'
                 clear HB'
                 clear HS
                 have HS := HS'
                 clear HS'
                 clear HD
                 have HD := HD'
                 clear HD'
                 clear HT
                 have HT := HT'
                 clear HT'
                 clear hb
                 generalize w7.alloc (Obj.cells #[.int .i64 (-sz), .int .i64 hi] 31) = w8 at *
                 obtain ⟨u16, hu16⟩ : ∃ u, w7.heap.size = u := ⟨_, rfl⟩
                 rw [hu16] at HP ⊢
                 clear hu16
                 refine (awake_any w8).mono ?_
                 rintro e wz ⟨rfl, hb⟩
                 have HBF := Lib.hid (HB.out.trans (hb.mono HB.out.size))
                 clear hb
                 go_wp2_with fail
                 go_ret
                 exact ⟨rfl, HBF.out⟩)
          · skip
            by_cases hB : sz < hi
            · skip
              have eWL : wl = lo := by have := HWL.out; omega
              have eWH : wh = sz := by have := HWH.out; omega
              first
              | (exfalso; have := HAB.out; omega)
              | (skip
                 have hA2 : decide (lo < -sz) = false := by simp; omega
                 have hA3 : -sz ≤ lo := by omega
                 have hg2 : decide (sz < lo) = false := by simp; omega
                 have kk : (ch == lo) = true := by simp; omega
                 have EWL := Lib.hid eWL
                 have EWH := Lib.hid eWH
                 rw [eWL, eWH]
                 clear eWL eWH w1a w1b w1c w1d hcl hgt hif2 hif3
                 simp only
                 have r0 := cellOf HR.out 0 _ rfl
                 have r1 := cellOf HR.out 1 _ rfl
                 have r2 := cellOf HR.out 2 _ rfl
                 have rl := lt_of_block HR.out
                 have s0 := cellOf HS.out 0 _ rfl
                 have s1 := cellOf HS.out 1 _ rfl
                 have sl := lt_of_block HS.out
                 go_wp2_with fail
                 clear r0 r1 r2 rl s0 s1 sl
                 have hb := (Below.refl w5.heap.size w5).alloc (Nat.le_refl _) (Obj.cells #[.int .i64 lo, .int .i64 sz] 31)
                 have HT := Lib.hid (heap_alloc_new w5 (Obj.cells #[.int .i64 lo, .int .i64 sz] 31))
                 have HR' := Lib.hid ((hb.block _ (lt_of_block HR.out)).trans HR.out)
                 have HC' := Lib.hid (HC.out.below hb)
                 have HB' := Lib.hid (HB.out.trans (hb.mono HB.out.size))
                 have HS' := Lib.hid ((hb.block _ (lt_of_block HS.out)).trans HS.out)
                 have HD' := Lib.hid (HD.out.below hb)
                 clear HR
                 have HR := HR'
                 clear HR'
                 clear HC
                 have HC := HC'
                 clear HC'
                 clear HB
                 have HB := HB'
                 clear HB'
                 clear HS
                 have HS := HS'
                 clear HS'
                 clear HD
                 have HD := HD'
                 clear HD'
                 clear hb
                 generalize w5.alloc (Obj.cells #[.int .i64 lo, .int .i64 sz] 31) = w6 at *
                 obtain ⟨u12, hu12⟩ : ∃ u, w5.heap.size = u := ⟨_, rfl⟩
                 rw [hu12] at HT ⊢
                 clear hu12
                 have hcall := lspan_any lo sz w6
                 refine hcall.mono ?_
                 clear hcall
                 rintro e w7 ⟨rfl, hb⟩
                 have HR' := Lib.hid ((hb.block _ (lt_of_block HR.out)).trans HR.out)
                 have HC' := Lib.hid (HC.out.below hb)
                 have HB' := Lib.hid (HB.out.trans (hb.mono HB.out.size))
                 have HS' := Lib.hid ((hb.block _ (lt_of_block HS.out)).trans HS.out)
                 have HD' := Lib.hid (HD.out.below hb)
                 have HT' := Lib.hid ((hb.block _ (lt_of_block HT.out)).trans HT.out)
                 clear HR
                 have HR := HR'
                 clear HR'
                 clear HC
                 have HC := HC'
                 clear HC'
                 clear HB
                 have HB := HB'
                 clear HB'
                 clear HS
                 have HS := HS'
                 clear HS'
                 clear HD
                 have HD := HD'
                 clear HD'
                 clear HT
                 have HT := HT'
                 clear HT'
                 clear hb
                 have r0 := cellOf HR.out 0 _ rfl
                 have r1 := cellOf HR.out 1 _ rfl
                 have r2 := cellOf HR.out 2 _ rfl
                 have rl := lt_of_block HR.out
                 have s0 := cellOf HS.out 0 _ rfl
                 have s1 := cellOf HS.out 1 _ rfl
                 have sl := lt_of_block HS.out
                 have q0 := cellOf HT.out 0 _ rfl
                 have q1 := cellOf HT.out 1 _ rfl
                 have ql := lt_of_block HT.out
                 go_wp2_with fail
                 clear r0 r1 r2 rl s0 s1 sl q0 q1 ql
                 have hb := (Below.refl w7.heap.size w7).alloc (Nat.le_refl _) (Obj.cells #[.int .i64 lo, .int .i64 sz] 31)
                 have HP := Lib.hid (heap_alloc_new w7 (Obj.cells #[.int .i64 lo, .int .i64 sz] 31))
                 have HR' := Lib.hid ((hb.block _ (lt_of_block HR.out)).trans HR.out)
                 have HC' := Lib.hid (HC.out.below hb)
                 have HB' := Lib.hid (HB.out.trans (hb.mono HB.out.size))
                 have HS' := Lib.hid ((hb.block _ (lt_of_block HS.out)).trans HS.out)
                 have HD' := Lib.hid (HD.out.below hb)
                 have HT' := Lib.hid ((hb.block _ (lt_of_block HT.out)).trans HT.out)
                 clear HR
                 have HR := HR'
                 clear HR'
                 clear HC
                 have HC := HC'
                 clear HC'
                 clear HB
                 have HB := HB'
                 clear HB'
                 clear HS
                 have HS := HS'
                 clear HS'
                 clear HD
                 have HD := HD'
                 clear HD'
                 clear HT
                 have HT := HT'
                 clear HT'
                 clear hb
                 generalize w7.alloc (Obj.cells #[.int .i64 lo, .int .i64 sz] 31) = w8 at *
                 obtain ⟨u16, hu16⟩ : ∃ u, w7.heap.size = u := ⟨_, rfl⟩
                 rw [hu16] at HP ⊢
                 clear hu16
                 refine (awake_any w8).mono ?_
                 rintro e wz ⟨rfl, hb⟩
                 have HBF := Lib.hid (HB.out.trans (hb.mono HB.out.size))
                 clear hb
                 go_wp2_with fail
                 go_ret
                 exact ⟨rfl, HBF.out⟩)
            · skip
              have eWL : wl = lo := by have := HWL.out; omega
              have eWH : wh = hi := by have := HWH.out; omega
              first
              | (exfalso; have := HAB.out; omega)
              | (skip
                 have hA2 : decide (lo < -sz) = false := by simp; omega
                 have hA3 : -sz ≤ lo := by omega
                 have hB2 : decide (sz < hi) = false := by simp; omega
                 have hB3 : hi ≤ sz := by omega
                 have hg2 : decide (hi < lo) = false := by simp; omega
                 have kk : (ch == lo) = true := by simp; omega
                 have EWL := Lib.hid eWL
                 have EWH := Lib.hid eWH
                 rw [eWL, eWH]
                 clear eWL eWH w1a w1b w1c w1d hcl hgt hif2 hif3
                 simp only
                 have r0 := cellOf HR.out 0 _ rfl
                 have r1 := cellOf HR.out 1 _ rfl
                 have r2 := cellOf HR.out 2 _ rfl
                 have rl := lt_of_block HR.out
                 have s0 := cellOf HS.out 0 _ rfl
                 have s1 := cellOf HS.out 1 _ rfl
                 have sl := lt_of_block HS.out
                 go_wp2_with fail
                 clear r0 r1 r2 rl s0 s1 sl
                 have hb := (Below.refl w5.heap.size w5).alloc (Nat.le_refl _) (Obj.cells #[.int .i64 lo, .int .i64 hi] 31)
                 have HT := Lib.hid (heap_alloc_new w5 (Obj.cells #[.int .i64 lo, .int .i64 hi] 31))
                 have HR' := Lib.hid ((hb.block _ (lt_of_block HR.out)).trans HR.out)
                 have HC' := Lib.hid (HC.out.below hb)
                 have HB' := Lib.hid (HB.out.trans (hb.mono HB.out.size))
                 have HS' := Lib.hid ((hb.block _ (lt_of_block HS.out)).trans HS.out)
                 have HD' := Lib.hid (HD.out.below hb)
                 clear HR
                 have HR := HR'
                 clear HR'
                 clear HC
                 have HC := HC'
                 clear HC'
                 clear HB
                 have HB := HB'
                 clear HB'
                 clear HS
                 have HS := HS'
                 clear HS'
                 clear HD
                 have HD := HD'
                 clear HD'
                 clear hb
                 generalize w5.alloc (Obj.cells #[.int .i64 lo, .int .i64 hi] 31) = w6 at *
                 obtain ⟨u12, hu12⟩ : ∃ u, w5.heap.size = u := ⟨_, rfl⟩
                 rw [hu12] at HT ⊢
                 clear hu12
                 have hcall := lspan_any lo hi w6
                 refine hcall.mono ?_
                 clear hcall
                 rintro e w7 ⟨rfl, hb⟩
                 have HR' := Lib.hid ((hb.block _ (lt_of_block HR.out)).trans HR.out)
                 have HC' := Lib.hid (HC.out.below hb)
                 have HB' := Lib.hid (HB.out.trans (hb.mono HB.out.size))
                 have HS' := Lib.hid ((hb.block _ (lt_of_block HS.out)).trans HS.out)
                 have HD' := Lib.hid (HD.out.below hb)
                 have HT' := Lib.hid ((hb.block _ (lt_of_block HT.out)).trans HT.out)
                 clear HR
                 have HR := HR'
                 clear HR'
                 clear HC
                 have HC := HC'
                 clear HC'
                 clear HB
                 have HB := HB'
                 clear HB'
                 clear HS
                 have HS := HS'
                 clear HS'
                 clear HD
                 have HD := HD'
                 clear HD'
                 clear HT
                 have HT := HT'
                 clear HT'
                 clear hb
                 have r0 := cellOf HR.out 0 _ rfl
                 have r1 := cellOf HR.out 1 _ rfl
                 have r2 := cellOf HR.out 2 _ rfl
                 have rl := lt_of_block HR.out
                 have s0 := cellOf HS.out 0 _ rfl
                 have s1 := cellOf HS.out 1 _ rfl
                 have sl := lt_of_block HS.out
                 have q0 := cellOf HT.out 0 _ rfl
                 have q1 := cellOf HT.out 1 _ rfl
                 have ql := lt_of_block HT.out
                 go_wp2_with fail
                 clear r0 r1 r2 rl s0 s1 sl q0 q1 ql
                 have hb := (Below.refl w7.heap.size w7).alloc (Nat.le_refl _) (Obj.cells #[.int .i64 lo, .int .i64 hi] 31)
                 have HP := Lib.hid (heap_alloc_new w7 (Obj.cells #[.int .i64 lo, .int .i64 hi] 31))
                 have HR' := Lib.hid ((hb.block _ (lt_of_block HR.out)).trans HR.out)
                 have HC' := Lib.hid (HC.out.below hb)
                 have HB' := Lib.hid (HB.out.trans (hb.mono HB.out.size))
                 have HS' := Lib.hid ((hb.block _ (lt_of_block HS.out)).trans HS.out)
                 have HD' := Lib.hid (HD.out.below hb)
                 have HT' := Lib.hid ((hb.block _ (lt_of_block HT.out)).trans HT.out)
                 clear HR
                 have HR := HR'
                 clear HR'
                 clear HC
                 have HC := HC'
                 clear HC'
                 clear HB
                 have HB := HB'
                 clear HB'
                 clear HS
                 have HS := HS'
                 clear HS'
                 clear HD
                 have HD := HD'
                 clear HD'
                 clear HT
                 have HT := HT'
                 clear HT'
                 clear hb
                 generalize w7.alloc (Obj.cells #[.int .i64 lo, .int .i64 hi] 31) = w8 at *
                 obtain ⟨u16, hu16⟩ : ∃ u, w7.heap.size = u := ⟨_, rfl⟩
                 rw [hu16] at HP ⊢
                 clear hu16
                 refine (awake_any w8).mono ?_
                 rintro e wz ⟨rfl, hb⟩
                 have HBF := Lib.hid (HB.out.trans (hb.mono HB.out.size))
                 clear hb
                 go_wp2_with fail
                 go_ret
                 exact ⟨rfl, HBF.out⟩)
        · skip
          have hch2 : ch = wh := by have := HWL.out; have := HWH.out; have := HAB.out; omega
          by_cases hA : lo < -sz
          · skip
            by_cases hB : sz < hi
            · skip
              have eWL : wl = (-sz) := by have := HWL.out; omega
              have eWH : wh = sz := by have := HWH.out; omega
              first
              | (exfalso; have := HAB.out; omega)
              | (skip
                 have hg2 : decide (sz < (-sz)) = false := by simp; omega
                 have kk : (ch == (-sz)) = false := by simp; omega
                 have kk2 : decide (ch = (-sz)) = false := by simp; omega
                 have kk3 : (ch == sz) = true := by simp; omega
                 have EWL := Lib.hid eWL
                 have EWH := Lib.hid eWH
                 rw [eWL, eWH]
                 clear eWL eWH w1a w1b w1c w1d hcl hgt hch2 hif2 hif3
                 simp only
                 have r0 := cellOf HR.out 0 _ rfl
                 have r1 := cellOf HR.out 1 _ rfl
                 have r2 := cellOf HR.out 2 _ rfl
                 have rl := lt_of_block HR.out
                 have s0 := cellOf HS.out 0 _ rfl
                 have s1 := cellOf HS.out 1 _ rfl
                 have sl := lt_of_block HS.out
                 go_wp2_with fail
                 clear r0 r1 r2 rl s0 s1 sl
                 have hb := (Below.refl w5.heap.size w5).alloc (Nat.le_refl _) (Obj.cells #[.int .i64 (-sz), .int .i64 sz] 31)
                 have HT := Lib.hid (heap_alloc_new w5 (Obj.cells #[.int .i64 (-sz), .int .i64 sz] 31))
                 have HR' := Lib.hid ((hb.block _ (lt_of_block HR.out)).trans HR.out)
                 have HC' := Lib.hid (HC.out.below hb)
                 have HB' := Lib.hid (HB.out.trans (hb.mono HB.out.size))
                 have HS' := Lib.hid ((hb.block _ (lt_of_block HS.out)).trans HS.out)
                 have HD' := Lib.hid (HD.out.below hb)
                 clear HR
                 have HR := HR'
                 clear HR'
                 clear HC
                 have HC := HC'
                 clear HC'
                 clear HB
                 have HB := HB'
                 clear HB'
                 clear HS
                 have HS := HS'
                 clear HS'
                 clear HD
                 have HD := HD'
                 clear HD'
                 clear hb
                 generalize w5.alloc (Obj.cells #[.int .i64 (-sz), .int .i64 sz] 31) = w6 at *
                 obtain ⟨u12, hu12⟩ : ∃ u, w5.heap.size = u := ⟨_, rfl⟩
                 rw [hu12] at HT ⊢
                 clear hu12
                 have hcall := lspan_any (-sz) sz w6
                 refine hcall.mono ?_
                 clear hcall
                 rintro e w7 ⟨rfl, hb⟩
                 have HR' := Lib.hid ((hb.block _ (lt_of_block HR.out)).trans HR.out)
                 have HC' := Lib.hid (HC.out.below hb)
                 have HB' := Lib.hid (HB.out.trans (hb.mono HB.out.size))
                 have HS' := Lib.hid ((hb.block _ (lt_of_block HS.out)).trans HS.out)
                 have HD' := Lib.hid (HD.out.below hb)
                 have HT' := Lib.hid ((hb.block _ (lt_of_block HT.out)).trans HT.out)
                 clear HR
                 have HR := HR'
                 clear HR'
                 clear HC
                 have HC := HC'
                 clear HC'
                 clear HB
                 have HB := HB'
                 clear HB'
                 clear HS
                 have HS := HS'
                 clear HS'
                 clear HD
                 have HD := HD'
                 clear HD'
                 clear HT
                 have HT := HT'
                 clear HT'
                 clear hb
                 have r0 := cellOf HR.out 0 _ rfl
                 have r1 := cellOf HR.out 1 _ rfl
                 have r2 := cellOf HR.out 2 _ rfl
                 have rl := lt_of_block HR.out
                 have s0 := cellOf HS.out 0 _ rfl
                 have s1 := cellOf HS.out 1 _ rfl
                 have sl := lt_of_block HS.out
                 have q0 := cellOf HT.out 0 _ rfl
                 have q1 := cellOf HT.out 1 _ rfl
                 have ql := lt_of_block HT.out
                 go_wp2_with fail
                 clear r0 r1 r2 rl s0 s1 sl q0 q1 ql
                 have hb := (Below.refl w7.heap.size w7).alloc (Nat.le_refl _) (Obj.cells #[.int .i64 (-sz), .int .i64 sz] 31)
                 have HP := Lib.hid (heap_alloc_new w7 (Obj.cells #[.int .i64 (-sz), .int .i64 sz] 31))
                 have HR' := Lib.hid ((hb.block _ (lt_of_block HR.out)).trans HR.out)
                 have HC' := Lib.hid (HC.out.below hb)
                 have HB' := Lib.hid (HB.out.trans (hb.mono HB.out.size))
                 have HS' := Lib.hid ((hb.block _ (lt_of_block HS.out)).trans HS.out)
                 have HD' := Lib.hid (HD.out.below hb)
                 have HT' := Lib.hid ((hb.block _ (lt_of_block HT.out)).trans HT.out)
                 clear HR
                 have HR := HR'
                 clear HR'
                 clear HC
                 have HC := HC'
                 clear HC'
                 clear HB
                 have HB := HB'
                 clear HB'
                 clear HS
                 have HS := HS'
                 clear HS'
                 clear HD
                 have HD := HD'
                 clear HD'
                 clear HT
                 have HT := HT'
                 clear HT'
                 clear hb
                 generalize w7.alloc (Obj.cells #[.int .i64 (-sz), .int .i64 sz] 31) = w8 at *
                 obtain ⟨u16, hu16⟩ : ∃ u, w7.heap.size = u := ⟨_, rfl⟩
                 rw [hu16] at HP ⊢
                 clear hu16
                 refine (awake_any w8).mono ?_
                 rintro e wz ⟨rfl, hb⟩
                 have HBF := Lib.hid (HB.out.trans (hb.mono HB.out.size))
                 clear hb
                 go_wp2_with fail
                 go_ret
                 exact ⟨rfl, HBF.out⟩)
            · skip
              have eWL : wl = (-sz) := by have := HWL.out; omega
              have eWH : wh = hi := by have := HWH.out; omega
              first
              | (exfalso; have := HAB.out; omega)
              | (skip
                 have hB2 : decide (sz < hi) = false := by simp; omega
                 have hB3 : hi ≤ sz := by omega
                 have hg2 : decide (hi < (-sz)) = false := by simp; omega
                 have kk : (ch == (-sz)) = false := by simp; omega
                 have kk2 : decide (ch = (-sz)) = false := by simp; omega
                 have kk3 : (ch == hi) = true := by simp; omega
                 have EWL := Lib.hid eWL
                 have EWH := Lib.hid eWH
                 rw [eWL, eWH]
                 clear eWL eWH w1a w1b w1c w1d hcl hgt hch2 hif2 hif3
                 simp only
                 have r0 := cellOf HR.out 0 _ rfl
                 have r1 := cellOf HR.out 1 _ rfl
                 have r2 := cellOf HR.out 2 _ rfl
                 have rl := lt_of_block HR.out
                 have s0 := cellOf HS.out 0 _ rfl
                 have s1 := cellOf HS.out 1 _ rfl
                 have sl := lt_of_block HS.out
                 go_wp2_with fail
                 clear r0 r1 r2 rl s0 s1 sl
                 have hb := (Below.refl w5.heap.size w5).alloc (Nat.le_refl _) (Obj.cells #[.int .i64 (-sz), .int .i64 hi] 31)
                 have HT := Lib.hid (heap_alloc_new w5 (Obj.cells #[.int .i64 (-sz), .int .i64 hi] 31))
                 have HR' := Lib.hid ((hb.block _ (lt_of_block HR.out)).trans HR.out)
                 have HC' := Lib.hid (HC.out.below hb)
                 have HB' := Lib.hid (HB.out.trans (hb.mono HB.out.size))
                 have HS' := Lib.hid ((hb.block _ (lt_of_block HS.out)).trans HS.out)
                 have HD' := Lib.hid (HD.out.below hb)
                 clear HR
                 have HR := HR'
                 clear HR'
                 clear HC
                 have HC := HC'
                 clear HC'
                 clear HB
                 have HB := HB'
                 clear HB'
                 clear HS
                 have HS := HS'
                 clear HS'
                 clear HD
                 have HD := HD'
                 clear HD'
                 clear hb
                 generalize w5.alloc (Obj.cells #[.int .i64 (-sz), .int .i64 hi] 31) = w6 at *
                 obtain ⟨u12, hu12⟩ : ∃ u, w5.heap.size = u := ⟨_, rfl⟩
                 rw [hu12] at HT ⊢
                 clear hu12
                 have hcall := lspan_any (-sz) hi w6
                 refine hcall.mono ?_
                 clear hcall
                 rintro e w7 ⟨rfl, hb⟩
                 have HR' := Lib.hid ((hb.block _ (lt_of_block HR.out)).trans HR.out)
                 have HC' := Lib.hid (HC.out.below hb)
                 have HB' := Lib.hid (HB.out.trans (hb.mono HB.out.size))
                 have HS' := Lib.hid ((hb.block _ (lt_of_block HS.out)).trans HS.out)
                 have HD' := Lib.hid (HD.out.below hb)
                 have HT' := Lib.hid ((hb.block _ (lt_of_block HT.out)).trans HT.out)
                 clear HR
                 have HR := HR'
                 clear HR'
                 clear HC
                 have HC := HC'
                 clear HC'
                 clear HB
                 have HB := HB'
                 clear HB'
                 clear HS
                 have HS := HS'
                 clear HS'
                 clear HD
                 have HD := HD'
                 clear HD'
                 clear HT
                 have HT := HT'
                 clear HT'
                 clear hb
                 have r0 := cellOf HR.out 0 _ rfl
                 have r1 := cellOf HR.out 1 _ rfl
                 have r2 := cellOf HR.out 2 _ rfl
                 have rl := lt_of_block HR.out
                 have s0 := cellOf HS.out 0 _ rfl
                 have s1 := cellOf HS.out 1 _ rfl
                 have sl := lt_of_block HS.out
                 have q0 := cellOf HT.out 0 _ rfl
                 have q1 := cellOf HT.out 1 _ rfl
                 have ql := lt_of_block HT.out
                 go_wp2_with fail
                 clear r0 r1 r2 rl s0 s1 sl q0 q1 ql
                 have hb := (Below.refl w7.heap.size w7).alloc (Nat.le_refl _) (Obj.cells #[.int .i64 (-sz), .int .i64 hi] 31)
                 have HP := Lib.hid (heap_alloc_new w7 (Obj.cells #[.int .i64 (-sz), .int .i64 hi] 31))
                 have HR' := Lib.hid ((hb.block _ (lt_of_block HR.out)).trans HR.out)
                 have HC' := Lib.hid (HC.out.below hb)
                 have HB' := Lib.hid (HB.out.trans (hb.mono HB.out.size))
                 have HS' := Lib.hid ((hb.block _ (lt_of_block HS.out)).trans HS.out)
                 have HD' := Lib.hid (HD.out.below hb)
                 have HT' := Lib.hid ((hb.block _ (lt_of_block HT.out)).trans HT.out)
                 clear HR
                 have HR := HR'
                 clear HR'
                 clear HC
                 have HC := HC'
                 clear HC'
                 clear HB
                 have HB := HB'
                 clear HB'
                 clear HS
                 have HS := HS'
                 clear HS'
                 clear HD
                 have HD := HD'
                 clear HD'
                 clear HT
                 have HT := HT'
                 clear HT'
                 clear hb
                 generalize w7.alloc (Obj.cells #[.int .i64 (-sz), .int .i64 hi] 31) = w8 at *
                 obtain ⟨u16, hu16⟩ : ∃ u, w7.heap.size = u := ⟨_, rfl⟩
                 rw [hu16] at HP ⊢
                 clear hu16
                 refine (awake_any w8).mono ?_
                 rintro e wz ⟨rfl, hb⟩
                 have HBF := Lib.hid (HB.out.trans (hb.mono HB.out.size))
                 clear hb
                 go_wp2_with fail
                 go_ret
                 exact ⟨rfl, HBF.out⟩)
          · skip
            by_cases hB : sz < hi
            · skip
              have eWL : wl = lo := by have := HWL.out; omega
              have eWH : wh = sz := by have := HWH.out; omega
              first
              | (exfalso; have := HAB.out; omega)
              | (skip
                 have hA2 : decide (lo < -sz) = false := by simp; omega
                 have hA3 : -sz ≤ lo := by omega
                 have hg2 : decide (sz < lo) = false := by simp; omega
                 have kk : (ch == lo) = false := by simp; omega
                 have kk2 : decide (ch = lo) = false := by simp; omega
                 have kk3 : (ch == sz) = true := by simp; omega
                 have EWL := Lib.hid eWL
                 have EWH := Lib.hid eWH
                 rw [eWL, eWH]
                 clear eWL eWH w1a w1b w1c w1d hcl hgt hch2 hif2 hif3
                 simp only
                 have r0 := cellOf HR.out 0 _ rfl
                 have r1 := cellOf HR.out 1 _ rfl
                 have r2 := cellOf HR.out 2 _ rfl
                 have rl := lt_of_block HR.out
                 have s0 := cellOf HS.out 0 _ rfl
                 have s1 := cellOf HS.out 1 _ rfl
                 have sl := lt_of_block HS.out
                 go_wp2_with fail
                 clear r0 r1 r2 rl s0 s1 sl
                 have hb := (Below.refl w5.heap.size w5).alloc (Nat.le_refl _) (Obj.cells #[.int .i64 lo, .int .i64 sz] 31)
                 have HT := Lib.hid (heap_alloc_new w5 (Obj.cells #[.int .i64 lo, .int .i64 sz] 31))
                 have HR' := Lib.hid ((hb.block _ (lt_of_block HR.out)).trans HR.out)
                 have HC' := Lib.hid (HC.out.below hb)
                 have HB' := Lib.hid (HB.out.trans (hb.mono HB.out.size))
                 have HS' := Lib.hid ((hb.block _ (lt_of_block HS.out)).trans HS.out)
                 have HD' := Lib.hid (HD.out.below hb)
                 clear HR
                 have HR := HR'
                 clear HR'
                 clear HC
                 have HC := HC'
                 clear HC'
                 clear HB
                 have HB := HB'
                 clear HB'
                 clear HS
                 have HS := HS'
                 clear HS'
                 clear HD
                 have HD := HD'
                 clear HD'
                 clear hb
                 generalize w5.alloc (Obj.cells #[.int .i64 lo, .int .i64 sz] 31) = w6 at *
                 obtain ⟨u12, hu12⟩ : ∃ u, w5.heap.size = u := ⟨_, rfl⟩
                 rw [hu12] at HT ⊢
                 clear hu12
                 have hcall := lspan_any lo sz w6
                 refine hcall.mono ?_
                 clear hcall
                 rintro e w7 ⟨rfl, hb⟩
                 have HR' := Lib.hid ((hb.block _ (lt_of_block HR.out)).trans HR.out)
                 have HC' := Lib.hid (HC.out.below hb)
                 have HB' := Lib.hid (HB.out.trans (hb.mono HB.out.size))
                 have HS' := Lib.hid ((hb.block _ (lt_of_block HS.out)).trans HS.out)
                 have HD' := Lib.hid (HD.out.below hb)
                 have HT' := Lib.hid ((hb.block _ (lt_of_block HT.out)).trans HT.out)
                 clear HR
                 have HR := HR'
                 clear HR'
                 clear HC
                 have HC := HC'
                 clear HC'
                 clear HB
                 have HB := HB'
                 clear HB'
                 clear HS
                 have HS := HS'
                 clear HS'
                 clear HD
                 have HD := HD'
                 clear HD'
                 clear HT
                 have HT := HT'
                 clear HT'
                 clear hb
                 have r0 := cellOf HR.out 0 _ rfl
                 have r1 := cellOf HR.out 1 _ rfl
                 have r2 := cellOf HR.out 2 _ rfl
                 have rl := lt_of_block HR.out
                 have s0 := cellOf HS.out 0 _ rfl
                 have s1 := cellOf HS.out 1 _ rfl
                 have sl := lt_of_block HS.out
                 have q0 := cellOf HT.out 0 _ rfl
                 have q1 := cellOf HT.out 1 _ rfl
                 have ql := lt_of_block HT.out
                 go_wp2_with fail
                 clear r0 r1 r2 rl s0 s1 sl q0 q1 ql
                 have hb := (Below.refl w7.heap.size w7).alloc (Nat.le_refl _) (Obj.cells #[.int .i64 lo, .int .i64 sz] 31)
                 have HP := Lib.hid (heap_alloc_new w7 (Obj.cells #[.int .i64 lo, .int .i64 sz] 31))
                 have HR' := Lib.hid ((hb.block _ (lt_of_block HR.out)).trans HR.out)
                 have HC' := Lib.hid (HC.out.below hb)
                 have HB' := Lib.hid (HB.out.trans (hb.mono HB.out.size))
                 have HS' := Lib.hid ((hb.block _ (lt_of_block HS.out)).trans HS.out)
                 have HD' := Lib.hid (HD.out.below hb)
                 have HT' := Lib.hid ((hb.block _ (lt_of_block HT.out)).trans HT.out)
                 clear HR
                 have HR := HR'
                 clear HR'
                 clear HC
                 have HC := HC'
                 clear HC'
                 clear HB
                 have HB := HB'
                 clear HB'
                 clear HS
                 have HS := HS'
                 clear HS'
                 clear HD
                 have HD := HD'
                 clear HD'
                 clear HT
                 have HT := HT'
                 clear HT'
                 clear hb
                 generalize w7.alloc (Obj.cells #[.int .i64 lo, .int .i64 sz] 31) = w8 at *
                 obtain ⟨u16, hu16⟩ : ∃ u, w7.heap.size = u := ⟨_, rfl⟩
                 rw [hu16] at HP ⊢
                 clear hu16
                 refine (awake_any w8).mono ?_
                 rintro e wz ⟨rfl, hb⟩
                 have HBF := Lib.hid (HB.out.trans (hb.mono HB.out.size))
                 clear hb
                 go_wp2_with fail
                 go_ret
                 exact ⟨rfl, HBF.out⟩)
            · skip
              have eWL : wl = lo := by have := HWL.out; omega
              have eWH : wh = hi := by have := HWH.out; omega
              first
              | (exfalso; have := HAB.out; omega)
              | (skip
                 have hA2 : decide (lo < -sz) = false := by simp; omega
                 have hA3 : -sz ≤ lo := by omega
                 have hB2 : decide (sz < hi) = false := by simp; omega
                 have hB3 : hi ≤ sz := by omega
                 have hg2 : decide (hi < lo) = false := by simp; omega
                 have kk : (ch == lo) = false := by simp; omega
                 have kk2 : decide (ch = lo) = false := by simp; omega
                 have kk3 : (ch == hi) = true := by simp; omega
                 have EWL := Lib.hid eWL
                 have EWH := Lib.hid eWH
                 rw [eWL, eWH]
                 clear eWL eWH w1a w1b w1c w1d hcl hgt hch2 hif2 hif3
                 simp only
                 have r0 := cellOf HR.out 0 _ rfl
                 have r1 := cellOf HR.out 1 _ rfl
                 have r2 := cellOf HR.out 2 _ rfl
                 have rl := lt_of_block HR.out
                 have s0 := cellOf HS.out 0 _ rfl
                 have s1 := cellOf HS.out 1 _ rfl
                 have sl := lt_of_block HS.out
                 go_wp2_with fail
                 clear r0 r1 r2 rl s0 s1 sl
                 have hb := (Below.refl w5.heap.size w5).alloc (Nat.le_refl _) (Obj.cells #[.int .i64 lo, .int .i64 hi] 31)
                 have HT := Lib.hid (heap_alloc_new w5 (Obj.cells #[.int .i64 lo, .int .i64 hi] 31))
                 have HR' := Lib.hid ((hb.block _ (lt_of_block HR.out)).trans HR.out)
                 have HC' := Lib.hid (HC.out.below hb)
                 have HB' := Lib.hid (HB.out.trans (hb.mono HB.out.size))
                 have HS' := Lib.hid ((hb.block _ (lt_of_block HS.out)).trans HS.out)
                 have HD' := Lib.hid (HD.out.below hb)
                 clear HR
                 have HR := HR'
                 clear HR'
                 clear HC
                 have HC := HC'
                 clear HC'
                 clear HB
                 have HB := HB'
                 clear HB'
                 clear HS
                 have HS := HS'
                 clear HS'
                 clear HD
                 have HD := HD'
                 clear HD'
                 clear hb
                 generalize w5.alloc (Obj.cells #[.int .i64 lo, .int .i64 hi] 31) = w6 at *
                 obtain ⟨u12, hu12⟩ : ∃ u, w5.heap.size = u := ⟨_, rfl⟩
                 rw [hu12] at HT ⊢
                 clear hu12
                 have hcall := lspan_any lo hi w6
                 refine hcall.mono ?_
                 clear hcall
                 rintro e w7 ⟨rfl, hb⟩
                 have HR' := Lib.hid ((hb.block _ (lt_of_block HR.out)).trans HR.out)
                 have HC' := Lib.hid (HC.out.below hb)
                 have HB' := Lib.hid (HB.out.trans (hb.mono HB.out.size))
                 have HS' := Lib.hid ((hb.block _ (lt_of_block HS.out)).trans HS.out)
                 have HD' := Lib.hid (HD.out.below hb)
                 have HT' := Lib.hid ((hb.block _ (lt_of_block HT.out)).trans HT.out)
                 clear HR
                 have HR := HR'
                 clear HR'
                 clear HC
                 have HC := HC'
                 clear HC'
                 clear HB
                 have HB := HB'
                 clear HB'
                 clear HS
                 have HS := HS'
                 clear HS'
                 clear HD
                 have HD := HD'
                 clear HD'
                 clear HT
                 have HT := HT'
                 clear HT'
                 clear hb
                 have r0 := cellOf HR.out 0 _ rfl
                 have r1 := cellOf HR.out 1 _ rfl
                 have r2 := cellOf HR.out 2 _ rfl
                 have rl := lt_of_block HR.out
                 have s0 := cellOf HS.out 0 _ rfl
                 have s1 := cellOf HS.out 1 _ rfl
                 have sl := lt_of_block HS.out
                 have q0 := cellOf HT.out 0 _ rfl
                 have q1 := cellOf HT.out 1 _ rfl
                 have ql := lt_of_block HT.out
                 go_wp2_with fail
                 clear r0 r1 r2 rl s0 s1 sl q0 q1 ql
                 have hb := (Below.refl w7.heap.size w7).alloc (Nat.le_refl _) (Obj.cells #[.int .i64 lo, .int .i64 hi] 31)
                 have HP := Lib.hid (heap_alloc_new w7 (Obj.cells #[.int .i64 lo, .int .i64 hi] 31))
                 have HR' := Lib.hid ((hb.block _ (lt_of_block HR.out)).trans HR.out)
                 have HC' := Lib.hid (HC.out.below hb)
                 have HB' := Lib.hid (HB.out.trans (hb.mono HB.out.size))
                 have HS' := Lib.hid ((hb.block _ (lt_of_block HS.out)).trans HS.out)
                 have HD' := Lib.hid (HD.out.below hb)
                 have HT' := Lib.hid ((hb.block _ (lt_of_block HT.out)).trans HT.out)
                 clear HR
                 have HR := HR'
                 clear HR'
                 clear HC
                 have HC := HC'
                 clear HC'
                 clear HB
                 have HB := HB'
                 clear HB'
                 clear HS
                 have HS := HS'
                 clear HS'
                 clear HD
                 have HD := HD'
                 clear HD'
                 clear HT
                 have HT := HT'
                 clear HT'
                 clear hb
                 generalize w7.alloc (Obj.cells #[.int .i64 lo, .int .i64 hi] 31) = w8 at *
                 obtain ⟨u16, hu16⟩ : ∃ u, w7.heap.size = u := ⟨_, rfl⟩
                 rw [hu16] at HP ⊢
                 clear hu16
                 refine (awake_any w8).mono ?_
                 rintro e wz ⟨rfl, hb⟩
                 have HBF := Lib.hid (HB.out.trans (hb.mono HB.out.size))
                 clear hb
                 go_wp2_with fail
                 go_ret
                 exact ⟨rfl, HBF.out⟩)
  · skip
    rw [show decide (errC c = 0) = false by simp [h0]]
    clear h0
    have r0 := cellOf HR.out 0 _ rfl
    have r1 := cellOf HR.out 1 _ rfl
    have r2 := cellOf HR.out 2 _ rfl
    have rl := lt_of_block HR.out
    go_wp2_with fail
    clear r0 r1 r2 rl
    refine (awake_any w1).mono ?_
    rintro e wz ⟨rfl, hb⟩
    have HBF := Lib.hid (HB.out.trans (hb.mono HB.out.size))
    clear hb
    go_wp2_with fail
    go_ret
    exact ⟨rfl, HBF.out⟩
end Go.Proofs.Ytkcfcjijmgbciaa
namespace Go.Proofs.Ytkcfcjijmgbciaa
namespace ClaimEdgeReached
open Go.ChangeShapes Go.WideShapes Go.ChangeAt Go.RowKit

theorem own : ownKnob Try.prog.godebug = none := by kernel_rfl
theorem laidOutP : laidOutB Try.prog = true := by kernel_rfl

set_option maxRecDepth 100000 in
theorem contract (H : Type) (enc : TypeId × Value → H) (W : World) (base : Nat) (args : Array Value) (ds gs : List (DataW H)) (before : List MemPlace)
    (hval : ∀ (j : Nat) t v, Try.f11.params[j]? = some t → args[j]? = some v → Value.okWide Try.prog W .any base t v)
    (hW : DataW.Whole enc Try.prog Try.f11.params.toList Rows.edgeReachedSpec.vars false W args.toList ds gs before)
    (hsz : (DataW.weightsEach Try.prog (Try.f11.params.toList ++ Rows.edgeReachedSpec.plain.varTypes Try.prog) (ds ++ gs)).all (· ≤ reachBytes) = true) :
    Calls Try.prog 11 args W fun e W' => ∃ v, e = .returned v ∧ Rows.edgeReachedSpec.post enc Try.prog Try.f11 false true false false W args v W' := by
  have hW' := hW
  obtain ⟨p, q, hA0, hV, rfl, hfz, hnd⟩ := hW
  have hA : DataW.TrodAll enc Try.prog W 0 (fun _ => true) true Try.f11.params.toList args.toList ds p := hA0
  rw [Try.params11] at hA hval hsz
  obtain ⟨v0, vs0, d0, ds0, p0, q0, hargs, rfl, rfl, h0, r0⟩ := trodAll_cons hA
  obtain ⟨v1, vs1, d1, ds1, p1, q1, rfl, rfl, rfl, h1, r1⟩ := trodAll_cons r0
  obtain ⟨v2, vs2, d2, ds2, p2, q2, rfl, rfl, rfl, h2, r2⟩ := trodAll_cons r1
  obtain ⟨rfl, rfl, rfl⟩ := trodAll_nil r2
  obtain rfl : args = #[v0, v1, v2] := by cases args; simp_all
  obtain ⟨rfl, rfl⟩ := trodVars_none hV
  have w0 : ∀ x ∈ d0.weights Try.prog 25, x ≤ reachBytes := fun x hx => of_decide_eq_true (List.all_eq_true.1 hsz _ (DataW.weights_mem_each (j := 0) (t := 25) (d := d0) rfl rfl x hx))
  obtain ⟨c0, sv0, ev0, rfl, hC0⟩ := open_case (hval 0 25 v0 rfl rfl) h0 w0
  obtain ⟨n1, rfl, _, _, k1⟩ := open_int Try.underlying5 (hval 1 5 v1 rfl rfl) h1
  have b1 : 0 ≤ n1 ∧ n1 ≤ 255 := by simpa [Lit.wf, IntKind.min, IntKind.max, IntKind.signed, IntKind.bits] using k1
  obtain ⟨n2, rfl, _, _, k2⟩ := open_int Try.underlying5 (hval 2 5 v2 rfl rfl) h2
  have b2 : 0 ≤ n2 ∧ n2 ≤ 255 := by simpa [Lit.wf, IntKind.min, IntKind.max, IntKind.signed, IntKind.bits] using k2
  clear hA0
  refine (lreached_any c0 sv0 ev0 n1 n2 W b1 b2 hC0).mono fun e W' ⟨he, hb⟩ => ?_
  subst he
  exact ⟨_, rfl, post_law laidOutP (by rw [Try.params11]; intro t ht; simp at ht; rcases ht with rfl | rfl | rfl <;> exact ⟨by kernel_rfl, of_decide_eq_true (by kernel_rfl)⟩) rfl rfl Try.underlying4 rfl hW' hb⟩

set_option maxRecDepth 100000 in
theorem lifted (os : Os) (started : os.Started) (H : Type) (enc : TypeId × Value → H) :
    ReturnsInHanded {} Try.checked os 11 .any (Rows.edgeReachedSpec.pre6 enc Try.prog Try.f11 Rows.edgeReachedRow.domain false) (Rows.edgeReachedSpec.post enc Try.prog Try.f11 false true false false) := by
  refine returnsInHanded_of_change_sized (C := Try.checked) own started (by kernel_rfl) Try.func11
    (ChangeSpec.witness6 (enc := enc) (C := Try.checked) false ⟨#[], #[.agg #[.int .i64 0, .slice none 0 0, .slice none 0 0], .int .u8 0, .int .u8 0], []⟩ 8 (by kernel_rfl) (by kernel_rfl) (by kernel_rfl) (by kernel_rfl)) ?_
  intro W base args ds gs before hval hW _ hsz _
  exact contract H enc W base args ds gs before hval hW hsz

theorem over : Rows.EdgeReachedSaid :=
  OpenClaim.holds_of_wide 11 Try.f11 rfl rfl rfl rfl rfl rfl rfl ⟨rfl, rfl, rfl, rfl, rfl⟩ rfl rfl rfl rfl rfl (by kernel_rfl) Try.func11 (by kernel_rfl)
    (of_decide_eq_true (by kernel_rfl)) (by unfold Func.isWrapper; first | (rw [if_pos (by decide +kernel)]; kernel_rfl) | (rw [if_neg (by decide +kernel)]; exact ⟨rfl, rfl⟩))
    (fun os started H enc _ => lifted os started H enc)
end ClaimEdgeReached

theorem edgeReached_holds : Rows.EdgeReachedSaid := ClaimEdgeReached.over
end Go.Proofs.Ytkcfcjijmgbciaa
