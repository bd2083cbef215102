/- The law ScaleGreatest. -/
import Derived.Test.YthflbbjilebhlaaYf
import Derived.Test.YthflbbjilebhlaaXh
import Derived.Test.YthflbbjilebhlaaXk
import Derived.Test.YthflbbjilebhlaaXl
import Derived.Laws.StructEq
set_option linter.unusedSimpArgs false
set_option linter.unusedVariables false
namespace Go.Proofs.Ythflbbjilebhlaa
open Go Go.RowKit Go.Shelf Sc

set_option maxRecDepth 100000 in
set_option maxHeartbeats 16000000 in
theorem lgrt_any (c : Cse) (hv rv : Value) (n : Int) (x y : Nat) (w : World) (hC : CseAt w c hv rv) (hn0 : 0 ≤ n ∧ n ≤ 65535) (hx : x ≤ 255) (hy : y ≤ 255) :
    Calls Try.prog 7 #[.agg #[.int .i64 c.kind, .int .i64 c.base, .int .i64 c.most, hv, rv], .int .u16 n, .agg #[.int .u8 x, .int .u8 y]] w fun e w' => e = .returned (.bool true) ∧ Below w.heap.size w w' := by
  obtain ⟨ha, hn, hc, rfl⟩ : ∃ a n c, hv = .slice a n c := by obtain ⟨_, a, cap, h, _⟩ := hC.hs; exact ⟨_, _, _, h⟩
  obtain ⟨ra, rn, rc, rfl⟩ : ∃ a n c, rv = .slice a n c := by obtain ⟨_, a, cap, h, _⟩ := hC.rd; exact ⟨_, _, _, h⟩
  obtain ⟨kind, hkind⟩ : ∃ x, c.kind = x := ⟨_, rfl⟩
  obtain ⟨base, hbase⟩ : ∃ x, c.base = x := ⟨_, rfl⟩
  obtain ⟨most, hmost⟩ : ∃ x, c.most = x := ⟨_, rfl⟩
  have HKI := Lib.hid hkind
  have HBA := Lib.hid hbase
  have HMO := Lib.hid hmost
  obtain ⟨W, hW, q1, q2, hb, _⟩ := al2 w (Obj.cells #[.int .i64 kind, .int .i64 base, .int .i64 most, .slice ha hn hc, .slice ra rn rc] 25) (Obj.cells #[.int .u8 (x : Int), .int .u8 (y : Int)] 56)
  have HR := Lib.hid q1
  have HX := Lib.hid q2
  have HC := Lib.hid (hC.below hb)
  have HW := Lib.hid hW
  have HB := Lib.hid hb
  have HXY := Lib.hid (And.intro hx hy)
  obtain ⟨⟨t1, t2⟩, ht⟩ : ∃ t, anyS x y = t := ⟨_, rfl⟩
  have hok : sclE (t1, t2) = 0 := by rw [← ht]; exact anyS_ok x y
  have HOK := Lib.hid hok
  have HANY := Lib.hid ht
  have HN0 := Lib.hid hn0
  have wn : IntKind.i64.wrap n = n := by rw [IntKind.wrap_i64] <;> omega
  rw [hkind, hbase, hmost]
  clear hW hb hC q1 q2 hkind hbase hmost hx hy ht hok hn0
  go_enter Try.func7, Try.ntmps7
  go_wp2_with fail
  rw [HW.out]
  clear HW
  have r0 := cellOf HR.out 0 _ rfl
  have r1 := cellOf HR.out 1 _ rfl
  have r2 := cellOf HR.out 2 _ rfl
  have r3 := cellOf HR.out 3 _ rfl
  have r4 := cellOf HR.out 4 _ rfl
  have rl := lt_of_block HR.out
  have x0 := cellOf HX.out 0 _ rfl
  have x1 := cellOf HX.out 1 _ rfl
  have xl := lt_of_block HX.out
  go_wp2_with fail
  clear r0 r1 r2 r3 r4 rl x0 x1 xl
  have hcall := valid_any c _ _ W HC.out
  rw [HKI.out, HBA.out, HMO.out] at hcall
  refine hcall.mono ?_
  clear hcall
  rintro e w3 ⟨rfl, hb⟩
  have HR' := Lib.hid ((hb.block _ (lt_of_block HR.out)).trans HR.out)
  have HX' := Lib.hid ((hb.block _ (lt_of_block HX.out)).trans HX.out)
  have HC' := Lib.hid (HC.out.below hb)
  have HB' := Lib.hid (HB.out.trans (hb.mono HB.out.size))
  clear HR
  have HR := HR'
  clear HR'
  clear HX
  have HX := HX'
  clear HX'
  clear HC
  have HC := HC'
  clear HC'
  clear HB
  have HB := HB'
  clear HB'
  clear hb
  by_cases he : errC c = 0
  · have td : decide (errC c = 0) = true := by simp [he]
    rw [td]
    have HE := Lib.hid he
    have HASK := Lib.hid (ask_zero he HOK.out)
    have HIN : Hid (inB 0 1000000 n = true) := by have h := HN0.out; show _ = _; simp [inB]; omega
    clear he td
    obtain ⟨⟨⟨s1, s2⟩, er⟩, ha'⟩ : ∃ x, greatC c n = x := ⟨_, rfl⟩
    have HL := Lib.hid ha'
    clear ha'
    have r0 := cellOf HR.out 0 _ rfl
    have r1 := cellOf HR.out 1 _ rfl
    have r2 := cellOf HR.out 2 _ rfl
    have r3 := cellOf HR.out 3 _ rfl
    have r4 := cellOf HR.out 4 _ rfl
    have rl := lt_of_block HR.out
    have x0 := cellOf HX.out 0 _ rfl
    have x1 := cellOf HX.out 1 _ rfl
    have xl := lt_of_block HX.out
    go_wp2_with fail
    clear r0 r1 r2 r3 r4 rl x0 x1 xl
    have hcall := Greatest_any c _ _ n w3 HC.out
    rw [HKI.out, HBA.out, HMO.out, HL.out] at hcall
    refine hcall.mono ?_
    clear hcall
    rintro e w4 ⟨rfl, hb⟩
    have HR' := Lib.hid ((hb.block _ (lt_of_block HR.out)).trans HR.out)
    have HX' := Lib.hid ((hb.block _ (lt_of_block HX.out)).trans HX.out)
    have HC' := Lib.hid (HC.out.below hb)
    have HB' := Lib.hid (HB.out.trans (hb.mono HB.out.size))
    clear HR
    have HR := HR'
    clear HR'
    clear HX
    have HX := HX'
    clear HX'
    clear HC
    have HC := HC'
    clear HC'
    clear HB
    have HB := HB'
    clear HB'
    clear hb
    simp only
    have r0 := cellOf HR.out 0 _ rfl
    have r1 := cellOf HR.out 1 _ rfl
    have r2 := cellOf HR.out 2 _ rfl
    have r3 := cellOf HR.out 3 _ rfl
    have r4 := cellOf HR.out 4 _ rfl
    have rl := lt_of_block HR.out
    have x0 := cellOf HX.out 0 _ rfl
    have x1 := cellOf HX.out 1 _ rfl
    have xl := lt_of_block HX.out
    go_wp2_with fail
    clear r0 r1 r2 r3 r4 rl x0 x1 xl
    have hb := (Below.refl w4.heap.size w4).alloc (Nat.le_refl _) (Obj.cells #[.int .i64 s1, .int .i64 s2] 27)
    have HS := Lib.hid (heap_alloc_new w4 (Obj.cells #[.int .i64 s1, .int .i64 s2] 27))
    have HR' := Lib.hid ((hb.block _ (lt_of_block HR.out)).trans HR.out)
    have HX' := Lib.hid ((hb.block _ (lt_of_block HX.out)).trans HX.out)
    have HC' := Lib.hid (HC.out.below hb)
    have HB' := Lib.hid (HB.out.trans (hb.mono HB.out.size))
    clear HR
    have HR := HR'
    clear HR'
    clear HX
    have HX := HX'
    clear HX'
    clear HC
    have HC := HC'
    clear HC'
    clear HB
    have HB := HB'
    clear HB'
    clear hb
    generalize w4.alloc (Obj.cells #[.int .i64 s1, .int .i64 s2] 27) = w5 at *
    obtain ⟨u1, hu1⟩ : ∃ u, w4.heap.size = u := ⟨_, rfl⟩
    rw [hu1] at HS ⊢
    clear hu1
    have hcall := any_any x y w5 HXY.out.1 HXY.out.2
    rw [HANY.out] at hcall
    refine hcall.mono ?_
    clear hcall
    rintro e w6 ⟨rfl, hb⟩
    have HR' := Lib.hid ((hb.block _ (lt_of_block HR.out)).trans HR.out)
    have HX' := Lib.hid ((hb.block _ (lt_of_block HX.out)).trans HX.out)
    have HC' := Lib.hid (HC.out.below hb)
    have HB' := Lib.hid (HB.out.trans (hb.mono HB.out.size))
    have HS' := Lib.hid ((hb.block _ (lt_of_block HS.out)).trans HS.out)
    clear HR
    have HR := HR'
    clear HR'
    clear HX
    have HX := HX'
    clear HX'
    clear HC
    have HC := HC'
    clear HC'
    clear HB
    have HB := HB'
    clear HB'
    clear HS
    have HS := HS'
    clear HS'
    clear hb
    simp only
    have r0 := cellOf HR.out 0 _ rfl
    have r1 := cellOf HR.out 1 _ rfl
    have r2 := cellOf HR.out 2 _ rfl
    have r3 := cellOf HR.out 3 _ rfl
    have r4 := cellOf HR.out 4 _ rfl
    have rl := lt_of_block HR.out
    have x0 := cellOf HX.out 0 _ rfl
    have x1 := cellOf HX.out 1 _ rfl
    have xl := lt_of_block HX.out
    have s0 := cellOf HS.out 0 _ rfl
    have s1 := cellOf HS.out 1 _ rfl
    have sl := lt_of_block HS.out
    go_wp2_with fail
    clear r0 r1 r2 r3 r4 rl x0 x1 xl s0 s1 sl
    have hb := (Below.refl w6.heap.size w6).alloc (Nat.le_refl _) (Obj.cells #[.int .i64 t1, .int .i64 t2] 27)
    have HT := Lib.hid (heap_alloc_new w6 (Obj.cells #[.int .i64 t1, .int .i64 t2] 27))
    have HR' := Lib.hid ((hb.block _ (lt_of_block HR.out)).trans HR.out)
    have HX' := Lib.hid ((hb.block _ (lt_of_block HX.out)).trans HX.out)
    have HC' := Lib.hid (HC.out.below hb)
    have HB' := Lib.hid (HB.out.trans (hb.mono HB.out.size))
    have HS' := Lib.hid ((hb.block _ (lt_of_block HS.out)).trans HS.out)
    clear HR
    have HR := HR'
    clear HR'
    clear HX
    have HX := HX'
    clear HX'
    clear HC
    have HC := HC'
    clear HC'
    clear HB
    have HB := HB'
    clear HB'
    clear HS
    have HS := HS'
    clear HS'
    clear hb
    generalize w6.alloc (Obj.cells #[.int .i64 t1, .int .i64 t2] 27) = w7 at *
    obtain ⟨u2, hu2⟩ : ∃ u, w6.heap.size = u := ⟨_, rfl⟩
    rw [hu2] at HT ⊢
    clear hu2
    obtain ⟨k, hk⟩ : ∃ k, worstC c (t1, t2) = k := ⟨_, rfl⟩
    have HK := Lib.hid hk
    clear hk
    have hcall := falsest_any2 c _ _ (t1, t2) w7 HC.out HE.out HOK.out
    rw [HKI.out, HBA.out, HMO.out, HK.out] at hcall
    refine hcall.mono ?_
    clear hcall
    rintro e w8 ⟨rfl, hb⟩
    have HR' := Lib.hid ((hb.block _ (lt_of_block HR.out)).trans HR.out)
    have HX' := Lib.hid ((hb.block _ (lt_of_block HX.out)).trans HX.out)
    have HC' := Lib.hid (HC.out.below hb)
    have HB' := Lib.hid (HB.out.trans (hb.mono HB.out.size))
    have HS' := Lib.hid ((hb.block _ (lt_of_block HS.out)).trans HS.out)
    have HT' := Lib.hid ((hb.block _ (lt_of_block HT.out)).trans HT.out)
    clear HR
    have HR := HR'
    clear HR'
    clear HX
    have HX := HX'
    clear HX'
    clear HC
    have HC := HC'
    clear HC'
    clear HB
    have HB := HB'
    clear HB'
    clear HS
    have HS := HS'
    clear HS'
    clear HT
    have HT := HT'
    clear HT'
    clear hb
    obtain ⟨F, hF⟩ : ∃ F, fitsB c (t1, t2) = F := ⟨_, rfl⟩
    have HF := Lib.hid hF
    clear hF
    have r0 := cellOf HR.out 0 _ rfl
    have r1 := cellOf HR.out 1 _ rfl
    have r2 := cellOf HR.out 2 _ rfl
    have r3 := cellOf HR.out 3 _ rfl
    have r4 := cellOf HR.out 4 _ rfl
    have rl := lt_of_block HR.out
    have x0 := cellOf HX.out 0 _ rfl
    have x1 := cellOf HX.out 1 _ rfl
    have xl := lt_of_block HX.out
    have s0 := cellOf HS.out 0 _ rfl
    have s1 := cellOf HS.out 1 _ rfl
    have sl := lt_of_block HS.out
    have t0 := cellOf HT.out 0 _ rfl
    have t1 := cellOf HT.out 1 _ rfl
    have tl := lt_of_block HT.out
    go_wp2_with fail
    clear r0 r1 r2 r3 r4 rl x0 x1 xl s0 s1 sl t0 t1 tl
    have hcall := fits_any2 c _ _ (t1, t2) w8 HC.out HE.out HOK.out
    rw [HKI.out, HBA.out, HMO.out, HF.out] at hcall
    refine hcall.mono ?_
    clear hcall
    rintro e w9 ⟨rfl, hb⟩
    have HR' := Lib.hid ((hb.block _ (lt_of_block HR.out)).trans HR.out)
    have HX' := Lib.hid ((hb.block _ (lt_of_block HX.out)).trans HX.out)
    have HC' := Lib.hid (HC.out.below hb)
    have HB' := Lib.hid (HB.out.trans (hb.mono HB.out.size))
    have HS' := Lib.hid ((hb.block _ (lt_of_block HS.out)).trans HS.out)
    have HT' := Lib.hid ((hb.block _ (lt_of_block HT.out)).trans HT.out)
    clear HR
    have HR := HR'
    clear HR'
    clear HX
    have HX := HX'
    clear HX'
    clear HC
    have HC := HC'
    clear HC'
    clear HB
    have HB := HB'
    clear HB'
    clear HS
    have HS := HS'
    clear HS'
    clear HT
    have HT := HT'
    clear HT'
    clear hb
    cases hl : greatF c n with
    | none =>
      have h2 := HL.out
      rw [greatC_no HE.out HIN.out hl] at h2
      simp only [Prod.mk.injEq] at h2
      obtain ⟨⟨rfl, rfl⟩, rfl⟩ := h2
      have hp := grtP_no (great_no HN0.out.1 hl HOK.out)
      rw [HF.out, HK.out] at hp
      clear hl
      rcases hp with rfl | ⟨rfl, hk0⟩
      · skip
        have r0 := cellOf HR.out 0 _ rfl
        have r1 := cellOf HR.out 1 _ rfl
        have r2 := cellOf HR.out 2 _ rfl
        have r3 := cellOf HR.out 3 _ rfl
        have r4 := cellOf HR.out 4 _ rfl
        have rl := lt_of_block HR.out
        have x0 := cellOf HX.out 0 _ rfl
        have x1 := cellOf HX.out 1 _ rfl
        have xl := lt_of_block HX.out
        have s0 := cellOf HS.out 0 _ rfl
        have s1 := cellOf HS.out 1 _ rfl
        have sl := lt_of_block HS.out
        have t0 := cellOf HT.out 0 _ rfl
        have t1 := cellOf HT.out 1 _ rfl
        have tl := lt_of_block HT.out
        go_wp2_with fail
        clear r0 r1 r2 r3 r4 rl x0 x1 xl s0 s1 sl t0 t1 tl
        have cHS0 := cellOf HS.out 0 (.int .i64 0) rfl
        have cHS1 := cellOf HS.out 1 (.int .i64 0) rfl
        have lHS := lt_of_block HS.out
        have KA : ∀ W' : World, Below w9.heap.size w9 W' → (W'.cell? ⟨u1, 0, none⟩ = some (.int .i64 0) ∧ W'.cell? ⟨u1, 1, none⟩ = some (.int .i64 0) ∧ Below w9.heap.size w9 W') := fun W' hb => ⟨keepK cHS0 hb, keepK cHS1 hb, hb⟩
        refine wp_region_noPanic ?_
        refine wp_region_held_drew (S := (fun W' => W'.cell? ⟨u1, 0, none⟩ = some (.int .i64 0) ∧ W'.cell? ⟨u1, 1, none⟩ = some (.int .i64 0) ∧ Below w9.heap.size w9 W')) (by kernel_rfl) ?_ (fun hh0 => ?_)
        · exact KA _ (Below.refl _ _).drew
        refine wpAnyH_take (i := 0) (v := ?_) rfl (by as_aux_lemma => kernel_rfl) (by as_aux_lemma => kernel_rfl) (by as_aux_lemma => kernel_rfl) (fun _ _ _ h => h) (Or.inl ⟨by rfl, ?_⟩) (by assumption) ?_
        rotate_left
        · intro w hSw
          try dsimp only at hSw
          go_simp
          try with_reducible rfl
        try simp only [Act.put, List.getElem_toArray, List.getElem_cons_succ, List.getElem_cons_zero, List.setIfInBounds_toArray, List.set_cons_zero, List.set_cons_succ]
        refine wpAnyH_take (i := 1) (v := ?_) rfl (by as_aux_lemma => kernel_rfl) (by as_aux_lemma => kernel_rfl) (by as_aux_lemma => kernel_rfl) (fun _ _ _ h => h) (Or.inl ⟨by rfl, ?_⟩) (by assumption) ?_
        rotate_left
        · intro w hSw
          try dsimp only at hSw
          go_simp
          try with_reducible rfl
        try simp only [Act.put, List.getElem_toArray, List.getElem_cons_succ, List.getElem_cons_zero, List.setIfInBounds_toArray, List.set_cons_zero, List.set_cons_succ]
        refine wpAnyH_take (i := 2) (v := ?_) rfl (by as_aux_lemma => kernel_rfl) (by as_aux_lemma => kernel_rfl) (by as_aux_lemma => kernel_rfl) (fun _ _ _ h => h) (Or.inl ⟨by rfl, ?_⟩) (by assumption) ?_
        rotate_left
        · intro w hSw
          try dsimp only at hSw
          go_simp
          try with_reducible rfl
        try simp only [Act.put, List.getElem_toArray, List.getElem_cons_succ, List.getElem_cons_zero, List.setIfInBounds_toArray, List.set_cons_zero, List.set_cons_succ]
        refine wpAnyH_take (i := 3) (v := ?_) rfl (by as_aux_lemma => kernel_rfl) (by as_aux_lemma => kernel_rfl) (by as_aux_lemma => kernel_rfl) (fun _ _ _ h => h) (Or.inl ⟨by rfl, ?_⟩) (by assumption) ?_
        rotate_left
        · intro w hSw
          try dsimp only at hSw
          go_simp
          try with_reducible rfl
        try simp only [Act.put, List.getElem_toArray, List.getElem_cons_succ, List.getElem_cons_zero, List.setIfInBounds_toArray, List.set_cons_zero, List.set_cons_succ]
        refine wpAnyH_ready (rs := [4]) (by as_aux_lemma => kernel_rfl) (by simp) ?_
        refine AllReadyH.cons rfl (fun K hK => ?_) AllReadyH.nil
        go_simp
        refine (of_any 0 0 _).mono ?_
        rintro e vo ⟨rfl, hvo⟩
        refine hK.out _ _ (KA _ (Below.trans hh0.2.2 (Below.mono hvo (hh0.2.2).size))) (fun hh1 => ?_)
        clear hK K
        try simp only [Act.put, List.getElem_toArray, List.getElem_cons_succ, List.getElem_cons_zero, List.setIfInBounds_toArray, List.set_cons_zero, List.set_cons_succ]
        refine wpAnyH_take (i := 5) (v := ?_) rfl (by as_aux_lemma => kernel_rfl) (by as_aux_lemma => kernel_rfl) (by as_aux_lemma => kernel_rfl) (fun _ _ _ h => h) (Or.inl ⟨by rfl, ?_⟩) (by assumption) ?_
        rotate_left
        · intro w hSw
          try dsimp only at hSw
          go_simp
          try with_reducible rfl
        try simp only [Act.put, List.getElem_toArray, List.getElem_cons_succ, List.getElem_cons_zero, List.setIfInBounds_toArray, List.set_cons_zero, List.set_cons_succ]
        refine wpAnyH_take (i := 6) (v := ?_) rfl (by as_aux_lemma => kernel_rfl) (by as_aux_lemma => kernel_rfl) (by as_aux_lemma => kernel_rfl) (fun _ _ _ h => h) (Or.inl ⟨by rfl, ?_⟩) (by assumption) ?_
        rotate_left
        · intro w hSw
          try dsimp only at hSw
          go_simp
          try with_reducible rfl
        try simp only [Act.put, List.getElem_toArray, List.getElem_cons_succ, List.getElem_cons_zero, List.setIfInBounds_toArray, List.set_cons_zero, List.set_cons_succ]
        refine wpAnyH_take (i := 7) (v := ?_) rfl (by as_aux_lemma => kernel_rfl) (by as_aux_lemma => kernel_rfl) (by as_aux_lemma => kernel_rfl) (fun _ _ _ h => h) (Or.inl ⟨by rfl, ?_⟩) (by assumption) ?_
        rotate_left
        · intro w hSw
          try dsimp only at hSw
          go_simp
          try with_reducible rfl
        try simp only [Act.put, List.getElem_toArray, List.getElem_cons_succ, List.getElem_cons_zero, List.setIfInBounds_toArray, List.set_cons_zero, List.set_cons_succ]
        refine wpAnyH_take (i := 8) (v := ?_) rfl (by as_aux_lemma => kernel_rfl) (by as_aux_lemma => kernel_rfl) (by as_aux_lemma => kernel_rfl) (fun _ _ _ h => h) (Or.inl ⟨by rfl, ?_⟩) (by assumption) ?_
        rotate_left
        · intro w hSw
          try dsimp only at hSw
          go_simp
          try with_reducible rfl
        try simp only [Act.put, List.getElem_toArray, List.getElem_cons_succ, List.getElem_cons_zero, List.setIfInBounds_toArray, List.set_cons_zero, List.set_cons_succ]
        refine wpAnyH_take (i := 9) (v := ?_) rfl (by as_aux_lemma => kernel_rfl) (by as_aux_lemma => kernel_rfl) (by as_aux_lemma => kernel_rfl) (fun _ _ _ h => h) (Or.inl ⟨by rfl, ?_⟩) (by assumption) ?_
        rotate_left
        · intro w hSw
          try dsimp only at hSw
          go_simp
          try with_reducible rfl
        try simp only [Act.put, List.getElem_toArray, List.getElem_cons_succ, List.getElem_cons_zero, List.setIfInBounds_toArray, List.set_cons_zero, List.set_cons_succ]
        refine wpAnyH_take (i := 10) (v := ?_) rfl (by as_aux_lemma => kernel_rfl) (by as_aux_lemma => kernel_rfl) (by as_aux_lemma => kernel_rfl) (fun _ _ _ h => h) (Or.inl ⟨by rfl, ?_⟩) (by assumption) ?_
        rotate_left
        · intro w hSw
          try dsimp only at hSw
          go_simp
          try with_reducible rfl
        try simp only [Act.put, List.getElem_toArray, List.getElem_cons_succ, List.getElem_cons_zero, List.setIfInBounds_toArray, List.set_cons_zero, List.set_cons_succ]
        refine wpAnyH_take (i := 11) (v := undef) rfl (by as_aux_lemma => kernel_rfl) (by as_aux_lemma => kernel_rfl) (by as_aux_lemma => kernel_rfl) (fun _ _ _ h => h) (Or.inr ⟨by rfl, rfl⟩) (by assumption) ?_
        try simp only [Act.put, List.getElem_toArray, List.getElem_cons_succ, List.getElem_cons_zero, List.setIfInBounds_toArray, List.set_cons_zero, List.set_cons_succ]
        refine wpAnyH_take (i := 12) (v := undef) rfl (by as_aux_lemma => kernel_rfl) (by as_aux_lemma => kernel_rfl) (by as_aux_lemma => kernel_rfl) (fun _ _ _ h => h) (Or.inr ⟨by rfl, rfl⟩) (by assumption) ?_
        try simp only [Act.put, List.getElem_toArray, List.getElem_cons_succ, List.getElem_cons_zero, List.setIfInBounds_toArray, List.set_cons_zero, List.set_cons_succ]
        refine wpAnyH_take (i := 13) (v := undef) rfl (by as_aux_lemma => kernel_rfl) (by as_aux_lemma => kernel_rfl) (by as_aux_lemma => kernel_rfl) (fun _ _ _ h => h) (Or.inr ⟨by rfl, rfl⟩) (by assumption) ?_
        try simp only [Act.put, List.getElem_toArray, List.getElem_cons_succ, List.getElem_cons_zero, List.setIfInBounds_toArray, List.set_cons_zero, List.set_cons_succ]
        refine wpAnyH_take (i := 14) (v := undef) rfl (by as_aux_lemma => kernel_rfl) (by as_aux_lemma => kernel_rfl) (by as_aux_lemma => kernel_rfl) (fun _ _ _ h => h) (Or.inr ⟨by rfl, rfl⟩) (by assumption) ?_
        try simp only [Act.put, List.getElem_toArray, List.getElem_cons_succ, List.getElem_cons_zero, List.setIfInBounds_toArray, List.set_cons_zero, List.set_cons_succ]
        refine wpAnyH_take (i := 15) (v := ?_) rfl (by as_aux_lemma => kernel_rfl) (by as_aux_lemma => kernel_rfl) (by as_aux_lemma => kernel_rfl) (fun _ _ _ h => h) (Or.inl ⟨by rfl, ?_⟩) (by assumption) ?_
        rotate_left
        · intro w hSw
          try dsimp only at hSw
          go_simp
          try with_reducible rfl
        try simp only [Act.put, List.getElem_toArray, List.getElem_cons_succ, List.getElem_cons_zero, List.setIfInBounds_toArray, List.set_cons_zero, List.set_cons_succ]
        refine wpAnyH_take (i := 16) (v := ?_) rfl (by as_aux_lemma => kernel_rfl) (by as_aux_lemma => kernel_rfl) (by as_aux_lemma => kernel_rfl) (fun _ _ _ h => h) (Or.inl ⟨by rfl, ?_⟩) (by assumption) ?_
        rotate_left
        · intro w hSw
          try dsimp only at hSw
          go_simp
          try with_reducible rfl
        try simp only [Act.put, List.getElem_toArray, List.getElem_cons_succ, List.getElem_cons_zero, List.setIfInBounds_toArray, List.set_cons_zero, List.set_cons_succ]
        refine wpAnyH_take (i := 17) (v := ?_) rfl (by as_aux_lemma => kernel_rfl) (by as_aux_lemma => kernel_rfl) (by as_aux_lemma => kernel_rfl) (fun _ _ _ h => h) (Or.inl ⟨by rfl, ?_⟩) (by assumption) ?_
        rotate_left
        · intro w hSw
          try dsimp only at hSw
          go_simp
          try with_reducible rfl
        try simp only [Act.put, List.getElem_toArray, List.getElem_cons_succ, List.getElem_cons_zero, List.setIfInBounds_toArray, List.set_cons_zero, List.set_cons_succ]
        refine wpAnyH_ready (rs := [18]) (by as_aux_lemma => kernel_rfl) (by simp) ?_
        refine AllReadyH.cons rfl (fun K hK => ?_) AllReadyH.nil
        go_simp
        refine (awake_any _).mono ?_
        rintro e vk ⟨rfl, hvk⟩
        refine hK.out _ _ (KA _ (Below.trans hh1.2.2 (Below.mono hvk (hh1.2.2).size))) (fun hh2 => ?_)
        clear hK K
        try simp only [Act.put, List.getElem_toArray, List.getElem_cons_succ, List.getElem_cons_zero, List.setIfInBounds_toArray, List.set_cons_zero, List.set_cons_succ]
        refine wpAnyH_take (i := 19) (v := ?_) rfl (by as_aux_lemma => kernel_rfl) (by as_aux_lemma => kernel_rfl) (by as_aux_lemma => kernel_rfl) (fun _ _ _ h => h) (Or.inl ⟨by rfl, ?_⟩) (by assumption) ?_
        rotate_left
        · intro w hSw
          try dsimp only at hSw
          go_simp
          try with_reducible rfl
        try simp only [Act.put, List.getElem_toArray, List.getElem_cons_succ, List.getElem_cons_zero, List.setIfInBounds_toArray, List.set_cons_zero, List.set_cons_succ]
        refine wpAnyH_ready (rs := [20]) (by as_aux_lemma => kernel_rfl) (by simp) ?_
        refine AllReadyH.cons rfl (fun K hK => ?_) AllReadyH.nil
        go_simp
        refine hK.out _ _ hh2 (fun hh3 => ?_)
        clear hK K
        try simp only [Act.put, List.getElem_toArray, List.getElem_cons_succ, List.getElem_cons_zero, List.setIfInBounds_toArray, List.set_cons_zero, List.set_cons_succ]
        refine wpAnyH_done (by as_aux_lemma => kernel_rfl) ?_ _
        refine NoPanic.normal ?_
        have HBZ := Lib.hid (hh3.2.2)
        have hbz := HBZ.out
        have HBF := Lib.hid (HB.out.trans (hbz.mono HB.out.size))
        go_wp2_with fail
        go_ret
        exact ⟨rfl, HBF.out⟩
      · skip
        have r0 := cellOf HR.out 0 _ rfl
        have r1 := cellOf HR.out 1 _ rfl
        have r2 := cellOf HR.out 2 _ rfl
        have r3 := cellOf HR.out 3 _ rfl
        have r4 := cellOf HR.out 4 _ rfl
        have rl := lt_of_block HR.out
        have x0 := cellOf HX.out 0 _ rfl
        have x1 := cellOf HX.out 1 _ rfl
        have xl := lt_of_block HX.out
        have s0 := cellOf HS.out 0 _ rfl
        have s1 := cellOf HS.out 1 _ rfl
        have sl := lt_of_block HS.out
        have t0 := cellOf HT.out 0 _ rfl
        have t1 := cellOf HT.out 1 _ rfl
        have tl := lt_of_block HT.out
        go_wp2_with fail
        clear r0 r1 r2 r3 r4 rl x0 x1 xl s0 s1 sl t0 t1 tl
        have cHS0 := cellOf HS.out 0 (.int .i64 0) rfl
        have cHS1 := cellOf HS.out 1 (.int .i64 0) rfl
        have lHS := lt_of_block HS.out
        have KA : ∀ W' : World, Below w9.heap.size w9 W' → (W'.cell? ⟨u1, 0, none⟩ = some (.int .i64 0) ∧ W'.cell? ⟨u1, 1, none⟩ = some (.int .i64 0) ∧ Below w9.heap.size w9 W') := fun W' hb => ⟨keepK cHS0 hb, keepK cHS1 hb, hb⟩
        refine wp_region_noPanic ?_
        refine wp_region_held_drew (S := (fun W' => W'.cell? ⟨u1, 0, none⟩ = some (.int .i64 0) ∧ W'.cell? ⟨u1, 1, none⟩ = some (.int .i64 0) ∧ Below w9.heap.size w9 W')) (by kernel_rfl) ?_ (fun hh0 => ?_)
        · exact KA _ (Below.refl _ _).drew
        refine wpAnyH_take (i := 0) (v := ?_) rfl (by as_aux_lemma => kernel_rfl) (by as_aux_lemma => kernel_rfl) (by as_aux_lemma => kernel_rfl) (fun _ _ _ h => h) (Or.inl ⟨by rfl, ?_⟩) (by assumption) ?_
        rotate_left
        · intro w hSw
          try dsimp only at hSw
          go_simp
          try with_reducible rfl
        try simp only [Act.put, List.getElem_toArray, List.getElem_cons_succ, List.getElem_cons_zero, List.setIfInBounds_toArray, List.set_cons_zero, List.set_cons_succ]
        refine wpAnyH_take (i := 1) (v := ?_) rfl (by as_aux_lemma => kernel_rfl) (by as_aux_lemma => kernel_rfl) (by as_aux_lemma => kernel_rfl) (fun _ _ _ h => h) (Or.inl ⟨by rfl, ?_⟩) (by assumption) ?_
        rotate_left
        · intro w hSw
          try dsimp only at hSw
          go_simp
          try with_reducible rfl
        try simp only [Act.put, List.getElem_toArray, List.getElem_cons_succ, List.getElem_cons_zero, List.setIfInBounds_toArray, List.set_cons_zero, List.set_cons_succ]
        refine wpAnyH_take (i := 2) (v := ?_) rfl (by as_aux_lemma => kernel_rfl) (by as_aux_lemma => kernel_rfl) (by as_aux_lemma => kernel_rfl) (fun _ _ _ h => h) (Or.inl ⟨by rfl, ?_⟩) (by assumption) ?_
        rotate_left
        · intro w hSw
          try dsimp only at hSw
          go_simp
          try with_reducible rfl
        try simp only [Act.put, List.getElem_toArray, List.getElem_cons_succ, List.getElem_cons_zero, List.setIfInBounds_toArray, List.set_cons_zero, List.set_cons_succ]
        refine wpAnyH_take (i := 3) (v := ?_) rfl (by as_aux_lemma => kernel_rfl) (by as_aux_lemma => kernel_rfl) (by as_aux_lemma => kernel_rfl) (fun _ _ _ h => h) (Or.inl ⟨by rfl, ?_⟩) (by assumption) ?_
        rotate_left
        · intro w hSw
          try dsimp only at hSw
          go_simp
          try with_reducible rfl
        try simp only [Act.put, List.getElem_toArray, List.getElem_cons_succ, List.getElem_cons_zero, List.setIfInBounds_toArray, List.set_cons_zero, List.set_cons_succ]
        refine wpAnyH_ready (rs := [4]) (by as_aux_lemma => kernel_rfl) (by simp) ?_
        refine AllReadyH.cons rfl (fun K hK => ?_) AllReadyH.nil
        go_simp
        refine (of_any 0 0 _).mono ?_
        rintro e vo ⟨rfl, hvo⟩
        refine hK.out _ _ (KA _ (Below.trans hh0.2.2 (Below.mono hvo (hh0.2.2).size))) (fun hh1 => ?_)
        clear hK K
        try simp only [Act.put, List.getElem_toArray, List.getElem_cons_succ, List.getElem_cons_zero, List.setIfInBounds_toArray, List.set_cons_zero, List.set_cons_succ]
        refine wpAnyH_take (i := 5) (v := ?_) rfl (by as_aux_lemma => kernel_rfl) (by as_aux_lemma => kernel_rfl) (by as_aux_lemma => kernel_rfl) (fun _ _ _ h => h) (Or.inl ⟨by rfl, ?_⟩) (by assumption) ?_
        rotate_left
        · intro w hSw
          try dsimp only at hSw
          go_simp
          try with_reducible rfl
        try simp only [Act.put, List.getElem_toArray, List.getElem_cons_succ, List.getElem_cons_zero, List.setIfInBounds_toArray, List.set_cons_zero, List.set_cons_succ]
        refine wpAnyH_take (i := 6) (v := ?_) rfl (by as_aux_lemma => kernel_rfl) (by as_aux_lemma => kernel_rfl) (by as_aux_lemma => kernel_rfl) (fun _ _ _ h => h) (Or.inl ⟨by rfl, ?_⟩) (by assumption) ?_
        rotate_left
        · intro w hSw
          try dsimp only at hSw
          go_simp
          try with_reducible rfl
        try simp only [Act.put, List.getElem_toArray, List.getElem_cons_succ, List.getElem_cons_zero, List.setIfInBounds_toArray, List.set_cons_zero, List.set_cons_succ]
        refine wpAnyH_take (i := 7) (v := ?_) rfl (by as_aux_lemma => kernel_rfl) (by as_aux_lemma => kernel_rfl) (by as_aux_lemma => kernel_rfl) (fun _ _ _ h => h) (Or.inl ⟨by rfl, ?_⟩) (by assumption) ?_
        rotate_left
        · intro w hSw
          try dsimp only at hSw
          go_simp
          try with_reducible rfl
        try simp only [Act.put, List.getElem_toArray, List.getElem_cons_succ, List.getElem_cons_zero, List.setIfInBounds_toArray, List.set_cons_zero, List.set_cons_succ]
        refine wpAnyH_take (i := 8) (v := ?_) rfl (by as_aux_lemma => kernel_rfl) (by as_aux_lemma => kernel_rfl) (by as_aux_lemma => kernel_rfl) (fun _ _ _ h => h) (Or.inl ⟨by rfl, ?_⟩) (by assumption) ?_
        rotate_left
        · intro w hSw
          try dsimp only at hSw
          go_simp
          try with_reducible rfl
        try simp only [Act.put, List.getElem_toArray, List.getElem_cons_succ, List.getElem_cons_zero, List.setIfInBounds_toArray, List.set_cons_zero, List.set_cons_succ]
        refine wpAnyH_take (i := 9) (v := ?_) rfl (by as_aux_lemma => kernel_rfl) (by as_aux_lemma => kernel_rfl) (by as_aux_lemma => kernel_rfl) (fun _ _ _ h => h) (Or.inl ⟨by rfl, ?_⟩) (by assumption) ?_
        rotate_left
        · intro w hSw
          try dsimp only at hSw
          go_simp
          try with_reducible rfl
        try simp only [Act.put, List.getElem_toArray, List.getElem_cons_succ, List.getElem_cons_zero, List.setIfInBounds_toArray, List.set_cons_zero, List.set_cons_succ]
        refine wpAnyH_take (i := 10) (v := ?_) rfl (by as_aux_lemma => kernel_rfl) (by as_aux_lemma => kernel_rfl) (by as_aux_lemma => kernel_rfl) (fun _ _ _ h => h) (Or.inl ⟨by rfl, ?_⟩) (by assumption) ?_
        rotate_left
        · intro w hSw
          try dsimp only at hSw
          go_simp
          try with_reducible rfl
        try simp only [Act.put, List.getElem_toArray, List.getElem_cons_succ, List.getElem_cons_zero, List.setIfInBounds_toArray, List.set_cons_zero, List.set_cons_succ]
        refine wpAnyH_take (i := 11) (v := ?_) rfl (by as_aux_lemma => kernel_rfl) (by as_aux_lemma => kernel_rfl) (by as_aux_lemma => kernel_rfl) (fun _ _ _ h => h) (Or.inl ⟨by rfl, ?_⟩) (by assumption) ?_
        rotate_left
        · intro w hSw
          try dsimp only at hSw
          go_simp
          try with_reducible rfl
        try simp only [Act.put, List.getElem_toArray, List.getElem_cons_succ, List.getElem_cons_zero, List.setIfInBounds_toArray, List.set_cons_zero, List.set_cons_succ]
        refine wpAnyH_take (i := 12) (v := ?_) rfl (by as_aux_lemma => kernel_rfl) (by as_aux_lemma => kernel_rfl) (by as_aux_lemma => kernel_rfl) (fun _ _ _ h => h) (Or.inl ⟨by rfl, ?_⟩) (by assumption) ?_
        rotate_left
        · intro w hSw
          try dsimp only at hSw
          go_simp
          try with_reducible rfl
        try simp only [Act.put, List.getElem_toArray, List.getElem_cons_succ, List.getElem_cons_zero, List.setIfInBounds_toArray, List.set_cons_zero, List.set_cons_succ]
        refine wpAnyH_take (i := 13) (v := ?_) rfl (by as_aux_lemma => kernel_rfl) (by as_aux_lemma => kernel_rfl) (by as_aux_lemma => kernel_rfl) (fun _ _ _ h => h) (Or.inl ⟨by rfl, ?_⟩) (by assumption) ?_
        rotate_left
        · intro w hSw
          try dsimp only at hSw
          go_simp
          try with_reducible rfl
        try simp only [Act.put, List.getElem_toArray, List.getElem_cons_succ, List.getElem_cons_zero, List.setIfInBounds_toArray, List.set_cons_zero, List.set_cons_succ]
        refine wpAnyH_take (i := 14) (v := ?_) rfl (by as_aux_lemma => kernel_rfl) (by as_aux_lemma => kernel_rfl) (by as_aux_lemma => kernel_rfl) (fun _ _ _ h => h) (Or.inl ⟨by rfl, ?_⟩) (by assumption) ?_
        rotate_left
        · intro w hSw
          try dsimp only at hSw
          go_simp
          try with_reducible rfl
        try simp only [Act.put, List.getElem_toArray, List.getElem_cons_succ, List.getElem_cons_zero, List.setIfInBounds_toArray, List.set_cons_zero, List.set_cons_succ]
        refine wpAnyH_take (i := 15) (v := ?_) rfl (by as_aux_lemma => kernel_rfl) (by as_aux_lemma => kernel_rfl) (by as_aux_lemma => kernel_rfl) (fun _ _ _ h => h) (Or.inl ⟨by rfl, ?_⟩) (by assumption) ?_
        rotate_left
        · intro w hSw
          try dsimp only at hSw
          go_simp
          try with_reducible rfl
        try simp only [Act.put, List.getElem_toArray, List.getElem_cons_succ, List.getElem_cons_zero, List.setIfInBounds_toArray, List.set_cons_zero, List.set_cons_succ]
        refine wpAnyH_take (i := 16) (v := ?_) rfl (by as_aux_lemma => kernel_rfl) (by as_aux_lemma => kernel_rfl) (by as_aux_lemma => kernel_rfl) (fun _ _ _ h => h) (Or.inl ⟨by rfl, ?_⟩) (by assumption) ?_
        rotate_left
        · intro w hSw
          try dsimp only at hSw
          go_simp
          try with_reducible rfl
        try simp only [Act.put, List.getElem_toArray, List.getElem_cons_succ, List.getElem_cons_zero, List.setIfInBounds_toArray, List.set_cons_zero, List.set_cons_succ]
        refine wpAnyH_take (i := 17) (v := ?_) rfl (by as_aux_lemma => kernel_rfl) (by as_aux_lemma => kernel_rfl) (by as_aux_lemma => kernel_rfl) (fun _ _ _ h => h) (Or.inl ⟨by rfl, ?_⟩) (by assumption) ?_
        rotate_left
        · intro w hSw
          try dsimp only at hSw
          go_simp
          try with_reducible rfl
        try simp only [Act.put, List.getElem_toArray, List.getElem_cons_succ, List.getElem_cons_zero, List.setIfInBounds_toArray, List.set_cons_zero, List.set_cons_succ]
        refine wpAnyH_ready (rs := [18]) (by as_aux_lemma => kernel_rfl) (by simp) ?_
        refine AllReadyH.cons rfl (fun K hK => ?_) AllReadyH.nil
        go_simp
        refine (awake_any _).mono ?_
        rintro e vk ⟨rfl, hvk⟩
        refine hK.out _ _ (KA _ (Below.trans hh1.2.2 (Below.mono hvk (hh1.2.2).size))) (fun hh2 => ?_)
        clear hK K
        try simp only [Act.put, List.getElem_toArray, List.getElem_cons_succ, List.getElem_cons_zero, List.setIfInBounds_toArray, List.set_cons_zero, List.set_cons_succ]
        refine wpAnyH_take (i := 19) (v := ?_) rfl (by as_aux_lemma => kernel_rfl) (by as_aux_lemma => kernel_rfl) (by as_aux_lemma => kernel_rfl) (fun _ _ _ h => h) (Or.inl ⟨by rfl, ?_⟩) (by assumption) ?_
        rotate_left
        · intro w hSw
          try dsimp only at hSw
          go_simp
          try with_reducible rfl
        try simp only [Act.put, List.getElem_toArray, List.getElem_cons_succ, List.getElem_cons_zero, List.setIfInBounds_toArray, List.set_cons_zero, List.set_cons_succ]
        refine wpAnyH_ready (rs := [20]) (by as_aux_lemma => kernel_rfl) (by simp) ?_
        refine AllReadyH.cons rfl (fun K hK => ?_) AllReadyH.nil
        go_simp
        refine hK.out _ _ hh2 (fun hh3 => ?_)
        clear hK K
        try simp only [Act.put, List.getElem_toArray, List.getElem_cons_succ, List.getElem_cons_zero, List.setIfInBounds_toArray, List.set_cons_zero, List.set_cons_succ]
        refine wpAnyH_done (by as_aux_lemma => kernel_rfl) ?_ _
        refine NoPanic.normal ?_
        have HBZ := Lib.hid (hh3.2.2)
        have hbz := HBZ.out
        have HBF := Lib.hid (HB.out.trans (hbz.mono HB.out.size))
        go_wp2_with fail
        go_ret
        exact ⟨rfl, HBF.out⟩
    | some s =>
      have h2 := HL.out
      rw [greatC_yes HE.out HIN.out hl] at h2
      obtain ⟨z1, z2⟩ := s
      simp only [Prod.mk.injEq] at h2
      obtain ⟨⟨rfl, rfl⟩, rfl⟩ := h2
      obtain ⟨hsk, hsp, hst⟩ := great_yes HN0.out.1 hl
      have HSK := Lib.hid hsk
      unfold grtP at hsp
      simp only [Bool.and_eq_true, decide_eq_true_eq] at hsp
      have HSF := Lib.hid hsp.1
      obtain ⟨m, hm⟩ : ∃ k, worstC c (z1, z2) = k := ⟨_, rfl⟩
      have km : m ≤ n := by rw [← hm]; exact hsp.2
      have HM := Lib.hid hm
      have HST := Lib.hid (hst (t1, t2) HOK.out)
      clear hl hsk hsp hst hm
      have r0 := cellOf HR.out 0 _ rfl
      have r1 := cellOf HR.out 1 _ rfl
      have r2 := cellOf HR.out 2 _ rfl
      have r3 := cellOf HR.out 3 _ rfl
      have r4 := cellOf HR.out 4 _ rfl
      have rl := lt_of_block HR.out
      have x0 := cellOf HX.out 0 _ rfl
      have x1 := cellOf HX.out 1 _ rfl
      have xl := lt_of_block HX.out
      have s0 := cellOf HS.out 0 _ rfl
      have s1 := cellOf HS.out 1 _ rfl
      have sl := lt_of_block HS.out
      have t0 := cellOf HT.out 0 _ rfl
      have t1 := cellOf HT.out 1 _ rfl
      have tl := lt_of_block HT.out
      go_wp2_with fail
      clear r0 r1 r2 r3 r4 rl x0 x1 xl s0 s1 sl t0 t1 tl
      have hcall := falsest_any2 c _ _ (z1, z2) w9 HC.out HE.out HSK.out
      rw [HKI.out, HBA.out, HMO.out, HM.out] at hcall
      refine hcall.mono ?_
      clear hcall
      rintro e wa ⟨rfl, hb⟩
      have HR' := Lib.hid ((hb.block _ (lt_of_block HR.out)).trans HR.out)
      have HX' := Lib.hid ((hb.block _ (lt_of_block HX.out)).trans HX.out)
      have HC' := Lib.hid (HC.out.below hb)
      have HB' := Lib.hid (HB.out.trans (hb.mono HB.out.size))
      have HS' := Lib.hid ((hb.block _ (lt_of_block HS.out)).trans HS.out)
      have HT' := Lib.hid ((hb.block _ (lt_of_block HT.out)).trans HT.out)
      clear HR
      have HR := HR'
      clear HR'
      clear HX
      have HX := HX'
      clear HX'
      clear HC
      have HC := HC'
      clear HC'
      clear HB
      have HB := HB'
      clear HB'
      clear HS
      have HS := HS'
      clear HS'
      clear HT
      have HT := HT'
      clear HT'
      clear hb
      have r0 := cellOf HR.out 0 _ rfl
      have r1 := cellOf HR.out 1 _ rfl
      have r2 := cellOf HR.out 2 _ rfl
      have r3 := cellOf HR.out 3 _ rfl
      have r4 := cellOf HR.out 4 _ rfl
      have rl := lt_of_block HR.out
      have x0 := cellOf HX.out 0 _ rfl
      have x1 := cellOf HX.out 1 _ rfl
      have xl := lt_of_block HX.out
      have s0 := cellOf HS.out 0 _ rfl
      have s1 := cellOf HS.out 1 _ rfl
      have sl := lt_of_block HS.out
      have t0 := cellOf HT.out 0 _ rfl
      have t1 := cellOf HT.out 1 _ rfl
      have tl := lt_of_block HT.out
      go_wp2_with fail
      clear r0 r1 r2 r3 r4 rl x0 x1 xl s0 s1 sl t0 t1 tl
      have hcall := fits_any2 c _ _ (z1, z2) wa HC.out HE.out HSK.out
      rw [HKI.out, HBA.out, HMO.out, HSF.out] at hcall
      refine hcall.mono ?_
      clear hcall
      rintro e wb ⟨rfl, hb⟩
      have HR' := Lib.hid ((hb.block _ (lt_of_block HR.out)).trans HR.out)
      have HX' := Lib.hid ((hb.block _ (lt_of_block HX.out)).trans HX.out)
      have HC' := Lib.hid (HC.out.below hb)
      have HB' := Lib.hid (HB.out.trans (hb.mono HB.out.size))
      have HS' := Lib.hid ((hb.block _ (lt_of_block HS.out)).trans HS.out)
      have HT' := Lib.hid ((hb.block _ (lt_of_block HT.out)).trans HT.out)
      clear HR
      have HR := HR'
      clear HR'
      clear HX
      have HX := HX'
      clear HX'
      clear HC
      have HC := HC'
      clear HC'
      clear HB
      have HB := HB'
      clear HB'
      clear HS
      have HS := HS'
      clear HS'
      clear HT
      have HT := HT'
      clear HT'
      clear hb
      have hless := fun V => rLess_any (z1, z2) (t1, t2) V (scl4 HSK.out) (scl4 HOK.out)
      obtain ⟨Q, hQ⟩ : ∃ Q, lessS (z1, z2) (t1, t2) = Q := ⟨_, rfl⟩
      rw [hQ] at HST
      simp only [hQ] at hless
      have HLS := Lib.hid hless
      clear hless hQ
      have r0 := cellOf HR.out 0 _ rfl
      have r1 := cellOf HR.out 1 _ rfl
      have r2 := cellOf HR.out 2 _ rfl
      have r3 := cellOf HR.out 3 _ rfl
      have r4 := cellOf HR.out 4 _ rfl
      have rl := lt_of_block HR.out
      have x0 := cellOf HX.out 0 _ rfl
      have x1 := cellOf HX.out 1 _ rfl
      have xl := lt_of_block HX.out
      have s0 := cellOf HS.out 0 _ rfl
      have s1 := cellOf HS.out 1 _ rfl
      have sl := lt_of_block HS.out
      have t0 := cellOf HT.out 0 _ rfl
      have t1 := cellOf HT.out 1 _ rfl
      have tl := lt_of_block HT.out
      go_wp2_with fail
      clear r0 r1 r2 r3 r4 rl x0 x1 xl s0 s1 sl t0 t1 tl
      refine (HLS.out wb).mono ?_
      rintro e wc ⟨rfl, hb⟩
      have HR' := Lib.hid ((hb.block _ (lt_of_block HR.out)).trans HR.out)
      have HX' := Lib.hid ((hb.block _ (lt_of_block HX.out)).trans HX.out)
      have HC' := Lib.hid (HC.out.below hb)
      have HB' := Lib.hid (HB.out.trans (hb.mono HB.out.size))
      have HS' := Lib.hid ((hb.block _ (lt_of_block HS.out)).trans HS.out)
      have HT' := Lib.hid ((hb.block _ (lt_of_block HT.out)).trans HT.out)
      clear HR
      have HR := HR'
      clear HR'
      clear HX
      have HX := HX'
      clear HX'
      clear HC
      have HC := HC'
      clear HC'
      clear HB
      have HB := HB'
      clear HB'
      clear HS
      have HS := HS'
      clear HS'
      clear HT
      have HT := HT'
      clear HT'
      clear hb
      cases Q
      · skip
        have r0 := cellOf HR.out 0 _ rfl
        have r1 := cellOf HR.out 1 _ rfl
        have r2 := cellOf HR.out 2 _ rfl
        have r3 := cellOf HR.out 3 _ rfl
        have r4 := cellOf HR.out 4 _ rfl
        have rl := lt_of_block HR.out
        have x0 := cellOf HX.out 0 _ rfl
        have x1 := cellOf HX.out 1 _ rfl
        have xl := lt_of_block HX.out
        have s0 := cellOf HS.out 0 _ rfl
        have s1 := cellOf HS.out 1 _ rfl
        have sl := lt_of_block HS.out
        have t0 := cellOf HT.out 0 _ rfl
        have t1 := cellOf HT.out 1 _ rfl
        have tl := lt_of_block HT.out
        go_wp2_with fail
        clear r0 r1 r2 r3 r4 rl x0 x1 xl s0 s1 sl t0 t1 tl
        refine (awake_any wc).mono ?_
        rintro e wz ⟨rfl, hb⟩
        have HBF := Lib.hid (HB.out.trans (hb.mono HB.out.size))
        clear hb
        go_wp2_with fail
        go_ret
        exact ⟨rfl, HBF.out⟩
      · have hp := grtP_no (HST.out rfl)
        rw [HF.out, HK.out] at hp
        rcases hp with rfl | ⟨rfl, hk0⟩
        · skip
          have r0 := cellOf HR.out 0 _ rfl
          have r1 := cellOf HR.out 1 _ rfl
          have r2 := cellOf HR.out 2 _ rfl
          have r3 := cellOf HR.out 3 _ rfl
          have r4 := cellOf HR.out 4 _ rfl
          have rl := lt_of_block HR.out
          have x0 := cellOf HX.out 0 _ rfl
          have x1 := cellOf HX.out 1 _ rfl
          have xl := lt_of_block HX.out
          have s0 := cellOf HS.out 0 _ rfl
          have s1 := cellOf HS.out 1 _ rfl
          have sl := lt_of_block HS.out
          have t0 := cellOf HT.out 0 _ rfl
          have t1 := cellOf HT.out 1 _ rfl
          have tl := lt_of_block HT.out
          go_wp2_with fail
          clear r0 r1 r2 r3 r4 rl x0 x1 xl s0 s1 sl t0 t1 tl
          refine (awake_any wc).mono ?_
          rintro e wz ⟨rfl, hb⟩
          have HBF := Lib.hid (HB.out.trans (hb.mono HB.out.size))
          clear hb
          go_wp2_with fail
          go_ret
          exact ⟨rfl, HBF.out⟩
        · skip
          have r0 := cellOf HR.out 0 _ rfl
          have r1 := cellOf HR.out 1 _ rfl
          have r2 := cellOf HR.out 2 _ rfl
          have r3 := cellOf HR.out 3 _ rfl
          have r4 := cellOf HR.out 4 _ rfl
          have rl := lt_of_block HR.out
          have x0 := cellOf HX.out 0 _ rfl
          have x1 := cellOf HX.out 1 _ rfl
          have xl := lt_of_block HX.out
          have s0 := cellOf HS.out 0 _ rfl
          have s1 := cellOf HS.out 1 _ rfl
          have sl := lt_of_block HS.out
          have t0 := cellOf HT.out 0 _ rfl
          have t1 := cellOf HT.out 1 _ rfl
          have tl := lt_of_block HT.out
          go_wp2_with fail
          clear r0 r1 r2 r3 r4 rl x0 x1 xl s0 s1 sl t0 t1 tl
          refine (awake_any wc).mono ?_
          rintro e wz ⟨rfl, hb⟩
          have HBF := Lib.hid (HB.out.trans (hb.mono HB.out.size))
          clear hb
          go_wp2_with fail
          go_ret
          exact ⟨rfl, HBF.out⟩
  · have td : decide (errC c = 0) = false := by simp [he]
    rw [td]
    obtain ⟨er, her⟩ : ∃ e, errC c = e := ⟨_, rfl⟩
    have te : (er != 0) = true := by rw [← her]; simpa using he
    have HG := Lib.hid (greatC_err (l := 0) he)
    rw [her] at HG
    clear td
    have r0 := cellOf HR.out 0 _ rfl
    have r1 := cellOf HR.out 1 _ rfl
    have r2 := cellOf HR.out 2 _ rfl
    have r3 := cellOf HR.out 3 _ rfl
    have r4 := cellOf HR.out 4 _ rfl
    have rl := lt_of_block HR.out
    have x0 := cellOf HX.out 0 _ rfl
    have x1 := cellOf HX.out 1 _ rfl
    have xl := lt_of_block HX.out
    go_wp2_with fail
    clear r0 r1 r2 r3 r4 rl x0 x1 xl
    have hcall := Greatest_any c _ _ 0 w3 HC.out
    rw [HKI.out, HBA.out, HMO.out, HG.out] at hcall
    refine hcall.mono ?_
    clear hcall
    rintro e w4 ⟨rfl, hb⟩
    have HR' := Lib.hid ((hb.block _ (lt_of_block HR.out)).trans HR.out)
    have HX' := Lib.hid ((hb.block _ (lt_of_block HX.out)).trans HX.out)
    have HC' := Lib.hid (HC.out.below hb)
    have HB' := Lib.hid (HB.out.trans (hb.mono HB.out.size))
    clear HR
    have HR := HR'
    clear HR'
    clear HX
    have HX := HX'
    clear HX'
    clear HC
    have HC := HC'
    clear HC'
    clear HB
    have HB := HB'
    clear HB'
    clear hb
    simp only
    have r0 := cellOf HR.out 0 _ rfl
    have r1 := cellOf HR.out 1 _ rfl
    have r2 := cellOf HR.out 2 _ rfl
    have r3 := cellOf HR.out 3 _ rfl
    have r4 := cellOf HR.out 4 _ rfl
    have rl := lt_of_block HR.out
    have x0 := cellOf HX.out 0 _ rfl
    have x1 := cellOf HX.out 1 _ rfl
    have xl := lt_of_block HX.out
    go_wp2_with fail
    clear r0 r1 r2 r3 r4 rl x0 x1 xl
    have hb := (Below.refl w4.heap.size w4).alloc (Nat.le_refl _) (Obj.cells #[.int .i64 0, .int .i64 0] 27)
    have HS := Lib.hid (heap_alloc_new w4 (Obj.cells #[.int .i64 0, .int .i64 0] 27))
    have HR' := Lib.hid ((hb.block _ (lt_of_block HR.out)).trans HR.out)
    have HX' := Lib.hid ((hb.block _ (lt_of_block HX.out)).trans HX.out)
    have HC' := Lib.hid (HC.out.below hb)
    have HB' := Lib.hid (HB.out.trans (hb.mono HB.out.size))
    clear HR
    have HR := HR'
    clear HR'
    clear HX
    have HX := HX'
    clear HX'
    clear HC
    have HC := HC'
    clear HC'
    clear HB
    have HB := HB'
    clear HB'
    clear hb
    generalize w4.alloc (Obj.cells #[.int .i64 0, .int .i64 0] 27) = w5 at *
    refine (awake_any w5).mono ?_
    rintro e wz ⟨rfl, hb⟩
    have HBF := Lib.hid (HB.out.trans (hb.mono HB.out.size))
    clear hb
    go_wp2_with fail
    go_ret
    exact ⟨rfl, HBF.out⟩
end Go.Proofs.Ythflbbjilebhlaa
