/- Package scale: Check. -/
import Derived.Test.YthflbbjilebhlaaUi
import Derived.Test.YthflbbjilebhlaaUe
set_option linter.unusedSimpArgs false
set_option linter.unusedVariables false
namespace Go.Proofs.Ythflbbjilebhlaa
open Go Go.RowKit Go.Shelf Sc

/-- A case in memory. -/
structure CseAt (w : World) (c : Cse) (hv rv : Value) : Prop where
  hs : IntsAt w hv c.hs
  rd : PairsAt w rv c.rds
theorem CseAt.below {w w' : World} {c : Cse} {hv rv : Value} (h : CseAt w c hv rv) (hb : Below w.heap.size w w') : CseAt w' c hv rv := ⟨h.hs.below hb, h.rd.below hb⟩
theorem checkC_kind {c : Cse} (h : kindB c.kind = false) : checkC c = (1, 0, 2) := by unfold checkC; rw [if_pos h]
theorem checkC_rng {c : Cse} (h : kindB c.kind = true) (h2 : inB 0 9000 c.base = false ∨ inB 0 100000 c.most = false) : checkC c = (1, 0, 7) := by unfold checkC; rw [if_neg (by simp [h]), if_pos h2]
theorem checkC_len {c : Cse} (h : kindB c.kind = true) (h2 : ¬ (inB 0 9000 c.base = false ∨ inB 0 100000 c.most = false)) (h3 : inB 1 8 (c.hs.length : Int) = false ∨ inB 0 8 (c.rds.length : Int) = false) : checkC c = (1, 0, 3) := by unfold checkC; rw [if_neg (by simp [h]), if_neg h2, if_pos h3]
theorem checkC_ht {c : Cse} (h : kindB c.kind = true) (h2 : ¬ (inB 0 9000 c.base = false ∨ inB 0 100000 c.most = false)) (h3 : ¬ (inB 1 8 (c.hs.length : Int) = false ∨ inB 0 8 (c.rds.length : Int) = false)) (k : Nat) (hk : k < c.hs.length) (hz : ∀ j, j < k → htE c j = 0) (hx : inB c.base 9000 (c.hs.getD k 0) = false) : checkC c = (2, (k : Int), 7) := by
  have e1 : htE c k = 7 := by unfold htE; rw [if_neg (by rw [hx]; simp)]
  have e : htsE c = ((k : Int), 7) := by unfold htsE; rw [firstW_at _ _ k hk hz (by rw [e1]; decide), e1]
  unfold checkC
  rw [if_neg (by simp [h]), if_neg h2, if_neg h3, if_pos (by rw [e]; simp), e]
theorem checkC_rd {c : Cse} (h : kindB c.kind = true) (h2 : ¬ (inB 0 9000 c.base = false ∨ inB 0 100000 c.most = false)) (h3 : ¬ (inB 1 8 (c.hs.length : Int) = false ∨ inB 0 8 (c.rds.length : Int) = false)) (hh : ∀ j, j < c.hs.length → htE c j = 0) (k : Nat) (hk : k < c.rds.length) (hz : ∀ j, j < k → rdE c.hs.length (c.rds.getD j default) = 0) (hx : rdE c.hs.length (c.rds.getD k default) ≠ 0) : checkC c = (3, (k : Int), rdE c.hs.length (c.rds.getD k default)) := by
  have e : htsE c = (0, 0) := firstW_all _ _ hh
  have e2 : rdsE c = ((k : Int), rdE c.hs.length (c.rds.getD k default)) := firstW_at _ _ k hk hz hx
  unfold checkC
  rw [if_neg (by simp [h]), if_neg h2, if_neg h3, if_neg (by rw [e]; simp), if_pos (by rw [e2]; exact hx), e2]
theorem checkC_ok {c : Cse} (h : kindB c.kind = true) (h2 : ¬ (inB 0 9000 c.base = false ∨ inB 0 100000 c.most = false)) (h3 : ¬ (inB 1 8 (c.hs.length : Int) = false ∨ inB 0 8 (c.rds.length : Int) = false)) (hh : ∀ j, j < c.hs.length → htE c j = 0) (hz : ∀ j, j < c.rds.length → rdE c.hs.length (c.rds.getD j default) = 0) : checkC c = (0, 0, 0) := by
  have e : htsE c = (0, 0) := firstW_all _ _ hh
  have e2 : rdsE c = (0, 0) := firstW_all _ _ hz
  unfold checkC
  rw [if_neg (by simp [h]), if_neg h2, if_neg h3, if_neg (by rw [e]; simp), if_neg (by rw [e2]; simp)]
set_option maxRecDepth 100000 in
set_option maxHeartbeats 16000000 in
theorem check_any (c : Cse) (hv rv : Value) (w : World) (hC : CseAt w c hv rv) :
    Calls Try.prog 15 #[.agg #[.int .i64 c.kind, .int .i64 c.base, .int .i64 c.most, hv, rv]] w fun e w' => e = .returned (.tuple #[.int .i64 (checkC c).1, .int .i64 (checkC c).2.1, .int .i64 (checkC c).2.2]) ∧ Below w.heap.size w w' := by
  obtain ⟨hS, hE⟩ := hC
  obtain ⟨ls, ha, hc, rfl, lsc, _⟩ := id hS
  obtain ⟨le, ra, rc, rfl, lec, _⟩ := id hE
  obtain ⟨n, hn⟩ : ∃ n, c.hs.length = n := ⟨_, rfl⟩
  obtain ⟨m, hm⟩ : ∃ m, c.rds.length = m := ⟨_, rfl⟩
  rw [hn] at ls lsc hS ⊢
  rw [hm] at le lec hE ⊢
  obtain ⟨⟨c1, c2, c3⟩, hcc⟩ : ∃ x, checkC c = x := ⟨_, rfl⟩
  have HK := Lib.hid hcc
  rw [hcc]
  simp only
  obtain ⟨kind, hkind⟩ : ∃ x, c.kind = x := ⟨_, rfl⟩
  obtain ⟨base, hbase⟩ : ∃ x, c.base = x := ⟨_, rfl⟩
  obtain ⟨most, hmost⟩ : ∃ x, c.most = x := ⟨_, rfl⟩
  rw [hkind, hbase, hmost]
  have HKD := Lib.hid hkind
  have HBS := Lib.hid hbase
  have HMO := Lib.hid hmost
  have HNN := Lib.hid hn
  have HMM := Lib.hid hm
  have hB : Below w.heap.size w (w.alloc (Obj.cells #[.int .i64 kind, .int .i64 base, .int .i64 most, .slice ha n hc, .slice ra m rc] 25)) := by go_grown
  have HB := Lib.hid hB
  have HS := Lib.hid (hS.below hB)
  have HE := Lib.hid (hE.below hB)
  have HG := Lib.hid (heap_alloc_new w (Obj.cells #[.int .i64 kind, .int .i64 base, .int .i64 most, .slice ha n hc, .slice ra m rc] 25))
  have nI : (n : Int) ≤ 4611686018427387904 := by omega
  have mI : (m : Int) ≤ 4611686018427387904 := by omega
  clear hS hE hB hn hm hcc hkind hbase hmost
  go_enter Try.func15, Try.ntmps15
  go_wp2_with fail
  generalize w.alloc (Obj.cells #[.int .i64 kind, .int .i64 base, .int .i64 most, .slice ha n hc, .slice ra m rc] 25) = w0 at *
  have g0 := cellOf HG.out 0 _ rfl
  have g1 := cellOf HG.out 1 _ rfl
  have g2 := cellOf HG.out 2 _ rfl
  have g3 := cellOf HG.out 3 _ rfl
  have g4 := cellOf HG.out 4 _ rfl
  have gl := lt_of_block HG.out
  go_wp2_with fail
  clear g0 g1 g2 g3 g4 gl
  refine (roundingOf_any kind w0).mono ?_
  rintro e w1 ⟨he1, he0, hb⟩
  have HB' := Lib.hid (HB.out.trans (hb.mono HB.out.size))
  have HS' := Lib.hid (HS.out.below hb)
  have HE' := Lib.hid (HE.out.below hb)
  have HG' := Lib.hid ((hb.block _ (lt_of_block HG.out)).trans HG.out)
  clear HB
  have HB := HB'
  clear HB'
  clear HS
  have HS := HS'
  clear HS'
  clear HE
  have HE := HE'
  clear HE'
  clear HG
  have HG := HG'
  clear HG'
  clear hb
  cases hkb : kindB kind
  · obtain rfl := he0 hkb
    clear he1 he0
    have hb : Below w1.heap.size w1 (w1.alloc (.cells #[.int .i64 0, .nilFunc] 88)) := by go_grown
    have HB' := Lib.hid (HB.out.trans (hb.mono HB.out.size))
    have HS' := Lib.hid (HS.out.below hb)
    have HE' := Lib.hid (HE.out.below hb)
    have HG' := Lib.hid ((hb.block _ (lt_of_block HG.out)).trans HG.out)
    clear HB
    have HB := HB'
    clear HB'
    clear HS
    have HS := HS'
    clear HS'
    clear HE
    have HE := HE'
    clear HE'
    clear HG
    have HG := HG'
    clear HG'
    clear hb
    have hr := checkC_kind (c := c) (by rw [HKD.out]; exact hkb)
    rw [HK.out] at hr
    simp only [Prod.mk.injEq] at hr
    obtain ⟨rfl, rfl, rfl⟩ := hr
    have g0 := cellOf HG.out 0 _ rfl
    have g1 := cellOf HG.out 1 _ rfl
    have g2 := cellOf HG.out 2 _ rfl
    have g3 := cellOf HG.out 3 _ rfl
    have g4 := cellOf HG.out 4 _ rfl
    have gl := lt_of_block HG.out
    go_wp2_with fail
    refine bodyPost_ret (results_tmp3 rfl _ _ _) rfl ?_
    exact ⟨rfl, HB.out⟩
  · obtain rfl := he1 hkb
    clear he1 he0
    have HKB : Hid (kindB c.kind = true) := by show _ = _; rw [HKD.out]; exact hkb
    clear hkb
    have hb : Below w1.heap.size w1 (w1.alloc (.cells #[.int .i64 kind, .func (.func (rnF kind)) #[] #[]] 88)) := by go_grown
    have HB' := Lib.hid (HB.out.trans (hb.mono HB.out.size))
    have HS' := Lib.hid (HS.out.below hb)
    have HE' := Lib.hid (HE.out.below hb)
    have HG' := Lib.hid ((hb.block _ (lt_of_block HG.out)).trans HG.out)
    clear HB
    have HB := HB'
    clear HB'
    clear HS
    have HS := HS'
    clear HS'
    clear HE
    have HE := HE'
    clear HE'
    clear HG
    have HG := HG'
    clear HG'
    clear hb
    have h1 := within_1 0 9000 base (w1.alloc (.cells #[.int .i64 kind, .func (.func (rnF kind)) #[] #[]] 88)) (w1.heap.size + 1) 3 (by simp)
    obtain ⟨B1, hB1⟩ : ∃ B, okIn 0 9000 base = B := ⟨_, rfl⟩
    have HB1 : Hid (inB 0 9000 base = B1) := hB1
    rw [hB1] at h1
    have HC1 := Lib.hid h1
    clear h1 hB1
    have g0 := cellOf HG.out 0 _ rfl
    have g1 := cellOf HG.out 1 _ rfl
    have g2 := cellOf HG.out 2 _ rfl
    have g3 := cellOf HG.out 3 _ rfl
    have g4 := cellOf HG.out 4 _ rfl
    have gl := lt_of_block HG.out
    go_wp2_with fail
    clear g0 g1 g2 g3 g4 gl
    refine HC1.out.mono ?_
    rintro e wx ⟨rfl, rfl⟩
    clear HC1
    have hb : Below (w1.alloc (.cells #[.int .i64 kind, .func (.func (rnF kind)) #[] #[]] 88)).heap.size (w1.alloc (.cells #[.int .i64 kind, .func (.func (rnF kind)) #[] #[]] 88)) ((w1.alloc (.cells #[.int .i64 kind, .func (.func (rnF kind)) #[] #[]] 88)).alloc (.cells #[.int .i64 base] 3)) := by go_grown
    have HB' := Lib.hid (HB.out.trans (hb.mono HB.out.size))
    have HS' := Lib.hid (HS.out.below hb)
    have HE' := Lib.hid (HE.out.below hb)
    have HG' := Lib.hid ((hb.block _ (lt_of_block HG.out)).trans HG.out)
    clear HB
    have HB := HB'
    clear HB'
    clear HS
    have HS := HS'
    clear HS'
    clear HE
    have HE := HE'
    clear HE'
    clear HG
    have HG := HG'
    clear HG'
    generalize (w1.alloc (.cells #[.int .i64 kind, .func (.func (rnF kind)) #[] #[]] 88)).alloc (.cells #[.int .i64 base] 3) = w2 at *
    clear hb
    cases B1
    · have hr := checkC_rng (c := c) HKB.out (Or.inl (by rw [HBS.out]; exact HB1.out))
      rw [HK.out] at hr
      simp only [Prod.mk.injEq] at hr
      obtain ⟨rfl, rfl, rfl⟩ := hr
      go_wp2_with fail
      refine bodyPost_ret (results_tmp3 rfl _ _ _) rfl ?_
      exact ⟨rfl, HB.out⟩
    · skip
      have h1 := within_1 0 100000 most w2 w2.heap.size 3 rfl
      obtain ⟨B2, hB2⟩ : ∃ B, okIn 0 100000 most = B := ⟨_, rfl⟩
      have HB2 : Hid (inB 0 100000 most = B2) := hB2
      rw [hB2] at h1
      have HC1 := Lib.hid h1
      clear h1 hB2
      have g0 := cellOf HG.out 0 _ rfl
      have g1 := cellOf HG.out 1 _ rfl
      have g2 := cellOf HG.out 2 _ rfl
      have g3 := cellOf HG.out 3 _ rfl
      have g4 := cellOf HG.out 4 _ rfl
      have gl := lt_of_block HG.out
      go_wp2_with fail
      clear g0 g1 g2 g3 g4 gl
      refine HC1.out.mono ?_
      rintro e wx ⟨rfl, rfl⟩
      clear HC1
      have hb : Below w2.heap.size w2 (w2.alloc (.cells #[.int .i64 most] 3)) := by go_grown
      have HB' := Lib.hid (HB.out.trans (hb.mono HB.out.size))
      have HS' := Lib.hid (HS.out.below hb)
      have HE' := Lib.hid (HE.out.below hb)
      have HG' := Lib.hid ((hb.block _ (lt_of_block HG.out)).trans HG.out)
      clear HB
      have HB := HB'
      clear HB'
      clear HS
      have HS := HS'
      clear HS'
      clear HE
      have HE := HE'
      clear HE'
      clear HG
      have HG := HG'
      clear HG'
      generalize w2.alloc (.cells #[.int .i64 most] 3) = w3 at *
      clear hb
      cases B2
      · have hr := checkC_rng (c := c) HKB.out (Or.inr (by rw [HMO.out]; exact HB2.out))
        rw [HK.out] at hr
        simp only [Prod.mk.injEq] at hr
        obtain ⟨rfl, rfl, rfl⟩ := hr
        go_wp2_with fail
        refine bodyPost_ret (results_tmp3 rfl _ _ _) rfl ?_
        exact ⟨rfl, HB.out⟩
      · have HR2 : Hid (¬ (inB 0 9000 c.base = false ∨ inB 0 100000 c.most = false)) := by show ¬ _; rw [HBS.out, HMO.out, HB1.out, HB2.out]; simp
        have h1 := within_1 1 8 (n : Int) w3 w3.heap.size 3 rfl
        obtain ⟨B3, hB3⟩ : ∃ B, okIn 1 8 (n : Int) = B := ⟨_, rfl⟩
        have HB3 : Hid (inB 1 8 (n : Int) = B3) := hB3
        rw [hB3] at h1
        have HC1 := Lib.hid h1
        clear h1 hB3
        have g0 := cellOf HG.out 0 _ rfl
        have g1 := cellOf HG.out 1 _ rfl
        have g2 := cellOf HG.out 2 _ rfl
        have g3 := cellOf HG.out 3 _ rfl
        have g4 := cellOf HG.out 4 _ rfl
        have gl := lt_of_block HG.out
        go_wp2_with fail
        clear g0 g1 g2 g3 g4 gl
        refine HC1.out.mono ?_
        rintro e wx ⟨rfl, rfl⟩
        clear HC1
        have hb : Below w3.heap.size w3 (w3.alloc (.cells #[.int .i64 (n : Int)] 3)) := by go_grown
        have HB' := Lib.hid (HB.out.trans (hb.mono HB.out.size))
        have HS' := Lib.hid (HS.out.below hb)
        have HE' := Lib.hid (HE.out.below hb)
        have HG' := Lib.hid ((hb.block _ (lt_of_block HG.out)).trans HG.out)
        clear HB
        have HB := HB'
        clear HB'
        clear HS
        have HS := HS'
        clear HS'
        clear HE
        have HE := HE'
        clear HE'
        clear HG
        have HG := HG'
        clear HG'
        generalize w3.alloc (.cells #[.int .i64 (n : Int)] 3) = w4 at *
        clear hb
        cases B3
        · have hr := checkC_len (c := c) HKB.out HR2.out (Or.inl (by rw [HNN.out]; exact HB3.out))
          rw [HK.out] at hr
          simp only [Prod.mk.injEq] at hr
          obtain ⟨rfl, rfl, rfl⟩ := hr
          go_wp2_with fail
          refine bodyPost_ret (results_tmp3 rfl _ _ _) rfl ?_
          exact ⟨rfl, HB.out⟩
        · skip
          have h1 := within_1 0 8 (m : Int) w4 w4.heap.size 3 rfl
          obtain ⟨B4, hB4⟩ : ∃ B, okIn 0 8 (m : Int) = B := ⟨_, rfl⟩
          have HB4 : Hid (inB 0 8 (m : Int) = B4) := hB4
          rw [hB4] at h1
          have HC1 := Lib.hid h1
          clear h1 hB4
          have g0 := cellOf HG.out 0 _ rfl
          have g1 := cellOf HG.out 1 _ rfl
          have g2 := cellOf HG.out 2 _ rfl
          have g3 := cellOf HG.out 3 _ rfl
          have g4 := cellOf HG.out 4 _ rfl
          have gl := lt_of_block HG.out
          go_wp2_with fail
          clear g0 g1 g2 g3 g4 gl
          refine HC1.out.mono ?_
          rintro e wx ⟨rfl, rfl⟩
          clear HC1
          have hb : Below w4.heap.size w4 (w4.alloc (.cells #[.int .i64 (m : Int)] 3)) := by go_grown
          have HB' := Lib.hid (HB.out.trans (hb.mono HB.out.size))
          have HS' := Lib.hid (HS.out.below hb)
          have HE' := Lib.hid (HE.out.below hb)
          have HG' := Lib.hid ((hb.block _ (lt_of_block HG.out)).trans HG.out)
          clear HB
          have HB := HB'
          clear HB'
          clear HS
          have HS := HS'
          clear HS'
          clear HE
          have HE := HE'
          clear HE'
          clear HG
          have HG := HG'
          clear HG'
          generalize w4.alloc (.cells #[.int .i64 (m : Int)] 3) = w5 at *
          clear hb
          cases B4
          · have hr := checkC_len (c := c) HKB.out HR2.out (Or.inr (by rw [HMM.out]; exact HB4.out))
            rw [HK.out] at hr
            simp only [Prod.mk.injEq] at hr
            obtain ⟨rfl, rfl, rfl⟩ := hr
            go_wp2_with fail
            refine bodyPost_ret (results_tmp3 rfl _ _ _) rfl ?_
            exact ⟨rfl, HB.out⟩
          · have HR3 : Hid (¬ (inB 1 8 (c.hs.length : Int) = false ∨ inB 0 8 (c.rds.length : Int) = false)) := by show ¬ _; rw [HNN.out, HMM.out, HB3.out, HB4.out]; simp
            have n8 : n ≤ 8 := by have := HB3.out; unfold inB at this; simp at this; omega
            have m8 : m ≤ 8 := by have := HB4.out; unfold inB at this; simp at this; omega
            have n8I : (n : Int) ≤ 8 := by omega
            have m8I : (m : Int) ≤ 8 := by omega
            have g0 := cellOf HG.out 0 _ rfl
            have g1 := cellOf HG.out 1 _ rfl
            have g2 := cellOf HG.out 2 _ rfl
            have g3 := cellOf HG.out 3 _ rfl
            have g4 := cellOf HG.out 4 _ rfl
            have gl := lt_of_block HG.out
            go_wp2_with fail
            clear g0 g1 g2 g3 g4 gl
            go_loopg [7, 8, 49] n (fun g _ _ v wr => ∃ k : Nat, g + k = n ∧ v = .int .i64 k ∧ Hid (∀ j, j < k → htE c j = 0) ∧ Hid (Below w5.heap.size w5 wr))
            case atStart => exact ⟨0, by omega, rfl, fun j hj => absurd hj (Nat.not_lt_zero _), Below.refl _ _⟩
            case round =>
              obtain ⟨k, hk, rfl, HZ, HL⟩ := hrel
              have HB' := Lib.hid (HB.out.trans (HL.out.mono HB.out.size))
              have HS' := Lib.hid (HS.out.below HL.out)
              have HE' := Lib.hid (HE.out.below HL.out)
              have HG' := Lib.hid ((HL.out.block _ (lt_of_block HG.out)).trans HG.out)
              clear HB
              have HB := HB'
              clear HB'
              clear HS
              have HS := HS'
              clear HS'
              clear HE
              have HE := HE'
              clear HE'
              clear HG
              have HG := HG'
              clear HG'
              by_cases hkn : k < n
              · have kI : (k : Int) < (n : Int) := by omega
                have hk' : k < c.hs.length := by rw [HNN.out]; exact hkn
                obtain ⟨hb, ho, rfl, d0⟩ := HS.out.get hk'
                have hget : c.hs.getD k 0 = c.hs[k] := by simp [List.getD_eq_getElem?_getD, hk']
                obtain ⟨x, hx⟩ : ∃ x, c.hs[k] = x := ⟨_, rfl⟩
                rw [hx] at d0 hget
                have HX := Lib.hid hget
                have hsl := World.block_lt_of_cell? wr ⟨hb, ho + k, none⟩ d0
                clear hx hget
                have h1 := within_1 base 9000 x wr wr.heap.size 3 rfl
                obtain ⟨B5, hB5⟩ : ∃ B, okIn base 9000 x = B := ⟨_, rfl⟩
                have HB5 : Hid (inB base 9000 x = B5) := hB5
                rw [hB5] at h1
                have HC1 := Lib.hid h1
                clear h1 hB5
                have g0 := cellOf HG.out 0 _ rfl
                have g1 := cellOf HG.out 1 _ rfl
                have g2 := cellOf HG.out 2 _ rfl
                have g3 := cellOf HG.out 3 _ rfl
                have g4 := cellOf HG.out 4 _ rfl
                have gl := lt_of_block HG.out
                go_wp2_with fail
                clear g0 g1 g2 g3 g4 gl
                clear d0 hsl
                refine HC1.out.mono ?_
                rintro e wx ⟨rfl, rfl⟩
                clear HC1
                have hb2 : Below wr.heap.size wr (wr.alloc (.cells #[.int .i64 x] 3)) := by go_grown
                have HL2 := Lib.hid (HL.out.trans (hb2.mono HL.out.size))
                have HBF := Lib.hid (HB.out.trans (hb2.mono HB.out.size))
                clear hb2
                cases B5
                · have hr := checkC_ht (c := c) HKB.out HR2.out HR3.out k (by rw [HNN.out]; exact hkn) HZ.out (by rw [HX.out, HBS.out]; exact HB5.out)
                  rw [HK.out] at hr
                  simp only [Prod.mk.injEq] at hr
                  obtain ⟨rfl, rfl, rfl⟩ := hr
                  go_wp2_with fail
                  refine bodyPost_ret (results_tmp3 rfl _ _ _) rfl ?_
                  exact ⟨rfl, HBF.out⟩
                · have HZ2 : Hid (∀ j, j < k + 1 → htE c j = 0) := fun j hj => by
                    by_cases e : j = k
                    · subst e; unfold htE; rw [HX.out, HBS.out, HB5.out, if_pos rfl]
                    · exact HZ.out j (by omega)
                  clear HZ HX
                  go_wp2_with fail
                  go_roundg (gk - 1)
                  case measure => omega
                  case rel => exact ⟨k + 1, by omega, by go_num, HZ2, HL2⟩
              · obtain rfl : k = n := by omega
                have HZS : Hid (∀ j, j < c.hs.length → htE c j = 0) := by show ∀ j, _; rw [HNN.out]; exact HZ.out
                have kI : ¬ (k : Int) < (k : Int) := by omega
                clear hkn hk HZ HL
                have g0 := cellOf HG.out 0 _ rfl
                have g1 := cellOf HG.out 1 _ rfl
                have g2 := cellOf HG.out 2 _ rfl
                have g3 := cellOf HG.out 3 _ rfl
                have g4 := cellOf HG.out 4 _ rfl
                have gl := lt_of_block HG.out
                go_wp2_with fail
                clear g0 g1 g2 g3 g4 gl
                clear kI
                obtain ⟨wo, hwo⟩ : ∃ wo, wo = wr := ⟨_, rfl⟩
                subst hwo
                go_loopg [9, 10, 11, 65] m (fun g _ _ _ v wr => ∃ j : Nat, g + j = m ∧ v = .int .i64 j ∧ Hid (∀ i, i < j → rdE c.hs.length (c.rds.getD i default) = 0) ∧ Hid (Below wo.heap.size wo wr))
                case atStart => exact ⟨0, by omega, rfl, fun j hj => absurd hj (Nat.not_lt_zero _), Below.refl _ _⟩
                case round =>
                  obtain ⟨j, hj, rfl, HZ, HL⟩ := hrel
                  have HB' := Lib.hid (HB.out.trans (HL.out.mono HB.out.size))
                  have HS' := Lib.hid (HS.out.below HL.out)
                  have HE' := Lib.hid (HE.out.below HL.out)
                  have HG' := Lib.hid ((HL.out.block _ (lt_of_block HG.out)).trans HG.out)
                  clear HB
                  have HB := HB'
                  clear HB'
                  clear HS
                  have HS := HS'
                  clear HS'
                  clear HE
                  have HE := HE'
                  clear HE'
                  clear HG
                  have HG := HG'
                  clear HG'
                  by_cases hjm : j < m
                  · have jI : (j : Int) < (m : Int) := by omega
                    have hj' : j < c.rds.length := by rw [HMM.out]; exact hjm
                    obtain ⟨rb, ro, rfl, d0, d1⟩ := HE.out.get hj'
                    have hget : c.rds.getD j default = c.rds[j] := by simp [List.getD_eq_getElem?_getD, hj']
                    generalize c.rds[j] = r at *
                    obtain ⟨x, y⟩ := r
                    simp only at d0 d1
                    obtain ⟨er, her⟩ : ∃ er, rdE k (x, y) = er := ⟨_, rfl⟩
                    have HER : Hid (rdE c.hs.length (c.rds.getD j default) = er) := by show _ = _; rw [hget, ← her, HNN.out]
                    have hsl := World.block_lt_of_cell? wr ⟨rb, ro + j * 2, none⟩ d0
                    have hba : Below wr.heap.size wr (wr.alloc (Obj.cells #[.int .i64 x, .int .i64 y] 79)) := by go_grown
                    have h1 := roadFault_any (x, y) k (wr.alloc (Obj.cells #[.int .i64 x, .int .i64 y] 79)) n8
                    rw [her] at h1
                    dsimp only at h1
                    have HC1 := Lib.hid h1
                    have HBA := Lib.hid (HL.out.trans (hba.mono HL.out.size))
                    have HBF := Lib.hid (HB.out.trans (hba.mono HB.out.size))
                    clear hget her hj' h1 hba
                    have g0 := cellOf HG.out 0 _ rfl
                    have g1 := cellOf HG.out 1 _ rfl
                    have g2 := cellOf HG.out 2 _ rfl
                    have g3 := cellOf HG.out 3 _ rfl
                    have g4 := cellOf HG.out 4 _ rfl
                    have gl := lt_of_block HG.out
                    go_wp2_with fail
                    clear g0 g1 g2 g3 g4 gl
                    refine HC1.out.mono ?_
                    rintro e wg ⟨rfl, hbg⟩
                    have HLg := Lib.hid (HBA.out.trans (hbg.mono HBA.out.size))
                    have HFg := Lib.hid (HBF.out.trans (hbg.mono HBF.out.size))
                    clear hbg d0 d1 hsl HBA HBF HC1
                    by_cases her0 : er = 0
                    · subst her0
                      have HZ2 : Hid (∀ i, i < j + 1 → rdE c.hs.length (c.rds.getD i default) = 0) := fun i hi => by
                        by_cases e : i = j
                        · subst e; exact HER.out
                        · exact HZ.out i (by omega)
                      clear HZ HER
                      go_wp2_with fail
                      go_roundg (gk - 1)
                      case measure => omega
                      case rel => exact ⟨j + 1, by omega, by go_num, HZ2, HLg⟩
                    · have te : (er != 0) = true := by simp [her0]
                      have hr := checkC_rd HKB.out HR2.out HR3.out HZS.out j (by rw [HMM.out]; exact hjm) HZ.out (by rw [HER.out]; exact her0)
                      rw [HK.out, HER.out] at hr
                      simp only [Prod.mk.injEq] at hr
                      obtain ⟨rfl, rfl, rfl⟩ := hr
                      go_wp2_with fail
                      refine bodyPost_ret (results_tmp3 rfl _ _ _) rfl ?_
                      exact ⟨rfl, HFg.out⟩
                  · obtain rfl : j = m := by omega
                    have hr := checkC_ok HKB.out HR2.out HR3.out HZS.out (by rw [HMM.out]; exact HZ.out)
                    rw [HK.out] at hr
                    simp only [Prod.mk.injEq] at hr
                    obtain ⟨rfl, rfl, rfl⟩ := hr
                    have jI : ¬ (j : Int) < (j : Int) := by omega
                    clear hjm hj
                    go_wp2_with fail
                    refine bodyPost_ret (results_tmp3 rfl _ _ _) rfl ?_
                    exact ⟨rfl, HB.out⟩
end Go.Proofs.Ythflbbjilebhlaa
