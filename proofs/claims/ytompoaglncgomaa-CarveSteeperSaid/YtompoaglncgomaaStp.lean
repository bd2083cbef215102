/- CarveSteeper: the call returns true, for any row and any lesser Steep. -/
import Derived.Test.YtompoaglncgomaaCxg
import Derived.Test.YtompoaglncgomaaCxi
import Derived.Test.YtompoaglncgomaaRca
set_option linter.unusedSimpArgs false
set_option linter.unusedVariables false
namespace Go.Proofs.Ytompoaglncgomaa
open Go Go.RowKit Go.Shelf Cv

set_option maxRecDepth 100000 in
set_option maxHeartbeats 16000000 in
theorem steeper_ok (st : Int) (pts : List Pt) (pa : Option Addr) (pc : Nat) (less n f : Int) (hl0 : 0 ≤ less) (hl9 : less ≤ 65535) (w : World) (hP : PtsAt w (.slice pa pts.length pc) pts)
    (HN : Hid (needR ⟨st, pts⟩ = (n, 0))) (HV : Hid (errR ⟨st, pts⟩ = 0)) (hn : 0 ≤ n) (HF : Hid ((boundsR ⟨st, pts⟩).2 = f)) (hf : f = 0 ∧ n ≤ st ∨ f = 9 ∧ st < n)
    (HX : Hid (∀ x, 0 ≤ x → x ≤ 200 → n ≤ x → (boundsR ⟨x, pts⟩).2 = 0)) (HY : Hid (∀ x, 0 ≤ x → x ≤ 200 → x < n → (boundsR ⟨x, pts⟩).2 = 9)) :
    Calls Try.prog 11 #[.agg #[.int .i64 st, .slice pa pts.length pc], .int .u16 less] w fun e w' => e = .returned (.bool true) ∧ Below w.heap.size w w' := by
  have HP := Lib.hid hP
  clear hP
  have hf' := Lib.hid hf
  clear hf
  have HB := Lib.hid (Below.refl w.heap.size w)
  go_enter Try.func11, Try.ntmps11
  go_wp2_with fail
  have hb := (Below.refl w.heap.size w).alloc (Nat.le_refl _) (Obj.cells #[.int .i64 st, .slice pa pts.length pc] 24)
  have HR := Lib.hid (heap_alloc_new w (Obj.cells #[.int .i64 st, .slice pa pts.length pc] 24))
  have hz1 : (w.alloc (Obj.cells #[.int .i64 st, .slice pa pts.length pc] 24)).heap.size = w.heap.size + 1 := by simp
  have HB' := Lib.hid (HB.out.trans (hb.mono HB.out.size))
  have HP' := Lib.hid (HP.out.below hb)
  clear HB
  have HB := HB'
  clear HB'
  clear HP
  have HP := HP'
  clear HP'
  clear hb
  generalize w.alloc (Obj.cells #[.int .i64 st, .slice pa pts.length pc] 24) = w1 at *
  have hcall := need_any ⟨st, pts⟩ _ w1 HP.out
  rw [HN.out] at hcall
  simp only at hcall
  refine hcall.mono ?_
  clear hcall
  rintro e w2 ⟨rfl, hb⟩
  have HB' := Lib.hid (HB.out.trans (hb.mono HB.out.size))
  have HP' := Lib.hid (HP.out.below hb)
  have HR' := Lib.hid ((hb.block _ (lt_of_block HR.out)).trans HR.out)
  clear HB
  have HB := HB'
  clear HB'
  clear HP
  have HP := HP'
  clear HP'
  clear HR
  have HR := HR'
  clear HR'
  clear hb
  have ra := cellOf HR.out 0 _ rfl
  have rb := cellOf HR.out 1 _ rfl
  have rl := lt_of_block HR.out
  go_wp2_with fail
  clear ra rb rl
  have hcall := valid_any ⟨st, pts⟩ _ w2 HP.out
  have e0 : (errR ⟨st, pts⟩ == 0) = true := by rw [HV.out]; rfl
  rw [e0] at hcall
  clear e0
  refine hcall.mono ?_
  clear hcall
  rintro e w3 ⟨rfl, hb⟩
  have HB' := Lib.hid (HB.out.trans (hb.mono HB.out.size))
  have HP' := Lib.hid (HP.out.below hb)
  have HR' := Lib.hid ((hb.block _ (lt_of_block HR.out)).trans HR.out)
  clear HB
  have HB := HB'
  clear HB'
  clear HP
  have HP := HP'
  clear HP'
  clear HR
  have HR := HR'
  clear HR'
  clear hb
  have ra := cellOf HR.out 0 _ rfl
  have rb := cellOf HR.out 1 _ rfl
  have rl := lt_of_block HR.out
  go_wp2_with fail
  clear ra rb rl
  have hcall := Bounds_any ⟨st, pts⟩ _ w3 HP.out
  rw [HF.out] at hcall
  simp only at hcall
  refine hcall.mono ?_
  clear hcall
  rintro e w4 ⟨v1, rfl, hown, hb⟩
  have HB' := Lib.hid (HB.out.trans (hb.mono HB.out.size))
  have HP' := Lib.hid (HP.out.below hb)
  have HR' := Lib.hid ((hb.block _ (lt_of_block HR.out)).trans HR.out)
  clear HB
  have HB := HB'
  clear HB'
  clear HP
  have HP := HP'
  clear HP'
  clear HR
  have HR := HR'
  clear HR'
  clear hb
  clear hown HF
  have tn : ¬ n < 0 := by omega
  rcases hf'.out with ⟨rfl, hc⟩ | ⟨rfl, hc⟩
  · skip
    clear hf'
    have tc : n ≤ st := by omega
    by_cases t2 : 200 < n
    · skip
      have ra := cellOf HR.out 0 _ rfl
      have rb := cellOf HR.out 1 _ rfl
      have rl := lt_of_block HR.out
      go_wp2_with fail
      clear ra rb rl
      have hcall := awake_any w4
      refine hcall.mono ?_
      clear hcall
      rintro e w5 ⟨rfl, hb⟩
      have HB' := Lib.hid (HB.out.trans (hb.mono HB.out.size))
      have HP' := Lib.hid (HP.out.below hb)
      have HR' := Lib.hid ((hb.block _ (lt_of_block HR.out)).trans HR.out)
      clear HB
      have HB := HB'
      clear HB'
      clear HP
      have HP := HP'
      clear HP'
      clear HR
      have HR := HR'
      clear HR'
      clear hb
      go_wp2
      go_ret
      exact ⟨rfl, HB.out⟩
    have hn200 : n ≤ 200 := by omega
    have ra := cellOf HR.out 0 _ rfl
    have rb := cellOf HR.out 1 _ rfl
    have rl := lt_of_block HR.out
    go_wp2_with fail
    clear ra rb rl
    clear tn tc t2
    have HPa := Lib.hid HP.out
    have HBa := Lib.hid HB.out
    have HB4 := Lib.hid (Below.refl w4.heap.size w4)
    have hb := (Below.refl w4.heap.size w4).alloc (Nat.le_refl _) (Obj.cells #[.int .i64 n, .slice pa pts.length pc] 24)
    have HJ := Lib.hid (heap_alloc_new w4 (Obj.cells #[.int .i64 n, .slice pa pts.length pc] 24))
    have hz6 : (w4.alloc (Obj.cells #[.int .i64 n, .slice pa pts.length pc] 24)).heap.size = w4.heap.size + 1 := by simp
    have HB' := Lib.hid (HB.out.trans (hb.mono HB.out.size))
    have HP' := Lib.hid (HP.out.below hb)
    have HR' := Lib.hid ((hb.block _ (lt_of_block HR.out)).trans HR.out)
    have HB4' := Lib.hid (HB4.out.trans (hb.mono HB4.out.size))
    clear HB
    have HB := HB'
    clear HB'
    clear HP
    have HP := HP'
    clear HP'
    clear HR
    have HR := HR'
    clear HR'
    clear HB4
    have HB4 := HB4'
    clear HB4'
    clear hb
    generalize w4.alloc (Obj.cells #[.int .i64 n, .slice pa pts.length pc] 24) = w6 at *
    have hcall := Bounds_any ⟨n, pts⟩ _ w6 HP.out
    rw [HX.out n hn hn200 (Int.le_refl n)] at hcall
    simp only at hcall
    refine hcall.mono ?_
    clear hcall
    rintro e w7 ⟨v2, rfl, hown, hb⟩
    have HB' := Lib.hid (HB.out.trans (hb.mono HB.out.size))
    have HP' := Lib.hid (HP.out.below hb)
    have HR' := Lib.hid ((hb.block _ (lt_of_block HR.out)).trans HR.out)
    have HB4' := Lib.hid (HB4.out.trans (hb.mono HB4.out.size))
    have HJ' := Lib.hid ((hb.block _ (lt_of_block HJ.out)).trans HJ.out)
    clear HB
    have HB := HB'
    clear HB'
    clear HP
    have HP := HP'
    clear HP'
    clear HR
    have HR := HR'
    clear HR'
    clear HB4
    have HB4 := HB4'
    clear HB4'
    clear HJ
    have HJ := HJ'
    clear HJ'
    clear hb
    clear hown HX
    by_cases hn0 : n = 0
    · skip
      subst hn0
      have ra := cellOf HJ.out 0 _ rfl
      have rb := cellOf HJ.out 1 _ rfl
      have rl := lt_of_block HJ.out
      go_wp2_with fail
      clear ra rb rl
      have hcall := awake_any w7
      refine hcall.mono ?_
      clear hcall
      rintro e w8 ⟨rfl, hb⟩
      have HB' := Lib.hid (HB.out.trans (hb.mono HB.out.size))
      have HP' := Lib.hid (HP.out.below hb)
      have HR' := Lib.hid ((hb.block _ (lt_of_block HR.out)).trans HR.out)
      have HB4' := Lib.hid (HB4.out.trans (hb.mono HB4.out.size))
      have HJ' := Lib.hid ((hb.block _ (lt_of_block HJ.out)).trans HJ.out)
      clear HB
      have HB := HB'
      clear HB'
      clear HP
      have HP := HP'
      clear HP'
      clear HR
      have HR := HR'
      clear HR'
      clear HB4
      have HB4 := HB4'
      clear HB4'
      clear HJ
      have HJ := HJ'
      clear HJ'
      clear hb
      go_wp2
      go_ret
      exact ⟨rfl, HB.out⟩
    obtain ⟨m, hm0, hmn, HM⟩ : ∃ m : Int, 0 ≤ m ∧ m < n ∧ Hid (less % n = m) := ⟨_, Int.emod_nonneg less hn0, Int.emod_lt_of_pos less (by omega), rfl⟩
    have hm200 : m ≤ 200 := by omega
    have t3 : (n == 0) = false := by simp [hn0]
    have ra := cellOf HJ.out 0 _ rfl
    have rb := cellOf HJ.out 1 _ rfl
    have rl := lt_of_block HJ.out
    have f0 := frozen_of_row _ _ 0 _ _ HJ.out
    go_wp2_with fail
    clear ra rb rl
    clear f0
    rw [HM.out]
    have HBs : Hid (Below w4.heap.size w4 (w7.setCell ⟨w4.heap.size, 0, none⟩ (.int .i64 m))) := HB4.out.setCell (p := ⟨w4.heap.size, 0, none⟩) (Nat.le_refl _) _
    clear HB HP HB4 HJ HR
    have HP := Lib.hid (HPa.out.below HBs.out)
    have HB := Lib.hid (HBa.out.trans (HBs.out.mono HBa.out.size))
    clear HBs HPa HBa
    generalize w7.setCell ⟨w4.heap.size, 0, none⟩ (.int .i64 m) = w9 at *
    have hcall := Bounds_any ⟨m, pts⟩ _ w9 HP.out
    rw [HY.out m hm0 hm200 hmn] at hcall
    simp only at hcall
    refine hcall.mono ?_
    clear hcall
    rintro e w10 ⟨v3, rfl, hown, hb⟩
    have HB' := Lib.hid (HB.out.trans (hb.mono HB.out.size))
    have HP' := Lib.hid (HP.out.below hb)
    clear HB
    have HB := HB'
    clear HB'
    clear HP
    have HP := HP'
    clear HP'
    clear hb
    clear hown HY
    go_wp2_with fail
    have hcall := awake_any w10
    refine hcall.mono ?_
    clear hcall
    rintro e w11 ⟨rfl, hb⟩
    have HB' := Lib.hid (HB.out.trans (hb.mono HB.out.size))
    have HP' := Lib.hid (HP.out.below hb)
    clear HB
    have HB := HB'
    clear HB'
    clear HP
    have HP := HP'
    clear HP'
    clear hb
    go_wp2
    go_ret
    exact ⟨rfl, HB.out⟩
  · skip
    clear hf'
    have tc : ¬ n ≤ st := by omega
    by_cases t2 : 200 < n
    · skip
      have ra := cellOf HR.out 0 _ rfl
      have rb := cellOf HR.out 1 _ rfl
      have rl := lt_of_block HR.out
      go_wp2_with fail
      clear ra rb rl
      have hcall := awake_any w4
      refine hcall.mono ?_
      clear hcall
      rintro e w12 ⟨rfl, hb⟩
      have HB' := Lib.hid (HB.out.trans (hb.mono HB.out.size))
      have HP' := Lib.hid (HP.out.below hb)
      have HR' := Lib.hid ((hb.block _ (lt_of_block HR.out)).trans HR.out)
      clear HB
      have HB := HB'
      clear HB'
      clear HP
      have HP := HP'
      clear HP'
      clear HR
      have HR := HR'
      clear HR'
      clear hb
      go_wp2
      go_ret
      exact ⟨rfl, HB.out⟩
    have hn200 : n ≤ 200 := by omega
    have ra := cellOf HR.out 0 _ rfl
    have rb := cellOf HR.out 1 _ rfl
    have rl := lt_of_block HR.out
    go_wp2_with fail
    clear ra rb rl
    clear tn tc t2
    have HPa := Lib.hid HP.out
    have HBa := Lib.hid HB.out
    have HB4 := Lib.hid (Below.refl w4.heap.size w4)
    have hb := (Below.refl w4.heap.size w4).alloc (Nat.le_refl _) (Obj.cells #[.int .i64 n, .slice pa pts.length pc] 24)
    have HJ := Lib.hid (heap_alloc_new w4 (Obj.cells #[.int .i64 n, .slice pa pts.length pc] 24))
    have hz13 : (w4.alloc (Obj.cells #[.int .i64 n, .slice pa pts.length pc] 24)).heap.size = w4.heap.size + 1 := by simp
    have HB' := Lib.hid (HB.out.trans (hb.mono HB.out.size))
    have HP' := Lib.hid (HP.out.below hb)
    have HR' := Lib.hid ((hb.block _ (lt_of_block HR.out)).trans HR.out)
    have HB4' := Lib.hid (HB4.out.trans (hb.mono HB4.out.size))
    clear HB
    have HB := HB'
    clear HB'
    clear HP
    have HP := HP'
    clear HP'
    clear HR
    have HR := HR'
    clear HR'
    clear HB4
    have HB4 := HB4'
    clear HB4'
    clear hb
    generalize w4.alloc (Obj.cells #[.int .i64 n, .slice pa pts.length pc] 24) = w13 at *
    have hcall := Bounds_any ⟨n, pts⟩ _ w13 HP.out
    rw [HX.out n hn hn200 (Int.le_refl n)] at hcall
    simp only at hcall
    refine hcall.mono ?_
    clear hcall
    rintro e w14 ⟨v2, rfl, hown, hb⟩
    have HB' := Lib.hid (HB.out.trans (hb.mono HB.out.size))
    have HP' := Lib.hid (HP.out.below hb)
    have HR' := Lib.hid ((hb.block _ (lt_of_block HR.out)).trans HR.out)
    have HB4' := Lib.hid (HB4.out.trans (hb.mono HB4.out.size))
    have HJ' := Lib.hid ((hb.block _ (lt_of_block HJ.out)).trans HJ.out)
    clear HB
    have HB := HB'
    clear HB'
    clear HP
    have HP := HP'
    clear HP'
    clear HR
    have HR := HR'
    clear HR'
    clear HB4
    have HB4 := HB4'
    clear HB4'
    clear HJ
    have HJ := HJ'
    clear HJ'
    clear hb
    clear hown HX
    by_cases hn0 : n = 0
    · skip
      subst hn0
      have ra := cellOf HJ.out 0 _ rfl
      have rb := cellOf HJ.out 1 _ rfl
      have rl := lt_of_block HJ.out
      go_wp2_with fail
      clear ra rb rl
      have hcall := awake_any w14
      refine hcall.mono ?_
      clear hcall
      rintro e w15 ⟨rfl, hb⟩
      have HB' := Lib.hid (HB.out.trans (hb.mono HB.out.size))
      have HP' := Lib.hid (HP.out.below hb)
      have HR' := Lib.hid ((hb.block _ (lt_of_block HR.out)).trans HR.out)
      have HB4' := Lib.hid (HB4.out.trans (hb.mono HB4.out.size))
      have HJ' := Lib.hid ((hb.block _ (lt_of_block HJ.out)).trans HJ.out)
      clear HB
      have HB := HB'
      clear HB'
      clear HP
      have HP := HP'
      clear HP'
      clear HR
      have HR := HR'
      clear HR'
      clear HB4
      have HB4 := HB4'
      clear HB4'
      clear HJ
      have HJ := HJ'
      clear HJ'
      clear hb
      go_wp2
      go_ret
      exact ⟨rfl, HB.out⟩
    obtain ⟨m, hm0, hmn, HM⟩ : ∃ m : Int, 0 ≤ m ∧ m < n ∧ Hid (less % n = m) := ⟨_, Int.emod_nonneg less hn0, Int.emod_lt_of_pos less (by omega), rfl⟩
    have hm200 : m ≤ 200 := by omega
    have t3 : (n == 0) = false := by simp [hn0]
    have ra := cellOf HJ.out 0 _ rfl
    have rb := cellOf HJ.out 1 _ rfl
    have rl := lt_of_block HJ.out
    have f0 := frozen_of_row _ _ 0 _ _ HJ.out
    go_wp2_with fail
    clear ra rb rl
    clear f0
    rw [HM.out]
    have HBs : Hid (Below w4.heap.size w4 (w14.setCell ⟨w4.heap.size, 0, none⟩ (.int .i64 m))) := HB4.out.setCell (p := ⟨w4.heap.size, 0, none⟩) (Nat.le_refl _) _
    clear HB HP HB4 HJ HR
    have HP := Lib.hid (HPa.out.below HBs.out)
    have HB := Lib.hid (HBa.out.trans (HBs.out.mono HBa.out.size))
    clear HBs HPa HBa
    generalize w14.setCell ⟨w4.heap.size, 0, none⟩ (.int .i64 m) = w16 at *
    have hcall := Bounds_any ⟨m, pts⟩ _ w16 HP.out
    rw [HY.out m hm0 hm200 hmn] at hcall
    simp only at hcall
    refine hcall.mono ?_
    clear hcall
    rintro e w17 ⟨v3, rfl, hown, hb⟩
    have HB' := Lib.hid (HB.out.trans (hb.mono HB.out.size))
    have HP' := Lib.hid (HP.out.below hb)
    clear HB
    have HB := HB'
    clear HB'
    clear HP
    have HP := HP'
    clear HP'
    clear hb
    clear hown HY
    go_wp2_with fail
    have hcall := awake_any w17
    refine hcall.mono ?_
    clear hcall
    rintro e w18 ⟨rfl, hb⟩
    have HB' := Lib.hid (HB.out.trans (hb.mono HB.out.size))
    have HP' := Lib.hid (HP.out.below hb)
    clear HB
    have HB := HB'
    clear HB'
    clear HP
    have HP := HP'
    clear HP'
    clear hb
    go_wp2
    go_ret
    exact ⟨rfl, HB.out⟩
set_option maxRecDepth 100000 in
set_option maxHeartbeats 4000000 in
theorem steeper_any (r : Row) (pv : Value) (less : Int) (hl0 : 0 ≤ less) (hl9 : less ≤ 65535) (w : World) (hP : PtsAt w pv r.pts) :
    Calls Try.prog 11 #[.agg #[.int .i64 r.st, pv], .int .u16 less] w fun e w' => e = .returned (.bool true) ∧ Below w.heap.size w w' := by
  obtain ⟨st, pts⟩ := r
  simp only at hP ⊢
  obtain ⟨lp, pa, pc, rfl, _, _⟩ := id hP
  by_cases hv : errR ⟨st, pts⟩ = 0
  · have hn : needR ⟨st, pts⟩ = (maxN pts (pairsL pts.length), 0) := by unfold needR; rw [if_pos hv]
    have h1 : (needR ⟨st, pts⟩).1 = maxN pts (pairsL pts.length) := by rw [hn]
    have hv' := (check_valid _).1 hv
    have hb := bound_st hv st hv'.s0 hv'.s200
    rw [h1] at hb
    refine steeper_ok st pts pa pc less (maxN pts (pairsL pts.length)) _ hl0 hl9 w hP hn hv (maxN_zero _ _) hb ?_ (fun x h0 h2 hx => ?_) (fun x h0 h2 hx => ?_)
    · split
      · rename_i h; exact .inl ⟨rfl, h⟩
      · rename_i h; exact .inr ⟨rfl, by omega⟩
    · have := bound_st hv x h0 h2
      rw [this, h1]
      exact if_pos hx
    · have := bound_st hv x h0 h2
      rw [this, h1]
      exact if_neg (by omega)
  · have HP := Lib.hid hP
    clear hP
    have HB := Lib.hid (Below.refl w.heap.size w)
    obtain ⟨er, HE⟩ : ∃ er, Hid (errR ⟨st, pts⟩ = er) := ⟨_, rfl⟩
    rw [HE.out] at hv
    have HN : Hid (needR ⟨st, pts⟩ = (0, er)) := by show _ = _; unfold needR; rw [if_neg (by rw [HE.out]; exact hv), HE.out]
    have tv : (er == 0) = false := by simp [hv]
    go_enter Try.func11, Try.ntmps11
    go_wp2_with fail
    have hb := (Below.refl w.heap.size w).alloc (Nat.le_refl _) (Obj.cells #[.int .i64 st, .slice pa pts.length pc] 24)
    have HR := Lib.hid (heap_alloc_new w (Obj.cells #[.int .i64 st, .slice pa pts.length pc] 24))
    have hz1 : (w.alloc (Obj.cells #[.int .i64 st, .slice pa pts.length pc] 24)).heap.size = w.heap.size + 1 := by simp
    have HB' := Lib.hid (HB.out.trans (hb.mono HB.out.size))
    have HP' := Lib.hid (HP.out.below hb)
    clear HB
    have HB := HB'
    clear HB'
    clear HP
    have HP := HP'
    clear HP'
    clear hb
    generalize w.alloc (Obj.cells #[.int .i64 st, .slice pa pts.length pc] 24) = w1 at *
    have hcall := need_any ⟨st, pts⟩ _ w1 HP.out
    rw [HN.out] at hcall
    simp only at hcall
    refine hcall.mono ?_
    clear hcall
    rintro e w2 ⟨rfl, hb⟩
    have HB' := Lib.hid (HB.out.trans (hb.mono HB.out.size))
    have HP' := Lib.hid (HP.out.below hb)
    have HR' := Lib.hid ((hb.block _ (lt_of_block HR.out)).trans HR.out)
    clear HB
    have HB := HB'
    clear HB'
    clear HP
    have HP := HP'
    clear HP'
    clear HR
    have HR := HR'
    clear HR'
    clear hb
    have ra := cellOf HR.out 0 _ rfl
    have rb := cellOf HR.out 1 _ rfl
    have rl := lt_of_block HR.out
    go_wp2_with fail
    clear ra rb rl
    have hcall := valid_any ⟨st, pts⟩ _ w2 HP.out
    rw [HE.out, tv] at hcall
    refine hcall.mono ?_
    clear hcall
    rintro e w3 ⟨rfl, hb⟩
    have HB' := Lib.hid (HB.out.trans (hb.mono HB.out.size))
    have HP' := Lib.hid (HP.out.below hb)
    have HR' := Lib.hid ((hb.block _ (lt_of_block HR.out)).trans HR.out)
    clear HB
    have HB := HB'
    clear HB'
    clear HP
    have HP := HP'
    clear HP'
    clear HR
    have HR := HR'
    clear HR'
    clear hb
    have t2 : (er != 0) = true := by simp [hv]
    go_wp2_with fail
    have hcall := awake_any w3
    refine hcall.mono ?_
    clear hcall
    rintro e w4 ⟨rfl, hb⟩
    have HB' := Lib.hid (HB.out.trans (hb.mono HB.out.size))
    have HP' := Lib.hid (HP.out.below hb)
    have HR' := Lib.hid ((hb.block _ (lt_of_block HR.out)).trans HR.out)
    clear HB
    have HB := HB'
    clear HB'
    clear HP
    have HP := HP'
    clear HP'
    clear HR
    have HR := HR'
    clear HR'
    clear hb
    go_wp2
    go_ret
    exact ⟨rfl, HB.out⟩
end Go.Proofs.Ytompoaglncgomaa
