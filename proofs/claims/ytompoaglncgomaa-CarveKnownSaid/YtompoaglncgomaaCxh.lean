/- CarveKnown of the statements of package carve. -/
import Derived.Test.YtompoaglncgomaaCxg
set_option linter.unusedSimpArgs false
set_option linter.unusedVariables false
namespace Go.Proofs.Ytompoaglncgomaa
open Go Go.RowKit Go.Shelf Cv

theorem k_why0 : whyR (rowR 2) [8, 9, 8, 6] = (0, 0, 0) := by decide +kernel
theorem k_why1 : whyR (rowR 2) [9, 12, 8, 6] = (0, 2, 0) := by decide +kernel
theorem k_why2 : whyR (rowR 2) [3, 9, 7, 6] = (0, 1, 0) := by decide +kernel
theorem k_prev : prevR (rowR 2) = (0, 0, 4) := by decide +kernel
theorem k_need1 : needR (rowR 1) = (2, 0) := by decide +kernel
theorem k_need2 : needR twoR = (0, 0) := by decide +kernel
theorem k_best : bestR (rowR 2) true = ([8, 9, 7, 6], 1, 8, 0) := by decide +kernel
theorem k_two : bestR twoR false = ([8, 8], 0, 2, 0) := by decide +kernel

set_option maxRecDepth 100000 in
set_option maxHeartbeats 16000000 in
theorem known_any (w : World) : Calls Try.prog 6 #[] w fun e w' => e = .returned (.bool true) ∧ Below w.heap.size w w' := by
  have HB := Lib.hid (Below.refl w.heap.size w)
  go_enter Try.func6, Try.ntmps6
  go_wp2_with fail
  have hcall := lrow_any 2 w
  refine hcall.mono ?_
  clear hcall
  rintro e w1 ⟨g, rfl, hP, hb⟩
  have HB' := Lib.hid (HB.out.trans (hb.mono HB.out.size))
  clear HB
  have HB := HB'
  clear HB'
  have HP := Lib.hid (hP)
  clear hb
  clear hP
  go_wp2_with fail
  have hb := (Below.refl w1.heap.size w1).alloc (Nat.le_refl _) (Obj.cells #[.int .i64 2, .slice (some ⟨g, 0, none⟩) 4 4] 24)
  have HR := Lib.hid (heap_alloc_new w1 (Obj.cells #[.int .i64 2, .slice (some ⟨g, 0, none⟩) 4 4] 24))
  have hz2 : (w1.alloc (Obj.cells #[.int .i64 2, .slice (some ⟨g, 0, none⟩) 4 4] 24)).heap.size = w1.heap.size + 1 := by simp
  have HB' := Lib.hid (HB.out.trans (hb.mono HB.out.size))
  have HP' := Lib.hid (HP.out.below hb)
  clear HB
  have HB := HB'
  clear HB'
  clear HP
  have HP := HP'
  clear HP'
  clear hb
  generalize w1.alloc (Obj.cells #[.int .i64 2, .slice (some ⟨g, 0, none⟩) 4 4] 24) = w2 at *
  have hb := (Below.refl w2.heap.size w2).alloc (Nat.le_refl _) (Obj.cells #[.int .i64 8, .int .i64 9, .int .i64 8, .int .i64 6] 3)
  have HS : Hid (IntsAt (w2.alloc (Obj.cells #[.int .i64 8, .int .i64 9, .int .i64 8, .int .i64 6] 3)) (.slice (some ⟨w2.heap.size, 0, none⟩) 4 4) [8, 9, 8, 6]) := ints_new w2 [8, 9, 8, 6] 3 (by simp)
  have hz3 : (w2.alloc (Obj.cells #[.int .i64 8, .int .i64 9, .int .i64 8, .int .i64 6] 3)).heap.size = w2.heap.size + 1 := by simp
  rw [hz2] at HS
  have HB' := Lib.hid (HB.out.trans (hb.mono HB.out.size))
  have HP' := Lib.hid (HP.out.below hb)
  have HR' := Lib.hid ((hb.block _ (lt_of_block HR.out)).trans HR.out)
  clear HB
  have HB := HB'
  clear HB'
  clear HP
  have HP := HP'
  clear HP'
  clear HR
  have HR := HR'
  clear HR'
  clear hb
  generalize w2.alloc (Obj.cells #[.int .i64 8, .int .i64 9, .int .i64 8, .int .i64 6] 3) = w3 at *
  have hcall := Why_any (rowR 2) _ _ [8, 9, 8, 6] _ HP.out HS.out
  rw [k_why0] at hcall
  simp only at hcall
  refine hcall.mono ?_
  clear hcall
  rintro e w4 ⟨rfl, hb⟩
  have HB' := Lib.hid (HB.out.trans (hb.mono HB.out.size))
  have HP' := Lib.hid (HP.out.below hb)
  have HR' := Lib.hid ((hb.block _ (lt_of_block HR.out)).trans HR.out)
  have HS' := Lib.hid (HS.out.below hb)
  clear HB
  have HB := HB'
  clear HB'
  clear HP
  have HP := HP'
  clear HP'
  clear HR
  have HR := HR'
  clear HR'
  clear HS
  have HS := HS'
  clear HS'
  clear hb
  clear HS
  have ra := cellOf HR.out 0 _ rfl
  have rb := cellOf HR.out 1 _ rfl
  have rl := lt_of_block HR.out
  go_wp2_with fail
  clear ra rb rl
  have hb := (Below.refl w4.heap.size w4).alloc (Nat.le_refl _) (Obj.cells #[.int .i64 9, .int .i64 12, .int .i64 8, .int .i64 6] 3)
  have HS : Hid (IntsAt (w4.alloc (Obj.cells #[.int .i64 9, .int .i64 12, .int .i64 8, .int .i64 6] 3)) (.slice (some ⟨w4.heap.size, 0, none⟩) 4 4) [9, 12, 8, 6]) := ints_new w4 [9, 12, 8, 6] 3 (by simp)
  have hz5 : (w4.alloc (Obj.cells #[.int .i64 9, .int .i64 12, .int .i64 8, .int .i64 6] 3)).heap.size = w4.heap.size + 1 := by simp
  have HB' := Lib.hid (HB.out.trans (hb.mono HB.out.size))
  have HP' := Lib.hid (HP.out.below hb)
  have HR' := Lib.hid ((hb.block _ (lt_of_block HR.out)).trans HR.out)
  clear HB
  have HB := HB'
  clear HB'
  clear HP
  have HP := HP'
  clear HP'
  clear HR
  have HR := HR'
  clear HR'
  clear hb
  generalize w4.alloc (Obj.cells #[.int .i64 9, .int .i64 12, .int .i64 8, .int .i64 6] 3) = w5 at *
  have hcall := Why_any (rowR 2) _ _ [9, 12, 8, 6] _ HP.out HS.out
  rw [k_why1] at hcall
  simp only at hcall
  refine hcall.mono ?_
  clear hcall
  rintro e w6 ⟨rfl, hb⟩
  have HB' := Lib.hid (HB.out.trans (hb.mono HB.out.size))
  have HP' := Lib.hid (HP.out.below hb)
  have HR' := Lib.hid ((hb.block _ (lt_of_block HR.out)).trans HR.out)
  have HS' := Lib.hid (HS.out.below hb)
  clear HB
  have HB := HB'
  clear HB'
  clear HP
  have HP := HP'
  clear HP'
  clear HR
  have HR := HR'
  clear HR'
  clear HS
  have HS := HS'
  clear HS'
  clear hb
  clear HS
  have ra := cellOf HR.out 0 _ rfl
  have rb := cellOf HR.out 1 _ rfl
  have rl := lt_of_block HR.out
  go_wp2_with fail
  clear ra rb rl
  have hb := (Below.refl w6.heap.size w6).alloc (Nat.le_refl _) (Obj.cells #[.int .i64 3, .int .i64 9, .int .i64 7, .int .i64 6] 3)
  have HS : Hid (IntsAt (w6.alloc (Obj.cells #[.int .i64 3, .int .i64 9, .int .i64 7, .int .i64 6] 3)) (.slice (some ⟨w6.heap.size, 0, none⟩) 4 4) [3, 9, 7, 6]) := ints_new w6 [3, 9, 7, 6] 3 (by simp)
  have hz7 : (w6.alloc (Obj.cells #[.int .i64 3, .int .i64 9, .int .i64 7, .int .i64 6] 3)).heap.size = w6.heap.size + 1 := by simp
  have HB' := Lib.hid (HB.out.trans (hb.mono HB.out.size))
  have HP' := Lib.hid (HP.out.below hb)
  have HR' := Lib.hid ((hb.block _ (lt_of_block HR.out)).trans HR.out)
  clear HB
  have HB := HB'
  clear HB'
  clear HP
  have HP := HP'
  clear HP'
  clear HR
  have HR := HR'
  clear HR'
  clear hb
  generalize w6.alloc (Obj.cells #[.int .i64 3, .int .i64 9, .int .i64 7, .int .i64 6] 3) = w7 at *
  have hcall := Why_any (rowR 2) _ _ [3, 9, 7, 6] _ HP.out HS.out
  rw [k_why2] at hcall
  simp only at hcall
  refine hcall.mono ?_
  clear hcall
  rintro e w8 ⟨rfl, hb⟩
  have HB' := Lib.hid (HB.out.trans (hb.mono HB.out.size))
  have HP' := Lib.hid (HP.out.below hb)
  have HR' := Lib.hid ((hb.block _ (lt_of_block HR.out)).trans HR.out)
  have HS' := Lib.hid (HS.out.below hb)
  clear HB
  have HB := HB'
  clear HB'
  clear HP
  have HP := HP'
  clear HP'
  clear HR
  have HR := HR'
  clear HR'
  clear HS
  have HS := HS'
  clear HS'
  clear hb
  clear HS
  have ra := cellOf HR.out 0 _ rfl
  have rb := cellOf HR.out 1 _ rfl
  have rl := lt_of_block HR.out
  go_wp2_with fail
  clear ra rb rl
  have hcall := prevents_any (rowR 2) _ _ HP.out
  rw [k_prev] at hcall
  simp only at hcall
  refine hcall.mono ?_
  clear hcall
  rintro e w9 ⟨rfl, hb⟩
  have HB' := Lib.hid (HB.out.trans (hb.mono HB.out.size))
  have HP' := Lib.hid (HP.out.below hb)
  have HR' := Lib.hid ((hb.block _ (lt_of_block HR.out)).trans HR.out)
  clear HB
  have HB := HB'
  clear HB'
  clear HP
  have HP := HP'
  clear HP'
  clear HR
  have HR := HR'
  clear HR'
  clear hb
  go_wp2_with fail
  have hcall := lrow_any 1 w9
  refine hcall.mono ?_
  clear hcall
  rintro e w10 ⟨g1, rfl, hP, hb⟩
  have HB' := Lib.hid (HB.out.trans (hb.mono HB.out.size))
  have HP' := Lib.hid (HP.out.below hb)
  have HR' := Lib.hid ((hb.block _ (lt_of_block HR.out)).trans HR.out)
  clear HB
  have HB := HB'
  clear HB'
  clear HP
  have HP := HP'
  clear HP'
  clear HR
  have HR := HR'
  clear HR'
  have HQ := Lib.hid (hP)
  clear hb
  clear hP
  go_wp2_with fail
  have hcall := need_any (rowR 1) _ _ HQ.out
  rw [k_need1] at hcall
  simp only at hcall
  refine hcall.mono ?_
  clear hcall
  rintro e w11 ⟨rfl, hb⟩
  have HB' := Lib.hid (HB.out.trans (hb.mono HB.out.size))
  have HP' := Lib.hid (HP.out.below hb)
  have HR' := Lib.hid ((hb.block _ (lt_of_block HR.out)).trans HR.out)
  have HQ' := Lib.hid (HQ.out.below hb)
  clear HB
  have HB := HB'
  clear HB'
  clear HP
  have HP := HP'
  clear HP'
  clear HR
  have HR := HR'
  clear HR'
  clear HQ
  have HQ := HQ'
  clear HQ'
  clear hb
  clear HQ
  go_wp2_with fail
  have hcall := ltwo_any w11
  refine hcall.mono ?_
  clear hcall
  rintro e w12 ⟨g2, rfl, hP, hb⟩
  have HB' := Lib.hid (HB.out.trans (hb.mono HB.out.size))
  have HP' := Lib.hid (HP.out.below hb)
  have HR' := Lib.hid ((hb.block _ (lt_of_block HR.out)).trans HR.out)
  clear HB
  have HB := HB'
  clear HB'
  clear HP
  have HP := HP'
  clear HP'
  clear HR
  have HR := HR'
  clear HR'
  have HQ := Lib.hid (hP)
  clear hb
  clear hP
  go_wp2_with fail
  have hcall := need_any twoR _ _ HQ.out
  rw [k_need2] at hcall
  simp only at hcall
  refine hcall.mono ?_
  clear hcall
  rintro e w13 ⟨rfl, hb⟩
  have HB' := Lib.hid (HB.out.trans (hb.mono HB.out.size))
  have HP' := Lib.hid (HP.out.below hb)
  have HR' := Lib.hid ((hb.block _ (lt_of_block HR.out)).trans HR.out)
  have HQ' := Lib.hid (HQ.out.below hb)
  clear HB
  have HB := HB'
  clear HB'
  clear HP
  have HP := HP'
  clear HP'
  clear HR
  have HR := HR'
  clear HR'
  clear HQ
  have HQ := HQ'
  clear HQ'
  clear hb
  clear HQ
  have ra := cellOf HR.out 0 _ rfl
  have rb := cellOf HR.out 1 _ rfl
  have rl := lt_of_block HR.out
  go_wp2_with fail
  clear ra rb rl
  have hcall := Best_any (rowR 2) true _ _ HP.out
  rw [k_best] at hcall
  simp only at hcall
  refine hcall.mono ?_
  clear hcall
  rintro e w14 ⟨v, rfl, hown, hb⟩
  have HB' := Lib.hid (HB.out.trans (hb.mono HB.out.size))
  have HP' := Lib.hid (HP.out.below hb)
  have HR' := Lib.hid ((hb.block _ (lt_of_block HR.out)).trans HR.out)
  clear HB
  have HB := HB'
  clear HB'
  clear HP
  have HP := HP'
  clear HP'
  clear HR
  have HR := HR'
  clear HR'
  clear hb
  obtain ⟨sa, sc, rfl⟩ := own_slice hown
  have HSU := Lib.hid (intsAt_own hown (by simp))
  clear hown
  clear HP HR
  go_wp2_with fail
  have hcall := ltwo_any w14
  refine hcall.mono ?_
  clear hcall
  rintro e w15 ⟨g3, rfl, hP, hb⟩
  have HB' := Lib.hid (HB.out.trans (hb.mono HB.out.size))
  have HSU' := Lib.hid (HSU.out.below hb)
  clear HB
  have HB := HB'
  clear HB'
  clear HSU
  have HSU := HSU'
  clear HSU'
  have HQ := Lib.hid (hP)
  clear hb
  clear hP
  go_wp2_with fail
  have hcall := Best_any twoR false _ _ HQ.out
  rw [k_two] at hcall
  simp only at hcall
  refine hcall.mono ?_
  clear hcall
  rintro e w16 ⟨v, rfl, hown, hb⟩
  have HB' := Lib.hid (HB.out.trans (hb.mono HB.out.size))
  have HSU' := Lib.hid (HSU.out.below hb)
  have HQ' := Lib.hid (HQ.out.below hb)
  clear HB
  have HB := HB'
  clear HB'
  clear HSU
  have HSU := HSU'
  clear HSU'
  clear HQ
  have HQ := HQ'
  clear HQ'
  clear hb
  obtain ⟨ua, uc, rfl⟩ := own_slice hown
  have HUU := Lib.hid (intsAt_own hown (by simp))
  clear hown
  clear HQ
  go_wp2_with fail
  have hb := (Below.refl w16.heap.size w16).alloc (Nat.le_refl _) (Obj.cells #[.int .i64 8, .int .i64 9, .int .i64 7, .int .i64 6] 3)
  have HS : Hid (IntsAt (w16.alloc (Obj.cells #[.int .i64 8, .int .i64 9, .int .i64 7, .int .i64 6] 3)) (.slice (some ⟨w16.heap.size, 0, none⟩) 4 4) [8, 9, 7, 6]) := ints_new w16 [8, 9, 7, 6] 3 (by simp)
  have hz17 : (w16.alloc (Obj.cells #[.int .i64 8, .int .i64 9, .int .i64 7, .int .i64 6] 3)).heap.size = w16.heap.size + 1 := by simp
  have HB' := Lib.hid (HB.out.trans (hb.mono HB.out.size))
  have HSU' := Lib.hid (HSU.out.below hb)
  have HUU' := Lib.hid (HUU.out.below hb)
  clear HB
  have HB := HB'
  clear HB'
  clear HSU
  have HSU := HSU'
  clear HSU'
  clear HUU
  have HUU := HUU'
  clear HUU'
  clear hb
  generalize w16.alloc (Obj.cells #[.int .i64 8, .int .i64 9, .int .i64 7, .int .i64 6] 3) = w17 at *
  have hcall := ints_eq _ _ [8, 9, 7, 6] _ HSU.out HS.out
  refine hcall.mono ?_
  clear hcall
  rintro e w18 ⟨rfl, hb⟩
  have HB' := Lib.hid (HB.out.trans (hb.mono HB.out.size))
  have HSU' := Lib.hid (HSU.out.below hb)
  have HUU' := Lib.hid (HUU.out.below hb)
  have HS' := Lib.hid (HS.out.below hb)
  clear HB
  have HB := HB'
  clear HB'
  clear HSU
  have HSU := HSU'
  clear HSU'
  clear HUU
  have HUU := HUU'
  clear HUU'
  clear HS
  have HS := HS'
  clear HS'
  clear hb
  clear HS HSU
  go_wp2_with fail
  have hb := (Below.refl w18.heap.size w18).alloc (Nat.le_refl _) (Obj.cells #[.int .i64 8, .int .i64 8] 3)
  have HS : Hid (IntsAt (w18.alloc (Obj.cells #[.int .i64 8, .int .i64 8] 3)) (.slice (some ⟨w18.heap.size, 0, none⟩) 2 2) [8, 8]) := ints_new w18 [8, 8] 3 (by simp)
  have hz19 : (w18.alloc (Obj.cells #[.int .i64 8, .int .i64 8] 3)).heap.size = w18.heap.size + 1 := by simp
  have HB' := Lib.hid (HB.out.trans (hb.mono HB.out.size))
  have HUU' := Lib.hid (HUU.out.below hb)
  clear HB
  have HB := HB'
  clear HB'
  clear HUU
  have HUU := HUU'
  clear HUU'
  clear hb
  generalize w18.alloc (Obj.cells #[.int .i64 8, .int .i64 8] 3) = w19 at *
  have hcall := ints_eq _ _ [8, 8] _ HUU.out HS.out
  refine hcall.mono ?_
  clear hcall
  rintro e w20 ⟨rfl, hb⟩
  have HB' := Lib.hid (HB.out.trans (hb.mono HB.out.size))
  have HUU' := Lib.hid (HUU.out.below hb)
  have HS' := Lib.hid (HS.out.below hb)
  clear HB
  have HB := HB'
  clear HB'
  clear HUU
  have HUU := HUU'
  clear HUU'
  clear HS
  have HS := HS'
  clear HS'
  clear hb
  clear HS HUU
  go_wp2_with fail
  have hcall := awake_any w20
  refine hcall.mono ?_
  clear hcall
  rintro e w21 ⟨rfl, hb⟩
  have HB' := Lib.hid (HB.out.trans (hb.mono HB.out.size))
  clear HB
  have HB := HB'
  clear HB'
  clear hb
  go_wp2_with fail
  go_ret
  exact ⟨rfl, HB.out⟩
end Go.Proofs.Ytompoaglncgomaa
