/- EdgeKnown: the call returns true, whatever the memory in which it begins. -/
import Derived.Test.YtcnfhghllengeaaAwk
import Derived.Test.YtcnfhghllengeaaRows
import Derived.ProofKit
import Derived.OpenShut
import Derived.ChangeSame
import Derived.JoinedOf
import Derived.JoinedAt
set_option linter.unusedSimpArgs false
set_option linter.unusedVariables false
namespace Go.Proofs.Ytcnfhghllengeaa
open Go Go.RowKit Go.Shelf Ed

set_option maxRecDepth 100000 in
set_option maxHeartbeats 16000000 in
theorem known_any (w : World) : Calls Try.prog 6 #[] w fun e w' => e = .returned (.bool true) ∧ Below w.heap.size w w' := by
  have HB := Lib.hid (Below.refl w.heap.size w)
  go_enter Try.func6, Try.ntmps6
  go_wp2_with fail
  have hcall := case_any false w
  refine hcall.mono ?_
  clear hcall
  rintro e w1 ⟨sv, ev, rfl, hC, hb⟩
  obtain ⟨sa, sm, sc, rfl⟩ : ∃ a n c, sv = .slice a n c := by obtain ⟨_, a, cap, h, _⟩ := hC.shs; exact ⟨_, _, _, h⟩
  obtain ⟨ea, em, ec, rfl⟩ : ∃ a n c, ev = .slice a n c := by obtain ⟨_, a, cap, h, _⟩ := hC.eds; exact ⟨_, _, _, h⟩
  have HB' := Lib.hid (HB.out.trans (hb.mono HB.out.size))
  clear HB
  have HB := HB'
  clear HB'
  have HCC := Lib.hid (hC)
  clear hb
  clear hC
  go_wp2_with fail
  have hcall := case_any true w1
  refine hcall.mono ?_
  clear hcall
  rintro e w2 ⟨svd, evd, rfl, hC, hb⟩
  obtain ⟨sad, smd, scd, rfl⟩ : ∃ a n c, svd = .slice a n c := by obtain ⟨_, a, cap, h, _⟩ := hC.shs; exact ⟨_, _, _, h⟩
  obtain ⟨ead, emd, ecd, rfl⟩ : ∃ a n c, evd = .slice a n c := by obtain ⟨_, a, cap, h, _⟩ := hC.eds; exact ⟨_, _, _, h⟩
  have HB' := Lib.hid (HB.out.trans (hb.mono HB.out.size))
  have HCC' := Lib.hid (HCC.out.below hb)
  clear HB
  have HB := HB'
  clear HB'
  clear HCC
  have HCC := HCC'
  clear HCC'
  have HCD := Lib.hid (hC)
  clear hb
  clear hC
  go_wp2_with fail
  have hb := (Below.refl w2.heap.size w2).alloc (Nat.le_refl _) (Obj.cells #[.int .i64 1, .slice sa sm sc, .slice ea em ec] 25)
  have HR := Lib.hid (heap_alloc_new w2 (Obj.cells #[.int .i64 1, .slice sa sm sc, .slice ea em ec] 25))
  have hz3 : (w2.alloc (Obj.cells #[.int .i64 1, .slice sa sm sc, .slice ea em ec] 25)).heap.size = w2.heap.size + 1 := by simp
  have HB' := Lib.hid (HB.out.trans (hb.mono HB.out.size))
  have HCC' := Lib.hid (HCC.out.below hb)
  have HCD' := Lib.hid (HCD.out.below hb)
  clear HB
  have HB := HB'
  clear HB'
  clear HCC
  have HCC := HCC'
  clear HCC'
  clear HCD
  have HCD := HCD'
  clear HCD'
  clear hb
  generalize w2.alloc (Obj.cells #[.int .i64 1, .slice sa sm sc, .slice ea em ec] 25) = w3 at *
  have Z3 := Lib.hid hz3
  clear hz3
  have hb := (Below.refl w3.heap.size w3).alloc (Nat.le_refl _) (Obj.cells #[.int .i64 1, .slice sad smd scd, .slice ead emd ecd] 25)
  have HD := Lib.hid (heap_alloc_new w3 (Obj.cells #[.int .i64 1, .slice sad smd scd, .slice ead emd ecd] 25))
  have hz4 : (w3.alloc (Obj.cells #[.int .i64 1, .slice sad smd scd, .slice ead emd ecd] 25)).heap.size = w3.heap.size + 1 := by simp
  have HB' := Lib.hid (HB.out.trans (hb.mono HB.out.size))
  have HCC' := Lib.hid (HCC.out.below hb)
  have HCD' := Lib.hid (HCD.out.below hb)
  have HR' := Lib.hid ((hb.block _ (lt_of_block HR.out)).trans HR.out)
  clear HB
  have HB := HB'
  clear HB'
  clear HCC
  have HCC := HCC'
  clear HCC'
  clear HCD
  have HCD := HCD'
  clear HCD'
  clear HR
  have HR := HR'
  clear HR'
  clear hb
  generalize w3.alloc (Obj.cells #[.int .i64 1, .slice sad smd scd, .slice ead emd ecd] 25) = w4 at *
  have Z4 := Lib.hid hz4
  clear hz4
  rw [Z3.out] at HD
  have hcall := wants_any (caseR false) _ _ 1 _ HCC.out
  rw [k_wants1] at hcall
  simp only at hcall
  refine hcall.mono ?_
  clear hcall
  rintro e w5 ⟨rfl, hb⟩
  have HB' := Lib.hid (HB.out.trans (hb.mono HB.out.size))
  have HCC' := Lib.hid (HCC.out.below hb)
  have HCD' := Lib.hid (HCD.out.below hb)
  have HR' := Lib.hid ((hb.block _ (lt_of_block HR.out)).trans HR.out)
  have HD' := Lib.hid ((hb.block _ (lt_of_block HD.out)).trans HD.out)
  clear HB
  have HB := HB'
  clear HB'
  clear HCC
  have HCC := HCC'
  clear HCC'
  clear HCD
  have HCD := HCD'
  clear HCD'
  clear HR
  have HR := HR'
  clear HR'
  clear HD
  have HD := HD'
  clear HD'
  clear hb
  have cHR0 := cellOf HR.out 0 _ rfl
  have cHR1 := cellOf HR.out 1 _ rfl
  have cHR2 := cellOf HR.out 2 _ rfl
  have lHR := lt_of_block HR.out
  go_wp2_with fail
  clear cHR0 cHR1 cHR2 lHR
  have hb := (Below.refl w5.heap.size w5).alloc (Nat.le_refl _) (Obj.cells #[.int .i64 1, .int .i64 3] 31)
  have HS1 := Lib.hid (heap_alloc_new w5 (Obj.cells #[.int .i64 1, .int .i64 3] 31))
  have hz6 : (w5.alloc (Obj.cells #[.int .i64 1, .int .i64 3] 31)).heap.size = w5.heap.size + 1 := by simp
  have HB' := Lib.hid (HB.out.trans (hb.mono HB.out.size))
  have HCC' := Lib.hid (HCC.out.below hb)
  have HCD' := Lib.hid (HCD.out.below hb)
  have HR' := Lib.hid ((hb.block _ (lt_of_block HR.out)).trans HR.out)
  have HD' := Lib.hid ((hb.block _ (lt_of_block HD.out)).trans HD.out)
  clear HB
  have HB := HB'
  clear HB'
  clear HCC
  have HCC := HCC'
  clear HCC'
  clear HCD
  have HCD := HCD'
  clear HCD'
  clear HR
  have HR := HR'
  clear HR'
  clear HD
  have HD := HD'
  clear HD'
  clear hb
  generalize w5.alloc (Obj.cells #[.int .i64 1, .int .i64 3] 31) = w6 at *
  have Z6 := Lib.hid hz6
  clear hz6
  have hcall := wants_any (caseR false) _ _ 2 _ HCC.out
  rw [k_wants2] at hcall
  simp only at hcall
  refine hcall.mono ?_
  clear hcall
  rintro e w7 ⟨rfl, hb⟩
  have HB' := Lib.hid (HB.out.trans (hb.mono HB.out.size))
  have HCC' := Lib.hid (HCC.out.below hb)
  have HCD' := Lib.hid (HCD.out.below hb)
  have HR' := Lib.hid ((hb.block _ (lt_of_block HR.out)).trans HR.out)
  have HD' := Lib.hid ((hb.block _ (lt_of_block HD.out)).trans HD.out)
  have HS1' := Lib.hid ((hb.block _ (lt_of_block HS1.out)).trans HS1.out)
  clear HB
  have HB := HB'
  clear HB'
  clear HCC
  have HCC := HCC'
  clear HCC'
  clear HCD
  have HCD := HCD'
  clear HCD'
  clear HR
  have HR := HR'
  clear HR'
  clear HD
  have HD := HD'
  clear HD'
  clear HS1
  have HS1 := HS1'
  clear HS1'
  clear hb
  have cHR0 := cellOf HR.out 0 _ rfl
  have cHR1 := cellOf HR.out 1 _ rfl
  have cHR2 := cellOf HR.out 2 _ rfl
  have lHR := lt_of_block HR.out
  go_wp2_with fail
  clear cHR0 cHR1 cHR2 lHR
  have hb := (Below.refl w7.heap.size w7).alloc (Nat.le_refl _) (Obj.cells #[.int .i64 4, .int .i64 6] 31)
  have HS2 := Lib.hid (heap_alloc_new w7 (Obj.cells #[.int .i64 4, .int .i64 6] 31))
  have hz8 : (w7.alloc (Obj.cells #[.int .i64 4, .int .i64 6] 31)).heap.size = w7.heap.size + 1 := by simp
  have HB' := Lib.hid (HB.out.trans (hb.mono HB.out.size))
  have HCC' := Lib.hid (HCC.out.below hb)
  have HCD' := Lib.hid (HCD.out.below hb)
  have HR' := Lib.hid ((hb.block _ (lt_of_block HR.out)).trans HR.out)
  have HD' := Lib.hid ((hb.block _ (lt_of_block HD.out)).trans HD.out)
  have HS1' := Lib.hid ((hb.block _ (lt_of_block HS1.out)).trans HS1.out)
  clear HB
  have HB := HB'
  clear HB'
  clear HCC
  have HCC := HCC'
  clear HCC'
  clear HCD
  have HCD := HCD'
  clear HCD'
  clear HR
  have HR := HR'
  clear HR'
  clear HD
  have HD := HD'
  clear HD'
  clear HS1
  have HS1 := HS1'
  clear HS1'
  clear hb
  generalize w7.alloc (Obj.cells #[.int .i64 4, .int .i64 6] 31) = w8 at *
  have Z8 := Lib.hid hz8
  clear hz8
  have hb := (Below.refl w8.heap.size w8).alloc (Nat.le_refl _) (Obj.cells #[.int .i64 0, .int .i64 0, .int .i64 0] 3)
  have HI : Hid (IntsAt (w8.alloc (Obj.cells #[.int .i64 0, .int .i64 0, .int .i64 0] 3)) (.slice (some ⟨w7.heap.size + 1, 0, none⟩) 3 3) [0, 0, 0]) := ints_at w8 [0, 0, 0] 3 (by simp) (w7.heap.size + 1) (Z8.out)
  have hz9 : (w8.alloc (Obj.cells #[.int .i64 0, .int .i64 0, .int .i64 0] 3)).heap.size = w8.heap.size + 1 := by simp
  have HB' := Lib.hid (HB.out.trans (hb.mono HB.out.size))
  have HCC' := Lib.hid (HCC.out.below hb)
  have HCD' := Lib.hid (HCD.out.below hb)
  have HR' := Lib.hid ((hb.block _ (lt_of_block HR.out)).trans HR.out)
  have HD' := Lib.hid ((hb.block _ (lt_of_block HD.out)).trans HD.out)
  have HS1' := Lib.hid ((hb.block _ (lt_of_block HS1.out)).trans HS1.out)
  have HS2' := Lib.hid ((hb.block _ (lt_of_block HS2.out)).trans HS2.out)
  clear HB
  have HB := HB'
  clear HB'
  clear HCC
  have HCC := HCC'
  clear HCC'
  clear HCD
  have HCD := HCD'
  clear HCD'
  clear HR
  have HR := HR'
  clear HR'
  clear HD
  have HD := HD'
  clear HD'
  clear HS1
  have HS1 := HS1'
  clear HS1'
  clear HS2
  have HS2 := HS2'
  clear HS2'
  clear hb
  generalize w8.alloc (Obj.cells #[.int .i64 0, .int .i64 0, .int .i64 0] 3) = w9 at *
  have Z9 := Lib.hid hz9
  clear hz9
  have hcall := agrees_any (caseR false) _ _ _ [0, 0, 0] _ HCC.out HI.out
  rw [k_odd] at hcall
  simp only at hcall
  refine hcall.mono ?_
  clear hcall
  rintro e w10 ⟨rfl, hb⟩
  have HB' := Lib.hid (HB.out.trans (hb.mono HB.out.size))
  have HCC' := Lib.hid (HCC.out.below hb)
  have HCD' := Lib.hid (HCD.out.below hb)
  have HR' := Lib.hid ((hb.block _ (lt_of_block HR.out)).trans HR.out)
  have HD' := Lib.hid ((hb.block _ (lt_of_block HD.out)).trans HD.out)
  have HS1' := Lib.hid ((hb.block _ (lt_of_block HS1.out)).trans HS1.out)
  have HS2' := Lib.hid ((hb.block _ (lt_of_block HS2.out)).trans HS2.out)
  have HI' := Lib.hid (HI.out.below hb)
  clear HB
  have HB := HB'
  clear HB'
  clear HCC
  have HCC := HCC'
  clear HCC'
  clear HCD
  have HCD := HCD'
  clear HCD'
  clear HR
  have HR := HR'
  clear HR'
  clear HD
  have HD := HD'
  clear HD'
  clear HS1
  have HS1 := HS1'
  clear HS1'
  clear HS2
  have HS2 := HS2'
  clear HS2'
  clear HI
  have HI := HI'
  clear HI'
  clear hb
  clear HI
  have cHR0 := cellOf HR.out 0 _ rfl
  have cHR1 := cellOf HR.out 1 _ rfl
  have cHR2 := cellOf HR.out 2 _ rfl
  have lHR := lt_of_block HR.out
  go_wp2_with fail
  clear cHR0 cHR1 cHR2 lHR
  have hb := (Below.refl w10.heap.size w10).alloc (Nat.le_refl _) (Obj.cells #[.int .i64 3, .int .i64 0, .int .i64 (-1)] 3)
  have HI : Hid (IntsAt (w10.alloc (Obj.cells #[.int .i64 3, .int .i64 0, .int .i64 (-1)] 3)) (.slice (some ⟨w10.heap.size, 0, none⟩) 3 3) [3, 0, -1]) := ints_at w10 [3, 0, -1] 3 (by simp) (w10.heap.size) (rfl)
  have hz11 : (w10.alloc (Obj.cells #[.int .i64 3, .int .i64 0, .int .i64 (-1)] 3)).heap.size = w10.heap.size + 1 := by simp
  have HB' := Lib.hid (HB.out.trans (hb.mono HB.out.size))
  have HCC' := Lib.hid (HCC.out.below hb)
  have HCD' := Lib.hid (HCD.out.below hb)
  have HR' := Lib.hid ((hb.block _ (lt_of_block HR.out)).trans HR.out)
  have HD' := Lib.hid ((hb.block _ (lt_of_block HD.out)).trans HD.out)
  have HS1' := Lib.hid ((hb.block _ (lt_of_block HS1.out)).trans HS1.out)
  have HS2' := Lib.hid ((hb.block _ (lt_of_block HS2.out)).trans HS2.out)
  clear HB
  have HB := HB'
  clear HB'
  clear HCC
  have HCC := HCC'
  clear HCC'
  clear HCD
  have HCD := HCD'
  clear HCD'
  clear HR
  have HR := HR'
  clear HR'
  clear HD
  have HD := HD'
  clear HD'
  clear HS1
  have HS1 := HS1'
  clear HS1'
  clear HS2
  have HS2 := HS2'
  clear HS2'
  clear hb
  generalize w10.alloc (Obj.cells #[.int .i64 3, .int .i64 0, .int .i64 (-1)] 3) = w11 at *
  have Z11 := Lib.hid hz11
  clear hz11
  have hcall := agrees_any (caseR false) _ _ _ [3, 0, -1] _ HCC.out HI.out
  rw [k_even] at hcall
  simp only at hcall
  refine hcall.mono ?_
  clear hcall
  rintro e w12 ⟨rfl, hb⟩
  have HB' := Lib.hid (HB.out.trans (hb.mono HB.out.size))
  have HCC' := Lib.hid (HCC.out.below hb)
  have HCD' := Lib.hid (HCD.out.below hb)
  have HR' := Lib.hid ((hb.block _ (lt_of_block HR.out)).trans HR.out)
  have HD' := Lib.hid ((hb.block _ (lt_of_block HD.out)).trans HD.out)
  have HS1' := Lib.hid ((hb.block _ (lt_of_block HS1.out)).trans HS1.out)
  have HS2' := Lib.hid ((hb.block _ (lt_of_block HS2.out)).trans HS2.out)
  have HI' := Lib.hid (HI.out.below hb)
  clear HB
  have HB := HB'
  clear HB'
  clear HCC
  have HCC := HCC'
  clear HCC'
  clear HCD
  have HCD := HCD'
  clear HCD'
  clear HR
  have HR := HR'
  clear HR'
  clear HD
  have HD := HD'
  clear HD'
  clear HS1
  have HS1 := HS1'
  clear HS1'
  clear HS2
  have HS2 := HS2'
  clear HS2'
  clear HI
  have HI := HI'
  clear HI'
  clear hb
  clear HI
  have cHR0 := cellOf HR.out 0 _ rfl
  have cHR1 := cellOf HR.out 1 _ rfl
  have cHR2 := cellOf HR.out 2 _ rfl
  have lHR := lt_of_block HR.out
  go_wp2_with fail
  clear cHR0 cHR1 cHR2 lHR
  have hcall := rangeT_any (caseR false) _ _ 0 _ HCC.out
  rw [k_range0] at hcall
  simp only at hcall
  refine hcall.mono ?_
  clear hcall
  rintro e w13 ⟨rfl, hb⟩
  have HB' := Lib.hid (HB.out.trans (hb.mono HB.out.size))
  have HCC' := Lib.hid (HCC.out.below hb)
  have HCD' := Lib.hid (HCD.out.below hb)
  have HR' := Lib.hid ((hb.block _ (lt_of_block HR.out)).trans HR.out)
  have HD' := Lib.hid ((hb.block _ (lt_of_block HD.out)).trans HD.out)
  have HS1' := Lib.hid ((hb.block _ (lt_of_block HS1.out)).trans HS1.out)
  have HS2' := Lib.hid ((hb.block _ (lt_of_block HS2.out)).trans HS2.out)
  clear HB
  have HB := HB'
  clear HB'
  clear HCC
  have HCC := HCC'
  clear HCC'
  clear HCD
  have HCD := HCD'
  clear HCD'
  clear HR
  have HR := HR'
  clear HR'
  clear HD
  have HD := HD'
  clear HD'
  clear HS1
  have HS1 := HS1'
  clear HS1'
  clear HS2
  have HS2 := HS2'
  clear HS2'
  clear hb
  have cHR0 := cellOf HR.out 0 _ rfl
  have cHR1 := cellOf HR.out 1 _ rfl
  have cHR2 := cellOf HR.out 2 _ rfl
  have lHR := lt_of_block HR.out
  go_wp2_with fail
  clear cHR0 cHR1 cHR2 lHR
  have hb := (Below.refl w13.heap.size w13).alloc (Nat.le_refl _) (Obj.cells #[.int .i64 (-2), .int .i64 (6)] 31)
  have HS3 := Lib.hid (heap_alloc_new w13 (Obj.cells #[.int .i64 (-2), .int .i64 (6)] 31))
  have hz14 : (w13.alloc (Obj.cells #[.int .i64 (-2), .int .i64 (6)] 31)).heap.size = w13.heap.size + 1 := by simp
  have HB' := Lib.hid (HB.out.trans (hb.mono HB.out.size))
  have HCC' := Lib.hid (HCC.out.below hb)
  have HCD' := Lib.hid (HCD.out.below hb)
  have HR' := Lib.hid ((hb.block _ (lt_of_block HR.out)).trans HR.out)
  have HD' := Lib.hid ((hb.block _ (lt_of_block HD.out)).trans HD.out)
  have HS1' := Lib.hid ((hb.block _ (lt_of_block HS1.out)).trans HS1.out)
  have HS2' := Lib.hid ((hb.block _ (lt_of_block HS2.out)).trans HS2.out)
  clear HB
  have HB := HB'
  clear HB'
  clear HCC
  have HCC := HCC'
  clear HCC'
  clear HCD
  have HCD := HCD'
  clear HCD'
  clear HR
  have HR := HR'
  clear HR'
  clear HD
  have HD := HD'
  clear HD'
  clear HS1
  have HS1 := HS1'
  clear HS1'
  clear HS2
  have HS2 := HS2'
  clear HS2'
  clear hb
  generalize w13.alloc (Obj.cells #[.int .i64 (-2), .int .i64 (6)] 31) = w14 at *
  have Z14 := Lib.hid hz14
  clear hz14
  have hcall := rangeT_any (caseR false) _ _ 2 _ HCC.out
  rw [k_range2] at hcall
  simp only at hcall
  refine hcall.mono ?_
  clear hcall
  rintro e w15 ⟨rfl, hb⟩
  have HB' := Lib.hid (HB.out.trans (hb.mono HB.out.size))
  have HCC' := Lib.hid (HCC.out.below hb)
  have HCD' := Lib.hid (HCD.out.below hb)
  have HR' := Lib.hid ((hb.block _ (lt_of_block HR.out)).trans HR.out)
  have HD' := Lib.hid ((hb.block _ (lt_of_block HD.out)).trans HD.out)
  have HS1' := Lib.hid ((hb.block _ (lt_of_block HS1.out)).trans HS1.out)
  have HS2' := Lib.hid ((hb.block _ (lt_of_block HS2.out)).trans HS2.out)
  have HS3' := Lib.hid ((hb.block _ (lt_of_block HS3.out)).trans HS3.out)
  clear HB
  have HB := HB'
  clear HB'
  clear HCC
  have HCC := HCC'
  clear HCC'
  clear HCD
  have HCD := HCD'
  clear HCD'
  clear HR
  have HR := HR'
  clear HR'
  clear HD
  have HD := HD'
  clear HD'
  clear HS1
  have HS1 := HS1'
  clear HS1'
  clear HS2
  have HS2 := HS2'
  clear HS2'
  clear HS3
  have HS3 := HS3'
  clear HS3'
  clear hb
  have cHR0 := cellOf HR.out 0 _ rfl
  have cHR1 := cellOf HR.out 1 _ rfl
  have cHR2 := cellOf HR.out 2 _ rfl
  have lHR := lt_of_block HR.out
  go_wp2_with fail
  clear cHR0 cHR1 cHR2 lHR
  have hb := (Below.refl w15.heap.size w15).alloc (Nat.le_refl _) (Obj.cells #[.int .i64 (-6), .int .i64 (2)] 31)
  have HS4 := Lib.hid (heap_alloc_new w15 (Obj.cells #[.int .i64 (-6), .int .i64 (2)] 31))
  have hz16 : (w15.alloc (Obj.cells #[.int .i64 (-6), .int .i64 (2)] 31)).heap.size = w15.heap.size + 1 := by simp
  have HB' := Lib.hid (HB.out.trans (hb.mono HB.out.size))
  have HCC' := Lib.hid (HCC.out.below hb)
  have HCD' := Lib.hid (HCD.out.below hb)
  have HR' := Lib.hid ((hb.block _ (lt_of_block HR.out)).trans HR.out)
  have HD' := Lib.hid ((hb.block _ (lt_of_block HD.out)).trans HD.out)
  have HS1' := Lib.hid ((hb.block _ (lt_of_block HS1.out)).trans HS1.out)
  have HS2' := Lib.hid ((hb.block _ (lt_of_block HS2.out)).trans HS2.out)
  have HS3' := Lib.hid ((hb.block _ (lt_of_block HS3.out)).trans HS3.out)
  clear HB
  have HB := HB'
  clear HB'
  clear HCC
  have HCC := HCC'
  clear HCC'
  clear HCD
  have HCD := HCD'
  clear HCD'
  clear HR
  have HR := HR'
  clear HR'
  clear HD
  have HD := HD'
  clear HD'
  clear HS1
  have HS1 := HS1'
  clear HS1'
  clear HS2
  have HS2 := HS2'
  clear HS2'
  clear HS3
  have HS3 := HS3'
  clear HS3'
  clear hb
  generalize w15.alloc (Obj.cells #[.int .i64 (-6), .int .i64 (2)] 31) = w16 at *
  have Z16 := Lib.hid hz16
  clear hz16
  have hb := (Below.refl w16.heap.size w16).alloc (Nat.le_refl _) (Obj.cells #[.int .i64 1, .int .i64 0, .int .i64 1] 3)
  have HI : Hid (IntsAt (w16.alloc (Obj.cells #[.int .i64 1, .int .i64 0, .int .i64 1] 3)) (.slice (some ⟨w15.heap.size + 1, 0, none⟩) 3 3) [1, 0, 1]) := ints_at w16 [1, 0, 1] 3 (by simp) (w15.heap.size + 1) (Z16.out)
  have hz17 : (w16.alloc (Obj.cells #[.int .i64 1, .int .i64 0, .int .i64 1] 3)).heap.size = w16.heap.size + 1 := by simp
  have HB' := Lib.hid (HB.out.trans (hb.mono HB.out.size))
  have HCC' := Lib.hid (HCC.out.below hb)
  have HCD' := Lib.hid (HCD.out.below hb)
  have HR' := Lib.hid ((hb.block _ (lt_of_block HR.out)).trans HR.out)
  have HD' := Lib.hid ((hb.block _ (lt_of_block HD.out)).trans HD.out)
  have HS1' := Lib.hid ((hb.block _ (lt_of_block HS1.out)).trans HS1.out)
  have HS2' := Lib.hid ((hb.block _ (lt_of_block HS2.out)).trans HS2.out)
  have HS3' := Lib.hid ((hb.block _ (lt_of_block HS3.out)).trans HS3.out)
  have HS4' := Lib.hid ((hb.block _ (lt_of_block HS4.out)).trans HS4.out)
  clear HB
  have HB := HB'
  clear HB'
  clear HCC
  have HCC := HCC'
  clear HCC'
  clear HCD
  have HCD := HCD'
  clear HCD'
  clear HR
  have HR := HR'
  clear HR'
  clear HD
  have HD := HD'
  clear HD'
  clear HS1
  have HS1 := HS1'
  clear HS1'
  clear HS2
  have HS2 := HS2'
  clear HS2'
  clear HS3
  have HS3 := HS3'
  clear HS3'
  clear HS4
  have HS4 := HS4'
  clear HS4'
  clear hb
  generalize w16.alloc (Obj.cells #[.int .i64 1, .int .i64 0, .int .i64 1] 3) = w17 at *
  have Z17 := Lib.hid hz17
  clear hz17
  have hcall := boundT_any (caseR false) _ _ _ [1, 0, 1] _ HCC.out HI.out
  rw [v_best] at hcall
  simp only at hcall
  refine hcall.mono ?_
  clear hcall
  rintro e w18 ⟨rfl, hb⟩
  have HB' := Lib.hid (HB.out.trans (hb.mono HB.out.size))
  have HCC' := Lib.hid (HCC.out.below hb)
  have HCD' := Lib.hid (HCD.out.below hb)
  have HR' := Lib.hid ((hb.block _ (lt_of_block HR.out)).trans HR.out)
  have HD' := Lib.hid ((hb.block _ (lt_of_block HD.out)).trans HD.out)
  have HS1' := Lib.hid ((hb.block _ (lt_of_block HS1.out)).trans HS1.out)
  have HS2' := Lib.hid ((hb.block _ (lt_of_block HS2.out)).trans HS2.out)
  have HS3' := Lib.hid ((hb.block _ (lt_of_block HS3.out)).trans HS3.out)
  have HS4' := Lib.hid ((hb.block _ (lt_of_block HS4.out)).trans HS4.out)
  have HI' := Lib.hid (HI.out.below hb)
  clear HB
  have HB := HB'
  clear HB'
  clear HCC
  have HCC := HCC'
  clear HCC'
  clear HCD
  have HCD := HCD'
  clear HCD'
  clear HR
  have HR := HR'
  clear HR'
  clear HD
  have HD := HD'
  clear HD'
  clear HS1
  have HS1 := HS1'
  clear HS1'
  clear HS2
  have HS2 := HS2'
  clear HS2'
  clear HS3
  have HS3 := HS3'
  clear HS3'
  clear HS4
  have HS4 := HS4'
  clear HS4'
  clear HI
  have HI := HI'
  clear HI'
  clear hb
  clear HI
  have cHR0 := cellOf HR.out 0 _ rfl
  have cHR1 := cellOf HR.out 1 _ rfl
  have cHR2 := cellOf HR.out 2 _ rfl
  have lHR := lt_of_block HR.out
  go_wp2_with fail
  clear cHR0 cHR1 cHR2 lHR
  have hb := (Below.refl w18.heap.size w18).alloc (Nat.le_refl _) (Obj.cells #[.int .i64 (-1), .int .i64 0, .int .i64 0] 3)
  have HI : Hid (IntsAt (w18.alloc (Obj.cells #[.int .i64 (-1), .int .i64 0, .int .i64 0] 3)) (.slice (some ⟨w18.heap.size, 0, none⟩) 3 3) [-1, 0, 0]) := ints_at w18 [-1, 0, 0] 3 (by simp) (w18.heap.size) (rfl)
  have hz19 : (w18.alloc (Obj.cells #[.int .i64 (-1), .int .i64 0, .int .i64 0] 3)).heap.size = w18.heap.size + 1 := by simp
  have HB' := Lib.hid (HB.out.trans (hb.mono HB.out.size))
  have HCC' := Lib.hid (HCC.out.below hb)
  have HCD' := Lib.hid (HCD.out.below hb)
  have HR' := Lib.hid ((hb.block _ (lt_of_block HR.out)).trans HR.out)
  have HD' := Lib.hid ((hb.block _ (lt_of_block HD.out)).trans HD.out)
  have HS1' := Lib.hid ((hb.block _ (lt_of_block HS1.out)).trans HS1.out)
  have HS2' := Lib.hid ((hb.block _ (lt_of_block HS2.out)).trans HS2.out)
  have HS3' := Lib.hid ((hb.block _ (lt_of_block HS3.out)).trans HS3.out)
  have HS4' := Lib.hid ((hb.block _ (lt_of_block HS4.out)).trans HS4.out)
  clear HB
  have HB := HB'
  clear HB'
  clear HCC
  have HCC := HCC'
  clear HCC'
  clear HCD
  have HCD := HCD'
  clear HCD'
  clear HR
  have HR := HR'
  clear HR'
  clear HD
  have HD := HD'
  clear HD'
  clear HS1
  have HS1 := HS1'
  clear HS1'
  clear HS2
  have HS2 := HS2'
  clear HS2'
  clear HS3
  have HS3 := HS3'
  clear HS3'
  clear HS4
  have HS4 := HS4'
  clear HS4'
  clear hb
  generalize w18.alloc (Obj.cells #[.int .i64 (-1), .int .i64 0, .int .i64 0] 3) = w19 at *
  have Z19 := Lib.hid hz19
  clear hz19
  have hcall := boundT_any (caseR false) _ _ _ [-1, 0, 0] _ HCC.out HI.out
  rw [k_bound1] at hcall
  simp only at hcall
  refine hcall.mono ?_
  clear hcall
  rintro e w20 ⟨rfl, hb⟩
  have HB' := Lib.hid (HB.out.trans (hb.mono HB.out.size))
  have HCC' := Lib.hid (HCC.out.below hb)
  have HCD' := Lib.hid (HCD.out.below hb)
  have HR' := Lib.hid ((hb.block _ (lt_of_block HR.out)).trans HR.out)
  have HD' := Lib.hid ((hb.block _ (lt_of_block HD.out)).trans HD.out)
  have HS1' := Lib.hid ((hb.block _ (lt_of_block HS1.out)).trans HS1.out)
  have HS2' := Lib.hid ((hb.block _ (lt_of_block HS2.out)).trans HS2.out)
  have HS3' := Lib.hid ((hb.block _ (lt_of_block HS3.out)).trans HS3.out)
  have HS4' := Lib.hid ((hb.block _ (lt_of_block HS4.out)).trans HS4.out)
  have HI' := Lib.hid (HI.out.below hb)
  clear HB
  have HB := HB'
  clear HB'
  clear HCC
  have HCC := HCC'
  clear HCC'
  clear HCD
  have HCD := HCD'
  clear HCD'
  clear HR
  have HR := HR'
  clear HR'
  clear HD
  have HD := HD'
  clear HD'
  clear HS1
  have HS1 := HS1'
  clear HS1'
  clear HS2
  have HS2 := HS2'
  clear HS2'
  clear HS3
  have HS3 := HS3'
  clear HS3'
  clear HS4
  have HS4 := HS4'
  clear HS4'
  clear HI
  have HI := HI'
  clear HI'
  clear hb
  clear HI
  have cHD0 := cellOf HD.out 0 _ rfl
  have cHD1 := cellOf HD.out 1 _ rfl
  have cHD2 := cellOf HD.out 2 _ rfl
  have lHD := lt_of_block HD.out
  go_wp2_with fail
  clear cHD0 cHD1 cHD2 lHD
  have hb := (Below.refl w20.heap.size w20).alloc (Nat.le_refl _) (Obj.cells #[.int .i64 0, .int .i64 0, .int .i64 13, .int .i64 (-13)] 3)
  have HI : Hid (IntsAt (w20.alloc (Obj.cells #[.int .i64 0, .int .i64 0, .int .i64 13, .int .i64 (-13)] 3)) (.slice (some ⟨w20.heap.size, 0, none⟩) 4 4) [0, 0, 13, -13]) := ints_at w20 [0, 0, 13, -13] 3 (by simp) (w20.heap.size) (rfl)
  have hz21 : (w20.alloc (Obj.cells #[.int .i64 0, .int .i64 0, .int .i64 13, .int .i64 (-13)] 3)).heap.size = w20.heap.size + 1 := by simp
  have HB' := Lib.hid (HB.out.trans (hb.mono HB.out.size))
  have HCC' := Lib.hid (HCC.out.below hb)
  have HCD' := Lib.hid (HCD.out.below hb)
  have HR' := Lib.hid ((hb.block _ (lt_of_block HR.out)).trans HR.out)
  have HD' := Lib.hid ((hb.block _ (lt_of_block HD.out)).trans HD.out)
  have HS1' := Lib.hid ((hb.block _ (lt_of_block HS1.out)).trans HS1.out)
  have HS2' := Lib.hid ((hb.block _ (lt_of_block HS2.out)).trans HS2.out)
  have HS3' := Lib.hid ((hb.block _ (lt_of_block HS3.out)).trans HS3.out)
  have HS4' := Lib.hid ((hb.block _ (lt_of_block HS4.out)).trans HS4.out)
  clear HB
  have HB := HB'
  clear HB'
  clear HCC
  have HCC := HCC'
  clear HCC'
  clear HCD
  have HCD := HCD'
  clear HCD'
  clear HR
  have HR := HR'
  clear HR'
  clear HD
  have HD := HD'
  clear HD'
  clear HS1
  have HS1 := HS1'
  clear HS1'
  clear HS2
  have HS2 := HS2'
  clear HS2'
  clear HS3
  have HS3 := HS3'
  clear HS3'
  clear HS4
  have HS4 := HS4'
  clear HS4'
  clear hb
  generalize w20.alloc (Obj.cells #[.int .i64 0, .int .i64 0, .int .i64 13, .int .i64 (-13)] 3) = w21 at *
  have Z21 := Lib.hid hz21
  clear hz21
  have hcall := boundT_any (caseR true) _ _ _ [0, 0, 13, -13] _ HCD.out HI.out
  rw [k_bound2] at hcall
  simp only at hcall
  refine hcall.mono ?_
  clear hcall
  rintro e w22 ⟨rfl, hb⟩
  have HB' := Lib.hid (HB.out.trans (hb.mono HB.out.size))
  have HCC' := Lib.hid (HCC.out.below hb)
  have HCD' := Lib.hid (HCD.out.below hb)
  have HR' := Lib.hid ((hb.block _ (lt_of_block HR.out)).trans HR.out)
  have HD' := Lib.hid ((hb.block _ (lt_of_block HD.out)).trans HD.out)
  have HS1' := Lib.hid ((hb.block _ (lt_of_block HS1.out)).trans HS1.out)
  have HS2' := Lib.hid ((hb.block _ (lt_of_block HS2.out)).trans HS2.out)
  have HS3' := Lib.hid ((hb.block _ (lt_of_block HS3.out)).trans HS3.out)
  have HS4' := Lib.hid ((hb.block _ (lt_of_block HS4.out)).trans HS4.out)
  have HI' := Lib.hid (HI.out.below hb)
  clear HB
  have HB := HB'
  clear HB'
  clear HCC
  have HCC := HCC'
  clear HCC'
  clear HCD
  have HCD := HCD'
  clear HCD'
  clear HR
  have HR := HR'
  clear HR'
  clear HD
  have HD := HD'
  clear HD'
  clear HS1
  have HS1 := HS1'
  clear HS1'
  clear HS2
  have HS2 := HS2'
  clear HS2'
  clear HS3
  have HS3 := HS3'
  clear HS3'
  clear HS4
  have HS4 := HS4'
  clear HS4'
  clear HI
  have HI := HI'
  clear HI'
  clear hb
  clear HI
  have cHR0 := cellOf HR.out 0 _ rfl
  have cHR1 := cellOf HR.out 1 _ rfl
  have cHR2 := cellOf HR.out 2 _ rfl
  have lHR := lt_of_block HR.out
  go_wp2_with fail
  clear cHR0 cHR1 cHR2 lHR
  have hcall := without_any (caseR false) _ _ _ HCC.out
  refine hcall.mono ?_
  clear hcall
  rintro e w23 ⟨_, hl, hb⟩
  obtain ⟨v, rfl, hi⟩ := hl (v_err _)
  rw [k_without] at hi
  obtain ⟨oa, oc, rfl⟩ : ∃ a c, v = .slice a 0 c := by obtain ⟨_, a, cap, h, _⟩ := hi; exact ⟨_, _, h⟩
  have HB' := Lib.hid (HB.out.trans (hb.mono HB.out.size))
  have HCC' := Lib.hid (HCC.out.below hb)
  have HCD' := Lib.hid (HCD.out.below hb)
  have HR' := Lib.hid ((hb.block _ (lt_of_block HR.out)).trans HR.out)
  have HD' := Lib.hid ((hb.block _ (lt_of_block HD.out)).trans HD.out)
  have HS1' := Lib.hid ((hb.block _ (lt_of_block HS1.out)).trans HS1.out)
  have HS2' := Lib.hid ((hb.block _ (lt_of_block HS2.out)).trans HS2.out)
  have HS3' := Lib.hid ((hb.block _ (lt_of_block HS3.out)).trans HS3.out)
  have HS4' := Lib.hid ((hb.block _ (lt_of_block HS4.out)).trans HS4.out)
  clear HB
  have HB := HB'
  clear HB'
  clear HCC
  have HCC := HCC'
  clear HCC'
  clear HCD
  have HCD := HCD'
  clear HCD'
  clear HR
  have HR := HR'
  clear HR'
  clear HD
  have HD := HD'
  clear HD'
  clear HS1
  have HS1 := HS1'
  clear HS1'
  clear HS2
  have HS2 := HS2'
  clear HS2'
  clear HS3
  have HS3 := HS3'
  clear HS3'
  clear HS4
  have HS4 := HS4'
  clear HS4'
  have HOU := Lib.hid (hi)
  clear hb
  clear hi hl
  go_wp2_with fail
  simp only [List.append_eq, List.cons_append, List.nil_append]
  refine wp_region_noPanic ?_
  refine wp_region_held_drew (S := (fun W' => W'.cell? ⟨w5.heap.size, 0, none⟩ = some (.int .i64 1) ∧ W'.cell? ⟨w5.heap.size, 1, none⟩ = some (.int .i64 3) ∧ W'.cell? ⟨w7.heap.size, 0, none⟩ = some (.int .i64 4) ∧ W'.cell? ⟨w7.heap.size, 1, none⟩ = some (.int .i64 6) ∧ W'.cell? ⟨w13.heap.size, 0, none⟩ = some (.int .i64 (-2)) ∧ W'.cell? ⟨w13.heap.size, 1, none⟩ = some (.int .i64 6) ∧ W'.cell? ⟨w15.heap.size, 0, none⟩ = some (.int .i64 (-6)) ∧ W'.cell? ⟨w15.heap.size, 1, none⟩ = some (.int .i64 2) ∧ Below w23.heap.size w23 W')) (by kernel_rfl) ?_ (fun hh0 => ?_)
  · try dsimp only
    exact ⟨cellOf HS1.out 0 _ rfl, cellOf HS1.out 1 _ rfl, cellOf HS2.out 0 _ rfl, cellOf HS2.out 1 _ rfl, cellOf HS3.out 0 _ rfl, cellOf HS3.out 1 _ rfl, cellOf HS4.out 0 _ rfl, cellOf HS4.out 1 _ rfl, (Below.refl _ _).drew⟩
  refine wpAnyH_take (i := 0) (v := ?_) rfl (by as_aux_lemma => kernel_rfl) (by as_aux_lemma => kernel_rfl) (by as_aux_lemma => kernel_rfl) (fun _ _ _ h => h) (Or.inl ⟨by rfl, ?_⟩) (by assumption) ?_
  rotate_left
  · intro w hSw
    try dsimp only at hSw
    go_simp
    try with_reducible rfl
  try simp only [Act.put, List.getElem_toArray, List.getElem_cons_succ, List.getElem_cons_zero, List.setIfInBounds_toArray, List.set_cons_zero, List.set_cons_succ]
  refine wpAnyH_take (i := 1) (v := ?_) rfl (by as_aux_lemma => kernel_rfl) (by as_aux_lemma => kernel_rfl) (by as_aux_lemma => kernel_rfl) (fun _ _ _ h => h) (Or.inl ⟨by rfl, ?_⟩) (by assumption) ?_
  rotate_left
  · intro w hSw
    try dsimp only at hSw
    go_simp
    try with_reducible rfl
  try simp only [Act.put, List.getElem_toArray, List.getElem_cons_succ, List.getElem_cons_zero, List.setIfInBounds_toArray, List.set_cons_zero, List.set_cons_succ]
  refine wpAnyH_take (i := 2) (v := ?_) rfl (by as_aux_lemma => kernel_rfl) (by as_aux_lemma => kernel_rfl) (by as_aux_lemma => kernel_rfl) (fun _ _ _ h => h) (Or.inl ⟨by rfl, ?_⟩) (by assumption) ?_
  rotate_left
  · intro w hSw
    try dsimp only at hSw
    go_simp
    try with_reducible rfl
  try simp only [Act.put, List.getElem_toArray, List.getElem_cons_succ, List.getElem_cons_zero, List.setIfInBounds_toArray, List.set_cons_zero, List.set_cons_succ]
  refine wpAnyH_take (i := 3) (v := ?_) rfl (by as_aux_lemma => kernel_rfl) (by as_aux_lemma => kernel_rfl) (by as_aux_lemma => kernel_rfl) (fun _ _ _ h => h) (Or.inl ⟨by rfl, ?_⟩) (by assumption) ?_
  rotate_left
  · intro w hSw
    try dsimp only at hSw
    go_simp
    try with_reducible rfl
  try simp only [Act.put, List.getElem_toArray, List.getElem_cons_succ, List.getElem_cons_zero, List.setIfInBounds_toArray, List.set_cons_zero, List.set_cons_succ]
  refine wpAnyH_take (i := 4) (v := ?_) rfl (by as_aux_lemma => kernel_rfl) (by as_aux_lemma => kernel_rfl) (by as_aux_lemma => kernel_rfl) (fun _ _ _ h => h) (Or.inl ⟨by rfl, ?_⟩) (by assumption) ?_
  rotate_left
  · intro w hSw
    try dsimp only at hSw
    go_simp
    try with_reducible rfl
  try simp only [Act.put, List.getElem_toArray, List.getElem_cons_succ, List.getElem_cons_zero, List.setIfInBounds_toArray, List.set_cons_zero, List.set_cons_succ]
  refine wpAnyH_take (i := 5) (v := ?_) rfl (by as_aux_lemma => kernel_rfl) (by as_aux_lemma => kernel_rfl) (by as_aux_lemma => kernel_rfl) (fun _ _ _ h => h) (Or.inl ⟨by rfl, ?_⟩) (by assumption) ?_
  rotate_left
  · intro w hSw
    try dsimp only at hSw
    go_simp
    try with_reducible rfl
  try simp only [Act.put, List.getElem_toArray, List.getElem_cons_succ, List.getElem_cons_zero, List.setIfInBounds_toArray, List.set_cons_zero, List.set_cons_succ]
  refine wpAnyH_take (i := 6) (v := ?_) rfl (by as_aux_lemma => kernel_rfl) (by as_aux_lemma => kernel_rfl) (by as_aux_lemma => kernel_rfl) (fun _ _ _ h => h) (Or.inl ⟨by rfl, ?_⟩) (by assumption) ?_
  rotate_left
  · intro w hSw
    try dsimp only at hSw
    go_simp
    try with_reducible rfl
  try simp only [Act.put, List.getElem_toArray, List.getElem_cons_succ, List.getElem_cons_zero, List.setIfInBounds_toArray, List.set_cons_zero, List.set_cons_succ]
  refine wpAnyH_take (i := 7) (v := ?_) rfl (by as_aux_lemma => kernel_rfl) (by as_aux_lemma => kernel_rfl) (by as_aux_lemma => kernel_rfl) (fun _ _ _ h => h) (Or.inl ⟨by rfl, ?_⟩) (by assumption) ?_
  rotate_left
  · intro w hSw
    try dsimp only at hSw
    go_simp
    try with_reducible rfl
  try simp only [Act.put, List.getElem_toArray, List.getElem_cons_succ, List.getElem_cons_zero, List.setIfInBounds_toArray, List.set_cons_zero, List.set_cons_succ]
  refine wpAnyH_take (i := 8) (v := ?_) rfl (by as_aux_lemma => kernel_rfl) (by as_aux_lemma => kernel_rfl) (by as_aux_lemma => kernel_rfl) (fun _ _ _ h => h) (Or.inl ⟨by rfl, ?_⟩) (by assumption) ?_
  rotate_left
  · intro w hSw
    try dsimp only at hSw
    go_simp
    try with_reducible rfl
  try simp only [Act.put, List.getElem_toArray, List.getElem_cons_succ, List.getElem_cons_zero, List.setIfInBounds_toArray, List.set_cons_zero, List.set_cons_succ]
  refine wpAnyH_take (i := 9) (v := ?_) rfl (by as_aux_lemma => kernel_rfl) (by as_aux_lemma => kernel_rfl) (by as_aux_lemma => kernel_rfl) (fun _ _ _ h => h) (Or.inl ⟨by rfl, ?_⟩) (by assumption) ?_
  rotate_left
  · intro w hSw
    try dsimp only at hSw
    go_simp
    try with_reducible rfl
  try simp only [Act.put, List.getElem_toArray, List.getElem_cons_succ, List.getElem_cons_zero, List.setIfInBounds_toArray, List.set_cons_zero, List.set_cons_succ]
  refine wpAnyH_take (i := 10) (v := ?_) rfl (by as_aux_lemma => kernel_rfl) (by as_aux_lemma => kernel_rfl) (by as_aux_lemma => kernel_rfl) (fun _ _ _ h => h) (Or.inl ⟨by rfl, ?_⟩) (by assumption) ?_
  rotate_left
  · intro w hSw
    try dsimp only at hSw
    go_simp
    try with_reducible rfl
  try simp only [Act.put, List.getElem_toArray, List.getElem_cons_succ, List.getElem_cons_zero, List.setIfInBounds_toArray, List.set_cons_zero, List.set_cons_succ]
  refine wpAnyH_take (i := 11) (v := ?_) rfl (by as_aux_lemma => kernel_rfl) (by as_aux_lemma => kernel_rfl) (by as_aux_lemma => kernel_rfl) (fun _ _ _ h => h) (Or.inl ⟨by rfl, ?_⟩) (by assumption) ?_
  rotate_left
  · intro w hSw
    try dsimp only at hSw
    go_simp
    try with_reducible rfl
  try simp only [Act.put, List.getElem_toArray, List.getElem_cons_succ, List.getElem_cons_zero, List.setIfInBounds_toArray, List.set_cons_zero, List.set_cons_succ]
  refine wpAnyH_take (i := 12) (v := ?_) rfl (by as_aux_lemma => kernel_rfl) (by as_aux_lemma => kernel_rfl) (by as_aux_lemma => kernel_rfl) (fun _ _ _ h => h) (Or.inl ⟨by rfl, ?_⟩) (by assumption) ?_
  rotate_left
  · intro w hSw
    try dsimp only at hSw
    go_simp
    try with_reducible rfl
  try simp only [Act.put, List.getElem_toArray, List.getElem_cons_succ, List.getElem_cons_zero, List.setIfInBounds_toArray, List.set_cons_zero, List.set_cons_succ]
  refine wpAnyH_take (i := 13) (v := ?_) rfl (by as_aux_lemma => kernel_rfl) (by as_aux_lemma => kernel_rfl) (by as_aux_lemma => kernel_rfl) (fun _ _ _ h => h) (Or.inl ⟨by rfl, ?_⟩) (by assumption) ?_
  rotate_left
  · intro w hSw
    try dsimp only at hSw
    go_simp
    try with_reducible rfl
  try simp only [Act.put, List.getElem_toArray, List.getElem_cons_succ, List.getElem_cons_zero, List.setIfInBounds_toArray, List.set_cons_zero, List.set_cons_succ]
  refine wpAnyH_take (i := 14) (v := ?_) rfl (by as_aux_lemma => kernel_rfl) (by as_aux_lemma => kernel_rfl) (by as_aux_lemma => kernel_rfl) (fun _ _ _ h => h) (Or.inl ⟨by rfl, ?_⟩) (by assumption) ?_
  rotate_left
  · intro w hSw
    try dsimp only at hSw
    go_simp
    try with_reducible rfl
  try simp only [Act.put, List.getElem_toArray, List.getElem_cons_succ, List.getElem_cons_zero, List.setIfInBounds_toArray, List.set_cons_zero, List.set_cons_succ]
  refine wpAnyH_take (i := 15) (v := ?_) rfl (by as_aux_lemma => kernel_rfl) (by as_aux_lemma => kernel_rfl) (by as_aux_lemma => kernel_rfl) (fun _ _ _ h => h) (Or.inl ⟨by rfl, ?_⟩) (by assumption) ?_
  rotate_left
  · intro w hSw
    try dsimp only at hSw
    go_simp
    try with_reducible rfl
  try simp only [Act.put, List.getElem_toArray, List.getElem_cons_succ, List.getElem_cons_zero, List.setIfInBounds_toArray, List.set_cons_zero, List.set_cons_succ]
  refine wpAnyH_take (i := 16) (v := ?_) rfl (by as_aux_lemma => kernel_rfl) (by as_aux_lemma => kernel_rfl) (by as_aux_lemma => kernel_rfl) (fun _ _ _ h => h) (Or.inl ⟨by rfl, ?_⟩) (by assumption) ?_
  rotate_left
  · intro w hSw
    try dsimp only at hSw
    go_simp
    try with_reducible rfl
  try simp only [Act.put, List.getElem_toArray, List.getElem_cons_succ, List.getElem_cons_zero, List.setIfInBounds_toArray, List.set_cons_zero, List.set_cons_succ]
  refine wpAnyH_take (i := 17) (v := ?_) rfl (by as_aux_lemma => kernel_rfl) (by as_aux_lemma => kernel_rfl) (by as_aux_lemma => kernel_rfl) (fun _ _ _ h => h) (Or.inl ⟨by rfl, ?_⟩) (by assumption) ?_
  rotate_left
  · intro w hSw
    try dsimp only at hSw
    go_simp
    try with_reducible rfl
  try simp only [Act.put, List.getElem_toArray, List.getElem_cons_succ, List.getElem_cons_zero, List.setIfInBounds_toArray, List.set_cons_zero, List.set_cons_succ]
  refine wpAnyH_take (i := 18) (v := ?_) rfl (by as_aux_lemma => kernel_rfl) (by as_aux_lemma => kernel_rfl) (by as_aux_lemma => kernel_rfl) (fun _ _ _ h => h) (Or.inl ⟨by rfl, ?_⟩) (by assumption) ?_
  rotate_left
  · intro w hSw
    try dsimp only at hSw
    go_simp
    try with_reducible rfl
  try simp only [Act.put, List.getElem_toArray, List.getElem_cons_succ, List.getElem_cons_zero, List.setIfInBounds_toArray, List.set_cons_zero, List.set_cons_succ]
  refine wpAnyH_take (i := 19) (v := ?_) rfl (by as_aux_lemma => kernel_rfl) (by as_aux_lemma => kernel_rfl) (by as_aux_lemma => kernel_rfl) (fun _ _ _ h => h) (Or.inl ⟨by rfl, ?_⟩) (by assumption) ?_
  rotate_left
  · intro w hSw
    try dsimp only at hSw
    go_simp
    try with_reducible rfl
  try simp only [Act.put, List.getElem_toArray, List.getElem_cons_succ, List.getElem_cons_zero, List.setIfInBounds_toArray, List.set_cons_zero, List.set_cons_succ]
  refine wpAnyH_take (i := 20) (v := ?_) rfl (by as_aux_lemma => kernel_rfl) (by as_aux_lemma => kernel_rfl) (by as_aux_lemma => kernel_rfl) (fun _ _ _ h => h) (Or.inl ⟨by rfl, ?_⟩) (by assumption) ?_
  rotate_left
  · intro w hSw
    try dsimp only at hSw
    go_simp
    try with_reducible rfl
  try simp only [Act.put, List.getElem_toArray, List.getElem_cons_succ, List.getElem_cons_zero, List.setIfInBounds_toArray, List.set_cons_zero, List.set_cons_succ]
  refine wpAnyH_take (i := 21) (v := ?_) rfl (by as_aux_lemma => kernel_rfl) (by as_aux_lemma => kernel_rfl) (by as_aux_lemma => kernel_rfl) (fun _ _ _ h => h) (Or.inl ⟨by rfl, ?_⟩) (by assumption) ?_
  rotate_left
  · intro w hSw
    try dsimp only at hSw
    go_simp
    try with_reducible rfl
  try simp only [Act.put, List.getElem_toArray, List.getElem_cons_succ, List.getElem_cons_zero, List.setIfInBounds_toArray, List.set_cons_zero, List.set_cons_succ]
  refine wpAnyH_take (i := 22) (v := ?_) rfl (by as_aux_lemma => kernel_rfl) (by as_aux_lemma => kernel_rfl) (by as_aux_lemma => kernel_rfl) (fun _ _ _ h => h) (Or.inl ⟨by rfl, ?_⟩) (by assumption) ?_
  rotate_left
  · intro w hSw
    try dsimp only at hSw
    go_simp
    try with_reducible rfl
  try simp only [Act.put, List.getElem_toArray, List.getElem_cons_succ, List.getElem_cons_zero, List.setIfInBounds_toArray, List.set_cons_zero, List.set_cons_succ]
  refine wpAnyH_take (i := 23) (v := ?_) rfl (by as_aux_lemma => kernel_rfl) (by as_aux_lemma => kernel_rfl) (by as_aux_lemma => kernel_rfl) (fun _ _ _ h => h) (Or.inl ⟨by rfl, ?_⟩) (by assumption) ?_
  rotate_left
  · intro w hSw
    try dsimp only at hSw
    go_simp
    try with_reducible rfl
  try simp only [Act.put, List.getElem_toArray, List.getElem_cons_succ, List.getElem_cons_zero, List.setIfInBounds_toArray, List.set_cons_zero, List.set_cons_succ]
  refine wpAnyH_take (i := 24) (v := ?_) rfl (by as_aux_lemma => kernel_rfl) (by as_aux_lemma => kernel_rfl) (by as_aux_lemma => kernel_rfl) (fun _ _ _ h => h) (Or.inl ⟨by rfl, ?_⟩) (by assumption) ?_
  rotate_left
  · intro w hSw
    try dsimp only at hSw
    go_simp
    try with_reducible rfl
  try simp only [Act.put, List.getElem_toArray, List.getElem_cons_succ, List.getElem_cons_zero, List.setIfInBounds_toArray, List.set_cons_zero, List.set_cons_succ]
  refine wpAnyH_take (i := 25) (v := ?_) rfl (by as_aux_lemma => kernel_rfl) (by as_aux_lemma => kernel_rfl) (by as_aux_lemma => kernel_rfl) (fun _ _ _ h => h) (Or.inl ⟨by rfl, ?_⟩) (by assumption) ?_
  rotate_left
  · intro w hSw
    try dsimp only at hSw
    go_simp
    try with_reducible rfl
  try simp only [Act.put, List.getElem_toArray, List.getElem_cons_succ, List.getElem_cons_zero, List.setIfInBounds_toArray, List.set_cons_zero, List.set_cons_succ]
  refine wpAnyH_take (i := 26) (v := ?_) rfl (by as_aux_lemma => kernel_rfl) (by as_aux_lemma => kernel_rfl) (by as_aux_lemma => kernel_rfl) (fun _ _ _ h => h) (Or.inl ⟨by rfl, ?_⟩) (by assumption) ?_
  rotate_left
  · intro w hSw
    try dsimp only at hSw
    go_simp
    try with_reducible rfl
  try simp only [Act.put, List.getElem_toArray, List.getElem_cons_succ, List.getElem_cons_zero, List.setIfInBounds_toArray, List.set_cons_zero, List.set_cons_succ]
  refine wpAnyH_take (i := 27) (v := ?_) rfl (by as_aux_lemma => kernel_rfl) (by as_aux_lemma => kernel_rfl) (by as_aux_lemma => kernel_rfl) (fun _ _ _ h => h) (Or.inl ⟨by rfl, ?_⟩) (by assumption) ?_
  rotate_left
  · intro w hSw
    try dsimp only at hSw
    go_simp
    try with_reducible rfl
  try simp only [Act.put, List.getElem_toArray, List.getElem_cons_succ, List.getElem_cons_zero, List.setIfInBounds_toArray, List.set_cons_zero, List.set_cons_succ]
  refine wpAnyH_take (i := 28) (v := ?_) rfl (by as_aux_lemma => kernel_rfl) (by as_aux_lemma => kernel_rfl) (by as_aux_lemma => kernel_rfl) (fun _ _ _ h => h) (Or.inl ⟨by rfl, ?_⟩) (by assumption) ?_
  rotate_left
  · intro w hSw
    try dsimp only at hSw
    go_simp
    try with_reducible rfl
  try simp only [Act.put, List.getElem_toArray, List.getElem_cons_succ, List.getElem_cons_zero, List.setIfInBounds_toArray, List.set_cons_zero, List.set_cons_succ]
  refine wpAnyH_take (i := 29) (v := ?_) rfl (by as_aux_lemma => kernel_rfl) (by as_aux_lemma => kernel_rfl) (by as_aux_lemma => kernel_rfl) (fun _ _ _ h => h) (Or.inl ⟨by rfl, ?_⟩) (by assumption) ?_
  rotate_left
  · intro w hSw
    try dsimp only at hSw
    go_simp
    try with_reducible rfl
  try simp only [Act.put, List.getElem_toArray, List.getElem_cons_succ, List.getElem_cons_zero, List.setIfInBounds_toArray, List.set_cons_zero, List.set_cons_succ]
  refine wpAnyH_take (i := 30) (v := ?_) rfl (by as_aux_lemma => kernel_rfl) (by as_aux_lemma => kernel_rfl) (by as_aux_lemma => kernel_rfl) (fun _ _ _ h => h) (Or.inl ⟨by rfl, ?_⟩) (by assumption) ?_
  rotate_left
  · intro w hSw
    try dsimp only at hSw
    go_simp
    try with_reducible rfl
  try simp only [Act.put, List.getElem_toArray, List.getElem_cons_succ, List.getElem_cons_zero, List.setIfInBounds_toArray, List.set_cons_zero, List.set_cons_succ]
  refine wpAnyH_take (i := 31) (v := ?_) rfl (by as_aux_lemma => kernel_rfl) (by as_aux_lemma => kernel_rfl) (by as_aux_lemma => kernel_rfl) (fun _ _ _ h => h) (Or.inl ⟨by rfl, ?_⟩) (by assumption) ?_
  rotate_left
  · intro w hSw
    try dsimp only at hSw
    go_simp
    try with_reducible rfl
  try simp only [Act.put, List.getElem_toArray, List.getElem_cons_succ, List.getElem_cons_zero, List.setIfInBounds_toArray, List.set_cons_zero, List.set_cons_succ]
  refine wpAnyH_take (i := 32) (v := ?_) rfl (by as_aux_lemma => kernel_rfl) (by as_aux_lemma => kernel_rfl) (by as_aux_lemma => kernel_rfl) (fun _ _ _ h => h) (Or.inl ⟨by rfl, ?_⟩) (by assumption) ?_
  rotate_left
  · intro w hSw
    try dsimp only at hSw
    go_simp
    try with_reducible rfl
  try simp only [Act.put, List.getElem_toArray, List.getElem_cons_succ, List.getElem_cons_zero, List.setIfInBounds_toArray, List.set_cons_zero, List.set_cons_succ]
  refine wpAnyH_take (i := 33) (v := ?_) rfl (by as_aux_lemma => kernel_rfl) (by as_aux_lemma => kernel_rfl) (by as_aux_lemma => kernel_rfl) (fun _ _ _ h => h) (Or.inl ⟨by rfl, ?_⟩) (by assumption) ?_
  rotate_left
  · intro w hSw
    try dsimp only at hSw
    go_simp
    try with_reducible rfl
  try simp only [Act.put, List.getElem_toArray, List.getElem_cons_succ, List.getElem_cons_zero, List.setIfInBounds_toArray, List.set_cons_zero, List.set_cons_succ]
  refine wpAnyH_take (i := 34) (v := ?_) rfl (by as_aux_lemma => kernel_rfl) (by as_aux_lemma => kernel_rfl) (by as_aux_lemma => kernel_rfl) (fun _ _ _ h => h) (Or.inl ⟨by rfl, ?_⟩) (by assumption) ?_
  rotate_left
  · intro w hSw
    try dsimp only at hSw
    go_simp
    try with_reducible rfl
  try simp only [Act.put, List.getElem_toArray, List.getElem_cons_succ, List.getElem_cons_zero, List.setIfInBounds_toArray, List.set_cons_zero, List.set_cons_succ]
  refine wpAnyH_take (i := 35) (v := ?_) rfl (by as_aux_lemma => kernel_rfl) (by as_aux_lemma => kernel_rfl) (by as_aux_lemma => kernel_rfl) (fun _ _ _ h => h) (Or.inl ⟨by rfl, ?_⟩) (by assumption) ?_
  rotate_left
  · intro w hSw
    try dsimp only at hSw
    go_simp
    try with_reducible rfl
  try simp only [Act.put, List.getElem_toArray, List.getElem_cons_succ, List.getElem_cons_zero, List.setIfInBounds_toArray, List.set_cons_zero, List.set_cons_succ]
  refine wpAnyH_take (i := 36) (v := ?_) rfl (by as_aux_lemma => kernel_rfl) (by as_aux_lemma => kernel_rfl) (by as_aux_lemma => kernel_rfl) (fun _ _ _ h => h) (Or.inl ⟨by rfl, ?_⟩) (by assumption) ?_
  rotate_left
  · intro w hSw
    try dsimp only at hSw
    go_simp
    try with_reducible rfl
  try simp only [Act.put, List.getElem_toArray, List.getElem_cons_succ, List.getElem_cons_zero, List.setIfInBounds_toArray, List.set_cons_zero, List.set_cons_succ]
  refine wpAnyH_take (i := 37) (v := ?_) rfl (by as_aux_lemma => kernel_rfl) (by as_aux_lemma => kernel_rfl) (by as_aux_lemma => kernel_rfl) (fun _ _ _ h => h) (Or.inl ⟨by rfl, ?_⟩) (by assumption) ?_
  rotate_left
  · intro w hSw
    try dsimp only at hSw
    go_simp
    try with_reducible rfl
  try simp only [Act.put, List.getElem_toArray, List.getElem_cons_succ, List.getElem_cons_zero, List.setIfInBounds_toArray, List.set_cons_zero, List.set_cons_succ]
  refine wpAnyH_take (i := 38) (v := ?_) rfl (by as_aux_lemma => kernel_rfl) (by as_aux_lemma => kernel_rfl) (by as_aux_lemma => kernel_rfl) (fun _ _ _ h => h) (Or.inl ⟨by rfl, ?_⟩) (by assumption) ?_
  rotate_left
  · intro w hSw
    try dsimp only at hSw
    go_simp
    try with_reducible rfl
  try simp only [Act.put, List.getElem_toArray, List.getElem_cons_succ, List.getElem_cons_zero, List.setIfInBounds_toArray, List.set_cons_zero, List.set_cons_succ]
  refine wpAnyH_take (i := 39) (v := ?_) rfl (by as_aux_lemma => kernel_rfl) (by as_aux_lemma => kernel_rfl) (by as_aux_lemma => kernel_rfl) (fun _ _ _ h => h) (Or.inl ⟨by rfl, ?_⟩) (by assumption) ?_
  rotate_left
  · intro w hSw
    try dsimp only at hSw
    go_simp
    try with_reducible rfl
  try simp only [Act.put, List.getElem_toArray, List.getElem_cons_succ, List.getElem_cons_zero, List.setIfInBounds_toArray, List.set_cons_zero, List.set_cons_succ]
  refine wpAnyH_ready (rs := [40]) (by as_aux_lemma => kernel_rfl) (by simp) ?_
  refine AllReadyH.cons rfl (fun K hK => ?_) AllReadyH.nil
  go_simp
  refine (lspan_any _ _ _).mono ?_
  rintro e w' ⟨rfl, hb⟩
  refine hK.out _ _ ?_ (fun hh1 => ?_)
  · try dsimp only
    exact ⟨keepK hh0.1 hb, keepK hh0.2.1 hb, keepK hh0.2.2.1 hb, keepK hh0.2.2.2.1 hb, keepK hh0.2.2.2.2.1 hb, keepK hh0.2.2.2.2.2.1 hb, keepK hh0.2.2.2.2.2.2.1 hb, keepK hh0.2.2.2.2.2.2.2.1 hb, hh0.2.2.2.2.2.2.2.2.trans (hb.mono hh0.2.2.2.2.2.2.2.2.size)⟩
  clear hK K hh0
  try simp only [Act.put, List.getElem_toArray, List.getElem_cons_succ, List.getElem_cons_zero, List.setIfInBounds_toArray, List.set_cons_zero, List.set_cons_succ]
  refine wpAnyH_take (i := 41) (v := ?_) rfl (by as_aux_lemma => kernel_rfl) (by as_aux_lemma => kernel_rfl) (by as_aux_lemma => kernel_rfl) (fun _ _ _ h => h) (Or.inl ⟨by rfl, ?_⟩) (by assumption) ?_
  rotate_left
  · intro w hSw
    try dsimp only at hSw
    go_simp
    try with_reducible rfl
  try simp only [Act.put, List.getElem_toArray, List.getElem_cons_succ, List.getElem_cons_zero, List.setIfInBounds_toArray, List.set_cons_zero, List.set_cons_succ]
  refine wpAnyH_take (i := 42) (v := ?_) rfl (by as_aux_lemma => kernel_rfl) (by as_aux_lemma => kernel_rfl) (by as_aux_lemma => kernel_rfl) (fun _ _ _ h => h) (Or.inl ⟨by rfl, ?_⟩) (by assumption) ?_
  rotate_left
  · intro w hSw
    try dsimp only at hSw
    go_simp
    try with_reducible rfl
  try simp only [Act.put, List.getElem_toArray, List.getElem_cons_succ, List.getElem_cons_zero, List.setIfInBounds_toArray, List.set_cons_zero, List.set_cons_succ]
  refine wpAnyH_take (i := 43) (v := ?_) rfl (by as_aux_lemma => kernel_rfl) (by as_aux_lemma => kernel_rfl) (by as_aux_lemma => kernel_rfl) (fun _ _ _ h => h) (Or.inl ⟨by rfl, ?_⟩) (by assumption) ?_
  rotate_left
  · intro w hSw
    try dsimp only at hSw
    go_simp
    try with_reducible rfl
  try simp only [Act.put, List.getElem_toArray, List.getElem_cons_succ, List.getElem_cons_zero, List.setIfInBounds_toArray, List.set_cons_zero, List.set_cons_succ]
  refine wpAnyH_take (i := 44) (v := ?_) rfl (by as_aux_lemma => kernel_rfl) (by as_aux_lemma => kernel_rfl) (by as_aux_lemma => kernel_rfl) (fun _ _ _ h => h) (Or.inl ⟨by rfl, ?_⟩) (by assumption) ?_
  rotate_left
  · intro w hSw
    try dsimp only at hSw
    go_simp
    try with_reducible rfl
  try simp only [Act.put, List.getElem_toArray, List.getElem_cons_succ, List.getElem_cons_zero, List.setIfInBounds_toArray, List.set_cons_zero, List.set_cons_succ]
  refine wpAnyH_ready (rs := [45]) (by as_aux_lemma => kernel_rfl) (by simp) ?_
  refine AllReadyH.cons rfl (fun K hK => ?_) AllReadyH.nil
  go_simp
  refine (lspan_any _ _ _).mono ?_
  rintro e w' ⟨rfl, hb⟩
  refine hK.out _ _ ?_ (fun hh2 => ?_)
  · try dsimp only
    exact ⟨keepK hh1.1 hb, keepK hh1.2.1 hb, keepK hh1.2.2.1 hb, keepK hh1.2.2.2.1 hb, keepK hh1.2.2.2.2.1 hb, keepK hh1.2.2.2.2.2.1 hb, keepK hh1.2.2.2.2.2.2.1 hb, keepK hh1.2.2.2.2.2.2.2.1 hb, hh1.2.2.2.2.2.2.2.2.trans (hb.mono hh1.2.2.2.2.2.2.2.2.size)⟩
  clear hK K hh1
  try simp only [Act.put, List.getElem_toArray, List.getElem_cons_succ, List.getElem_cons_zero, List.setIfInBounds_toArray, List.set_cons_zero, List.set_cons_succ]
  refine wpAnyH_take (i := 46) (v := ?_) rfl (by as_aux_lemma => kernel_rfl) (by as_aux_lemma => kernel_rfl) (by as_aux_lemma => kernel_rfl) (fun _ _ _ h => h) (Or.inl ⟨by rfl, ?_⟩) (by assumption) ?_
  rotate_left
  · intro w hSw
    try dsimp only at hSw
    go_simp
    try with_reducible rfl
  try simp only [Act.put, List.getElem_toArray, List.getElem_cons_succ, List.getElem_cons_zero, List.setIfInBounds_toArray, List.set_cons_zero, List.set_cons_succ]
  refine wpAnyH_take (i := 47) (v := ?_) rfl (by as_aux_lemma => kernel_rfl) (by as_aux_lemma => kernel_rfl) (by as_aux_lemma => kernel_rfl) (fun _ _ _ h => h) (Or.inl ⟨by rfl, ?_⟩) (by assumption) ?_
  rotate_left
  · intro w hSw
    try dsimp only at hSw
    go_simp
    try with_reducible rfl
  try simp only [Act.put, List.getElem_toArray, List.getElem_cons_succ, List.getElem_cons_zero, List.setIfInBounds_toArray, List.set_cons_zero, List.set_cons_succ]
  refine wpAnyH_take (i := 48) (v := ?_) rfl (by as_aux_lemma => kernel_rfl) (by as_aux_lemma => kernel_rfl) (by as_aux_lemma => kernel_rfl) (fun _ _ _ h => h) (Or.inl ⟨by rfl, ?_⟩) (by assumption) ?_
  rotate_left
  · intro w hSw
    try dsimp only at hSw
    go_simp
    try with_reducible rfl
  try simp only [Act.put, List.getElem_toArray, List.getElem_cons_succ, List.getElem_cons_zero, List.setIfInBounds_toArray, List.set_cons_zero, List.set_cons_succ]
  refine wpAnyH_take (i := 49) (v := ?_) rfl (by as_aux_lemma => kernel_rfl) (by as_aux_lemma => kernel_rfl) (by as_aux_lemma => kernel_rfl) (fun _ _ _ h => h) (Or.inl ⟨by rfl, ?_⟩) (by assumption) ?_
  rotate_left
  · intro w hSw
    try dsimp only at hSw
    go_simp
    try with_reducible rfl
  try simp only [Act.put, List.getElem_toArray, List.getElem_cons_succ, List.getElem_cons_zero, List.setIfInBounds_toArray, List.set_cons_zero, List.set_cons_succ]
  refine wpAnyH_take (i := 50) (v := ?_) rfl (by as_aux_lemma => kernel_rfl) (by as_aux_lemma => kernel_rfl) (by as_aux_lemma => kernel_rfl) (fun _ _ _ h => h) (Or.inl ⟨by rfl, ?_⟩) (by assumption) ?_
  rotate_left
  · intro w hSw
    try dsimp only at hSw
    go_simp
    try with_reducible rfl
  try simp only [Act.put, List.getElem_toArray, List.getElem_cons_succ, List.getElem_cons_zero, List.setIfInBounds_toArray, List.set_cons_zero, List.set_cons_succ]
  refine wpAnyH_take (i := 51) (v := ?_) rfl (by as_aux_lemma => kernel_rfl) (by as_aux_lemma => kernel_rfl) (by as_aux_lemma => kernel_rfl) (fun _ _ _ h => h) (Or.inl ⟨by rfl, ?_⟩) (by assumption) ?_
  rotate_left
  · intro w hSw
    try dsimp only at hSw
    go_simp
    try with_reducible rfl
  try simp only [Act.put, List.getElem_toArray, List.getElem_cons_succ, List.getElem_cons_zero, List.setIfInBounds_toArray, List.set_cons_zero, List.set_cons_succ]
  refine wpAnyH_take (i := 52) (v := ?_) rfl (by as_aux_lemma => kernel_rfl) (by as_aux_lemma => kernel_rfl) (by as_aux_lemma => kernel_rfl) (fun _ _ _ h => h) (Or.inl ⟨by rfl, ?_⟩) (by assumption) ?_
  rotate_left
  · intro w hSw
    try dsimp only at hSw
    go_simp
    try with_reducible rfl
  try simp only [Act.put, List.getElem_toArray, List.getElem_cons_succ, List.getElem_cons_zero, List.setIfInBounds_toArray, List.set_cons_zero, List.set_cons_succ]
  refine wpAnyH_take (i := 53) (v := ?_) rfl (by as_aux_lemma => kernel_rfl) (by as_aux_lemma => kernel_rfl) (by as_aux_lemma => kernel_rfl) (fun _ _ _ h => h) (Or.inl ⟨by rfl, ?_⟩) (by assumption) ?_
  rotate_left
  · intro w hSw
    try dsimp only at hSw
    go_simp
    try with_reducible rfl
  try simp only [Act.put, List.getElem_toArray, List.getElem_cons_succ, List.getElem_cons_zero, List.setIfInBounds_toArray, List.set_cons_zero, List.set_cons_succ]
  refine wpAnyH_take (i := 54) (v := ?_) rfl (by as_aux_lemma => kernel_rfl) (by as_aux_lemma => kernel_rfl) (by as_aux_lemma => kernel_rfl) (fun _ _ _ h => h) (Or.inl ⟨by rfl, ?_⟩) (by assumption) ?_
  rotate_left
  · intro w hSw
    try dsimp only at hSw
    go_simp
    try with_reducible rfl
  try simp only [Act.put, List.getElem_toArray, List.getElem_cons_succ, List.getElem_cons_zero, List.setIfInBounds_toArray, List.set_cons_zero, List.set_cons_succ]
  refine wpAnyH_take (i := 55) (v := ?_) rfl (by as_aux_lemma => kernel_rfl) (by as_aux_lemma => kernel_rfl) (by as_aux_lemma => kernel_rfl) (fun _ _ _ h => h) (Or.inl ⟨by rfl, ?_⟩) (by assumption) ?_
  rotate_left
  · intro w hSw
    try dsimp only at hSw
    go_simp
    try with_reducible rfl
  try simp only [Act.put, List.getElem_toArray, List.getElem_cons_succ, List.getElem_cons_zero, List.setIfInBounds_toArray, List.set_cons_zero, List.set_cons_succ]
  refine wpAnyH_take (i := 56) (v := ?_) rfl (by as_aux_lemma => kernel_rfl) (by as_aux_lemma => kernel_rfl) (by as_aux_lemma => kernel_rfl) (fun _ _ _ h => h) (Or.inl ⟨by rfl, ?_⟩) (by assumption) ?_
  rotate_left
  · intro w hSw
    try dsimp only at hSw
    go_simp
    try with_reducible rfl
  try simp only [Act.put, List.getElem_toArray, List.getElem_cons_succ, List.getElem_cons_zero, List.setIfInBounds_toArray, List.set_cons_zero, List.set_cons_succ]
  refine wpAnyH_take (i := 57) (v := ?_) rfl (by as_aux_lemma => kernel_rfl) (by as_aux_lemma => kernel_rfl) (by as_aux_lemma => kernel_rfl) (fun _ _ _ h => h) (Or.inl ⟨by rfl, ?_⟩) (by assumption) ?_
  rotate_left
  · intro w hSw
    try dsimp only at hSw
    go_simp
    try with_reducible rfl
  try simp only [Act.put, List.getElem_toArray, List.getElem_cons_succ, List.getElem_cons_zero, List.setIfInBounds_toArray, List.set_cons_zero, List.set_cons_succ]
  refine wpAnyH_ready (rs := [58]) (by as_aux_lemma => kernel_rfl) (by simp) ?_
  refine AllReadyH.cons rfl (fun K hK => ?_) AllReadyH.nil
  go_simp
  refine (lspan_any _ _ _).mono ?_
  rintro e w' ⟨rfl, hb⟩
  refine hK.out _ _ ?_ (fun hh3 => ?_)
  · try dsimp only
    exact ⟨keepK hh2.1 hb, keepK hh2.2.1 hb, keepK hh2.2.2.1 hb, keepK hh2.2.2.2.1 hb, keepK hh2.2.2.2.2.1 hb, keepK hh2.2.2.2.2.2.1 hb, keepK hh2.2.2.2.2.2.2.1 hb, keepK hh2.2.2.2.2.2.2.2.1 hb, hh2.2.2.2.2.2.2.2.2.trans (hb.mono hh2.2.2.2.2.2.2.2.2.size)⟩
  clear hK K hh2
  try simp only [Act.put, List.getElem_toArray, List.getElem_cons_succ, List.getElem_cons_zero, List.setIfInBounds_toArray, List.set_cons_zero, List.set_cons_succ]
  refine wpAnyH_take (i := 59) (v := ?_) rfl (by as_aux_lemma => kernel_rfl) (by as_aux_lemma => kernel_rfl) (by as_aux_lemma => kernel_rfl) (fun _ _ _ h => h) (Or.inl ⟨by rfl, ?_⟩) (by assumption) ?_
  rotate_left
  · intro w hSw
    try dsimp only at hSw
    go_simp
    try with_reducible rfl
  try simp only [Act.put, List.getElem_toArray, List.getElem_cons_succ, List.getElem_cons_zero, List.setIfInBounds_toArray, List.set_cons_zero, List.set_cons_succ]
  refine wpAnyH_take (i := 60) (v := ?_) rfl (by as_aux_lemma => kernel_rfl) (by as_aux_lemma => kernel_rfl) (by as_aux_lemma => kernel_rfl) (fun _ _ _ h => h) (Or.inl ⟨by rfl, ?_⟩) (by assumption) ?_
  rotate_left
  · intro w hSw
    try dsimp only at hSw
    go_simp
    try with_reducible rfl
  try simp only [Act.put, List.getElem_toArray, List.getElem_cons_succ, List.getElem_cons_zero, List.setIfInBounds_toArray, List.set_cons_zero, List.set_cons_succ]
  refine wpAnyH_take (i := 61) (v := ?_) rfl (by as_aux_lemma => kernel_rfl) (by as_aux_lemma => kernel_rfl) (by as_aux_lemma => kernel_rfl) (fun _ _ _ h => h) (Or.inl ⟨by rfl, ?_⟩) (by assumption) ?_
  rotate_left
  · intro w hSw
    try dsimp only at hSw
    go_simp
    try with_reducible rfl
  try simp only [Act.put, List.getElem_toArray, List.getElem_cons_succ, List.getElem_cons_zero, List.setIfInBounds_toArray, List.set_cons_zero, List.set_cons_succ]
  refine wpAnyH_take (i := 62) (v := ?_) rfl (by as_aux_lemma => kernel_rfl) (by as_aux_lemma => kernel_rfl) (by as_aux_lemma => kernel_rfl) (fun _ _ _ h => h) (Or.inl ⟨by rfl, ?_⟩) (by assumption) ?_
  rotate_left
  · intro w hSw
    try dsimp only at hSw
    go_simp
    try with_reducible rfl
  try simp only [Act.put, List.getElem_toArray, List.getElem_cons_succ, List.getElem_cons_zero, List.setIfInBounds_toArray, List.set_cons_zero, List.set_cons_succ]
  refine wpAnyH_ready (rs := [63]) (by as_aux_lemma => kernel_rfl) (by simp) ?_
  refine AllReadyH.cons rfl (fun K hK => ?_) AllReadyH.nil
  go_simp
  refine (lspan_any _ _ _).mono ?_
  rintro e w' ⟨rfl, hb⟩
  refine hK.out _ _ ?_ (fun hh4 => ?_)
  · try dsimp only
    exact ⟨keepK hh3.1 hb, keepK hh3.2.1 hb, keepK hh3.2.2.1 hb, keepK hh3.2.2.2.1 hb, keepK hh3.2.2.2.2.1 hb, keepK hh3.2.2.2.2.2.1 hb, keepK hh3.2.2.2.2.2.2.1 hb, keepK hh3.2.2.2.2.2.2.2.1 hb, hh3.2.2.2.2.2.2.2.2.trans (hb.mono hh3.2.2.2.2.2.2.2.2.size)⟩
  clear hK K hh3
  try simp only [Act.put, List.getElem_toArray, List.getElem_cons_succ, List.getElem_cons_zero, List.setIfInBounds_toArray, List.set_cons_zero, List.set_cons_succ]
  refine wpAnyH_take (i := 64) (v := ?_) rfl (by as_aux_lemma => kernel_rfl) (by as_aux_lemma => kernel_rfl) (by as_aux_lemma => kernel_rfl) (fun _ _ _ h => h) (Or.inl ⟨by rfl, ?_⟩) (by assumption) ?_
  rotate_left
  · intro w hSw
    try dsimp only at hSw
    go_simp
    try with_reducible rfl
  try simp only [Act.put, List.getElem_toArray, List.getElem_cons_succ, List.getElem_cons_zero, List.setIfInBounds_toArray, List.set_cons_zero, List.set_cons_succ]
  refine wpAnyH_take (i := 65) (v := ?_) rfl (by as_aux_lemma => kernel_rfl) (by as_aux_lemma => kernel_rfl) (by as_aux_lemma => kernel_rfl) (fun _ _ _ h => h) (Or.inl ⟨by rfl, ?_⟩) (by assumption) ?_
  rotate_left
  · intro w hSw
    try dsimp only at hSw
    go_simp
    try with_reducible rfl
  try simp only [Act.put, List.getElem_toArray, List.getElem_cons_succ, List.getElem_cons_zero, List.setIfInBounds_toArray, List.set_cons_zero, List.set_cons_succ]
  refine wpAnyH_take (i := 66) (v := ?_) rfl (by as_aux_lemma => kernel_rfl) (by as_aux_lemma => kernel_rfl) (by as_aux_lemma => kernel_rfl) (fun _ _ _ h => h) (Or.inl ⟨by rfl, ?_⟩) (by assumption) ?_
  rotate_left
  · intro w hSw
    try dsimp only at hSw
    go_simp
    try with_reducible rfl
  try simp only [Act.put, List.getElem_toArray, List.getElem_cons_succ, List.getElem_cons_zero, List.setIfInBounds_toArray, List.set_cons_zero, List.set_cons_succ]
  refine wpAnyH_take (i := 67) (v := ?_) rfl (by as_aux_lemma => kernel_rfl) (by as_aux_lemma => kernel_rfl) (by as_aux_lemma => kernel_rfl) (fun _ _ _ h => h) (Or.inl ⟨by rfl, ?_⟩) (by assumption) ?_
  rotate_left
  · intro w hSw
    try dsimp only at hSw
    go_simp
    try with_reducible rfl
  try simp only [Act.put, List.getElem_toArray, List.getElem_cons_succ, List.getElem_cons_zero, List.setIfInBounds_toArray, List.set_cons_zero, List.set_cons_succ]
  refine wpAnyH_take (i := 68) (v := ?_) rfl (by as_aux_lemma => kernel_rfl) (by as_aux_lemma => kernel_rfl) (by as_aux_lemma => kernel_rfl) (fun _ _ _ h => h) (Or.inl ⟨by rfl, ?_⟩) (by assumption) ?_
  rotate_left
  · intro w hSw
    try dsimp only at hSw
    go_simp
    try with_reducible rfl
  try simp only [Act.put, List.getElem_toArray, List.getElem_cons_succ, List.getElem_cons_zero, List.setIfInBounds_toArray, List.set_cons_zero, List.set_cons_succ]
  refine wpAnyH_take (i := 69) (v := ?_) rfl (by as_aux_lemma => kernel_rfl) (by as_aux_lemma => kernel_rfl) (by as_aux_lemma => kernel_rfl) (fun _ _ _ h => h) (Or.inl ⟨by rfl, ?_⟩) (by assumption) ?_
  rotate_left
  · intro w hSw
    try dsimp only at hSw
    go_simp
    try with_reducible rfl
  try simp only [Act.put, List.getElem_toArray, List.getElem_cons_succ, List.getElem_cons_zero, List.setIfInBounds_toArray, List.set_cons_zero, List.set_cons_succ]
  refine wpAnyH_take (i := 70) (v := ?_) rfl (by as_aux_lemma => kernel_rfl) (by as_aux_lemma => kernel_rfl) (by as_aux_lemma => kernel_rfl) (fun _ _ _ h => h) (Or.inl ⟨by rfl, ?_⟩) (by assumption) ?_
  rotate_left
  · intro w hSw
    try dsimp only at hSw
    go_simp
    try with_reducible rfl
  try simp only [Act.put, List.getElem_toArray, List.getElem_cons_succ, List.getElem_cons_zero, List.setIfInBounds_toArray, List.set_cons_zero, List.set_cons_succ]
  refine wpAnyH_take (i := 71) (v := ?_) rfl (by as_aux_lemma => kernel_rfl) (by as_aux_lemma => kernel_rfl) (by as_aux_lemma => kernel_rfl) (fun _ _ _ h => h) (Or.inl ⟨by rfl, ?_⟩) (by assumption) ?_
  rotate_left
  · intro w hSw
    try dsimp only at hSw
    go_simp
    try with_reducible rfl
  try simp only [Act.put, List.getElem_toArray, List.getElem_cons_succ, List.getElem_cons_zero, List.setIfInBounds_toArray, List.set_cons_zero, List.set_cons_succ]
  refine wpAnyH_take (i := 72) (v := ?_) rfl (by as_aux_lemma => kernel_rfl) (by as_aux_lemma => kernel_rfl) (by as_aux_lemma => kernel_rfl) (fun _ _ _ h => h) (Or.inl ⟨by rfl, ?_⟩) (by assumption) ?_
  rotate_left
  · intro w hSw
    try dsimp only at hSw
    go_simp
    try with_reducible rfl
  try simp only [Act.put, List.getElem_toArray, List.getElem_cons_succ, List.getElem_cons_zero, List.setIfInBounds_toArray, List.set_cons_zero, List.set_cons_succ]
  refine wpAnyH_take (i := 73) (v := ?_) rfl (by as_aux_lemma => kernel_rfl) (by as_aux_lemma => kernel_rfl) (by as_aux_lemma => kernel_rfl) (fun _ _ _ h => h) (Or.inl ⟨by rfl, ?_⟩) (by assumption) ?_
  rotate_left
  · intro w hSw
    try dsimp only at hSw
    go_simp
    try with_reducible rfl
  try simp only [Act.put, List.getElem_toArray, List.getElem_cons_succ, List.getElem_cons_zero, List.setIfInBounds_toArray, List.set_cons_zero, List.set_cons_succ]
  refine wpAnyH_take (i := 74) (v := ?_) rfl (by as_aux_lemma => kernel_rfl) (by as_aux_lemma => kernel_rfl) (by as_aux_lemma => kernel_rfl) (fun _ _ _ h => h) (Or.inl ⟨by rfl, ?_⟩) (by assumption) ?_
  rotate_left
  · intro w hSw
    try dsimp only at hSw
    go_simp
    try with_reducible rfl
  try simp only [Act.put, List.getElem_toArray, List.getElem_cons_succ, List.getElem_cons_zero, List.setIfInBounds_toArray, List.set_cons_zero, List.set_cons_succ]
  refine wpAnyH_take (i := 75) (v := ?_) rfl (by as_aux_lemma => kernel_rfl) (by as_aux_lemma => kernel_rfl) (by as_aux_lemma => kernel_rfl) (fun _ _ _ h => h) (Or.inl ⟨by rfl, ?_⟩) (by assumption) ?_
  rotate_left
  · intro w hSw
    try dsimp only at hSw
    go_simp
    try with_reducible rfl
  try simp only [Act.put, List.getElem_toArray, List.getElem_cons_succ, List.getElem_cons_zero, List.setIfInBounds_toArray, List.set_cons_zero, List.set_cons_succ]
  refine wpAnyH_take (i := 76) (v := ?_) rfl (by as_aux_lemma => kernel_rfl) (by as_aux_lemma => kernel_rfl) (by as_aux_lemma => kernel_rfl) (fun _ _ _ h => h) (Or.inl ⟨by rfl, ?_⟩) (by assumption) ?_
  rotate_left
  · intro w hSw
    try dsimp only at hSw
    go_simp
    try with_reducible rfl
  try simp only [Act.put, List.getElem_toArray, List.getElem_cons_succ, List.getElem_cons_zero, List.setIfInBounds_toArray, List.set_cons_zero, List.set_cons_succ]
  refine wpAnyH_take (i := 77) (v := ?_) rfl (by as_aux_lemma => kernel_rfl) (by as_aux_lemma => kernel_rfl) (by as_aux_lemma => kernel_rfl) (fun _ _ _ h => h) (Or.inl ⟨by rfl, ?_⟩) (by assumption) ?_
  rotate_left
  · intro w hSw
    try dsimp only at hSw
    go_simp
    try with_reducible rfl
  try simp only [Act.put, List.getElem_toArray, List.getElem_cons_succ, List.getElem_cons_zero, List.setIfInBounds_toArray, List.set_cons_zero, List.set_cons_succ]
  refine wpAnyH_take (i := 78) (v := ?_) rfl (by as_aux_lemma => kernel_rfl) (by as_aux_lemma => kernel_rfl) (by as_aux_lemma => kernel_rfl) (fun _ _ _ h => h) (Or.inl ⟨by rfl, ?_⟩) (by assumption) ?_
  rotate_left
  · intro w hSw
    try dsimp only at hSw
    go_simp
    try with_reducible rfl
  try simp only [Act.put, List.getElem_toArray, List.getElem_cons_succ, List.getElem_cons_zero, List.setIfInBounds_toArray, List.set_cons_zero, List.set_cons_succ]
  refine wpAnyH_take (i := 79) (v := ?_) rfl (by as_aux_lemma => kernel_rfl) (by as_aux_lemma => kernel_rfl) (by as_aux_lemma => kernel_rfl) (fun _ _ _ h => h) (Or.inl ⟨by rfl, ?_⟩) (by assumption) ?_
  rotate_left
  · intro w hSw
    try dsimp only at hSw
    go_simp
    try with_reducible rfl
  try simp only [Act.put, List.getElem_toArray, List.getElem_cons_succ, List.getElem_cons_zero, List.setIfInBounds_toArray, List.set_cons_zero, List.set_cons_succ]
  refine wpAnyH_take (i := 80) (v := ?_) rfl (by as_aux_lemma => kernel_rfl) (by as_aux_lemma => kernel_rfl) (by as_aux_lemma => kernel_rfl) (fun _ _ _ h => h) (Or.inl ⟨by rfl, ?_⟩) (by assumption) ?_
  rotate_left
  · intro w hSw
    try dsimp only at hSw
    go_simp
    try with_reducible rfl
  try simp only [Act.put, List.getElem_toArray, List.getElem_cons_succ, List.getElem_cons_zero, List.setIfInBounds_toArray, List.set_cons_zero, List.set_cons_succ]
  refine wpAnyH_take (i := 81) (v := ?_) rfl (by as_aux_lemma => kernel_rfl) (by as_aux_lemma => kernel_rfl) (by as_aux_lemma => kernel_rfl) (fun _ _ _ h => h) (Or.inl ⟨by rfl, ?_⟩) (by assumption) ?_
  rotate_left
  · intro w hSw
    try dsimp only at hSw
    go_simp
    try with_reducible rfl
  try simp only [Act.put, List.getElem_toArray, List.getElem_cons_succ, List.getElem_cons_zero, List.setIfInBounds_toArray, List.set_cons_zero, List.set_cons_succ]
  refine wpAnyH_take (i := 82) (v := ?_) rfl (by as_aux_lemma => kernel_rfl) (by as_aux_lemma => kernel_rfl) (by as_aux_lemma => kernel_rfl) (fun _ _ _ h => h) (Or.inl ⟨by rfl, ?_⟩) (by assumption) ?_
  rotate_left
  · intro w hSw
    try dsimp only at hSw
    go_simp
    try with_reducible rfl
  try simp only [Act.put, List.getElem_toArray, List.getElem_cons_succ, List.getElem_cons_zero, List.setIfInBounds_toArray, List.set_cons_zero, List.set_cons_succ]
  refine wpAnyH_take (i := 83) (v := ?_) rfl (by as_aux_lemma => kernel_rfl) (by as_aux_lemma => kernel_rfl) (by as_aux_lemma => kernel_rfl) (fun _ _ _ h => h) (Or.inl ⟨by rfl, ?_⟩) (by assumption) ?_
  rotate_left
  · intro w hSw
    try dsimp only at hSw
    go_simp
    try with_reducible rfl
  try simp only [Act.put, List.getElem_toArray, List.getElem_cons_succ, List.getElem_cons_zero, List.setIfInBounds_toArray, List.set_cons_zero, List.set_cons_succ]
  refine wpAnyH_ready (rs := [84]) (by as_aux_lemma => kernel_rfl) (by simp) ?_
  refine AllReadyH.cons rfl (fun K hK => ?_) AllReadyH.nil
  go_simp
  refine (awake_any _).mono ?_
  rintro e w' ⟨rfl, hb⟩
  refine hK.out _ _ ?_ (fun hh5 => ?_)
  · try dsimp only
    exact ⟨keepK hh4.1 hb, keepK hh4.2.1 hb, keepK hh4.2.2.1 hb, keepK hh4.2.2.2.1 hb, keepK hh4.2.2.2.2.1 hb, keepK hh4.2.2.2.2.2.1 hb, keepK hh4.2.2.2.2.2.2.1 hb, keepK hh4.2.2.2.2.2.2.2.1 hb, hh4.2.2.2.2.2.2.2.2.trans (hb.mono hh4.2.2.2.2.2.2.2.2.size)⟩
  clear hK K hh4
  try simp only [Act.put, List.getElem_toArray, List.getElem_cons_succ, List.getElem_cons_zero, List.setIfInBounds_toArray, List.set_cons_zero, List.set_cons_succ]
  refine wpAnyH_take (i := 85) (v := ?_) rfl (by as_aux_lemma => kernel_rfl) (by as_aux_lemma => kernel_rfl) (by as_aux_lemma => kernel_rfl) (fun _ _ _ h => h) (Or.inl ⟨by rfl, ?_⟩) (by assumption) ?_
  rotate_left
  · intro w hSw
    try dsimp only at hSw
    go_simp
    try with_reducible rfl
  try simp only [Act.put, List.getElem_toArray, List.getElem_cons_succ, List.getElem_cons_zero, List.setIfInBounds_toArray, List.set_cons_zero, List.set_cons_succ]
  refine wpAnyH_take (i := 86) (v := ?_) rfl (by as_aux_lemma => kernel_rfl) (by as_aux_lemma => kernel_rfl) (by as_aux_lemma => kernel_rfl) (fun _ _ _ h => h) (Or.inl ⟨by rfl, ?_⟩) (by assumption) ?_
  rotate_left
  · intro w hSw
    try dsimp only at hSw
    go_simp
    try with_reducible rfl
  try simp only [Act.put, List.getElem_toArray, List.getElem_cons_succ, List.getElem_cons_zero, List.setIfInBounds_toArray, List.set_cons_zero, List.set_cons_succ]
  refine wpAnyH_done (by as_aux_lemma => kernel_rfl) ?_ _
  refine NoPanic.normal ?_
  go_wp2_with fail
  go_ret
  exact ⟨rfl, HB.out.trans (hh5.2.2.2.2.2.2.2.2.mono HB.out.size)⟩
end Go.Proofs.Ytcnfhghllengeaa
namespace Go.Proofs.Ytcnfhghllengeaa
namespace EgKnown
open Go.ChangeShapes Go.WideShapes Go.ChangeAt Go.RowKit

theorem own : ownKnob Try.prog.godebug = none := by kernel_rfl

set_option maxRecDepth 100000 in
/-- Where nothing came in, and what was there has not turned. -/
theorem post_nothing {H : Type} {enc : TypeId × Value → H} {W W' : World} {ds gs : List (DataW H)} {before : List MemPlace} (hW : DataW.Whole enc Try.prog Try.f6.params.toList Rows.edgeKnownSpec.vars false W (#[] : Array Value).toList ds gs before) (hd : ds = []) (hg : gs = []) (hbf : before = []) (hb : Below W.heap.size W W') :
    Rows.edgeKnownSpec.post enc Try.prog Try.f6 false true false false W #[] (.bool true) W' := by
  subst hd hg hbf
  refine ⟨[], [], [], [], [], [], hW, trodAll_cons_mk (shut_bool Try.underlying4 _) trodAll_mk0, trodAll_mk0, rfl, World.keptBut_mono (fun p hp => by simp at hp) (hb.frame (· ∈ [])), fun _ => ?_⟩
  exact ⟨ok_one (by kernel_rfl) rfl (okWide_bool_mk Try.underlying4 _), _, [], [], ⟨[], [], trodAll_cons_mk (shut_bool Try.underlying4 _) trodAll_mk0, rfl, rfl, fun b off h => absurd h (by simp), fun _ => List.nodup_nil⟩, fun p hp => absurd hp (by simp)⟩

theorem contract (H : Type) (enc : TypeId × Value → H) (W : World) (base : Nat) (args : Array Value) (ds gs : List (DataW H)) (before : List MemPlace)
    (hval : ∀ (j : Nat) t v, Try.f6.params[j]? = some t → args[j]? = some v → Value.okWide Try.prog W .any base t v)
    (hW : DataW.Whole enc Try.prog Try.f6.params.toList Rows.edgeKnownSpec.vars false W args.toList ds gs before) :
    Calls Try.prog 6 args W fun e W' => ∃ v, e = .returned v ∧ Rows.edgeKnownSpec.post enc Try.prog Try.f6 false true false false W args v W' := by
  have hW' := hW
  obtain ⟨p, q, hA0, hV, rfl, hfz, hnd⟩ := hW
  have hA : DataW.TrodAll enc Try.prog W 0 (fun _ => true) true Try.f6.params.toList args.toList ds p := hA0
  rw [Try.params6] at hA
  obtain ⟨ha, rfl, rfl⟩ := trodAll_nil hA
  obtain rfl : args = #[] := by cases args; simp_all
  obtain ⟨rfl, rfl⟩ := trodVars_none hV
  refine (known_any W).mono fun e W' ⟨he, hb⟩ => ?_
  subst he
  exact ⟨_, rfl, post_nothing hW' rfl rfl rfl hb⟩

set_option maxRecDepth 100000 in
theorem lifted (os : Os) (started : os.Started) (H : Type) (enc : TypeId × Value → H) :
    ReturnsInHanded {} Try.checked os 6 .any (Rows.edgeKnownSpec.pre6 enc Try.prog Try.f6 Rows.edgeKnownRow.domain false) (Rows.edgeKnownSpec.post enc Try.prog Try.f6 false true false false) := by
  refine returnsInHanded_of_change (C := Try.checked) own started (by kernel_rfl) Try.func6
    (ChangeSpec.witness6 (enc := enc) (C := Try.checked) false ⟨#[], #[], []⟩ 8 (by kernel_rfl) (by kernel_rfl) (by kernel_rfl) (by kernel_rfl)) ?_
  intro W base args ds gs before hval hW _ _
  exact contract H enc W base args ds gs before hval hW

theorem over : Rows.EdgeKnownSaid :=
  OpenClaim.holds_of_wide 6 Try.f6 rfl rfl rfl rfl rfl rfl rfl ⟨rfl, rfl, rfl, rfl, rfl⟩ rfl rfl rfl rfl rfl (by kernel_rfl) Try.func6 (by kernel_rfl)
    (of_decide_eq_true (by kernel_rfl)) (by unfold Func.isWrapper; first | (rw [if_pos (by decide +kernel)]; kernel_rfl) | (rw [if_neg (by decide +kernel)]; exact ⟨rfl, rfl⟩))
    (fun os started H enc _ => lifted os started H enc)
end EgKnown

theorem edgeKnown_holds : Rows.EdgeKnownSaid := EgKnown.over
end Go.Proofs.Ytcnfhghllengeaa
