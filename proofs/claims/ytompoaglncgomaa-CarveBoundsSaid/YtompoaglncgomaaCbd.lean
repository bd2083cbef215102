/- CarveBounds: the call returns true, for any row. -/
import Derived.Test.YtompoaglncgomaaCxg
import Derived.Test.YtompoaglncgomaaRcf
set_option linter.unusedSimpArgs false
set_option linter.unusedVariables false
namespace Go.Proofs.Ytompoaglncgomaa
open Go Go.RowKit Go.Shelf Cv

set_option maxRecDepth 100000 in
set_option maxHeartbeats 16000000 in
theorem lbounds_any (r : Row) (pv : Value) (w : World) (hP : PtsAt w pv r.pts) :
    Calls Try.prog 3 #[.agg #[.int .i64 r.st, pv]] w fun e w' => e = .returned (.bool true) ∧ Below w.heap.size w w' := by
  obtain ⟨st, pts⟩ := r
  simp only at hP ⊢
  obtain ⟨lp, pa, pc, rfl, _, _⟩ := id hP
  have HP := Lib.hid hP
  clear hP
  obtain ⟨c1, HK1⟩ : ∃ c, Hid ((checkR ⟨st, pts⟩).1 = c) := ⟨_, rfl⟩
  obtain ⟨c2, HK2⟩ : ∃ c, Hid ((checkR ⟨st, pts⟩).2.1 = c) := ⟨_, rfl⟩
  obtain ⟨c3, HK3⟩ : ∃ c, Hid ((checkR ⟨st, pts⟩).2.2 = c) := ⟨_, rfl⟩
  obtain ⟨d1, HV1⟩ : ∃ c, Hid ((prevR ⟨st, pts⟩).1 = c) := ⟨_, rfl⟩
  obtain ⟨d2, HV2⟩ : ∃ c, Hid ((prevR ⟨st, pts⟩).2.1 = c) := ⟨_, rfl⟩
  obtain ⟨d3, HV3⟩ : ∃ c, Hid ((prevR ⟨st, pts⟩).2.2 = c) := ⟨_, rfl⟩
  obtain ⟨n1, HN1⟩ : ∃ c, Hid ((needR ⟨st, pts⟩).1 = c) := ⟨_, rfl⟩
  obtain ⟨n2, HN2⟩ : ∃ c, Hid ((needR ⟨st, pts⟩).2 = c) := ⟨_, rfl⟩
  have hl : (boundsR ⟨st, pts⟩).1.length ≤ 100 := by
    unfold boundsR
    split
    · rename_i h
      have := (check_valid _).1 (boundE_ok h).1
      have h10 : pts.length ≤ 10 := this.n10
      show (bandsR ⟨st, pts⟩).length ≤ 100
      rw [bandsR_length]
      show pts.length ≤ 100
      omega
    · exact Nat.zero_le _
  obtain ⟨bl, HL⟩ : ∃ c, Hid ((boundsR ⟨st, pts⟩).1 = c) := ⟨_, rfl⟩
  obtain ⟨be, HE⟩ : ∃ c, Hid ((boundsR ⟨st, pts⟩).2 = c) := ⟨_, rfl⟩
  rw [HL.out] at hl
  have HB := Lib.hid (Below.refl w.heap.size w)
  go_enter Try.func3, Try.ntmps3
  go_wp2_with fail
  have hb := (Below.refl w.heap.size w).alloc (Nat.le_refl _) (Obj.cells #[.int .i64 st, .slice pa pts.length pc] 24)
  have HR := Lib.hid (heap_alloc_new w (Obj.cells #[.int .i64 st, .slice pa pts.length pc] 24))
  have hz1 : (w.alloc (Obj.cells #[.int .i64 st, .slice pa pts.length pc] 24)).heap.size = w.heap.size + 1 := by simp
  have HB' := Lib.hid (HB.out.trans (hb.mono HB.out.size))
  have HP' := Lib.hid (HP.out.below hb)
  clear HB
  have HB := HB'
  clear HB'
  clear HP
  have HP := HP'
  clear HP'
  clear hb
  generalize w.alloc (Obj.cells #[.int .i64 st, .slice pa pts.length pc] 24) = w1 at *
  have hcall := check_any ⟨st, pts⟩ _ w1 HP.out
  rw [HK1.out, HK2.out, HK3.out] at hcall
  refine hcall.mono ?_
  clear hcall
  rintro e w2 ⟨rfl, hb⟩
  have HB' := Lib.hid (HB.out.trans (hb.mono HB.out.size))
  have HP' := Lib.hid (HP.out.below hb)
  have HR' := Lib.hid ((hb.block _ (lt_of_block HR.out)).trans HR.out)
  clear HB
  have HB := HB'
  clear HB'
  clear HP
  have HP := HP'
  clear HP'
  clear HR
  have HR := HR'
  clear HR'
  clear hb
  have ra := cellOf HR.out 0 _ rfl
  have rb := cellOf HR.out 1 _ rfl
  have rl := lt_of_block HR.out
  go_wp2_with fail
  clear ra rb rl
  have hcall := rcheck_any ⟨st, pts⟩ _ w2 HP.out
  rw [HK1.out, HK2.out, HK3.out] at hcall
  refine hcall.mono ?_
  clear hcall
  rintro e w3 ⟨rfl, hb⟩
  have HB' := Lib.hid (HB.out.trans (hb.mono HB.out.size))
  have HP' := Lib.hid (HP.out.below hb)
  have HR' := Lib.hid ((hb.block _ (lt_of_block HR.out)).trans HR.out)
  clear HB
  have HB := HB'
  clear HB'
  clear HP
  have HP := HP'
  clear HP'
  clear HR
  have HR := HR'
  clear HR'
  clear hb
  have ra := cellOf HR.out 0 _ rfl
  have rb := cellOf HR.out 1 _ rfl
  have rl := lt_of_block HR.out
  go_wp2_with fail
  clear ra rb rl
  have hcall := Bounds_any ⟨st, pts⟩ _ w3 HP.out
  rw [HL.out, HE.out] at hcall
  refine hcall.mono ?_
  clear hcall
  rintro e w4 ⟨v1, rfl, hown, hb⟩
  have HB' := Lib.hid (HB.out.trans (hb.mono HB.out.size))
  have HP' := Lib.hid (HP.out.below hb)
  have HR' := Lib.hid ((hb.block _ (lt_of_block HR.out)).trans HR.out)
  clear HB
  have HB := HB'
  clear HB'
  clear HP
  have HP := HP'
  clear HP'
  clear HR
  have HR := HR'
  clear HR'
  clear hb
  have hpa := passAt_own hown (by omega)
  obtain ⟨sa, sc, rfl⟩ := own_slice hown
  have HX := Lib.hid hpa
  clear hown hpa
  have ra := cellOf HR.out 0 _ rfl
  have rb := cellOf HR.out 1 _ rfl
  have rl := lt_of_block HR.out
  go_wp2_with fail
  clear ra rb rl
  have hcall := rbounds_any ⟨st, pts⟩ _ w4 HP.out
  rw [HL.out, HE.out] at hcall
  refine hcall.mono ?_
  clear hcall
  rintro e w5 ⟨v2, rfl, hown, hb⟩
  have HB' := Lib.hid (HB.out.trans (hb.mono HB.out.size))
  have HP' := Lib.hid (HP.out.below hb)
  have HR' := Lib.hid ((hb.block _ (lt_of_block HR.out)).trans HR.out)
  have HX' := Lib.hid (HX.out.below hb)
  clear HB
  have HB := HB'
  clear HB'
  clear HP
  have HP := HP'
  clear HP'
  clear HR
  have HR := HR'
  clear HR'
  clear HX
  have HX := HX'
  clear HX'
  clear hb
  have hpa := passAt_own hown (by omega)
  obtain ⟨sb, sd, rfl⟩ := own_slice hown
  have HY := Lib.hid hpa
  clear hown hpa
  go_wp2_with fail
  have hcall := spans_eq _ _ bl _ HX.out HY.out
  refine hcall.mono ?_
  clear hcall
  rintro e w6 ⟨rfl, hb⟩
  have HB' := Lib.hid (HB.out.trans (hb.mono HB.out.size))
  have HP' := Lib.hid (HP.out.below hb)
  have HR' := Lib.hid ((hb.block _ (lt_of_block HR.out)).trans HR.out)
  have HX' := Lib.hid (HX.out.below hb)
  have HY' := Lib.hid (HY.out.below hb)
  clear HB
  have HB := HB'
  clear HB'
  clear HP
  have HP := HP'
  clear HP'
  clear HR
  have HR := HR'
  clear HR'
  clear HX
  have HX := HX'
  clear HX'
  clear HY
  have HY := HY'
  clear HY'
  clear hb
  clear HX HY
  have ra := cellOf HR.out 0 _ rfl
  have rb := cellOf HR.out 1 _ rfl
  have rl := lt_of_block HR.out
  go_wp2_with fail
  clear ra rb rl
  have hcall := prevents_any ⟨st, pts⟩ _ w6 HP.out
  rw [HV1.out, HV2.out, HV3.out] at hcall
  refine hcall.mono ?_
  clear hcall
  rintro e w7 ⟨rfl, hb⟩
  have HB' := Lib.hid (HB.out.trans (hb.mono HB.out.size))
  have HP' := Lib.hid (HP.out.below hb)
  have HR' := Lib.hid ((hb.block _ (lt_of_block HR.out)).trans HR.out)
  clear HB
  have HB := HB'
  clear HB'
  clear HP
  have HP := HP'
  clear HP'
  clear HR
  have HR := HR'
  clear HR'
  clear hb
  have ra := cellOf HR.out 0 _ rfl
  have rb := cellOf HR.out 1 _ rfl
  have rl := lt_of_block HR.out
  go_wp2_with fail
  clear ra rb rl
  have hcall := rprev_any ⟨st, pts⟩ _ w7 HP.out
  rw [HV1.out, HV2.out, HV3.out] at hcall
  refine hcall.mono ?_
  clear hcall
  rintro e w8 ⟨rfl, hb⟩
  have HB' := Lib.hid (HB.out.trans (hb.mono HB.out.size))
  have HP' := Lib.hid (HP.out.below hb)
  have HR' := Lib.hid ((hb.block _ (lt_of_block HR.out)).trans HR.out)
  clear HB
  have HB := HB'
  clear HB'
  clear HP
  have HP := HP'
  clear HP'
  clear HR
  have HR := HR'
  clear HR'
  clear hb
  have ra := cellOf HR.out 0 _ rfl
  have rb := cellOf HR.out 1 _ rfl
  have rl := lt_of_block HR.out
  go_wp2_with fail
  clear ra rb rl
  have hcall := need_any ⟨st, pts⟩ _ w8 HP.out
  rw [HN1.out, HN2.out] at hcall
  refine hcall.mono ?_
  clear hcall
  rintro e w9 ⟨rfl, hb⟩
  have HB' := Lib.hid (HB.out.trans (hb.mono HB.out.size))
  have HP' := Lib.hid (HP.out.below hb)
  have HR' := Lib.hid ((hb.block _ (lt_of_block HR.out)).trans HR.out)
  clear HB
  have HB := HB'
  clear HB'
  clear HP
  have HP := HP'
  clear HP'
  clear HR
  have HR := HR'
  clear HR'
  clear hb
  have ra := cellOf HR.out 0 _ rfl
  have rb := cellOf HR.out 1 _ rfl
  have rl := lt_of_block HR.out
  go_wp2_with fail
  clear ra rb rl
  have hcall := rneed_any ⟨st, pts⟩ _ w9 HP.out
  rw [HN1.out, HN2.out] at hcall
  refine hcall.mono ?_
  clear hcall
  rintro e w10 ⟨rfl, hb⟩
  have HB' := Lib.hid (HB.out.trans (hb.mono HB.out.size))
  have HP' := Lib.hid (HP.out.below hb)
  have HR' := Lib.hid ((hb.block _ (lt_of_block HR.out)).trans HR.out)
  clear HB
  have HB := HB'
  clear HB'
  clear HP
  have HP := HP'
  clear HP'
  clear HR
  have HR := HR'
  clear HR'
  clear hb
  go_wp2_with fail
  have hcall := awake_any w10
  refine hcall.mono ?_
  clear hcall
  rintro e w11 ⟨rfl, hb⟩
  have HB' := Lib.hid (HB.out.trans (hb.mono HB.out.size))
  have HP' := Lib.hid (HP.out.below hb)
  have HR' := Lib.hid ((hb.block _ (lt_of_block HR.out)).trans HR.out)
  clear HB
  have HB := HB'
  clear HB'
  clear HP
  have HP := HP'
  clear HP'
  clear HR
  have HR := HR'
  clear HR'
  clear hb
  go_wp2
  go_ret
  exact ⟨rfl, HB.out⟩
end Go.Proofs.Ytompoaglncgomaa
