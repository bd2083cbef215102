/- The law ScaleCuts: the program's answers are the reference's. -/
import Derived.Test.YthflbbjilebhlaaYf
import Derived.Test.YthflbbjilebhlaaYg
import Derived.Laws.StructEq
set_option linter.unusedSimpArgs false
set_option linter.unusedVariables false
namespace Go.Proofs.Ythflbbjilebhlaa
open Go Go.RowKit Go.Shelf Sc

set_option maxRecDepth 100000 in
set_option maxHeartbeats 8000000 in
theorem lcut_any (c : Cse) (hv rv : Value) (s t : Scl) (w : World) (hC : CseAt w c hv rv) :
    Calls Try.prog 3 #[.agg #[.int .i64 c.kind, .int .i64 c.base, .int .i64 c.most, hv, rv], .agg #[.int .i64 s.1, .int .i64 s.2], .agg #[.int .i64 t.1, .int .i64 t.2]] w fun e w' => e = .returned (.bool true) ∧ Below w.heap.size w w' := by
  obtain ⟨ha, hn, hc, rfl⟩ : ∃ a n c, hv = .slice a n c := by obtain ⟨_, a, cap, h, _⟩ := hC.hs; exact ⟨_, _, _, h⟩
  obtain ⟨ra, rn, rc, rfl⟩ : ∃ a n c, rv = .slice a n c := by obtain ⟨_, a, cap, h, _⟩ := hC.rd; exact ⟨_, _, _, h⟩
  obtain ⟨kind, hkind⟩ : ∃ x, c.kind = x := ⟨_, rfl⟩
  obtain ⟨base, hbase⟩ : ∃ x, c.base = x := ⟨_, rfl⟩
  obtain ⟨most, hmost⟩ : ∃ x, c.most = x := ⟨_, rfl⟩
  have HKI := Lib.hid hkind
  have HBA := Lib.hid hbase
  have HMO := Lib.hid hmost
  obtain ⟨s1, s2⟩ := s
  obtain ⟨t1, t2⟩ := t
  dsimp only
  obtain ⟨W, hW, q1, q2, q3, hb, _⟩ := al3 w (Obj.cells #[.int .i64 kind, .int .i64 base, .int .i64 most, .slice ha hn hc, .slice ra rn rc] 25) (Obj.cells #[.int .i64 s1, .int .i64 s2] 27) (Obj.cells #[.int .i64 t1, .int .i64 t2] 27)
  have HR := Lib.hid q1
  have HX := Lib.hid q2
  have HY := Lib.hid q3
  clear q1 q2 q3
  have HC := Lib.hid (hC.below hb)
  have HC0 := Lib.hid hC
  have HW := Lib.hid hW
  have HB := Lib.hid hb
  rw [hkind, hbase, hmost]
  clear hW hb hC hkind hbase hmost
  go_enter Try.func3, Try.ntmps3
  go_wp2_with fail
  rw [HW.out]
  clear HW
  obtain ⟨⟨p1, p2, p3⟩, hp⟩ : ∃ x, checkC c = x := ⟨_, rfl⟩
  have HP := Lib.hid hp
  clear hp
  have r0 := cellOf HR.out 0 _ rfl
  have r1 := cellOf HR.out 1 _ rfl
  have r2 := cellOf HR.out 2 _ rfl
  have r3 := cellOf HR.out 3 _ rfl
  have r4 := cellOf HR.out 4 _ rfl
  have rl := lt_of_block HR.out
  have x0 := cellOf HX.out 0 _ rfl
  have x1 := cellOf HX.out 1 _ rfl
  have xl := lt_of_block HX.out
  have y0 := cellOf HY.out 0 _ rfl
  have y1 := cellOf HY.out 1 _ rfl
  have yl := lt_of_block HY.out
  go_wp2_with fail
  clear r0 r1 r2 r3 r4 rl x0 x1 xl y0 y1 yl
  have hcall := check_any c _ _ W HC.out
  rw [HKI.out, HBA.out, HMO.out] at hcall
  refine hcall.mono ?_
  clear hcall
  rintro e wa ⟨rfl, hb⟩
  have HR' := Lib.hid ((hb.block _ (lt_of_block HR.out)).trans HR.out)
  have HX' := Lib.hid ((hb.block _ (lt_of_block HX.out)).trans HX.out)
  have HY' := Lib.hid ((hb.block _ (lt_of_block HY.out)).trans HY.out)
  have HC' := Lib.hid (HC.out.below hb)
  have HB' := Lib.hid (HB.out.trans (hb.mono HB.out.size))
  clear HR
  have HR := HR'
  clear HR'
  clear HX
  have HX := HX'
  clear HX'
  clear HY
  have HY := HY'
  clear HY'
  clear HC
  have HC := HC'
  clear HC'
  clear HB
  have HB := HB'
  clear HB'
  clear hb
  rw [HP.out]
  simp only
  have r0 := cellOf HR.out 0 _ rfl
  have r1 := cellOf HR.out 1 _ rfl
  have r2 := cellOf HR.out 2 _ rfl
  have r3 := cellOf HR.out 3 _ rfl
  have r4 := cellOf HR.out 4 _ rfl
  have rl := lt_of_block HR.out
  have x0 := cellOf HX.out 0 _ rfl
  have x1 := cellOf HX.out 1 _ rfl
  have xl := lt_of_block HX.out
  have y0 := cellOf HY.out 0 _ rfl
  have y1 := cellOf HY.out 1 _ rfl
  have yl := lt_of_block HY.out
  go_wp2_with fail
  clear r0 r1 r2 r3 r4 rl x0 x1 xl y0 y1 yl
  have hcall := rCheck_any c _ _ wa HC.out
  rw [HKI.out, HBA.out, HMO.out] at hcall
  refine hcall.mono ?_
  clear hcall
  rintro e wb ⟨rfl, hb⟩
  have HR' := Lib.hid ((hb.block _ (lt_of_block HR.out)).trans HR.out)
  have HX' := Lib.hid ((hb.block _ (lt_of_block HX.out)).trans HX.out)
  have HY' := Lib.hid ((hb.block _ (lt_of_block HY.out)).trans HY.out)
  have HC' := Lib.hid (HC.out.below hb)
  have HB' := Lib.hid (HB.out.trans (hb.mono HB.out.size))
  clear HR
  have HR := HR'
  clear HR'
  clear HX
  have HX := HX'
  clear HX'
  clear HY
  have HY := HY'
  clear HY'
  clear HC
  have HC := HC'
  clear HC'
  clear HB
  have HB := HB'
  clear HB'
  clear hb
  rw [HP.out]
  simp only
  have tp1 : (p1 != p1) = false := by simp
  have tp2 : (p2 != p2) = false := by simp
  have tp3 : (p3 != p3) = false := by simp
  have r0 := cellOf HR.out 0 _ rfl
  have r1 := cellOf HR.out 1 _ rfl
  have r2 := cellOf HR.out 2 _ rfl
  have r3 := cellOf HR.out 3 _ rfl
  have r4 := cellOf HR.out 4 _ rfl
  have rl := lt_of_block HR.out
  have x0 := cellOf HX.out 0 _ rfl
  have x1 := cellOf HX.out 1 _ rfl
  have xl := lt_of_block HX.out
  have y0 := cellOf HY.out 0 _ rfl
  have y1 := cellOf HY.out 1 _ rfl
  have yl := lt_of_block HY.out
  go_wp2_with fail
  clear r0 r1 r2 r3 r4 rl x0 x1 xl y0 y1 yl
  have hcall := cuts_any c _ _ (s1, s2) wb HC.out
  rw [HKI.out, HBA.out, HMO.out] at hcall
  refine hcall.mono ?_
  clear hcall
  rintro e w1 ⟨vw1, rfl, hI, hb⟩
  have HR' := Lib.hid ((hb.block _ (lt_of_block HR.out)).trans HR.out)
  have HX' := Lib.hid ((hb.block _ (lt_of_block HX.out)).trans HX.out)
  have HY' := Lib.hid ((hb.block _ (lt_of_block HY.out)).trans HY.out)
  have HC' := Lib.hid (HC.out.below hb)
  have HB' := Lib.hid (HB.out.trans (hb.mono HB.out.size))
  clear HR
  have HR := HR'
  clear HR'
  clear HX
  have HX := HX'
  clear HX'
  clear HY
  have HY := HY'
  clear HY'
  clear HC
  have HC := HC'
  clear HC'
  clear HB
  have HB := HB'
  clear HB'
  clear hb
  have HI := Lib.hid hI
  clear hI
  obtain ⟨Ew1, hE⟩ : ∃ x, askE c (s1, s2) = x := ⟨_, rfl⟩
  have HE := Lib.hid hE
  clear hE
  rw [HE.out] at HI ⊢
  have r0 := cellOf HR.out 0 _ rfl
  have r1 := cellOf HR.out 1 _ rfl
  have r2 := cellOf HR.out 2 _ rfl
  have r3 := cellOf HR.out 3 _ rfl
  have r4 := cellOf HR.out 4 _ rfl
  have rl := lt_of_block HR.out
  have x0 := cellOf HX.out 0 _ rfl
  have x1 := cellOf HX.out 1 _ rfl
  have xl := lt_of_block HX.out
  have y0 := cellOf HY.out 0 _ rfl
  have y1 := cellOf HY.out 1 _ rfl
  have yl := lt_of_block HY.out
  go_wp2_with fail
  clear r0 r1 r2 r3 r4 rl x0 x1 xl y0 y1 yl
  have hcall := rCuts_any c _ _ (s1, s2) w1 HC.out
  rw [HKI.out, HBA.out, HMO.out] at hcall
  refine hcall.mono ?_
  clear hcall
  rintro e w2 ⟨vw2, rfl, hI, hb⟩
  have HR' := Lib.hid ((hb.block _ (lt_of_block HR.out)).trans HR.out)
  have HX' := Lib.hid ((hb.block _ (lt_of_block HX.out)).trans HX.out)
  have HY' := Lib.hid ((hb.block _ (lt_of_block HY.out)).trans HY.out)
  have HC' := Lib.hid (HC.out.below hb)
  have HB' := Lib.hid (HB.out.trans (hb.mono HB.out.size))
  have HI' := Lib.hid (HI.out.below hb)
  clear HR
  have HR := HR'
  clear HR'
  clear HX
  have HX := HX'
  clear HX'
  clear HY
  have HY := HY'
  clear HY'
  clear HC
  have HC := HC'
  clear HC'
  clear HB
  have HB := HB'
  clear HB'
  clear HI
  have HI := HI'
  clear HI'
  clear hb
  have HJ := Lib.hid hI
  clear hI
  rw [HE.out] at HJ ⊢
  have te : (Ew1 == Ew1) = true := by simp
  have tn : (Ew1 != Ew1) = false := by simp
  have r0 := cellOf HR.out 0 _ rfl
  have r1 := cellOf HR.out 1 _ rfl
  have r2 := cellOf HR.out 2 _ rfl
  have r3 := cellOf HR.out 3 _ rfl
  have r4 := cellOf HR.out 4 _ rfl
  have rl := lt_of_block HR.out
  have x0 := cellOf HX.out 0 _ rfl
  have x1 := cellOf HX.out 1 _ rfl
  have xl := lt_of_block HX.out
  have y0 := cellOf HY.out 0 _ rfl
  have y1 := cellOf HY.out 1 _ rfl
  have yl := lt_of_block HY.out
  go_wp2_with fail
  clear r0 r1 r2 r3 r4 rl x0 x1 xl y0 y1 yl
  have hcall := ints_eq _ _ _ w2 HI.out HJ.out
  refine hcall.mono ?_
  clear hcall
  rintro e w3 ⟨rfl, hb⟩
  have HR' := Lib.hid ((hb.block _ (lt_of_block HR.out)).trans HR.out)
  have HX' := Lib.hid ((hb.block _ (lt_of_block HX.out)).trans HX.out)
  have HY' := Lib.hid ((hb.block _ (lt_of_block HY.out)).trans HY.out)
  have HC' := Lib.hid (HC.out.below hb)
  have HB' := Lib.hid (HB.out.trans (hb.mono HB.out.size))
  have HI' := Lib.hid (HI.out.below hb)
  have HJ' := Lib.hid (HJ.out.below hb)
  clear HR
  have HR := HR'
  clear HR'
  clear HX
  have HX := HX'
  clear HX'
  clear HY
  have HY := HY'
  clear HY'
  clear HC
  have HC := HC'
  clear HC'
  clear HB
  have HB := HB'
  clear HB'
  clear HI
  have HI := HI'
  clear HI'
  clear HJ
  have HJ := HJ'
  clear HJ'
  clear hb
  have r0 := cellOf HR.out 0 _ rfl
  have r1 := cellOf HR.out 1 _ rfl
  have r2 := cellOf HR.out 2 _ rfl
  have r3 := cellOf HR.out 3 _ rfl
  have r4 := cellOf HR.out 4 _ rfl
  have rl := lt_of_block HR.out
  have x0 := cellOf HX.out 0 _ rfl
  have x1 := cellOf HX.out 1 _ rfl
  have xl := lt_of_block HX.out
  have y0 := cellOf HY.out 0 _ rfl
  have y1 := cellOf HY.out 1 _ rfl
  have yl := lt_of_block HY.out
  go_wp2_with fail
  clear r0 r1 r2 r3 r4 rl x0 x1 xl y0 y1 yl
  clear HI HJ HE te tn
  have hcall := False_any c _ _ (s1, s2) w3 HC.out
  rw [HKI.out, HBA.out, HMO.out] at hcall
  refine hcall.mono ?_
  clear hcall
  rintro e w4 ⟨vw4, rfl, hI, hb⟩
  have HR' := Lib.hid ((hb.block _ (lt_of_block HR.out)).trans HR.out)
  have HX' := Lib.hid ((hb.block _ (lt_of_block HX.out)).trans HX.out)
  have HY' := Lib.hid ((hb.block _ (lt_of_block HY.out)).trans HY.out)
  have HC' := Lib.hid (HC.out.below hb)
  have HB' := Lib.hid (HB.out.trans (hb.mono HB.out.size))
  clear HR
  have HR := HR'
  clear HR'
  clear HX
  have HX := HX'
  clear HX'
  clear HY
  have HY := HY'
  clear HY'
  clear HC
  have HC := HC'
  clear HC'
  clear HB
  have HB := HB'
  clear HB'
  clear hb
  have HI := Lib.hid hI
  clear hI
  obtain ⟨Ew4, hE⟩ : ∃ x, askE c (s1, s2) = x := ⟨_, rfl⟩
  have HE := Lib.hid hE
  clear hE
  rw [HE.out] at HI ⊢
  have r0 := cellOf HR.out 0 _ rfl
  have r1 := cellOf HR.out 1 _ rfl
  have r2 := cellOf HR.out 2 _ rfl
  have r3 := cellOf HR.out 3 _ rfl
  have r4 := cellOf HR.out 4 _ rfl
  have rl := lt_of_block HR.out
  have x0 := cellOf HX.out 0 _ rfl
  have x1 := cellOf HX.out 1 _ rfl
  have xl := lt_of_block HX.out
  have y0 := cellOf HY.out 0 _ rfl
  have y1 := cellOf HY.out 1 _ rfl
  have yl := lt_of_block HY.out
  go_wp2_with fail
  clear r0 r1 r2 r3 r4 rl x0 x1 xl y0 y1 yl
  have hcall := rFalse_any c _ _ (s1, s2) w4 HC.out
  rw [HKI.out, HBA.out, HMO.out] at hcall
  refine hcall.mono ?_
  clear hcall
  rintro e w5 ⟨vw5, rfl, hI, hb⟩
  have HR' := Lib.hid ((hb.block _ (lt_of_block HR.out)).trans HR.out)
  have HX' := Lib.hid ((hb.block _ (lt_of_block HX.out)).trans HX.out)
  have HY' := Lib.hid ((hb.block _ (lt_of_block HY.out)).trans HY.out)
  have HC' := Lib.hid (HC.out.below hb)
  have HB' := Lib.hid (HB.out.trans (hb.mono HB.out.size))
  have HI' := Lib.hid (HI.out.below hb)
  clear HR
  have HR := HR'
  clear HR'
  clear HX
  have HX := HX'
  clear HX'
  clear HY
  have HY := HY'
  clear HY'
  clear HC
  have HC := HC'
  clear HC'
  clear HB
  have HB := HB'
  clear HB'
  clear HI
  have HI := HI'
  clear HI'
  clear hb
  have HJ := Lib.hid hI
  clear hI
  rw [HE.out] at HJ ⊢
  have te : (Ew4 == Ew4) = true := by simp
  have tn : (Ew4 != Ew4) = false := by simp
  have r0 := cellOf HR.out 0 _ rfl
  have r1 := cellOf HR.out 1 _ rfl
  have r2 := cellOf HR.out 2 _ rfl
  have r3 := cellOf HR.out 3 _ rfl
  have r4 := cellOf HR.out 4 _ rfl
  have rl := lt_of_block HR.out
  have x0 := cellOf HX.out 0 _ rfl
  have x1 := cellOf HX.out 1 _ rfl
  have xl := lt_of_block HX.out
  have y0 := cellOf HY.out 0 _ rfl
  have y1 := cellOf HY.out 1 _ rfl
  have yl := lt_of_block HY.out
  go_wp2_with fail
  clear r0 r1 r2 r3 r4 rl x0 x1 xl y0 y1 yl
  have hcall := ints_eq _ _ _ w5 HI.out HJ.out
  refine hcall.mono ?_
  clear hcall
  rintro e w6 ⟨rfl, hb⟩
  have HR' := Lib.hid ((hb.block _ (lt_of_block HR.out)).trans HR.out)
  have HX' := Lib.hid ((hb.block _ (lt_of_block HX.out)).trans HX.out)
  have HY' := Lib.hid ((hb.block _ (lt_of_block HY.out)).trans HY.out)
  have HC' := Lib.hid (HC.out.below hb)
  have HB' := Lib.hid (HB.out.trans (hb.mono HB.out.size))
  have HI' := Lib.hid (HI.out.below hb)
  have HJ' := Lib.hid (HJ.out.below hb)
  clear HR
  have HR := HR'
  clear HR'
  clear HX
  have HX := HX'
  clear HX'
  clear HY
  have HY := HY'
  clear HY'
  clear HC
  have HC := HC'
  clear HC'
  clear HB
  have HB := HB'
  clear HB'
  clear HI
  have HI := HI'
  clear HI'
  clear HJ
  have HJ := HJ'
  clear HJ'
  clear hb
  have r0 := cellOf HR.out 0 _ rfl
  have r1 := cellOf HR.out 1 _ rfl
  have r2 := cellOf HR.out 2 _ rfl
  have r3 := cellOf HR.out 3 _ rfl
  have r4 := cellOf HR.out 4 _ rfl
  have rl := lt_of_block HR.out
  have x0 := cellOf HX.out 0 _ rfl
  have x1 := cellOf HX.out 1 _ rfl
  have xl := lt_of_block HX.out
  have y0 := cellOf HY.out 0 _ rfl
  have y1 := cellOf HY.out 1 _ rfl
  have yl := lt_of_block HY.out
  go_wp2_with fail
  clear r0 r1 r2 r3 r4 rl x0 x1 xl y0 y1 yl
  clear HI HJ HE te tn
  have hcall := Flat_any c _ _ (s1, s2) w6 HC.out
  rw [HKI.out, HBA.out, HMO.out] at hcall
  refine hcall.mono ?_
  clear hcall
  rintro e w7 ⟨vw7, rfl, hI, hb⟩
  have HR' := Lib.hid ((hb.block _ (lt_of_block HR.out)).trans HR.out)
  have HX' := Lib.hid ((hb.block _ (lt_of_block HX.out)).trans HX.out)
  have HY' := Lib.hid ((hb.block _ (lt_of_block HY.out)).trans HY.out)
  have HC' := Lib.hid (HC.out.below hb)
  have HB' := Lib.hid (HB.out.trans (hb.mono HB.out.size))
  clear HR
  have HR := HR'
  clear HR'
  clear HX
  have HX := HX'
  clear HX'
  clear HY
  have HY := HY'
  clear HY'
  clear HC
  have HC := HC'
  clear HC'
  clear HB
  have HB := HB'
  clear HB'
  clear hb
  have HI := Lib.hid hI
  clear hI
  obtain ⟨Ew7, hE⟩ : ∃ x, askE c (s1, s2) = x := ⟨_, rfl⟩
  have HE := Lib.hid hE
  clear hE
  rw [HE.out] at HI ⊢
  have r0 := cellOf HR.out 0 _ rfl
  have r1 := cellOf HR.out 1 _ rfl
  have r2 := cellOf HR.out 2 _ rfl
  have r3 := cellOf HR.out 3 _ rfl
  have r4 := cellOf HR.out 4 _ rfl
  have rl := lt_of_block HR.out
  have x0 := cellOf HX.out 0 _ rfl
  have x1 := cellOf HX.out 1 _ rfl
  have xl := lt_of_block HX.out
  have y0 := cellOf HY.out 0 _ rfl
  have y1 := cellOf HY.out 1 _ rfl
  have yl := lt_of_block HY.out
  go_wp2_with fail
  clear r0 r1 r2 r3 r4 rl x0 x1 xl y0 y1 yl
  have hcall := rFlat_any c _ _ (s1, s2) w7 HC.out
  rw [HKI.out, HBA.out, HMO.out] at hcall
  refine hcall.mono ?_
  clear hcall
  rintro e w8 ⟨vw8, rfl, hI, hb⟩
  have HR' := Lib.hid ((hb.block _ (lt_of_block HR.out)).trans HR.out)
  have HX' := Lib.hid ((hb.block _ (lt_of_block HX.out)).trans HX.out)
  have HY' := Lib.hid ((hb.block _ (lt_of_block HY.out)).trans HY.out)
  have HC' := Lib.hid (HC.out.below hb)
  have HB' := Lib.hid (HB.out.trans (hb.mono HB.out.size))
  have HI' := Lib.hid (HI.out.below hb)
  clear HR
  have HR := HR'
  clear HR'
  clear HX
  have HX := HX'
  clear HX'
  clear HY
  have HY := HY'
  clear HY'
  clear HC
  have HC := HC'
  clear HC'
  clear HB
  have HB := HB'
  clear HB'
  clear HI
  have HI := HI'
  clear HI'
  clear hb
  have HJ := Lib.hid hI
  clear hI
  rw [HE.out] at HJ ⊢
  have te : (Ew7 == Ew7) = true := by simp
  have tn : (Ew7 != Ew7) = false := by simp
  have r0 := cellOf HR.out 0 _ rfl
  have r1 := cellOf HR.out 1 _ rfl
  have r2 := cellOf HR.out 2 _ rfl
  have r3 := cellOf HR.out 3 _ rfl
  have r4 := cellOf HR.out 4 _ rfl
  have rl := lt_of_block HR.out
  have x0 := cellOf HX.out 0 _ rfl
  have x1 := cellOf HX.out 1 _ rfl
  have xl := lt_of_block HX.out
  have y0 := cellOf HY.out 0 _ rfl
  have y1 := cellOf HY.out 1 _ rfl
  have yl := lt_of_block HY.out
  go_wp2_with fail
  clear r0 r1 r2 r3 r4 rl x0 x1 xl y0 y1 yl
  have hcall := ints_eq _ _ _ w8 HI.out HJ.out
  refine hcall.mono ?_
  clear hcall
  rintro e w9 ⟨rfl, hb⟩
  have HR' := Lib.hid ((hb.block _ (lt_of_block HR.out)).trans HR.out)
  have HX' := Lib.hid ((hb.block _ (lt_of_block HX.out)).trans HX.out)
  have HY' := Lib.hid ((hb.block _ (lt_of_block HY.out)).trans HY.out)
  have HC' := Lib.hid (HC.out.below hb)
  have HB' := Lib.hid (HB.out.trans (hb.mono HB.out.size))
  have HI' := Lib.hid (HI.out.below hb)
  have HJ' := Lib.hid (HJ.out.below hb)
  clear HR
  have HR := HR'
  clear HR'
  clear HX
  have HX := HX'
  clear HX'
  clear HY
  have HY := HY'
  clear HY'
  clear HC
  have HC := HC'
  clear HC'
  clear HB
  have HB := HB'
  clear HB'
  clear HI
  have HI := HI'
  clear HI'
  clear HJ
  have HJ := HJ'
  clear HJ'
  clear hb
  have r0 := cellOf HR.out 0 _ rfl
  have r1 := cellOf HR.out 1 _ rfl
  have r2 := cellOf HR.out 2 _ rfl
  have r3 := cellOf HR.out 3 _ rfl
  have r4 := cellOf HR.out 4 _ rfl
  have rl := lt_of_block HR.out
  have x0 := cellOf HX.out 0 _ rfl
  have x1 := cellOf HX.out 1 _ rfl
  have xl := lt_of_block HX.out
  have y0 := cellOf HY.out 0 _ rfl
  have y1 := cellOf HY.out 1 _ rfl
  have yl := lt_of_block HY.out
  go_wp2_with fail
  clear r0 r1 r2 r3 r4 rl x0 x1 xl y0 y1 yl
  clear HI HJ HE te tn
  have hcall := Apart_any c _ _ (s1, s2) (t1, t2) w9 HC.out
  rw [HKI.out, HBA.out, HMO.out] at hcall
  refine hcall.mono ?_
  clear hcall
  rintro e w10 ⟨vw10, rfl, hI, hb⟩
  have HR' := Lib.hid ((hb.block _ (lt_of_block HR.out)).trans HR.out)
  have HX' := Lib.hid ((hb.block _ (lt_of_block HX.out)).trans HX.out)
  have HY' := Lib.hid ((hb.block _ (lt_of_block HY.out)).trans HY.out)
  have HC' := Lib.hid (HC.out.below hb)
  have HB' := Lib.hid (HB.out.trans (hb.mono HB.out.size))
  clear HR
  have HR := HR'
  clear HR'
  clear HX
  have HX := HX'
  clear HX'
  clear HY
  have HY := HY'
  clear HY'
  clear HC
  have HC := HC'
  clear HC'
  clear HB
  have HB := HB'
  clear HB'
  clear hb
  have HI := Lib.hid hI
  clear hI
  obtain ⟨Ew10, hE⟩ : ∃ x, apartE c (s1, s2) (t1, t2) = x := ⟨_, rfl⟩
  have HE := Lib.hid hE
  clear hE
  rw [HE.out] at HI ⊢
  have r0 := cellOf HR.out 0 _ rfl
  have r1 := cellOf HR.out 1 _ rfl
  have r2 := cellOf HR.out 2 _ rfl
  have r3 := cellOf HR.out 3 _ rfl
  have r4 := cellOf HR.out 4 _ rfl
  have rl := lt_of_block HR.out
  have x0 := cellOf HX.out 0 _ rfl
  have x1 := cellOf HX.out 1 _ rfl
  have xl := lt_of_block HX.out
  have y0 := cellOf HY.out 0 _ rfl
  have y1 := cellOf HY.out 1 _ rfl
  have yl := lt_of_block HY.out
  go_wp2_with fail
  clear r0 r1 r2 r3 r4 rl x0 x1 xl y0 y1 yl
  have hcall := rApart_any c _ _ (s1, s2) (t1, t2) w10 HC.out
  rw [HKI.out, HBA.out, HMO.out] at hcall
  refine hcall.mono ?_
  clear hcall
  rintro e w11 ⟨vw11, rfl, hI, hb⟩
  have HR' := Lib.hid ((hb.block _ (lt_of_block HR.out)).trans HR.out)
  have HX' := Lib.hid ((hb.block _ (lt_of_block HX.out)).trans HX.out)
  have HY' := Lib.hid ((hb.block _ (lt_of_block HY.out)).trans HY.out)
  have HC' := Lib.hid (HC.out.below hb)
  have HB' := Lib.hid (HB.out.trans (hb.mono HB.out.size))
  have HI' := Lib.hid (HI.out.below hb)
  clear HR
  have HR := HR'
  clear HR'
  clear HX
  have HX := HX'
  clear HX'
  clear HY
  have HY := HY'
  clear HY'
  clear HC
  have HC := HC'
  clear HC'
  clear HB
  have HB := HB'
  clear HB'
  clear HI
  have HI := HI'
  clear HI'
  clear hb
  have HJ := Lib.hid hI
  clear hI
  rw [HE.out] at HJ ⊢
  have te : (Ew10 == Ew10) = true := by simp
  have tn : (Ew10 != Ew10) = false := by simp
  have r0 := cellOf HR.out 0 _ rfl
  have r1 := cellOf HR.out 1 _ rfl
  have r2 := cellOf HR.out 2 _ rfl
  have r3 := cellOf HR.out 3 _ rfl
  have r4 := cellOf HR.out 4 _ rfl
  have rl := lt_of_block HR.out
  have x0 := cellOf HX.out 0 _ rfl
  have x1 := cellOf HX.out 1 _ rfl
  have xl := lt_of_block HX.out
  have y0 := cellOf HY.out 0 _ rfl
  have y1 := cellOf HY.out 1 _ rfl
  have yl := lt_of_block HY.out
  go_wp2_with fail
  clear r0 r1 r2 r3 r4 rl x0 x1 xl y0 y1 yl
  have hcall := ints_eq _ _ _ w11 HI.out HJ.out
  refine hcall.mono ?_
  clear hcall
  rintro e w12 ⟨rfl, hb⟩
  have HR' := Lib.hid ((hb.block _ (lt_of_block HR.out)).trans HR.out)
  have HX' := Lib.hid ((hb.block _ (lt_of_block HX.out)).trans HX.out)
  have HY' := Lib.hid ((hb.block _ (lt_of_block HY.out)).trans HY.out)
  have HC' := Lib.hid (HC.out.below hb)
  have HB' := Lib.hid (HB.out.trans (hb.mono HB.out.size))
  have HI' := Lib.hid (HI.out.below hb)
  have HJ' := Lib.hid (HJ.out.below hb)
  clear HR
  have HR := HR'
  clear HR'
  clear HX
  have HX := HX'
  clear HX'
  clear HY
  have HY := HY'
  clear HY'
  clear HC
  have HC := HC'
  clear HC'
  clear HB
  have HB := HB'
  clear HB'
  clear HI
  have HI := HI'
  clear HI'
  clear HJ
  have HJ := HJ'
  clear HJ'
  clear hb
  have r0 := cellOf HR.out 0 _ rfl
  have r1 := cellOf HR.out 1 _ rfl
  have r2 := cellOf HR.out 2 _ rfl
  have r3 := cellOf HR.out 3 _ rfl
  have r4 := cellOf HR.out 4 _ rfl
  have rl := lt_of_block HR.out
  have x0 := cellOf HX.out 0 _ rfl
  have x1 := cellOf HX.out 1 _ rfl
  have xl := lt_of_block HX.out
  have y0 := cellOf HY.out 0 _ rfl
  have y1 := cellOf HY.out 1 _ rfl
  have yl := lt_of_block HY.out
  go_wp2_with fail
  clear r0 r1 r2 r3 r4 rl x0 x1 xl y0 y1 yl
  refine (awake_any w12).mono ?_
  rintro e wz ⟨rfl, hb⟩
  have HBF := Lib.hid (HB.out.trans (hb.mono HB.out.size))
  clear hb
  go_wp2_with fail
  go_ret
  exact ⟨rfl, HBF.out⟩
end Go.Proofs.Ythflbbjilebhlaa
