/- The law ScaleMarks: the program's answers are the reference's. -/
import Derived.Test.YthflbbjilebhlaaYf
import Derived.Test.YthflbbjilebhlaaYj
import Derived.Test.YthflbbjilebhlaaYl
import Derived.Laws.StructEq
set_option linter.unusedSimpArgs false
set_option linter.unusedVariables false
namespace Go.Proofs.Ythflbbjilebhlaa
open Go Go.RowKit Go.Shelf Sc

set_option maxRecDepth 100000 in
set_option maxHeartbeats 8000000 in
theorem lmks_any (c : Cse) (hv rv : Value) (mv lv : Value) (ms : List Mrk) (l : List Scl) (w : World) (hC : CseAt w c hv rv) (hM : MrksAt w mv ms) (hS : PairsAt w lv l) :
    Calls Try.prog 5 #[.agg #[.int .i64 c.kind, .int .i64 c.base, .int .i64 c.most, hv, rv], mv, lv] w fun e w' => e = .returned (.bool true) ∧ Below w.heap.size w w' := by
  obtain ⟨ha, hn, hc, rfl⟩ : ∃ a n c, hv = .slice a n c := by obtain ⟨_, a, cap, h, _⟩ := hC.hs; exact ⟨_, _, _, h⟩
  obtain ⟨ra, rn, rc, rfl⟩ : ∃ a n c, rv = .slice a n c := by obtain ⟨_, a, cap, h, _⟩ := hC.rd; exact ⟨_, _, _, h⟩
  obtain ⟨kind, hkind⟩ : ∃ x, c.kind = x := ⟨_, rfl⟩
  obtain ⟨base, hbase⟩ : ∃ x, c.base = x := ⟨_, rfl⟩
  obtain ⟨most, hmost⟩ : ∃ x, c.most = x := ⟨_, rfl⟩
  have HKI := Lib.hid hkind
  have HBA := Lib.hid hbase
  have HMO := Lib.hid hmost
  obtain ⟨W, hW⟩ : ∃ W, w.alloc (Obj.cells #[.int .i64 kind, .int .i64 base, .int .i64 most, .slice ha hn hc, .slice ra rn rc] 25) = W := ⟨_, rfl⟩
  have hb : Below w.heap.size w W := by rw [← hW]; exact (Below.refl _ _).alloc (Nat.le_refl _) _
  have HR : Hid (W.heap[w.heap.size]? = some (Obj.cells #[.int .i64 kind, .int .i64 base, .int .i64 most, .slice ha hn hc, .slice ra rn rc] 25)) := by show _ = _; rw [← hW]; exact heap_alloc_new w _
  have HC := Lib.hid (hC.below hb)
  have HC0 := Lib.hid hC
  have HW := Lib.hid hW
  have HB := Lib.hid hb
  have HM := Lib.hid (hM.below hb)
  have HS := Lib.hid (hS.below hb)
  rw [hkind, hbase, hmost]
  clear hW hb hC hM hS hkind hbase hmost
  go_enter Try.func5, Try.ntmps5
  go_wp2_with fail
  rw [HW.out]
  clear HW
  have r0 := cellOf HR.out 0 _ rfl
  have r1 := cellOf HR.out 1 _ rfl
  have r2 := cellOf HR.out 2 _ rfl
  have r3 := cellOf HR.out 3 _ rfl
  have r4 := cellOf HR.out 4 _ rfl
  have rl := lt_of_block HR.out
  go_wp2_with fail
  clear r0 r1 r2 r3 r4 rl
  have hcall := Scales_any c _ _ _ ms W HC.out HM.out
  rw [HKI.out, HBA.out, HMO.out] at hcall
  refine hcall.mono ?_
  clear hcall
  rintro e w1 ⟨vw1, rfl, hI, hb⟩
  have HR' := Lib.hid ((hb.block _ (lt_of_block HR.out)).trans HR.out)
  have HC' := Lib.hid (HC.out.below hb)
  have HM' := Lib.hid (HM.out.below hb)
  have HS' := Lib.hid (HS.out.below hb)
  have HB' := Lib.hid (HB.out.trans (hb.mono HB.out.size))
  clear HR
  have HR := HR'
  clear HR'
  clear HC
  have HC := HC'
  clear HC'
  clear HM
  have HM := HM'
  clear HM'
  clear HS
  have HS := HS'
  clear HS'
  clear HB
  have HB := HB'
  clear HB'
  clear hb
  have HI := Lib.hid hI
  clear hI
  obtain ⟨Ew1, hE⟩ : ∃ x, scalesE c ms = x := ⟨_, rfl⟩
  have HE := Lib.hid hE
  clear hE
  rw [HE.out] at HI ⊢
  have r0 := cellOf HR.out 0 _ rfl
  have r1 := cellOf HR.out 1 _ rfl
  have r2 := cellOf HR.out 2 _ rfl
  have r3 := cellOf HR.out 3 _ rfl
  have r4 := cellOf HR.out 4 _ rfl
  have rl := lt_of_block HR.out
  go_wp2_with fail
  clear r0 r1 r2 r3 r4 rl
  have hcall := rScales_any c _ _ _ ms w1 HC.out HM.out
  rw [HKI.out, HBA.out, HMO.out] at hcall
  refine hcall.mono ?_
  clear hcall
  rintro e w2 ⟨vw2, rfl, hI, hb⟩
  have HR' := Lib.hid ((hb.block _ (lt_of_block HR.out)).trans HR.out)
  have HC' := Lib.hid (HC.out.below hb)
  have HM' := Lib.hid (HM.out.below hb)
  have HS' := Lib.hid (HS.out.below hb)
  have HB' := Lib.hid (HB.out.trans (hb.mono HB.out.size))
  have HI' := Lib.hid (HI.out.below hb)
  clear HR
  have HR := HR'
  clear HR'
  clear HC
  have HC := HC'
  clear HC'
  clear HM
  have HM := HM'
  clear HM'
  clear HS
  have HS := HS'
  clear HS'
  clear HB
  have HB := HB'
  clear HB'
  clear HI
  have HI := HI'
  clear HI'
  clear hb
  have HJ := Lib.hid hI
  clear hI
  rw [HE.out] at HJ ⊢
  have te : (Ew1 == Ew1) = true := by simp
  have tn : (Ew1 != Ew1) = false := by simp
  have r0 := cellOf HR.out 0 _ rfl
  have r1 := cellOf HR.out 1 _ rfl
  have r2 := cellOf HR.out 2 _ rfl
  have r3 := cellOf HR.out 3 _ rfl
  have r4 := cellOf HR.out 4 _ rfl
  have rl := lt_of_block HR.out
  go_wp2_with fail
  clear r0 r1 r2 r3 r4 rl
  have hcall := same_eq _ _ _ w2 HI.out HJ.out
  refine hcall.mono ?_
  clear hcall
  rintro e w3 ⟨rfl, hb⟩
  have HR' := Lib.hid ((hb.block _ (lt_of_block HR.out)).trans HR.out)
  have HC' := Lib.hid (HC.out.below hb)
  have HM' := Lib.hid (HM.out.below hb)
  have HS' := Lib.hid (HS.out.below hb)
  have HB' := Lib.hid (HB.out.trans (hb.mono HB.out.size))
  have HI' := Lib.hid (HI.out.below hb)
  have HJ' := Lib.hid (HJ.out.below hb)
  clear HR
  have HR := HR'
  clear HR'
  clear HC
  have HC := HC'
  clear HC'
  clear HM
  have HM := HM'
  clear HM'
  clear HS
  have HS := HS'
  clear HS'
  clear HB
  have HB := HB'
  clear HB'
  clear HI
  have HI := HI'
  clear HI'
  clear HJ
  have HJ := HJ'
  clear HJ'
  clear hb
  have r0 := cellOf HR.out 0 _ rfl
  have r1 := cellOf HR.out 1 _ rfl
  have r2 := cellOf HR.out 2 _ rfl
  have r3 := cellOf HR.out 3 _ rfl
  have r4 := cellOf HR.out 4 _ rfl
  have rl := lt_of_block HR.out
  go_wp2_with fail
  clear r0 r1 r2 r3 r4 rl
  clear HI HJ HE te tn
  have hcall := Tell_any c _ _ _ l w3 HC.out HS.out
  rw [HKI.out, HBA.out, HMO.out] at hcall
  refine hcall.mono ?_
  clear hcall
  rintro e w4 ⟨vw4, rfl, hI, hb⟩
  have HR' := Lib.hid ((hb.block _ (lt_of_block HR.out)).trans HR.out)
  have HC' := Lib.hid (HC.out.below hb)
  have HM' := Lib.hid (HM.out.below hb)
  have HS' := Lib.hid (HS.out.below hb)
  have HB' := Lib.hid (HB.out.trans (hb.mono HB.out.size))
  clear HR
  have HR := HR'
  clear HR'
  clear HC
  have HC := HC'
  clear HC'
  clear HM
  have HM := HM'
  clear HM'
  clear HS
  have HS := HS'
  clear HS'
  clear HB
  have HB := HB'
  clear HB'
  clear hb
  have HI := Lib.hid hI
  clear hI
  obtain ⟨Ew4, hE⟩ : ∃ x, tellE c l = x := ⟨_, rfl⟩
  have HE := Lib.hid hE
  clear hE
  rw [HE.out] at HI ⊢
  have r0 := cellOf HR.out 0 _ rfl
  have r1 := cellOf HR.out 1 _ rfl
  have r2 := cellOf HR.out 2 _ rfl
  have r3 := cellOf HR.out 3 _ rfl
  have r4 := cellOf HR.out 4 _ rfl
  have rl := lt_of_block HR.out
  go_wp2_with fail
  clear r0 r1 r2 r3 r4 rl
  have hcall := rTell_any c _ _ _ l w4 HC.out HS.out
  rw [HKI.out, HBA.out, HMO.out] at hcall
  refine hcall.mono ?_
  clear hcall
  rintro e w5 ⟨vw5, rfl, hI, hb⟩
  have HR' := Lib.hid ((hb.block _ (lt_of_block HR.out)).trans HR.out)
  have HC' := Lib.hid (HC.out.below hb)
  have HM' := Lib.hid (HM.out.below hb)
  have HS' := Lib.hid (HS.out.below hb)
  have HB' := Lib.hid (HB.out.trans (hb.mono HB.out.size))
  have HI' := Lib.hid (HI.out.below hb)
  clear HR
  have HR := HR'
  clear HR'
  clear HC
  have HC := HC'
  clear HC'
  clear HM
  have HM := HM'
  clear HM'
  clear HS
  have HS := HS'
  clear HS'
  clear HB
  have HB := HB'
  clear HB'
  clear HI
  have HI := HI'
  clear HI'
  clear hb
  have HJ := Lib.hid hI
  clear hI
  rw [HE.out] at HJ ⊢
  have te : (Ew4 == Ew4) = true := by simp
  have tn : (Ew4 != Ew4) = false := by simp
  have r0 := cellOf HR.out 0 _ rfl
  have r1 := cellOf HR.out 1 _ rfl
  have r2 := cellOf HR.out 2 _ rfl
  have r3 := cellOf HR.out 3 _ rfl
  have r4 := cellOf HR.out 4 _ rfl
  have rl := lt_of_block HR.out
  go_wp2_with fail
  clear r0 r1 r2 r3 r4 rl
  have hcall := ints_eq _ _ _ w5 HI.out HJ.out
  refine hcall.mono ?_
  clear hcall
  rintro e w6 ⟨rfl, hb⟩
  have HR' := Lib.hid ((hb.block _ (lt_of_block HR.out)).trans HR.out)
  have HC' := Lib.hid (HC.out.below hb)
  have HM' := Lib.hid (HM.out.below hb)
  have HS' := Lib.hid (HS.out.below hb)
  have HB' := Lib.hid (HB.out.trans (hb.mono HB.out.size))
  have HI' := Lib.hid (HI.out.below hb)
  have HJ' := Lib.hid (HJ.out.below hb)
  clear HR
  have HR := HR'
  clear HR'
  clear HC
  have HC := HC'
  clear HC'
  clear HM
  have HM := HM'
  clear HM'
  clear HS
  have HS := HS'
  clear HS'
  clear HB
  have HB := HB'
  clear HB'
  clear HI
  have HI := HI'
  clear HI'
  clear HJ
  have HJ := HJ'
  clear HJ'
  clear hb
  have r0 := cellOf HR.out 0 _ rfl
  have r1 := cellOf HR.out 1 _ rfl
  have r2 := cellOf HR.out 2 _ rfl
  have r3 := cellOf HR.out 3 _ rfl
  have r4 := cellOf HR.out 4 _ rfl
  have rl := lt_of_block HR.out
  go_wp2_with fail
  clear r0 r1 r2 r3 r4 rl
  refine (awake_any w6).mono ?_
  rintro e wz ⟨rfl, hb⟩
  have HBF := Lib.hid (HB.out.trans (hb.mono HB.out.size))
  clear hb
  go_wp2_with fail
  go_ret
  exact ⟨rfl, HBF.out⟩
end Go.Proofs.Ythflbbjilebhlaa
