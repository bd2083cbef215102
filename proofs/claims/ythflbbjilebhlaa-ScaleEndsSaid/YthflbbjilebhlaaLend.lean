/- The law ScaleEnds: Greatest and Least of the program answer what the reference's do. -/
import Derived.Test.YthflbbjilebhlaaYf
import Derived.Test.YthflbbjilebhlaaYh
import Derived.Test.YthflbbjilebhlaaYi
import Derived.Laws.StructEq
set_option linter.unusedSimpArgs false
set_option linter.unusedVariables false
namespace Go.Proofs.Ythflbbjilebhlaa
open Go Go.RowKit Go.Shelf Sc

set_option maxRecDepth 100000 in
set_option maxHeartbeats 8000000 in
theorem lends_any (c : Cse) (hv rv : Value) (i : Int) (w : World) (hC : CseAt w c hv rv) :
    Calls Try.prog 4 #[.agg #[.int .i64 c.kind, .int .i64 c.base, .int .i64 c.most, hv, rv], .int .i64 i] w fun e w' => e = .returned (.bool true) ∧ Below w.heap.size w w' := by
  obtain ⟨ha, hn, hc, rfl⟩ : ∃ a n c, hv = .slice a n c := by obtain ⟨_, a, cap, h, _⟩ := hC.hs; exact ⟨_, _, _, h⟩
  obtain ⟨ra, rn, rc, rfl⟩ : ∃ a n c, rv = .slice a n c := by obtain ⟨_, a, cap, h, _⟩ := hC.rd; exact ⟨_, _, _, h⟩
  obtain ⟨kind, hkind⟩ : ∃ x, c.kind = x := ⟨_, rfl⟩
  obtain ⟨base, hbase⟩ : ∃ x, c.base = x := ⟨_, rfl⟩
  obtain ⟨most, hmost⟩ : ∃ x, c.most = x := ⟨_, rfl⟩
  have HKI := Lib.hid hkind
  have HBA := Lib.hid hbase
  have HMO := Lib.hid hmost
  obtain ⟨W, hW⟩ : ∃ W, w.alloc (Obj.cells #[.int .i64 kind, .int .i64 base, .int .i64 most, .slice ha hn hc, .slice ra rn rc] 25) = W := ⟨_, rfl⟩
  have hb : Below w.heap.size w W := by rw [← hW]; exact (Below.refl _ _).alloc (Nat.le_refl _) _
  have HR : Hid (W.heap[w.heap.size]? = some (Obj.cells #[.int .i64 kind, .int .i64 base, .int .i64 most, .slice ha hn hc, .slice ra rn rc] 25)) := by show _ = _; rw [← hW]; exact heap_alloc_new w _
  have HC := Lib.hid (hC.below hb)
  have HC0 := Lib.hid hC
  have HW := Lib.hid hW
  have HB := Lib.hid hb
  rw [hkind, hbase, hmost]
  clear hW hb hC hkind hbase hmost
  go_enter Try.func4, Try.ntmps4
  go_wp2_with fail
  rw [HW.out]
  clear HW
  obtain ⟨⟨⟨a1, a2⟩, a3⟩, ha⟩ : ∃ x, greatC c i = x := ⟨_, rfl⟩
  have HA := Lib.hid ha
  clear ha
  obtain ⟨⟨⟨b1, b2⟩, b3⟩, ha⟩ : ∃ x, leastC c = x := ⟨_, rfl⟩
  have HL := Lib.hid ha
  clear ha
  have r0 := cellOf HR.out 0 _ rfl
  have r1 := cellOf HR.out 1 _ rfl
  have r2 := cellOf HR.out 2 _ rfl
  have r3 := cellOf HR.out 3 _ rfl
  have r4 := cellOf HR.out 4 _ rfl
  have rl := lt_of_block HR.out
  go_wp2_with fail
  clear r0 r1 r2 r3 r4 rl
  have hcall := Greatest_any c _ _ i W HC.out
  rw [HKI.out, HBA.out, HMO.out] at hcall
  refine hcall.mono ?_
  clear hcall
  rintro e w3 ⟨rfl, hb⟩
  have HR' := Lib.hid ((hb.block _ (lt_of_block HR.out)).trans HR.out)
  have HC' := Lib.hid (HC.out.below hb)
  have HB' := Lib.hid (HB.out.trans (hb.mono HB.out.size))
  clear HR
  have HR := HR'
  clear HR'
  clear HC
  have HC := HC'
  clear HC'
  clear HB
  have HB := HB'
  clear HB'
  clear hb
  rw [HA.out]
  simp only
  have LT1 := Lib.hid (lt_of_block HR.out)
  have r0 := cellOf HR.out 0 _ rfl
  have r1 := cellOf HR.out 1 _ rfl
  have r2 := cellOf HR.out 2 _ rfl
  have r3 := cellOf HR.out 3 _ rfl
  have r4 := cellOf HR.out 4 _ rfl
  have rl := lt_of_block HR.out
  go_wp2_with fail
  clear r0 r1 r2 r3 r4 rl
  have hb := (Below.refl w3.heap.size w3).alloc (Nat.le_refl _) (Obj.cells #[.int .i64 a1, .int .i64 a2] 27)
  have HS1 := Lib.hid (heap_alloc_new w3 (Obj.cells #[.int .i64 a1, .int .i64 a2] 27))
  have hz : (w3.alloc (Obj.cells #[.int .i64 a1, .int .i64 a2] 27)).heap.size = w3.heap.size + 1 := by simp
  have HR' := Lib.hid ((hb.block _ (lt_of_block HR.out)).trans HR.out)
  have HC' := Lib.hid (HC.out.below hb)
  have HB' := Lib.hid (HB.out.trans (hb.mono HB.out.size))
  clear HR
  have HR := HR'
  clear HR'
  clear HC
  have HC := HC'
  clear HC'
  clear HB
  have HB := HB'
  clear HB'
  clear hb
  generalize w3.alloc (Obj.cells #[.int .i64 a1, .int .i64 a2] 27) = w4 at *
  have Z4 := Lib.hid hz
  clear hz
  have hcall := rGreatest_any c _ _ i w4 HC.out
  rw [HKI.out, HBA.out, HMO.out] at hcall
  refine hcall.mono ?_
  clear hcall
  rintro e w5 ⟨rfl, hb⟩
  have HR' := Lib.hid ((hb.block _ (lt_of_block HR.out)).trans HR.out)
  have HC' := Lib.hid (HC.out.below hb)
  have HB' := Lib.hid (HB.out.trans (hb.mono HB.out.size))
  have HS1' := Lib.hid ((hb.block _ (lt_of_block HS1.out)).trans HS1.out)
  clear HR
  have HR := HR'
  clear HR'
  clear HC
  have HC := HC'
  clear HC'
  clear HB
  have HB := HB'
  clear HB'
  clear HS1
  have HS1 := HS1'
  clear HS1'
  clear hb
  rw [HA.out]
  simp only
  have ta3 : (a3 != a3) = false := by simp
  have ta1 : (a1 != a1) = false := by simp
  have ta2 : (a2 != a2) = false := by simp
  obtain ⟨u1, hu1⟩ : ∃ u, w3.heap.size = u := ⟨_, rfl⟩
  rw [hu1] at HS1 ⊢
  have U1 := Lib.hid hu1
  clear hu1
  have x0 := cellOf HS1.out 0 _ rfl
  have x1 := cellOf HS1.out 1 _ rfl
  have xl := lt_of_block HS1.out
  have r0 := cellOf HR.out 0 _ rfl
  have r1 := cellOf HR.out 1 _ rfl
  have r2 := cellOf HR.out 2 _ rfl
  have r3 := cellOf HR.out 3 _ rfl
  have r4 := cellOf HR.out 4 _ rfl
  have rl := lt_of_block HR.out
  go_wp2_with fail
  clear x0 x1 xl r0 r1 r2 r3 r4 rl
  have LT2 := Lib.hid (lt_of_block HS1.out)
  have hb := (Below.refl w5.heap.size w5).alloc (Nat.le_refl _) (Obj.cells #[.int .i64 a1, .int .i64 a2] 27)
  have HS2 := Lib.hid (heap_alloc_new w5 (Obj.cells #[.int .i64 a1, .int .i64 a2] 27))
  have hz : (w5.alloc (Obj.cells #[.int .i64 a1, .int .i64 a2] 27)).heap.size = w5.heap.size + 1 := by simp
  have HR' := Lib.hid ((hb.block _ (lt_of_block HR.out)).trans HR.out)
  have HC' := Lib.hid (HC.out.below hb)
  have HB' := Lib.hid (HB.out.trans (hb.mono HB.out.size))
  have HS1' := Lib.hid ((hb.block _ (lt_of_block HS1.out)).trans HS1.out)
  clear HR
  have HR := HR'
  clear HR'
  clear HC
  have HC := HC'
  clear HC'
  clear HB
  have HB := HB'
  clear HB'
  clear HS1
  have HS1 := HS1'
  clear HS1'
  clear hb
  generalize w5.alloc (Obj.cells #[.int .i64 a1, .int .i64 a2] 27) = w6 at *
  clear hz
  obtain ⟨u2, hu2⟩ : ∃ u, w5.heap.size = u := ⟨_, rfl⟩
  have LT2 : Hid (u1 < u2) := by rw [← hu2]; exact LT2.out
  rw [hu2] at HS2 ⊢
  clear hu2
  have LT1 : Hid (w.heap.size < u1) := by rw [← U1.out]; exact LT1.out
  have hcall := Least_any c _ _ w6 HC.out
  rw [HKI.out, HBA.out, HMO.out] at hcall
  refine hcall.mono ?_
  clear hcall
  rintro e w7 ⟨rfl, hb⟩
  have HR' := Lib.hid ((hb.block _ (lt_of_block HR.out)).trans HR.out)
  have HC' := Lib.hid (HC.out.below hb)
  have HB' := Lib.hid (HB.out.trans (hb.mono HB.out.size))
  have HS1' := Lib.hid ((hb.block _ (lt_of_block HS1.out)).trans HS1.out)
  have HS2' := Lib.hid ((hb.block _ (lt_of_block HS2.out)).trans HS2.out)
  clear HR
  have HR := HR'
  clear HR'
  clear HC
  have HC := HC'
  clear HC'
  clear HB
  have HB := HB'
  clear HB'
  clear HS1
  have HS1 := HS1'
  clear HS1'
  clear HS2
  have HS2 := HS2'
  clear HS2'
  clear hb
  rw [HL.out]
  simp only
  have k1 := LT1.out
  have k2 := LT2.out
  obtain ⟨w8, hV, n1, n2, n3, nb⟩ : ∃ V, ((w7.setCell ⟨u1, 0, none⟩ (.int .i64 b1)).setCell ⟨u1, 1, none⟩ (.int .i64 b2)) = V ∧ V.heap[u1]? = some (.cells #[.int .i64 b1, .int .i64 b2] 27 (0, 0)) ∧ V.heap[w.heap.size]? = w7.heap[w.heap.size]? ∧ V.heap[u2]? = w7.heap[u2]? ∧ Below w.heap.size w V :=
    ⟨_, rfl, two_set HS1.out, (heap_setCell_other _ _ _ _ (by show (w.heap.size : Nat) ≠ u1; omega)).trans (heap_setCell_other _ _ _ _ (by show (w.heap.size : Nat) ≠ u1; omega)), (heap_setCell_other _ _ _ _ (by show (u2 : Nat) ≠ u1; omega)).trans (heap_setCell_other _ _ _ _ (by show (u2 : Nat) ≠ u1; omega)), two_below (g := u1) HB.out (by omega)⟩
  have HV := Lib.hid hV
  have M1 := Lib.hid n1
  have M2 := Lib.hid (n2.trans HR.out)
  have M3 := Lib.hid (n3.trans HS2.out)
  have MB := Lib.hid nb
  have q0 := cellOf HS1.out 0 _ rfl
  have q1 := cellOf HS1.out 1 _ rfl
  have f0 := frozen_of_row _ _ 0 _ _ HS1.out
  have f1 := frozen_of_row _ _ 1 _ _ HS1.out
  have ql := lt_of_block HS1.out
  have g0 : ((w7.setCell ⟨u1, 0, none⟩ (.int .i64 b1)).setCell ⟨u1, 1, none⟩ (.int .i64 b2)).cell? ⟨u1, 0, none⟩ = some (.int .i64 b1) := by rw [hV]; exact cellOf M1.out 0 _ rfl
  have g1 : ((w7.setCell ⟨u1, 0, none⟩ (.int .i64 b1)).setCell ⟨u1, 1, none⟩ (.int .i64 b2)).cell? ⟨u1, 1, none⟩ = some (.int .i64 b2) := by rw [hV]; exact cellOf M1.out 1 _ rfl
  have gl : u1 < ((w7.setCell ⟨u1, 0, none⟩ (.int .i64 b1)).setCell ⟨u1, 1, none⟩ (.int .i64 b2)).heap.size := by rw [hV]; exact lt_of_block M1.out
  have h0 : ((w7.setCell ⟨u1, 0, none⟩ (.int .i64 b1)).setCell ⟨u1, 1, none⟩ (.int .i64 b2)).cell? ⟨w.heap.size, 0, none⟩ = some (.int .i64 kind) := by rw [hV]; exact cellOf M2.out 0 _ rfl
  have h1 : ((w7.setCell ⟨u1, 0, none⟩ (.int .i64 b1)).setCell ⟨u1, 1, none⟩ (.int .i64 b2)).cell? ⟨w.heap.size, 1, none⟩ = some (.int .i64 base) := by rw [hV]; exact cellOf M2.out 1 _ rfl
  have h2 : ((w7.setCell ⟨u1, 0, none⟩ (.int .i64 b1)).setCell ⟨u1, 1, none⟩ (.int .i64 b2)).cell? ⟨w.heap.size, 2, none⟩ = some (.int .i64 most) := by rw [hV]; exact cellOf M2.out 2 _ rfl
  have h3 : ((w7.setCell ⟨u1, 0, none⟩ (.int .i64 b1)).setCell ⟨u1, 1, none⟩ (.int .i64 b2)).cell? ⟨w.heap.size, 3, none⟩ = some (.slice ha hn hc) := by rw [hV]; exact cellOf M2.out 3 _ rfl
  have h4 : ((w7.setCell ⟨u1, 0, none⟩ (.int .i64 b1)).setCell ⟨u1, 1, none⟩ (.int .i64 b2)).cell? ⟨w.heap.size, 4, none⟩ = some (.slice ra rn rc) := by rw [hV]; exact cellOf M2.out 4 _ rfl
  have hl : w.heap.size < ((w7.setCell ⟨u1, 0, none⟩ (.int .i64 b1)).setCell ⟨u1, 1, none⟩ (.int .i64 b2)).heap.size := by rw [hV]; exact lt_of_block M2.out
  have i0 : ((w7.setCell ⟨u1, 0, none⟩ (.int .i64 b1)).setCell ⟨u1, 1, none⟩ (.int .i64 b2)).cell? ⟨u2, 0, none⟩ = some (.int .i64 a1) := by rw [hV]; exact cellOf M3.out 0 _ rfl
  have i1 : ((w7.setCell ⟨u1, 0, none⟩ (.int .i64 b1)).setCell ⟨u1, 1, none⟩ (.int .i64 b2)).cell? ⟨u2, 1, none⟩ = some (.int .i64 a2) := by rw [hV]; exact cellOf M3.out 1 _ rfl
  have il : u2 < ((w7.setCell ⟨u1, 0, none⟩ (.int .i64 b1)).setCell ⟨u1, 1, none⟩ (.int .i64 b2)).heap.size := by rw [hV]; exact lt_of_block M3.out
  clear k1 k2 n1 n2 n3 nb hV
  go_wp2_with fail
  rw [HV.out]
  clear HV q0 q1 f0 f1 ql g0 g1 h0 h1 h2 h3 h4 i0 i1 gl hl il
  clear HS1 HR HS2 HB HC
  have HS1 := M1
  have HR := M2
  have HS2 := M3
  have HB := MB
  have HC := Lib.hid (HC0.out.below MB.out)
  clear M1 M2 M3 MB
  have hcall := rLeast_any c _ _ w8 HC.out
  rw [HKI.out, HBA.out, HMO.out] at hcall
  refine hcall.mono ?_
  clear hcall
  rintro e w9 ⟨rfl, hb⟩
  have HR' := Lib.hid ((hb.block _ (lt_of_block HR.out)).trans HR.out)
  have HC' := Lib.hid (HC.out.below hb)
  have HB' := Lib.hid (HB.out.trans (hb.mono HB.out.size))
  have HS1' := Lib.hid ((hb.block _ (lt_of_block HS1.out)).trans HS1.out)
  have HS2' := Lib.hid ((hb.block _ (lt_of_block HS2.out)).trans HS2.out)
  clear HR
  have HR := HR'
  clear HR'
  clear HC
  have HC := HC'
  clear HC'
  clear HB
  have HB := HB'
  clear HB'
  clear HS1
  have HS1 := HS1'
  clear HS1'
  clear HS2
  have HS2 := HS2'
  clear HS2'
  clear hb
  rw [HL.out]
  simp only
  have tb3 : (b3 == b3) = true := by simp
  have tb1 : (b1 == b1) = true := by simp
  have tb2 : (b2 == b2) = true := by simp
  have k1 := LT1.out
  have k2 := LT2.out
  obtain ⟨wa, hV, n1, n2, n3, nb⟩ : ∃ V, ((w9.setCell ⟨u2, 0, none⟩ (.int .i64 b1)).setCell ⟨u2, 1, none⟩ (.int .i64 b2)) = V ∧ V.heap[u2]? = some (.cells #[.int .i64 b1, .int .i64 b2] 27 (0, 0)) ∧ V.heap[w.heap.size]? = w9.heap[w.heap.size]? ∧ V.heap[u1]? = w9.heap[u1]? ∧ Below w.heap.size w V :=
    ⟨_, rfl, two_set HS2.out, (heap_setCell_other _ _ _ _ (by show (w.heap.size : Nat) ≠ u2; omega)).trans (heap_setCell_other _ _ _ _ (by show (w.heap.size : Nat) ≠ u2; omega)), (heap_setCell_other _ _ _ _ (by show (u1 : Nat) ≠ u2; omega)).trans (heap_setCell_other _ _ _ _ (by show (u1 : Nat) ≠ u2; omega)), two_below (g := u2) HB.out (by omega)⟩
  have HV := Lib.hid hV
  have M1 := Lib.hid n1
  have M2 := Lib.hid (n2.trans HR.out)
  have M3 := Lib.hid (n3.trans HS1.out)
  have MB := Lib.hid nb
  have q0 := cellOf HS2.out 0 _ rfl
  have q1 := cellOf HS2.out 1 _ rfl
  have f0 := frozen_of_row _ _ 0 _ _ HS2.out
  have f1 := frozen_of_row _ _ 1 _ _ HS2.out
  have ql := lt_of_block HS2.out
  have g0 : ((w9.setCell ⟨u2, 0, none⟩ (.int .i64 b1)).setCell ⟨u2, 1, none⟩ (.int .i64 b2)).cell? ⟨u2, 0, none⟩ = some (.int .i64 b1) := by rw [hV]; exact cellOf M1.out 0 _ rfl
  have g1 : ((w9.setCell ⟨u2, 0, none⟩ (.int .i64 b1)).setCell ⟨u2, 1, none⟩ (.int .i64 b2)).cell? ⟨u2, 1, none⟩ = some (.int .i64 b2) := by rw [hV]; exact cellOf M1.out 1 _ rfl
  have gl : u2 < ((w9.setCell ⟨u2, 0, none⟩ (.int .i64 b1)).setCell ⟨u2, 1, none⟩ (.int .i64 b2)).heap.size := by rw [hV]; exact lt_of_block M1.out
  have h0 : ((w9.setCell ⟨u2, 0, none⟩ (.int .i64 b1)).setCell ⟨u2, 1, none⟩ (.int .i64 b2)).cell? ⟨w.heap.size, 0, none⟩ = some (.int .i64 kind) := by rw [hV]; exact cellOf M2.out 0 _ rfl
  have h1 : ((w9.setCell ⟨u2, 0, none⟩ (.int .i64 b1)).setCell ⟨u2, 1, none⟩ (.int .i64 b2)).cell? ⟨w.heap.size, 1, none⟩ = some (.int .i64 base) := by rw [hV]; exact cellOf M2.out 1 _ rfl
  have h2 : ((w9.setCell ⟨u2, 0, none⟩ (.int .i64 b1)).setCell ⟨u2, 1, none⟩ (.int .i64 b2)).cell? ⟨w.heap.size, 2, none⟩ = some (.int .i64 most) := by rw [hV]; exact cellOf M2.out 2 _ rfl
  have h3 : ((w9.setCell ⟨u2, 0, none⟩ (.int .i64 b1)).setCell ⟨u2, 1, none⟩ (.int .i64 b2)).cell? ⟨w.heap.size, 3, none⟩ = some (.slice ha hn hc) := by rw [hV]; exact cellOf M2.out 3 _ rfl
  have h4 : ((w9.setCell ⟨u2, 0, none⟩ (.int .i64 b1)).setCell ⟨u2, 1, none⟩ (.int .i64 b2)).cell? ⟨w.heap.size, 4, none⟩ = some (.slice ra rn rc) := by rw [hV]; exact cellOf M2.out 4 _ rfl
  have hl : w.heap.size < ((w9.setCell ⟨u2, 0, none⟩ (.int .i64 b1)).setCell ⟨u2, 1, none⟩ (.int .i64 b2)).heap.size := by rw [hV]; exact lt_of_block M2.out
  have i0 : ((w9.setCell ⟨u2, 0, none⟩ (.int .i64 b1)).setCell ⟨u2, 1, none⟩ (.int .i64 b2)).cell? ⟨u1, 0, none⟩ = some (.int .i64 b1) := by rw [hV]; exact cellOf M3.out 0 _ rfl
  have i1 : ((w9.setCell ⟨u2, 0, none⟩ (.int .i64 b1)).setCell ⟨u2, 1, none⟩ (.int .i64 b2)).cell? ⟨u1, 1, none⟩ = some (.int .i64 b2) := by rw [hV]; exact cellOf M3.out 1 _ rfl
  have il : u1 < ((w9.setCell ⟨u2, 0, none⟩ (.int .i64 b1)).setCell ⟨u2, 1, none⟩ (.int .i64 b2)).heap.size := by rw [hV]; exact lt_of_block M3.out
  clear k1 k2 n1 n2 n3 nb hV
  go_wp2_with fail
  rw [HV.out]
  clear HV q0 q1 f0 f1 ql g0 g1 h0 h1 h2 h3 h4 i0 i1 gl hl il
  clear HS2 HR HS1 HB HC
  have HS2 := M1
  have HR := M2
  have HS1 := M3
  have HB := MB
  have HC := Lib.hid (HC0.out.below MB.out)
  clear M1 M2 M3 MB
  refine (awake_any wa).mono ?_
  rintro e wz ⟨rfl, hb⟩
  have HBF := Lib.hid (HB.out.trans (hb.mono HB.out.size))
  clear hb
  go_wp2_with fail
  go_ret
  exact ⟨rfl, HBF.out⟩
end Go.Proofs.Ythflbbjilebhlaa
