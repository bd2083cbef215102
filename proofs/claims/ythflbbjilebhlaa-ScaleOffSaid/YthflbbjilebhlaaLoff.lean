/- The law ScaleOff. -/
import Derived.Test.YthflbbjilebhlaaYf
import Derived.Test.YthflbbjilebhlaaXh
import Derived.Test.YthflbbjilebhlaaXk
import Derived.Test.YthflbbjilebhlaaXm
import Derived.Laws.StructEq
set_option linter.unusedSimpArgs false
set_option linter.unusedVariables false
namespace Go.Proofs.Ythflbbjilebhlaa
open Go Go.RowKit Go.Shelf Sc

set_option maxRecDepth 100000 in
set_option maxHeartbeats 16000000 in
theorem loff_any (c : Cse) (hv rv : Value) (x y : Nat) (w : World) (hC : CseAt w c hv rv) (hx : x ≤ 255) (hy : y ≤ 255) :
    Calls Try.prog 11 #[.agg #[.int .i64 c.kind, .int .i64 c.base, .int .i64 c.most, hv, rv], .agg #[.int .u8 x, .int .u8 y]] w fun e w' => e = .returned (.bool true) ∧ Below w.heap.size w w' := by
  obtain ⟨ha, n, hc, rfl⟩ : ∃ a n c, hv = .slice a n c := by obtain ⟨_, a, cap, h, _⟩ := hC.hs; exact ⟨_, _, _, h⟩
  obtain ⟨ra, m, rc, rfl⟩ : ∃ a n c, rv = .slice a n c := by obtain ⟨_, a, cap, h, _⟩ := hC.rd; exact ⟨_, _, _, h⟩
  have hn : c.hs.length = n := by obtain ⟨_, a, cap, h, _⟩ := hC.hs; simp only [Value.slice.injEq] at h; exact h.2.1.symm
  have hm : c.rds.length = m := by obtain ⟨_, a, cap, h, _⟩ := hC.rd; simp only [Value.slice.injEq] at h; exact h.2.1.symm
  obtain ⟨kind, hkind⟩ : ∃ x, c.kind = x := ⟨_, rfl⟩
  obtain ⟨base, hbase⟩ : ∃ x, c.base = x := ⟨_, rfl⟩
  obtain ⟨most, hmost⟩ : ∃ x, c.most = x := ⟨_, rfl⟩
  have HN := Lib.hid hn
  have HM := Lib.hid hm
  have HKI := Lib.hid hkind
  have HBA := Lib.hid hbase
  have HMO := Lib.hid hmost
  obtain ⟨W, hW, q1, q2, hb, _⟩ := al2 w (Obj.cells #[.int .i64 kind, .int .i64 base, .int .i64 most, .slice ha n hc, .slice ra m rc] 25) (Obj.cells #[.int .u8 (x : Int), .int .u8 (y : Int)] 56)
  have HR := Lib.hid q1
  have HX := Lib.hid q2
  have HC := Lib.hid (hC.below hb)
  have HW := Lib.hid hW
  have HB := Lib.hid hb
  have HXY := Lib.hid (And.intro hx hy)
  obtain ⟨⟨t1, t2⟩, ht⟩ : ∃ t, anyS x y = t := ⟨_, rfl⟩
  have hok : sclE (t1, t2) = 0 := by rw [← ht]; exact anyS_ok x y
  have HOK := Lib.hid hok
  have HANY := Lib.hid ht
  rw [hkind, hbase, hmost]
  clear hW hb hC q1 q2 hkind hbase hmost hx hy ht hok hn hm
  go_enter Try.func11, Try.ntmps11
  go_wp2_with fail
  rw [HW.out]
  clear HW
  have r0 := cellOf HR.out 0 _ rfl
  have r1 := cellOf HR.out 1 _ rfl
  have r2 := cellOf HR.out 2 _ rfl
  have r3 := cellOf HR.out 3 _ rfl
  have r4 := cellOf HR.out 4 _ rfl
  have rl := lt_of_block HR.out
  have x0 := cellOf HX.out 0 _ rfl
  have x1 := cellOf HX.out 1 _ rfl
  have xl := lt_of_block HX.out
  go_wp2_with fail
  clear r0 r1 r2 r3 r4 rl x0 x1 xl
  have hcall := any_any x y W HXY.out.1 HXY.out.2
  rw [HANY.out] at hcall
  refine hcall.mono ?_
  clear hcall
  rintro e w3 ⟨rfl, hb⟩
  have HR' := Lib.hid ((hb.block _ (lt_of_block HR.out)).trans HR.out)
  have HX' := Lib.hid ((hb.block _ (lt_of_block HX.out)).trans HX.out)
  have HC' := Lib.hid (HC.out.below hb)
  have HB' := Lib.hid (HB.out.trans (hb.mono HB.out.size))
  clear HR
  have HR := HR'
  clear HR'
  clear HX
  have HX := HX'
  clear HX'
  clear HC
  have HC := HC'
  clear HC'
  clear HB
  have HB := HB'
  clear HB'
  clear hb
  simp only
  have r0 := cellOf HR.out 0 _ rfl
  have r1 := cellOf HR.out 1 _ rfl
  have r2 := cellOf HR.out 2 _ rfl
  have r3 := cellOf HR.out 3 _ rfl
  have r4 := cellOf HR.out 4 _ rfl
  have rl := lt_of_block HR.out
  have x0 := cellOf HX.out 0 _ rfl
  have x1 := cellOf HX.out 1 _ rfl
  have xl := lt_of_block HX.out
  go_wp2_with fail
  clear r0 r1 r2 r3 r4 rl x0 x1 xl
  have hb := (Below.refl w3.heap.size w3).alloc (Nat.le_refl _) (Obj.cells #[.int .i64 t1, .int .i64 t2] 27)
  have HT := Lib.hid (heap_alloc_new w3 (Obj.cells #[.int .i64 t1, .int .i64 t2] 27))
  have HR' := Lib.hid ((hb.block _ (lt_of_block HR.out)).trans HR.out)
  have HX' := Lib.hid ((hb.block _ (lt_of_block HX.out)).trans HX.out)
  have HC' := Lib.hid (HC.out.below hb)
  have HB' := Lib.hid (HB.out.trans (hb.mono HB.out.size))
  clear HR
  have HR := HR'
  clear HR'
  clear HX
  have HX := HX'
  clear HX'
  clear HC
  have HC := HC'
  clear HC'
  clear HB
  have HB := HB'
  clear HB'
  clear hb
  generalize w3.alloc (Obj.cells #[.int .i64 t1, .int .i64 t2] 27) = w4 at *
  obtain ⟨u2, hu2⟩ : ∃ u, w3.heap.size = u := ⟨_, rfl⟩
  rw [hu2] at HT ⊢
  clear hu2
  have hcall := False_any c _ _ (t1, t2) w4 HC.out
  rw [HKI.out, HBA.out, HMO.out] at hcall
  refine hcall.mono ?_
  clear hcall
  rintro e w5 ⟨v, rfl, hI, hb⟩
  have HR' := Lib.hid ((hb.block _ (lt_of_block HR.out)).trans HR.out)
  have HX' := Lib.hid ((hb.block _ (lt_of_block HX.out)).trans HX.out)
  have HC' := Lib.hid (HC.out.below hb)
  have HB' := Lib.hid (HB.out.trans (hb.mono HB.out.size))
  have HT' := Lib.hid ((hb.block _ (lt_of_block HT.out)).trans HT.out)
  clear HR
  have HR := HR'
  clear HR'
  clear HX
  have HX := HX'
  clear HX'
  clear HC
  have HC := HC'
  clear HC'
  clear HB
  have HB := HB'
  clear HB'
  clear HT
  have HT := HT'
  clear HT'
  clear hb
  have HI := Lib.hid hI
  clear hI
  obtain ⟨E, hE⟩ : ∃ x, askE c (t1, t2) = x := ⟨_, rfl⟩
  rw [hE] at HI ⊢
  have HE := Lib.hid hE
  clear hE
  have r0 := cellOf HR.out 0 _ rfl
  have r1 := cellOf HR.out 1 _ rfl
  have r2 := cellOf HR.out 2 _ rfl
  have r3 := cellOf HR.out 3 _ rfl
  have r4 := cellOf HR.out 4 _ rfl
  have rl := lt_of_block HR.out
  have x0 := cellOf HX.out 0 _ rfl
  have x1 := cellOf HX.out 1 _ rfl
  have xl := lt_of_block HX.out
  have t0 := cellOf HT.out 0 _ rfl
  have t1 := cellOf HT.out 1 _ rfl
  have tl := lt_of_block HT.out
  go_wp2_with fail
  clear r0 r1 r2 r3 r4 rl x0 x1 xl t0 t1 tl
  have hcall := valid_any c _ _ w5 HC.out
  rw [HKI.out, HBA.out, HMO.out] at hcall
  refine hcall.mono ?_
  clear hcall
  rintro e w6 ⟨rfl, hb⟩
  have HR' := Lib.hid ((hb.block _ (lt_of_block HR.out)).trans HR.out)
  have HX' := Lib.hid ((hb.block _ (lt_of_block HX.out)).trans HX.out)
  have HC' := Lib.hid (HC.out.below hb)
  have HB' := Lib.hid (HB.out.trans (hb.mono HB.out.size))
  have HT' := Lib.hid ((hb.block _ (lt_of_block HT.out)).trans HT.out)
  have HI' := Lib.hid (HI.out.below hb)
  clear HR
  have HR := HR'
  clear HR'
  clear HX
  have HX := HX'
  clear HX'
  clear HC
  have HC := HC'
  clear HC'
  clear HB
  have HB := HB'
  clear HB'
  clear HT
  have HT := HT'
  clear HT'
  clear HI
  have HI := HI'
  clear HI'
  clear hb
  by_cases he : errC c = 0
  · have td : decide (errC c = 0) = true := by simp [he]
    rw [td]
    have h0 := HE.out
    rw [ask_zero he HOK.out] at h0
    subst h0
    have hi2 := HI.out
    rw [if_pos rfl] at hi2
    clear HI
    have HI := Lib.hid hi2
    clear hi2
    obtain ⟨_, va, vc, rfl, _, _⟩ := id HI.out
    have hol : (offsC c (t1, t2)).length = m := by simp [offsC, HM.out]
    rw [hol]
    have HOL := Lib.hid hol
    have HVA := Lib.hid (valid_of he)
    have tm : ((m : Int) != (m : Int)) = false := by simp
    have m8 : m ≤ 8 := by rw [← HM.out]; exact HVA.out.r8
    have mI : (m : Int) ≤ 8 := by omega
    have n8 : n ≤ 8 := by rw [← HN.out]; exact HVA.out.n8
    have nI : (n : Int) ≤ 8 := by omega
    clear he td hol HX
    have c0 := cellOf HR.out 4 (.slice ra m rc) rfl
    have cl := lt_of_block HR.out
    go_wp2
    clear c0 cl tm
    go_loopg [8, 9, 10, 11] m (fun gh v8 v9 v10 v11 wr => ∃ (k : Nat), gh + k = m ∧ v8 = .int .i64 (k : Int) ∧ Hid (Below w6.heap.size w6 wr))
    case atStart => exact ⟨0, by omega, rfl, Below.refl _ _⟩
    case round =>
      obtain ⟨k, hk, rfl, HL⟩ := hrel
      by_cases hlt : k < m
      · have kI : (k : Int) < (m : Int) := by omega
        have kz : (0 : Int) ≤ (k : Int) := by omega
        have hk' : k < c.rds.length := by rw [HM.out]; exact hlt
        have hko : k < (offsC c (t1, t2)).length := by rw [HOL.out]; exact hlt
        have hrm := HVA.out.rd _ (List.getElem_mem hk')
        have hs := sclE_zero HOK.out
        have C1 := HC.out.below HL.out
        obtain ⟨b, o, rfl, d0, d1⟩ := C1.rd.get hk'
        obtain ⟨lb, lo, rfl, y0⟩ := (HI.out.below HL.out).get hko
        have hbd := off_bd HVA.out (s := (t1, t2)) ⟨hs.1, hs.2.2.1⟩ (r := c.rds[k]) ⟨hrm.1, hrm.2.1, hrm.2.2.1, hrm.2.2.2.1⟩
        have hoe : (offsC c (t1, t2))[k] = offR c (t1, t2) c.rds[k] := by simp [offsC]
        rw [hoe] at y0
        obtain ⟨⟨r1, r2⟩, hr⟩ : ∃ r, c.rds[k] = r := ⟨_, rfl⟩
        rw [hr] at d0 d1 hrm hbd y0
        simp only at d0 d1 hrm hbd hs
        obtain ⟨g1, g2, g3, g4, _⟩ := hrm
        obtain ⟨i, rfl⟩ : ∃ i : Nat, r1 = (i : Int) := ⟨r1.toNat, by omega⟩
        obtain ⟨j, rfl⟩ : ∃ j : Nat, r2 = (j : Int) := ⟨r2.toNat, by omega⟩
        have gi : i < c.hs.length := by omega
        have gj : j < c.hs.length := by omega
        obtain ⟨b1, o1, rfl, e0⟩ := C1.hs.get gj
        obtain ⟨b1', o1', e', e1⟩ := C1.hs.get gi
        cases e'
        have hbi := HVA.out.hs i gi
        have hbj := HVA.out.hs j gj
        have hb0 := HVA.out.b0
        have a0 : c.hs[j] = at0 c.hs (j : Int) := by rw [at0_nat]; simp [List.getD_eq_getElem?_getD, gj]
        have a1 : c.hs[i] = at0 c.hs (i : Int) := by rw [at0_nat]; simp [List.getD_eq_getElem?_getD, gi]
        rw [← at0_nat] at hbi hbj
        rw [a0] at e0
        rw [a1] at e1
        generalize at0 c.hs (j : Int) = x1 at *
        generalize at0 c.hs (i : Int) = x0 at *
        generalize offR c (t1, t2) ((i : Int), (j : Int)) = z at *
        obtain ⟨X, hX⟩ : ∃ X, x1 - x0 = X := ⟨_, rfl⟩
        rw [hX] at hbd
        have bX : -9000 ≤ X ∧ X ≤ 9000 := by omega
        have wx : IntKind.i64.wrap (x1 - x0) = X := by rw [hX, IntKind.wrap_i64] <;> omega
        obtain ⟨N, hN⟩ : ∃ N, -X = N := ⟨_, rfl⟩
        have wN : IntKind.i64.wrap (-X) = N := by rw [hN, IntKind.wrap_i64] <;> omega
        obtain ⟨A, hA⟩ : ∃ A, absZ X = A := ⟨_, rfl⟩
        have mx : max X N = A := by rw [← hA, ← hN]; rfl
        have mi : (if X < N then N else X) = A := by rw [← hA, ← hN]; unfold absZ; split <;> omega
        have bA : 0 ≤ A ∧ A ≤ 9000 := by rw [← hA]; unfold absZ; omega
        unfold mostB at hbd
        simp only at hbd
        rw [hA] at hbd
        have bB := Sc.mul_bd (a := t1) (b := A) (x := 30) (y := 9000) (by omega) hs.2.1 bA.1 bA.2
        obtain ⟨B, hB⟩ : ∃ B, t1 * A = B := ⟨_, rfl⟩
        rw [hB] at hbd bB
        have wB : IntKind.i64.wrap (t1 * A) = B := by rw [hB, IntKind.wrap_i64] <;> omega
        have K1 := (HL.out.block _ (lt_of_block HR.out)).trans HR.out
        have HT1 := Lib.hid ((HL.out.block _ (lt_of_block HT.out)).trans HT.out)
        have c3 := cellOf K1 3 (.slice (some ⟨b1, o1, none⟩) n hc) rfl
        have c4 := cellOf K1 4 (.slice (some ⟨b, o, none⟩) m rc) rfl
        have cl := lt_of_block K1
        have dl := World.block_lt_of_cell? wr _ d0
        have el := World.block_lt_of_cell? wr _ e0
        have yl := World.block_lt_of_cell? wr _ y0
        have gi' : (i : Int) < (n : Int) := by rw [← HN.out]; omega
        have gj' : (j : Int) < (n : Int) := by rw [← HN.out]; omega
        have gin : i < n := by omega
        have gjn : j < n := by omega
        have hd1 : IntKind.i64.wrap (t2 - 1) = t2 - 1 := by rw [IntKind.wrap_i64] <;> omega
        have hd2 : IntKind.i64.wrap (1000 * (t2 - 1)) = 1000 * (t2 - 1) := by rw [IntKind.wrap_i64] <;> omega
        have hd3 : IntKind.i64.wrap (1000 * (t2 - 1) + B) = 1000 * (t2 - 1) + B := by rw [IntKind.wrap_i64] <;> omega
        have hd4 : IntKind.i64.wrap (1000 * (t2 - 1) + B - 1) = 1000 * (t2 - 1) + B - 1 := by rw [IntKind.wrap_i64] <;> omega
        have HBD := Lib.hid hbd
        have hz0 : ¬ z < 0 := by omega
        have bB0 := bB.1
        have bB9 : B ≤ 270000 := by omega
        have t20 := hs.2.2.1
        have t29 := hs.2.2.2.1
        clear hk' hko hs C1 hoe hr hbd gi gj hbi hbj hb0 a0 a1 hX bX hN hA bA bB hB K1
        go_wp2_with fail
        go_quiet (fail)
        have HLN : Hid (Below w6.heap.size w6 (wr.drewN nq)) := HL.out.trans ⟨rfl, rfl, rfl, Nat.le_refl _, fun _ _ => rfl⟩
        have HT2 : Hid ((wr.drewN nq).heap[u2]? = some (.cells #[.int .i64 t1, .int .i64 t2] 27 (0, 0))) := HT1.out
        have y0 : (wr.drewN nq).cell? ⟨lb, lo + k, none⟩ = some (.int .i64 z) := y0
        have yl : lb < (wr.drewN nq).heap.size := yl
        generalize wr.drewN nq = v2 at *
        clear c3 c4 cl dl el d0 d1 e0 e1 HL HT1
        have f0 := cellOf HT2.out 0 (.int .i64 t1) rfl
        have f1 := cellOf HT2.out 1 (.int .i64 t2) rfl
        have fl := lt_of_block HT2.out
        by_cases hp : 0 < B
        · have hbd := HBD.out
          rw [if_pos hp] at hbd
          obtain ⟨M, hM⟩ : ∃ M, (1000 * (t2 - 1) + B - 1) / B = M := ⟨_, rfl⟩
          rw [hM] at hbd
          have tM : (1000 * (t2 - 1) + B - 1).tdiv B = M := by rw [Int.tdiv_eq_ediv_of_nonneg (by omega)]; exact hM
          have M0 : 0 ≤ M := by rw [← hM]; exact Int.ediv_nonneg (by omega) (by omega)
          have M9 : M ≤ 1000 * (t2 - 1) + B - 1 := by rw [← hM]; exact Int.ediv_le_self _ (by omega)
          have wM : IntKind.i64.wrap M = M := by rw [IntKind.wrap_i64] <;> omega
          have zM : ¬ M < z := by omega
          have B0 : ¬ B = 0 := by omega
          have B1 : ¬ B = -1 := by omega
          clear hbd hM M0 M9
          go_wp2_with fail
          go_roundg (gk - 1)
          case measure => omega
          case rel => exact ⟨k + 1, by omega, by go_num, HLN⟩
        · have hbd := HBD.out
          rw [if_neg hp] at hbd
          have zM : ¬ 0 < z := by omega
          clear hbd
          go_wp2_with fail
          go_roundg (gk - 1)
          case measure => omega
          case rel => exact ⟨k + 1, by omega, by go_num, HLN⟩
      · obtain rfl : k = m := by omega
        have kI : ¬ (k : Int) < (k : Int) := by omega
        clear hlt hk
        go_wp2_with fail
        refine (awake_any wr).mono ?_
        rintro e wz ⟨rfl, hb⟩
        have HBW := Lib.hid (HB.out.trans (HL.out.mono HB.out.size))
        have HBF := Lib.hid (HBW.out.trans (hb.mono HBW.out.size))
        clear hb
        go_wp2_with fail
        go_ret
        exact ⟨rfl, HBF.out⟩
  · have td : decide (errC c = 0) = false := by simp [he]
    rw [td]
    have h0 : E ≠ 0 := by rw [← HE.out]; intro q; exact he (askE_zero q).1
    have te : (E != 0) = true := by simpa using h0
    rw [if_neg h0] at HI
    obtain ⟨_, va, vc, rfl, _, _⟩ := id HI.out
    clear h0 td
    have r0 := cellOf HR.out 0 _ rfl
    have r1 := cellOf HR.out 1 _ rfl
    have r2 := cellOf HR.out 2 _ rfl
    have r3 := cellOf HR.out 3 _ rfl
    have r4 := cellOf HR.out 4 _ rfl
    have rl := lt_of_block HR.out
    have t0 := cellOf HT.out 0 _ rfl
    have t1 := cellOf HT.out 1 _ rfl
    have tl := lt_of_block HT.out
    go_wp2_with fail
    clear r0 r1 r2 r3 r4 rl t0 t1 tl
    refine (awake_any w6).mono ?_
    rintro e wz ⟨rfl, hb⟩
    have HBF := Lib.hid (HB.out.trans (hb.mono HB.out.size))
    clear hb
    go_wp2_with fail
    go_ret
    exact ⟨rfl, HBF.out⟩
end Go.Proofs.Ythflbbjilebhlaa
