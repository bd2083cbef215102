/- EdgeRaised: the call returns true, whatever its arguments and the memory in which it begins; its arguments read as they did. -/
import Derived.Test.YtkcfcjijmgbciaaLrm
import Derived.Laws.StructEq
import Derived.Test.YtkcfcjijmgbciaaRows
import Derived.Test.YtkcfcjijmgbciaaEar
import Derived.ProofKit
import Derived.JoinedOf
import Derived.JoinedAt
set_option linter.unusedSimpArgs false
set_option linter.unusedVariables false
namespace Go.Proofs.Ytkcfcjijmgbciaa
open Go Go.RowKit Go.Shelf Ed

set_option maxRecDepth 100000 in
set_option maxHeartbeats 16000000 in
theorem lraised_any (c : Cas) (sv ev : Value) (b : Int) (x y : Nat) (w : World) (hb0 : 0 ≤ b ∧ b ≤ 65535) (hx : x ≤ 255) (hy : y ≤ 255) (hC : CasAt w c sv ev) :
    Calls Try.prog 14 #[.agg #[.int .i64 c.tol, sv, ev], .int .u16 b, .agg #[.int .u8 x, .int .u8 y]] w fun e w' => e = .returned (.bool true) ∧ Below w.heap.size w w' := by
  obtain ⟨sa, n, sc, rfl, hn⟩ : ∃ a n cc, sv = .slice a n cc ∧ n = c.shs.length := by obtain ⟨_, a, cap, h, _⟩ := hC.shs; exact ⟨_, _, _, h, rfl⟩
  obtain ⟨ea, m, ec, rfl, hm⟩ : ∃ a n cc, ev = .slice a n cc ∧ n = c.eds.length := by obtain ⟨_, a, cap, h, _⟩ := hC.eds; exact ⟨_, _, _, h, rfl⟩
  obtain ⟨tol, htol⟩ : ∃ t, c.tol = t := ⟨_, rfl⟩
  have HTOL := Lib.hid htol
  have HN := Lib.hid hn
  have HM := Lib.hid hm
  have nlim : (n : Int) ≤ 4611686018427387904 := by have := hC.shs.1; omega
  have mlim : (m : Int) ≤ 4611686018427387904 := by have := hC.eds.1; omega
  obtain ⟨b0, b9⟩ := hb0
  obtain ⟨W, hW, q1, q2, hb, hsz⟩ := al2 w (Obj.cells #[.int .i64 tol, .slice sa n sc, .slice ea m ec] 25) (Obj.cells #[.int .u8 x, .int .u8 y] 72)
  have HR := Lib.hid q1
  have HZ := Lib.hid q2
  have HC := Lib.hid (hC.below hb)
  have HW := Lib.hid hW
  have HB := Lib.hid hb
  rw [htol]
  clear hW hb hC htol hn hm q1 q2 hsz
  go_enter Try.func14, Try.ntmps14
  go_wp2_with fail
  rw [HW.out]
  clear HW
  have r0 := cellOf HR.out 0 _ rfl
  have r1 := cellOf HR.out 1 _ rfl
  have r2 := cellOf HR.out 2 _ rfl
  have rl := lt_of_block HR.out
  have z0 := cellOf HZ.out 0 _ rfl
  have z1 := cellOf HZ.out 1 _ rfl
  have zl := lt_of_block HZ.out
  go_wp2_with fail
  clear r0 r1 r2 rl z0 z1 zl
  have hcall := lvalid_any c _ _ W HC.out
  rw [HTOL.out] at hcall
  refine hcall.mono ?_
  clear hcall
  rintro e w1 ⟨rfl, hb⟩
  have HR' := Lib.hid ((hb.block _ (lt_of_block HR.out)).trans HR.out)
  have HZ' := Lib.hid ((hb.block _ (lt_of_block HZ.out)).trans HZ.out)
  have HC' := Lib.hid (HC.out.below hb)
  have HB' := Lib.hid (HB.out.trans (hb.mono HB.out.size))
  clear HR
  have HR := HR'
  clear HR'
  clear HZ
  have HZ := HZ'
  clear HZ'
  clear HC
  have HC := HC'
  clear HC'
  clear HB
  have HB := HB'
  clear HB'
  clear hb
  by_cases h0 : errC c = 0
  · skip
    have HV := Lib.hid (valid_of h0)
    have H0 := Lib.hid h0
    rw [show decide (errC c = 0) = true by simp [h0]]
    clear h0
    have n1 : 1 ≤ n := by have := HV.out.n1; have := HN.out; omega
    have n5 : n ≤ 5 := by have := HV.out.n5; have := HN.out; omega
    have m8 : m ≤ 8 := by have := HV.out.m8; have := HM.out; omega
    have n1I : (1 : Int) ≤ n := by omega
    have n5I : (n : Int) ≤ 5 := by omega
    have m8I : (m : Int) ≤ 8 := by omega
    have r0 := cellOf HR.out 0 _ rfl
    have r1 := cellOf HR.out 1 _ rfl
    have r2 := cellOf HR.out 2 _ rfl
    have rl := lt_of_block HR.out
    have z0 := cellOf HZ.out 0 _ rfl
    have z1 := cellOf HZ.out 1 _ rfl
    have zl := lt_of_block HZ.out
    go_wp2_with fail
    clear r0 r1 r2 rl z0 z1 zl
    have hcall := raised_any c HV.out _ _ (-1) b w1 ⟨b0, b9⟩ HC.out
    rw [HTOL.out] at hcall
    refine hcall.mono ?_
    clear hcall
    rintro e w2 ⟨ev2, rfl, hD, hb⟩
    have HR' := Lib.hid ((hb.block _ (lt_of_block HR.out)).trans HR.out)
    have HZ' := Lib.hid ((hb.block _ (lt_of_block HZ.out)).trans HZ.out)
    have HC' := Lib.hid (HC.out.below hb)
    have HB' := Lib.hid (HB.out.trans (hb.mono HB.out.size))
    clear HR
    have HR := HR'
    clear HR'
    clear HZ
    have HZ := HZ'
    clear HZ'
    clear HC
    have HC := HC'
    clear HC'
    clear HB
    have HB := HB'
    clear HB'
    clear hb
    have HD := Lib.hid hD
    clear hD
    obtain ⟨ea2, m2, ec2, rfl⟩ : ∃ a n cc, ev2 = .slice a n cc := by obtain ⟨_, a, cap, h, _⟩ := HD.out.eds; exact ⟨_, _, _, h⟩
    have r0 := cellOf HR.out 0 _ rfl
    have r1 := cellOf HR.out 1 _ rfl
    have r2 := cellOf HR.out 2 _ rfl
    have rl := lt_of_block HR.out
    have z0 := cellOf HZ.out 0 _ rfl
    have z1 := cellOf HZ.out 1 _ rfl
    have zl := lt_of_block HZ.out
    go_wp2_with fail
    clear r0 r1 r2 rl z0 z1 zl
    have hb := (Below.refl w2.heap.size w2).alloc (Nat.le_refl _) (Obj.cells #[.int .i64 tol, .slice sa n sc, .slice ea2 m2 ec2] 25)
    have HA := Lib.hid (heap_alloc_new w2 (Obj.cells #[.int .i64 tol, .slice sa n sc, .slice ea2 m2 ec2] 25))
    have HR' := Lib.hid ((hb.block _ (lt_of_block HR.out)).trans HR.out)
    have HZ' := Lib.hid ((hb.block _ (lt_of_block HZ.out)).trans HZ.out)
    have HC' := Lib.hid (HC.out.below hb)
    have HB' := Lib.hid (HB.out.trans (hb.mono HB.out.size))
    have HD' := Lib.hid (HD.out.below hb)
    clear HR
    have HR := HR'
    clear HR'
    clear HZ
    have HZ := HZ'
    clear HZ'
    clear HC
    have HC := HC'
    clear HC'
    clear HB
    have HB := HB'
    clear HB'
    clear HD
    have HD := HD'
    clear HD'
    clear hb
    generalize w2.alloc (Obj.cells #[.int .i64 tol, .slice sa n sc, .slice ea2 m2 ec2] 25) = w3 at *
    obtain ⟨u8, hu8⟩ : ∃ u, w2.heap.size = u := ⟨_, rfl⟩
    rw [hu8] at HA ⊢
    clear hu8
    have HTD : Hid ((raisedC c (-1) b).tol = tol) := HTOL.out
    have hcall := lvalid_any (raisedC c (-1) b) _ _ w3 HD.out
    rw [HTD.out] at hcall
    refine hcall.mono ?_
    clear hcall
    rintro e w4 ⟨rfl, hb⟩
    have HR' := Lib.hid ((hb.block _ (lt_of_block HR.out)).trans HR.out)
    have HZ' := Lib.hid ((hb.block _ (lt_of_block HZ.out)).trans HZ.out)
    have HC' := Lib.hid (HC.out.below hb)
    have HB' := Lib.hid (HB.out.trans (hb.mono HB.out.size))
    have HD' := Lib.hid (HD.out.below hb)
    have HA' := Lib.hid ((hb.block _ (lt_of_block HA.out)).trans HA.out)
    clear HR
    have HR := HR'
    clear HR'
    clear HZ
    have HZ := HZ'
    clear HZ'
    clear HC
    have HC := HC'
    clear HC'
    clear HB
    have HB := HB'
    clear HB'
    clear HD
    have HD := HD'
    clear HD'
    clear HA
    have HA := HA'
    clear HA'
    clear hb
    by_cases hd0 : errC (raisedC c (-1) b) = 0
    · skip
      have HSM := Lib.hid (raised_same c b HV.out (valid_of hd0))
      have HLQ := Lib.hid (HSM.out.least H0.out hd0)
      have HWQ := Lib.hid (HSM.out.without H0.out hd0)
      rw [show decide (errC (raisedC c (-1) b) = 0) = true by simp [hd0]]
      clear hd0
      have r0 := cellOf HR.out 0 _ rfl
      have r1 := cellOf HR.out 1 _ rfl
      have r2 := cellOf HR.out 2 _ rfl
      have rl := lt_of_block HR.out
      have z0 := cellOf HZ.out 0 _ rfl
      have z1 := cellOf HZ.out 1 _ rfl
      have zl := lt_of_block HZ.out
      have a0 := cellOf HA.out 0 _ rfl
      have a1 := cellOf HA.out 1 _ rfl
      have a2 := cellOf HA.out 2 _ rfl
      have al := lt_of_block HA.out
      go_wp2_with fail
      clear r0 r1 r2 rl z0 z1 zl a0 a1 a2 al
      have hcall := least1_any c _ _ w4 HC.out
      rw [HTOL.out] at hcall
      refine hcall.mono ?_
      clear hcall
      rintro e w5 ⟨lv, rfl, hI, hb⟩
      have HR' := Lib.hid ((hb.block _ (lt_of_block HR.out)).trans HR.out)
      have HZ' := Lib.hid ((hb.block _ (lt_of_block HZ.out)).trans HZ.out)
      have HC' := Lib.hid (HC.out.below hb)
      have HB' := Lib.hid (HB.out.trans (hb.mono HB.out.size))
      have HD' := Lib.hid (HD.out.below hb)
      have HA' := Lib.hid ((hb.block _ (lt_of_block HA.out)).trans HA.out)
      clear HR
      have HR := HR'
      clear HR'
      clear HZ
      have HZ := HZ'
      clear HZ'
      clear HC
      have HC := HC'
      clear HC'
      clear HB
      have HB := HB'
      clear HB'
      clear HD
      have HD := HD'
      clear HD'
      clear HA
      have HA := HA'
      clear HA'
      clear hb
      have HI := Lib.hid hI
      clear hI
      obtain ⟨⟨ll, cost, er⟩, hle⟩ : ∃ x, leastE c = x := ⟨_, rfl⟩
      rw [hle] at HI HLQ ⊢
      clear hle
      simp only at HI ⊢
      obtain ⟨va, vn, vc, rfl⟩ : ∃ a n cc, lv = .slice a n cc := by obtain ⟨_, a, cap, h, _⟩ := HI.out; exact ⟨_, _, _, h⟩
      have r0 := cellOf HR.out 0 _ rfl
      have r1 := cellOf HR.out 1 _ rfl
      have r2 := cellOf HR.out 2 _ rfl
      have rl := lt_of_block HR.out
      have z0 := cellOf HZ.out 0 _ rfl
      have z1 := cellOf HZ.out 1 _ rfl
      have zl := lt_of_block HZ.out
      have a0 := cellOf HA.out 0 _ rfl
      have a1 := cellOf HA.out 1 _ rfl
      have a2 := cellOf HA.out 2 _ rfl
      have al := lt_of_block HA.out
      go_wp2_with fail
      clear r0 r1 r2 rl z0 z1 zl a0 a1 a2 al
      have hcall := least1_any (raisedC c (-1) b) _ _ w5 HD.out
      rw [HTD.out, ← HLQ.out] at hcall
      simp only at hcall
      refine hcall.mono ?_
      clear hcall
      rintro e w6 ⟨lv, rfl, hI, hb⟩
      have HR' := Lib.hid ((hb.block _ (lt_of_block HR.out)).trans HR.out)
      have HZ' := Lib.hid ((hb.block _ (lt_of_block HZ.out)).trans HZ.out)
      have HC' := Lib.hid (HC.out.below hb)
      have HB' := Lib.hid (HB.out.trans (hb.mono HB.out.size))
      have HD' := Lib.hid (HD.out.below hb)
      have HA' := Lib.hid ((hb.block _ (lt_of_block HA.out)).trans HA.out)
      have HI' := Lib.hid (HI.out.below hb)
      clear HR
      have HR := HR'
      clear HR'
      clear HZ
      have HZ := HZ'
      clear HZ'
      clear HC
      have HC := HC'
      clear HC'
      clear HB
      have HB := HB'
      clear HB'
      clear HD
      have HD := HD'
      clear HD'
      clear HA
      have HA := HA'
      clear HA'
      clear HI
      have HI := HI'
      clear HI'
      clear hb
      have HJ := Lib.hid hI
      clear hI
      obtain ⟨va2, vn2, vc2, rfl⟩ : ∃ a n cc, lv = .slice a n cc := by obtain ⟨_, a, cap, h, _⟩ := HJ.out; exact ⟨_, _, _, h⟩
      have r0 := cellOf HR.out 0 _ rfl
      have r1 := cellOf HR.out 1 _ rfl
      have r2 := cellOf HR.out 2 _ rfl
      have rl := lt_of_block HR.out
      have z0 := cellOf HZ.out 0 _ rfl
      have z1 := cellOf HZ.out 1 _ rfl
      have zl := lt_of_block HZ.out
      have a0 := cellOf HA.out 0 _ rfl
      have a1 := cellOf HA.out 1 _ rfl
      have a2 := cellOf HA.out 2 _ rfl
      have al := lt_of_block HA.out
      go_wp2_with fail
      clear r0 r1 r2 rl z0 z1 zl a0 a1 a2 al
      have hcall := without1_any c _ _ w6 HC.out
      rw [HTOL.out] at hcall
      refine hcall.mono ?_
      clear hcall
      rintro e w7 ⟨lv, rfl, hI, hb⟩
      have HR' := Lib.hid ((hb.block _ (lt_of_block HR.out)).trans HR.out)
      have HZ' := Lib.hid ((hb.block _ (lt_of_block HZ.out)).trans HZ.out)
      have HC' := Lib.hid (HC.out.below hb)
      have HB' := Lib.hid (HB.out.trans (hb.mono HB.out.size))
      have HD' := Lib.hid (HD.out.below hb)
      have HA' := Lib.hid ((hb.block _ (lt_of_block HA.out)).trans HA.out)
      have HI' := Lib.hid (HI.out.below hb)
      have HJ' := Lib.hid (HJ.out.below hb)
      clear HR
      have HR := HR'
      clear HR'
      clear HZ
      have HZ := HZ'
      clear HZ'
      clear HC
      have HC := HC'
      clear HC'
      clear HB
      have HB := HB'
      clear HB'
      clear HD
      have HD := HD'
      clear HD'
      clear HA
      have HA := HA'
      clear HA'
      clear HI
      have HI := HI'
      clear HI'
      clear HJ
      have HJ := HJ'
      clear HJ'
      clear hb
      have HU := Lib.hid hI
      clear hI
      obtain ⟨⟨lw, ew⟩, hle⟩ : ∃ x, withoutE c = x := ⟨_, rfl⟩
      rw [hle] at HU HWQ ⊢
      clear hle
      simp only at HU ⊢
      obtain ⟨va3, vn3, vc3, rfl⟩ : ∃ a n cc, lv = .slice a n cc := by obtain ⟨_, a, cap, h, _⟩ := HU.out; exact ⟨_, _, _, h⟩
      have r0 := cellOf HR.out 0 _ rfl
      have r1 := cellOf HR.out 1 _ rfl
      have r2 := cellOf HR.out 2 _ rfl
      have rl := lt_of_block HR.out
      have z0 := cellOf HZ.out 0 _ rfl
      have z1 := cellOf HZ.out 1 _ rfl
      have zl := lt_of_block HZ.out
      have a0 := cellOf HA.out 0 _ rfl
      have a1 := cellOf HA.out 1 _ rfl
      have a2 := cellOf HA.out 2 _ rfl
      have al := lt_of_block HA.out
      go_wp2_with fail
      clear r0 r1 r2 rl z0 z1 zl a0 a1 a2 al
      have hcall := without1_any (raisedC c (-1) b) _ _ w7 HD.out
      rw [HTD.out, ← HWQ.out] at hcall
      simp only at hcall
      refine hcall.mono ?_
      clear hcall
      rintro e w8 ⟨lv, rfl, hI, hb⟩
      have HR' := Lib.hid ((hb.block _ (lt_of_block HR.out)).trans HR.out)
      have HZ' := Lib.hid ((hb.block _ (lt_of_block HZ.out)).trans HZ.out)
      have HC' := Lib.hid (HC.out.below hb)
      have HB' := Lib.hid (HB.out.trans (hb.mono HB.out.size))
      have HD' := Lib.hid (HD.out.below hb)
      have HA' := Lib.hid ((hb.block _ (lt_of_block HA.out)).trans HA.out)
      have HI' := Lib.hid (HI.out.below hb)
      have HJ' := Lib.hid (HJ.out.below hb)
      have HU' := Lib.hid (HU.out.below hb)
      clear HR
      have HR := HR'
      clear HR'
      clear HZ
      have HZ := HZ'
      clear HZ'
      clear HC
      have HC := HC'
      clear HC'
      clear HB
      have HB := HB'
      clear HB'
      clear HD
      have HD := HD'
      clear HD'
      clear HA
      have HA := HA'
      clear HA'
      clear HI
      have HI := HI'
      clear HI'
      clear HJ
      have HJ := HJ'
      clear HJ'
      clear HU
      have HU := HU'
      clear HU'
      clear hb
      have HX := Lib.hid hI
      clear hI
      obtain ⟨va4, vn4, vc4, rfl⟩ : ∃ a n cc, lv = .slice a n cc := by obtain ⟨_, a, cap, h, _⟩ := HX.out; exact ⟨_, _, _, h⟩
      have tc : (cost != cost) = false := by simp
      have te : (er != er) = false := by simp
      have tw : (ew != ew) = false := by simp
      have r0 := cellOf HR.out 0 _ rfl
      have r1 := cellOf HR.out 1 _ rfl
      have r2 := cellOf HR.out 2 _ rfl
      have rl := lt_of_block HR.out
      have z0 := cellOf HZ.out 0 _ rfl
      have z1 := cellOf HZ.out 1 _ rfl
      have zl := lt_of_block HZ.out
      have a0 := cellOf HA.out 0 _ rfl
      have a1 := cellOf HA.out 1 _ rfl
      have a2 := cellOf HA.out 2 _ rfl
      have al := lt_of_block HA.out
      go_wp2_with fail
      clear r0 r1 r2 rl z0 z1 zl a0 a1 a2 al
      have hcall := ints_eq _ _ ll w8 HI.out HJ.out
      refine hcall.mono ?_
      clear hcall
      rintro e w9 ⟨rfl, hb⟩
      have HR' := Lib.hid ((hb.block _ (lt_of_block HR.out)).trans HR.out)
      have HZ' := Lib.hid ((hb.block _ (lt_of_block HZ.out)).trans HZ.out)
      have HC' := Lib.hid (HC.out.below hb)
      have HB' := Lib.hid (HB.out.trans (hb.mono HB.out.size))
      have HD' := Lib.hid (HD.out.below hb)
      have HA' := Lib.hid ((hb.block _ (lt_of_block HA.out)).trans HA.out)
      have HI' := Lib.hid (HI.out.below hb)
      have HJ' := Lib.hid (HJ.out.below hb)
      have HU' := Lib.hid (HU.out.below hb)
      have HX' := Lib.hid (HX.out.below hb)
      clear HR
      have HR := HR'
      clear HR'
      clear HZ
      have HZ := HZ'
      clear HZ'
      clear HC
      have HC := HC'
      clear HC'
      clear HB
      have HB := HB'
      clear HB'
      clear HD
      have HD := HD'
      clear HD'
      clear HA
      have HA := HA'
      clear HA'
      clear HI
      have HI := HI'
      clear HI'
      clear HJ
      have HJ := HJ'
      clear HJ'
      clear HU
      have HU := HU'
      clear HU'
      clear HX
      have HX := HX'
      clear HX'
      clear hb
      have r0 := cellOf HR.out 0 _ rfl
      have r1 := cellOf HR.out 1 _ rfl
      have r2 := cellOf HR.out 2 _ rfl
      have rl := lt_of_block HR.out
      have z0 := cellOf HZ.out 0 _ rfl
      have z1 := cellOf HZ.out 1 _ rfl
      have zl := lt_of_block HZ.out
      have a0 := cellOf HA.out 0 _ rfl
      have a1 := cellOf HA.out 1 _ rfl
      have a2 := cellOf HA.out 2 _ rfl
      have al := lt_of_block HA.out
      go_wp2_with fail
      clear r0 r1 r2 rl z0 z1 zl a0 a1 a2 al
      have hcall := ints_eq _ _ lw w9 HU.out HX.out
      refine hcall.mono ?_
      clear hcall
      rintro e w10 ⟨rfl, hb⟩
      have HR' := Lib.hid ((hb.block _ (lt_of_block HR.out)).trans HR.out)
      have HZ' := Lib.hid ((hb.block _ (lt_of_block HZ.out)).trans HZ.out)
      have HC' := Lib.hid (HC.out.below hb)
      have HB' := Lib.hid (HB.out.trans (hb.mono HB.out.size))
      have HD' := Lib.hid (HD.out.below hb)
      have HA' := Lib.hid ((hb.block _ (lt_of_block HA.out)).trans HA.out)
      have HI' := Lib.hid (HI.out.below hb)
      have HJ' := Lib.hid (HJ.out.below hb)
      have HU' := Lib.hid (HU.out.below hb)
      have HX' := Lib.hid (HX.out.below hb)
      clear HR
      have HR := HR'
      clear HR'
      clear HZ
      have HZ := HZ'
      clear HZ'
      clear HC
      have HC := HC'
      clear HC'
      clear HB
      have HB := HB'
      clear HB'
      clear HD
      have HD := HD'
      clear HD'
      clear HA
      have HA := HA'
      clear HA'
      clear HI
      have HI := HI'
      clear HI'
      clear HJ
      have HJ := HJ'
      clear HJ'
      clear HU
      have HU := HU'
      clear HU'
      clear HX
      have HX := HX'
      clear HX'
      clear hb
      have xI : (x : Int) ≤ 255 := by omega
      have nz : ((n : Int) == 0) = false := by rw [beq_eq_false_iff_ne]; omega
      have nd0 : ¬ n = 0 := by omega
      have nd1 : ¬ (n : Int) = -1 := by omega
      have em := tmod_nat x n
      have hxm : x % n < n := Nat.mod_lt _ (by omega)
      generalize hxn : x % n = i at *
      clear hxn
      have iI : (i : Int) < (n : Int) := by omega
      have r0 := cellOf HR.out 0 _ rfl
      have r1 := cellOf HR.out 1 _ rfl
      have r2 := cellOf HR.out 2 _ rfl
      have rl := lt_of_block HR.out
      have z0 := cellOf HZ.out 0 _ rfl
      have z1 := cellOf HZ.out 1 _ rfl
      have zl := lt_of_block HZ.out
      go_wp2_with fail
      clear r0 r1 r2 rl z0 z1 zl
      clear em nz xI nd0 nd1
      have hcall := raised_any c HV.out _ _ (i : Int) b w10 ⟨b0, b9⟩ HC.out
      rw [HTOL.out] at hcall
      refine hcall.mono ?_
      clear hcall
      rintro e y2 ⟨ev4, rfl, hF, hb⟩
      have HR' := Lib.hid ((hb.block _ (lt_of_block HR.out)).trans HR.out)
      have HZ' := Lib.hid ((hb.block _ (lt_of_block HZ.out)).trans HZ.out)
      have HC' := Lib.hid (HC.out.below hb)
      have HB' := Lib.hid (HB.out.trans (hb.mono HB.out.size))
      have HD' := Lib.hid (HD.out.below hb)
      have HA' := Lib.hid ((hb.block _ (lt_of_block HA.out)).trans HA.out)
      have HI' := Lib.hid (HI.out.below hb)
      have HJ' := Lib.hid (HJ.out.below hb)
      have HU' := Lib.hid (HU.out.below hb)
      have HX' := Lib.hid (HX.out.below hb)
      clear HR
      have HR := HR'
      clear HR'
      clear HZ
      have HZ := HZ'
      clear HZ'
      clear HC
      have HC := HC'
      clear HC'
      clear HB
      have HB := HB'
      clear HB'
      clear HD
      have HD := HD'
      clear HD'
      clear HA
      have HA := HA'
      clear HA'
      clear HI
      have HI := HI'
      clear HI'
      clear HJ
      have HJ := HJ'
      clear HJ'
      clear HU
      have HU := HU'
      clear HU'
      clear HX
      have HX := HX'
      clear HX'
      clear hb
      have HF := Lib.hid hF
      clear hF
      obtain ⟨ea4, m4, ec4, rfl⟩ : ∃ a n cc, ev4 = .slice a n cc := by obtain ⟨_, a, cap, h, _⟩ := HF.out.eds; exact ⟨_, _, _, h⟩
      have r0 := cellOf HR.out 0 _ rfl
      have r1 := cellOf HR.out 1 _ rfl
      have r2 := cellOf HR.out 2 _ rfl
      have rl := lt_of_block HR.out
      have z0 := cellOf HZ.out 0 _ rfl
      have z1 := cellOf HZ.out 1 _ rfl
      have zl := lt_of_block HZ.out
      go_wp2_with fail
      clear r0 r1 r2 rl z0 z1 zl
      have hb := (Below.refl y2.heap.size y2).alloc (Nat.le_refl _) (Obj.cells #[.int .i64 tol, .slice sa n sc, .slice ea4 m4 ec4] 25)
      have HO := Lib.hid (heap_alloc_new y2 (Obj.cells #[.int .i64 tol, .slice sa n sc, .slice ea4 m4 ec4] 25))
      have HR' := Lib.hid ((hb.block _ (lt_of_block HR.out)).trans HR.out)
      have HZ' := Lib.hid ((hb.block _ (lt_of_block HZ.out)).trans HZ.out)
      have HC' := Lib.hid (HC.out.below hb)
      have HB' := Lib.hid (HB.out.trans (hb.mono HB.out.size))
      have HD' := Lib.hid (HD.out.below hb)
      have HA' := Lib.hid ((hb.block _ (lt_of_block HA.out)).trans HA.out)
      have HI' := Lib.hid (HI.out.below hb)
      have HJ' := Lib.hid (HJ.out.below hb)
      have HU' := Lib.hid (HU.out.below hb)
      have HX' := Lib.hid (HX.out.below hb)
      have HF' := Lib.hid (HF.out.below hb)
      clear HR
      have HR := HR'
      clear HR'
      clear HZ
      have HZ := HZ'
      clear HZ'
      clear HC
      have HC := HC'
      clear HC'
      clear HB
      have HB := HB'
      clear HB'
      clear HD
      have HD := HD'
      clear HD'
      clear HA
      have HA := HA'
      clear HA'
      clear HI
      have HI := HI'
      clear HI'
      clear HJ
      have HJ := HJ'
      clear HJ'
      clear HU
      have HU := HU'
      clear HU'
      clear HX
      have HX := HX'
      clear HX'
      clear HF
      have HF := HF'
      clear HF'
      clear hb
      generalize y2.alloc (Obj.cells #[.int .i64 tol, .slice sa n sc, .slice ea4 m4 ec4] 25) = y3 at *
      obtain ⟨u20, hu20⟩ : ∃ u, y2.heap.size = u := ⟨_, rfl⟩
      rw [hu20] at HO ⊢
      clear hu20
      have HTF : Hid ((raisedC c (i : Int) b).tol = tol) := HTOL.out
      have hcall := lvalid_any (raisedC c (i : Int) b) _ _ y3 HF.out
      rw [HTF.out] at hcall
      refine hcall.mono ?_
      clear hcall
      rintro e y4 ⟨rfl, hb⟩
      have HR' := Lib.hid ((hb.block _ (lt_of_block HR.out)).trans HR.out)
      have HZ' := Lib.hid ((hb.block _ (lt_of_block HZ.out)).trans HZ.out)
      have HC' := Lib.hid (HC.out.below hb)
      have HB' := Lib.hid (HB.out.trans (hb.mono HB.out.size))
      have HD' := Lib.hid (HD.out.below hb)
      have HA' := Lib.hid ((hb.block _ (lt_of_block HA.out)).trans HA.out)
      have HI' := Lib.hid (HI.out.below hb)
      have HJ' := Lib.hid (HJ.out.below hb)
      have HU' := Lib.hid (HU.out.below hb)
      have HX' := Lib.hid (HX.out.below hb)
      have HF' := Lib.hid (HF.out.below hb)
      have HO' := Lib.hid ((hb.block _ (lt_of_block HO.out)).trans HO.out)
      clear HR
      have HR := HR'
      clear HR'
      clear HZ
      have HZ := HZ'
      clear HZ'
      clear HC
      have HC := HC'
      clear HC'
      clear HB
      have HB := HB'
      clear HB'
      clear HD
      have HD := HD'
      clear HD'
      clear HA
      have HA := HA'
      clear HA'
      clear HI
      have HI := HI'
      clear HI'
      clear HJ
      have HJ := HJ'
      clear HJ'
      clear HU
      have HU := HU'
      clear HU'
      clear HX
      have HX := HX'
      clear HX'
      clear HF
      have HF := HF'
      clear HF'
      clear HO
      have HO := HO'
      clear HO'
      clear hb
      by_cases hf : errC (raisedC c (i : Int) b) = 0
      · skip
        have HF0 := Lib.hid hf
        rw [show decide (errC (raisedC c (i : Int) b) = 0) = true by simp [hf]]
        clear hf
        by_cases hm0 : m = 0
        · skip
          have tm : ((m : Int) == 0) = true := by simp [hm0]
          clear hm0
          have r0 := cellOf HR.out 0 _ rfl
          have r1 := cellOf HR.out 1 _ rfl
          have r2 := cellOf HR.out 2 _ rfl
          have rl := lt_of_block HR.out
          have z0 := cellOf HZ.out 0 _ rfl
          have z1 := cellOf HZ.out 1 _ rfl
          have zl := lt_of_block HZ.out
          go_wp2_with fail
          clear r0 r1 r2 rl z0 z1 zl
          refine (awake_any y4).mono ?_
          rintro e wz ⟨rfl, hb⟩
          have HBF := Lib.hid (HB.out.trans (hb.mono HB.out.size))
          clear hb
          go_wp2_with fail
          go_ret
          exact ⟨rfl, HBF.out⟩
        · skip
          have tm : ((m : Int) == 0) = false := by simp [hm0]
          have yI : (y : Int) ≤ 255 := by omega
          have md0 : ¬ m = 0 := hm0
          have md1 : ¬ (m : Int) = -1 := by omega
          have m1I : (1 : Int) ≤ m := by omega
          have em := tmod_nat y m
          have hym : y % m < m := Nat.mod_lt _ (by omega)
          generalize hyn : y % m = k at *
          clear hyn hm0
          have kI : (k : Int) < (m : Int) := by omega
          have r0 := cellOf HR.out 0 _ rfl
          have r1 := cellOf HR.out 1 _ rfl
          have r2 := cellOf HR.out 2 _ rfl
          have rl := lt_of_block HR.out
          have z0 := cellOf HZ.out 0 _ rfl
          have z1 := cellOf HZ.out 1 _ rfl
          have zl := lt_of_block HZ.out
          go_wp2_with fail
          clear r0 r1 r2 rl z0 z1 zl
          clear em tm yI md0 md1
          have hcall := wants_any c _ _ (k : Int) y4 HC.out
          rw [HTOL.out] at hcall
          refine hcall.mono ?_
          clear hcall
          rintro e y5 ⟨rfl, hb⟩
          have HR' := Lib.hid ((hb.block _ (lt_of_block HR.out)).trans HR.out)
          have HZ' := Lib.hid ((hb.block _ (lt_of_block HZ.out)).trans HZ.out)
          have HC' := Lib.hid (HC.out.below hb)
          have HB' := Lib.hid (HB.out.trans (hb.mono HB.out.size))
          have HD' := Lib.hid (HD.out.below hb)
          have HA' := Lib.hid ((hb.block _ (lt_of_block HA.out)).trans HA.out)
          have HI' := Lib.hid (HI.out.below hb)
          have HJ' := Lib.hid (HJ.out.below hb)
          have HU' := Lib.hid (HU.out.below hb)
          have HX' := Lib.hid (HX.out.below hb)
          have HF' := Lib.hid (HF.out.below hb)
          have HO' := Lib.hid ((hb.block _ (lt_of_block HO.out)).trans HO.out)
          clear HR
          have HR := HR'
          clear HR'
          clear HZ
          have HZ := HZ'
          clear HZ'
          clear HC
          have HC := HC'
          clear HC'
          clear HB
          have HB := HB'
          clear HB'
          clear HD
          have HD := HD'
          clear HD'
          clear HA
          have HA := HA'
          clear HA'
          clear HI
          have HI := HI'
          clear HI'
          clear HJ
          have HJ := HJ'
          clear HJ'
          clear HU
          have HU := HU'
          clear HU'
          clear HX
          have HX := HX'
          clear HX'
          clear HF
          have HF := HF'
          clear HF'
          clear HO
          have HO := HO'
          clear HO'
          clear hb
          have hin : inB 0 ((c.eds.length : Int) - 1) (k : Int) = true := by have := HM.out; unfold inB; simp; omega
          have hinF : inB 0 (((raisedC c (i : Int) b).eds.length : Int) - 1) (k : Int) = true := by have := HM.out; unfold inB; simp [raisedC]; omega
          have hkc : k < c.eds.length := by have := HM.out; omega
          have hw1 := wantsA_ok H0.out hin
          have hw2 := wantsA_ok HF0.out hinF
          rw [Int.toNat_natCast] at hw1 hw2
          rw [raised_want c (i : Int) b HV.out (valid_of HF0.out) k hkc] at hw2
          obtain ⟨sh, hsh⟩ : ∃ s, bOf (i : Int) b (c.eds.getD k default) - aOf (i : Int) b (c.eds.getD k default) = s := ⟨_, rfl⟩
          rw [hsh] at hw2
          have hwb := wantS_bd c.tol HV.out.t0 HV.out.t50 (c.eds.getD k default).pts (by rw [getD_lt _ _ hkc]; exact (HV.out.ed _ (List.getElem_mem hkc)).pt) (c.eds.getD k default).pts.length (Nat.le_refl _)
          rw [List.take_length] at hwb
          change -9050 ≤ (wantF c k).1 ∧ (wantF c k).1 ≤ 9050 ∧ -9050 ≤ (wantF c k).2 ∧ (wantF c k).2 ≤ 9050 at hwb
          obtain ⟨⟨lo, hi⟩, hwf⟩ : ∃ x, wantF c k = x := ⟨_, rfl⟩
          rw [hwf] at hw1 hw2 hwb
          simp only at hw1 hw2 hwb
          obtain ⟨l1, l2, l3, l4⟩ := hwb
          have HSH := Lib.hid hsh
          have HKC := Lib.hid hkc
          clear hsh hwf hin hinF hkc
          by_cases hlt : hi < lo
          · skip
            rw [if_pos hlt] at hw1
            rw [if_pos (by omega)] at hw2
            rw [hw1]
            have HW2 := Lib.hid hw2
            clear hw1 hw2 hlt
            simp only
            have r0 := cellOf HR.out 0 _ rfl
            have r1 := cellOf HR.out 1 _ rfl
            have r2 := cellOf HR.out 2 _ rfl
            have rl := lt_of_block HR.out
            have z0 := cellOf HZ.out 0 _ rfl
            have z1 := cellOf HZ.out 1 _ rfl
            have zl := lt_of_block HZ.out
            have o0 := cellOf HO.out 0 _ rfl
            have o1 := cellOf HO.out 1 _ rfl
            have o2 := cellOf HO.out 2 _ rfl
            have ol := lt_of_block HO.out
            go_wp2_with fail
            clear r0 r1 r2 rl z0 z1 zl o0 o1 o2 ol
            have hb := (Below.refl y5.heap.size y5).alloc (Nat.le_refl _) (Obj.cells #[.int .i64 0, .int .i64 0] 31)
            have HS1 := Lib.hid (heap_alloc_new y5 (Obj.cells #[.int .i64 0, .int .i64 0] 31))
            have HR' := Lib.hid ((hb.block _ (lt_of_block HR.out)).trans HR.out)
            have HZ' := Lib.hid ((hb.block _ (lt_of_block HZ.out)).trans HZ.out)
            have HC' := Lib.hid (HC.out.below hb)
            have HB' := Lib.hid (HB.out.trans (hb.mono HB.out.size))
            have HD' := Lib.hid (HD.out.below hb)
            have HA' := Lib.hid ((hb.block _ (lt_of_block HA.out)).trans HA.out)
            have HI' := Lib.hid (HI.out.below hb)
            have HJ' := Lib.hid (HJ.out.below hb)
            have HU' := Lib.hid (HU.out.below hb)
            have HX' := Lib.hid (HX.out.below hb)
            have HF' := Lib.hid (HF.out.below hb)
            have HO' := Lib.hid ((hb.block _ (lt_of_block HO.out)).trans HO.out)
            clear HR
            have HR := HR'
            clear HR'
            clear HZ
            have HZ := HZ'
            clear HZ'
            clear HC
            have HC := HC'
            clear HC'
            clear HB
            have HB := HB'
            clear HB'
            clear HD
            have HD := HD'
            clear HD'
            clear HA
            have HA := HA'
            clear HA'
            clear HI
            have HI := HI'
            clear HI'
            clear HJ
            have HJ := HJ'
            clear HJ'
            clear HU
            have HU := HU'
            clear HU'
            clear HX
            have HX := HX'
            clear HX'
            clear HF
            have HF := HF'
            clear HF'
            clear HO
            have HO := HO'
            clear HO'
            clear hb
            generalize y5.alloc (Obj.cells #[.int .i64 0, .int .i64 0] 31) = y6 at *
            obtain ⟨u22, hu22⟩ : ∃ u, y5.heap.size = u := ⟨_, rfl⟩
            rw [hu22] at HS1 ⊢
            clear hu22
            have hcall := wants_any (raisedC c (i : Int) b) _ _ (k : Int) y6 HF.out
            rw [HW2.out, HTF.out] at hcall
            simp only at hcall
            refine hcall.mono ?_
            clear hcall
            rintro e y7 ⟨rfl, hb⟩
            have HR' := Lib.hid ((hb.block _ (lt_of_block HR.out)).trans HR.out)
            have HZ' := Lib.hid ((hb.block _ (lt_of_block HZ.out)).trans HZ.out)
            have HC' := Lib.hid (HC.out.below hb)
            have HB' := Lib.hid (HB.out.trans (hb.mono HB.out.size))
            have HD' := Lib.hid (HD.out.below hb)
            have HA' := Lib.hid ((hb.block _ (lt_of_block HA.out)).trans HA.out)
            have HI' := Lib.hid (HI.out.below hb)
            have HJ' := Lib.hid (HJ.out.below hb)
            have HU' := Lib.hid (HU.out.below hb)
            have HX' := Lib.hid (HX.out.below hb)
            have HF' := Lib.hid (HF.out.below hb)
            have HO' := Lib.hid ((hb.block _ (lt_of_block HO.out)).trans HO.out)
            have HS1' := Lib.hid ((hb.block _ (lt_of_block HS1.out)).trans HS1.out)
            clear HR
            have HR := HR'
            clear HR'
            clear HZ
            have HZ := HZ'
            clear HZ'
            clear HC
            have HC := HC'
            clear HC'
            clear HB
            have HB := HB'
            clear HB'
            clear HD
            have HD := HD'
            clear HD'
            clear HA
            have HA := HA'
            clear HA'
            clear HI
            have HI := HI'
            clear HI'
            clear HJ
            have HJ := HJ'
            clear HJ'
            clear HU
            have HU := HU'
            clear HU'
            clear HX
            have HX := HX'
            clear HX'
            clear HF
            have HF := HF'
            clear HF'
            clear HO
            have HO := HO'
            clear HO'
            clear HS1
            have HS1 := HS1'
            clear HS1'
            clear hb
            have r0 := cellOf HR.out 0 _ rfl
            have r1 := cellOf HR.out 1 _ rfl
            have r2 := cellOf HR.out 2 _ rfl
            have rl := lt_of_block HR.out
            have z0 := cellOf HZ.out 0 _ rfl
            have z1 := cellOf HZ.out 1 _ rfl
            have zl := lt_of_block HZ.out
            go_wp2_with fail
            clear r0 r1 r2 rl z0 z1 zl
            have hb := (Below.refl y7.heap.size y7).alloc (Nat.le_refl _) (Obj.cells #[.int .i64 0, .int .i64 0] 31)
            have HS2 := Lib.hid (heap_alloc_new y7 (Obj.cells #[.int .i64 0, .int .i64 0] 31))
            have HR' := Lib.hid ((hb.block _ (lt_of_block HR.out)).trans HR.out)
            have HZ' := Lib.hid ((hb.block _ (lt_of_block HZ.out)).trans HZ.out)
            have HC' := Lib.hid (HC.out.below hb)
            have HB' := Lib.hid (HB.out.trans (hb.mono HB.out.size))
            have HD' := Lib.hid (HD.out.below hb)
            have HA' := Lib.hid ((hb.block _ (lt_of_block HA.out)).trans HA.out)
            have HI' := Lib.hid (HI.out.below hb)
            have HJ' := Lib.hid (HJ.out.below hb)
            have HU' := Lib.hid (HU.out.below hb)
            have HX' := Lib.hid (HX.out.below hb)
            have HF' := Lib.hid (HF.out.below hb)
            have HO' := Lib.hid ((hb.block _ (lt_of_block HO.out)).trans HO.out)
            have HS1' := Lib.hid ((hb.block _ (lt_of_block HS1.out)).trans HS1.out)
            clear HR
            have HR := HR'
            clear HR'
            clear HZ
            have HZ := HZ'
            clear HZ'
            clear HC
            have HC := HC'
            clear HC'
            clear HB
            have HB := HB'
            clear HB'
            clear HD
            have HD := HD'
            clear HD'
            clear HA
            have HA := HA'
            clear HA'
            clear HI
            have HI := HI'
            clear HI'
            clear HJ
            have HJ := HJ'
            clear HJ'
            clear HU
            have HU := HU'
            clear HU'
            clear HX
            have HX := HX'
            clear HX'
            clear HF
            have HF := HF'
            clear HF'
            clear HO
            have HO := HO'
            clear HO'
            clear HS1
            have HS1 := HS1'
            clear HS1'
            clear hb
            generalize y7.alloc (Obj.cells #[.int .i64 0, .int .i64 0] 31) = y8 at *
            refine (awake_any y8).mono ?_
            rintro e wz ⟨rfl, hb⟩
            have HBF := Lib.hid (HB.out.trans (hb.mono HB.out.size))
            clear hb
            go_wp2_with fail
            go_ret
            exact ⟨rfl, HBF.out⟩
          · skip
            rw [if_neg hlt] at hw1
            rw [if_neg (by omega)] at hw2
            rw [hw1]
            have HW2 := Lib.hid hw2
            clear hw1 hw2 hlt
            simp only
            have r0 := cellOf HR.out 0 _ rfl
            have r1 := cellOf HR.out 1 _ rfl
            have r2 := cellOf HR.out 2 _ rfl
            have rl := lt_of_block HR.out
            have z0 := cellOf HZ.out 0 _ rfl
            have z1 := cellOf HZ.out 1 _ rfl
            have zl := lt_of_block HZ.out
            have o0 := cellOf HO.out 0 _ rfl
            have o1 := cellOf HO.out 1 _ rfl
            have o2 := cellOf HO.out 2 _ rfl
            have ol := lt_of_block HO.out
            go_wp2_with fail
            clear r0 r1 r2 rl z0 z1 zl o0 o1 o2 ol
            have hb := (Below.refl y5.heap.size y5).alloc (Nat.le_refl _) (Obj.cells #[.int .i64 lo, .int .i64 hi] 31)
            have HS1 := Lib.hid (heap_alloc_new y5 (Obj.cells #[.int .i64 lo, .int .i64 hi] 31))
            have HR' := Lib.hid ((hb.block _ (lt_of_block HR.out)).trans HR.out)
            have HZ' := Lib.hid ((hb.block _ (lt_of_block HZ.out)).trans HZ.out)
            have HC' := Lib.hid (HC.out.below hb)
            have HB' := Lib.hid (HB.out.trans (hb.mono HB.out.size))
            have HD' := Lib.hid (HD.out.below hb)
            have HA' := Lib.hid ((hb.block _ (lt_of_block HA.out)).trans HA.out)
            have HI' := Lib.hid (HI.out.below hb)
            have HJ' := Lib.hid (HJ.out.below hb)
            have HU' := Lib.hid (HU.out.below hb)
            have HX' := Lib.hid (HX.out.below hb)
            have HF' := Lib.hid (HF.out.below hb)
            have HO' := Lib.hid ((hb.block _ (lt_of_block HO.out)).trans HO.out)
            clear HR
            have HR := HR'
            clear HR'
            clear HZ
            have HZ := HZ'
            clear HZ'
            clear HC
            have HC := HC'
            clear HC'
            clear HB
            have HB := HB'
            clear HB'
            clear HD
            have HD := HD'
            clear HD'
            clear HA
            have HA := HA'
            clear HA'
            clear HI
            have HI := HI'
            clear HI'
            clear HJ
            have HJ := HJ'
            clear HJ'
            clear HU
            have HU := HU'
            clear HU'
            clear HX
            have HX := HX'
            clear HX'
            clear HF
            have HF := HF'
            clear HF'
            clear HO
            have HO := HO'
            clear HO'
            clear hb
            generalize y5.alloc (Obj.cells #[.int .i64 lo, .int .i64 hi] 31) = y6 at *
            obtain ⟨u22, hu22⟩ : ∃ u, y5.heap.size = u := ⟨_, rfl⟩
            rw [hu22] at HS1 ⊢
            clear hu22
            have hcall := wants_any (raisedC c (i : Int) b) _ _ (k : Int) y6 HF.out
            rw [HW2.out, HTF.out] at hcall
            simp only at hcall
            refine hcall.mono ?_
            clear hcall
            rintro e y7 ⟨rfl, hb⟩
            have HR' := Lib.hid ((hb.block _ (lt_of_block HR.out)).trans HR.out)
            have HZ' := Lib.hid ((hb.block _ (lt_of_block HZ.out)).trans HZ.out)
            have HC' := Lib.hid (HC.out.below hb)
            have HB' := Lib.hid (HB.out.trans (hb.mono HB.out.size))
            have HD' := Lib.hid (HD.out.below hb)
            have HA' := Lib.hid ((hb.block _ (lt_of_block HA.out)).trans HA.out)
            have HI' := Lib.hid (HI.out.below hb)
            have HJ' := Lib.hid (HJ.out.below hb)
            have HU' := Lib.hid (HU.out.below hb)
            have HX' := Lib.hid (HX.out.below hb)
            have HF' := Lib.hid (HF.out.below hb)
            have HO' := Lib.hid ((hb.block _ (lt_of_block HO.out)).trans HO.out)
            have HS1' := Lib.hid ((hb.block _ (lt_of_block HS1.out)).trans HS1.out)
            clear HR
            have HR := HR'
            clear HR'
            clear HZ
            have HZ := HZ'
            clear HZ'
            clear HC
            have HC := HC'
            clear HC'
            clear HB
            have HB := HB'
            clear HB'
            clear HD
            have HD := HD'
            clear HD'
            clear HA
            have HA := HA'
            clear HA'
            clear HI
            have HI := HI'
            clear HI'
            clear HJ
            have HJ := HJ'
            clear HJ'
            clear HU
            have HU := HU'
            clear HU'
            clear HX
            have HX := HX'
            clear HX'
            clear HF
            have HF := HF'
            clear HF'
            clear HO
            have HO := HO'
            clear HO'
            clear HS1
            have HS1 := HS1'
            clear HS1'
            clear hb
            have HKC2 := HKC.out
            obtain ⟨eb, eo, pa, pc, heq, d0, d1, d2, hpp⟩ := HC.out.eds.get HKC2
            subst heq
            have hed := HV.out.ed _ (List.getElem_mem HKC2)
            have hsv : sh = if c.eds[k].a = (i : Int) then -b else if c.eds[k].b = (i : Int) then b else 0 := by
              have h := HSH.out
              rw [getD_lt _ _ HKC2] at h
              have hne := hed.ne
              unfold aOf bOf at h
              by_cases h1 : c.eds[k].a = (i : Int)
              · have h2 : ¬ c.eds[k].b = (i : Int) := fun h => hne (h1.trans h.symm)
                have h3 : ¬ (i : Int) < 0 := by omega
                simp only [h1, h2, h3, or_true, or_false, if_true, if_false] at h ⊢
                omega
              · have h3 : ¬ (i : Int) < 0 := by omega
                by_cases h2 : c.eds[k].b = (i : Int)
                · simp only [h1, h2, h3, or_true, or_false, if_true, if_false] at h ⊢
                  omega
                · simp only [h1, h2, h3, or_false, if_false] at h ⊢
                  omega
            have hne := hed.ne
            have HSV := Lib.hid hsv
            have HWK := Lib.hid HW2.out
            clear hed hsv d2 hpp
            generalize c.eds[k].a = da at *
            generalize c.eds[k].b = db at *
            clear HKC2
            have D0 := Lib.hid d0
            have D1 := Lib.hid d1
            clear d0 d1
            have hbA : Below y7.heap.size y7 (y7.alloc (Obj.cells #[.int .i64 (lo + sh), .int .i64 (hi + sh)] 31)) := (Below.refl _ _).alloc (Nat.le_refl _) _
            by_cases ha : da = (i : Int)
            · skip
              have ta : (da == (i : Int)) = true := by simp [ha]
              have tb : (db == (i : Int)) = false := by simp; omega
              have tb2 : decide (db = (i : Int)) = false := by simp; omega
              have hshv : sh = -b := by have := HSV.out; rw [if_pos ha] at this; exact this
              have HSHV := Lib.hid hshv
              clear hshv hne ha
              have s0 : IntKind.i64.wrap (-b) = -b := by rw [IntKind.wrap_i64] <;> omega
              obtain ⟨sv2, hsv2⟩ : ∃ s : Int, s = (-b) := ⟨_, rfl⟩
              have r0 := cellOf HR.out 0 _ rfl
              have r1 := cellOf HR.out 1 _ rfl
              have r2 := cellOf HR.out 2 _ rfl
              have rl := lt_of_block HR.out
              have z0 := cellOf HZ.out 0 _ rfl
              have z1 := cellOf HZ.out 1 _ rfl
              have zl := lt_of_block HZ.out
              have o0 := cellOf HO.out 0 _ rfl
              have o1 := cellOf HO.out 1 _ rfl
              have o2 := cellOf HO.out 2 _ rfl
              have ol := lt_of_block HO.out
              have s0 := cellOf HS1.out 0 _ rfl
              have s1 := cellOf HS1.out 1 _ rfl
              have sl := lt_of_block HS1.out
              have d0 := D0.out
              have d1 := D1.out
              have dl := World.block_lt_of_cell? y7 _ d0
              go_wp2_with fail
              clear r0 r1 r2 rl z0 z1 zl o0 o1 o2 ol s0 s1 sl
              clear d0 d1 dl
              have hshh := HSHV.out
              clear HSH HSV HSHV
              subst sh
              clear hsv2
              have hb := (Below.refl y7.heap.size y7).alloc (Nat.le_refl _) (Obj.cells #[.int .i64 (lo + (-b)), .int .i64 (hi + (-b))] 31)
              have HS2 := Lib.hid (heap_alloc_new y7 (Obj.cells #[.int .i64 (lo + (-b)), .int .i64 (hi + (-b))] 31))
              have HR' := Lib.hid ((hb.block _ (lt_of_block HR.out)).trans HR.out)
              have HZ' := Lib.hid ((hb.block _ (lt_of_block HZ.out)).trans HZ.out)
              have HC' := Lib.hid (HC.out.below hb)
              have HB' := Lib.hid (HB.out.trans (hb.mono HB.out.size))
              have HD' := Lib.hid (HD.out.below hb)
              have HA' := Lib.hid ((hb.block _ (lt_of_block HA.out)).trans HA.out)
              have HI' := Lib.hid (HI.out.below hb)
              have HJ' := Lib.hid (HJ.out.below hb)
              have HU' := Lib.hid (HU.out.below hb)
              have HX' := Lib.hid (HX.out.below hb)
              have HF' := Lib.hid (HF.out.below hb)
              have HO' := Lib.hid ((hb.block _ (lt_of_block HO.out)).trans HO.out)
              have HS1' := Lib.hid ((hb.block _ (lt_of_block HS1.out)).trans HS1.out)
              clear HR
              have HR := HR'
              clear HR'
              clear HZ
              have HZ := HZ'
              clear HZ'
              clear HC
              have HC := HC'
              clear HC'
              clear HB
              have HB := HB'
              clear HB'
              clear HD
              have HD := HD'
              clear HD'
              clear HA
              have HA := HA'
              clear HA'
              clear HI
              have HI := HI'
              clear HI'
              clear HJ
              have HJ := HJ'
              clear HJ'
              clear HU
              have HU := HU'
              clear HU'
              clear HX
              have HX := HX'
              clear HX'
              clear HF
              have HF := HF'
              clear HF'
              clear HO
              have HO := HO'
              clear HO'
              clear HS1
              have HS1 := HS1'
              clear HS1'
              clear hb
              generalize y7.alloc (Obj.cells #[.int .i64 (lo + (-b)), .int .i64 (hi + (-b))] 31) = y8 at *
              obtain ⟨u24, hu24⟩ : ∃ u, y7.heap.size = u := ⟨_, rfl⟩
              rw [hu24] at HS2 ⊢
              clear hu24
              have s1 : IntKind.i64.wrap (lo + (-b)) = lo + (-b) := by rw [IntKind.wrap_i64] <;> omega
              have s2 : IntKind.i64.wrap (hi + (-b)) = hi + (-b) := by rw [IntKind.wrap_i64] <;> omega
              have s0c := cellOf HS1.out 0 _ rfl
              have s1c := cellOf HS1.out 1 _ rfl
              have q0c := cellOf HS2.out 0 _ rfl
              have q1c := cellOf HS2.out 1 _ rfl
              have KA : ∀ W' : World, Below y8.heap.size y8 W' → (W'.cell? ⟨u22, 0, none⟩ = some (.int .i64 lo) ∧ W'.cell? ⟨u22, 1, none⟩ = some (.int .i64 hi) ∧ W'.cell? ⟨u24, 0, none⟩ = some (.int .i64 (lo + (-b))) ∧ W'.cell? ⟨u24, 1, none⟩ = some (.int .i64 (hi + (-b))) ∧ Below y8.heap.size y8 W') := fun W' hb => ⟨keepK s0c hb, keepK s1c hb, keepK q0c hb, keepK q1c hb, hb⟩
              refine wp_region_noPanic ?_
              refine wp_region_held_drew (S := (fun W' => W'.cell? ⟨u22, 0, none⟩ = some (.int .i64 lo) ∧ W'.cell? ⟨u22, 1, none⟩ = some (.int .i64 hi) ∧ W'.cell? ⟨u24, 0, none⟩ = some (.int .i64 (lo + (-b))) ∧ W'.cell? ⟨u24, 1, none⟩ = some (.int .i64 (hi + (-b))) ∧ Below y8.heap.size y8 W')) (by kernel_rfl) ?_ (fun hh0 => ?_)
              · exact KA _ (Below.refl _ _).drew
              refine wpAnyH_take (i := 0) (v := ?_) rfl (by as_aux_lemma => kernel_rfl) (by as_aux_lemma => kernel_rfl) (by as_aux_lemma => kernel_rfl) (fun _ _ _ h => h) (Or.inl ⟨by rfl, ?_⟩) (by assumption) ?_
              rotate_left
              · intro w hSw
                try dsimp only at hSw
                go_simp
                try with_reducible rfl
              try simp only [Act.put, List.getElem_toArray, List.getElem_cons_succ, List.getElem_cons_zero, List.setIfInBounds_toArray, List.set_cons_zero, List.set_cons_succ]
              refine wpAnyH_take (i := 1) (v := ?_) rfl (by as_aux_lemma => kernel_rfl) (by as_aux_lemma => kernel_rfl) (by as_aux_lemma => kernel_rfl) (fun _ _ _ h => h) (Or.inl ⟨by rfl, ?_⟩) (by assumption) ?_
              rotate_left
              · intro w hSw
                try dsimp only at hSw
                go_simp
                try with_reducible rfl
              try simp only [Act.put, List.getElem_toArray, List.getElem_cons_succ, List.getElem_cons_zero, List.setIfInBounds_toArray, List.set_cons_zero, List.set_cons_succ]
              refine wpAnyH_take (i := 2) (v := ?_) rfl (by as_aux_lemma => kernel_rfl) (by as_aux_lemma => kernel_rfl) (by as_aux_lemma => kernel_rfl) (fun _ _ _ h => h) (Or.inl ⟨by rfl, ?_⟩) (by assumption) ?_
              rotate_left
              · intro w hSw
                try dsimp only at hSw
                go_simp
                try with_reducible rfl
              try simp only [Act.put, List.getElem_toArray, List.getElem_cons_succ, List.getElem_cons_zero, List.setIfInBounds_toArray, List.set_cons_zero, List.set_cons_succ]
              refine wpAnyH_take (i := 3) (v := ?_) rfl (by as_aux_lemma => kernel_rfl) (by as_aux_lemma => kernel_rfl) (by as_aux_lemma => kernel_rfl) (fun _ _ _ h => h) (Or.inl ⟨by rfl, ?_⟩) (by assumption) ?_
              rotate_left
              · intro w hSw
                try dsimp only at hSw
                go_simp
                try with_reducible rfl
              try simp only [Act.put, List.getElem_toArray, List.getElem_cons_succ, List.getElem_cons_zero, List.setIfInBounds_toArray, List.set_cons_zero, List.set_cons_succ]
              refine wpAnyH_take (i := 4) (v := ?_) rfl (by as_aux_lemma => kernel_rfl) (by as_aux_lemma => kernel_rfl) (by as_aux_lemma => kernel_rfl) (fun _ _ _ h => h) (Or.inl ⟨by rfl, ?_⟩) (by assumption) ?_
              rotate_left
              · intro w hSw
                try dsimp only at hSw
                go_simp
                try with_reducible rfl
              try simp only [Act.put, List.getElem_toArray, List.getElem_cons_succ, List.getElem_cons_zero, List.setIfInBounds_toArray, List.set_cons_zero, List.set_cons_succ]
              refine wpAnyH_take (i := 5) (v := ?_) rfl (by as_aux_lemma => kernel_rfl) (by as_aux_lemma => kernel_rfl) (by as_aux_lemma => kernel_rfl) (fun _ _ _ h => h) (Or.inl ⟨by rfl, ?_⟩) (by assumption) ?_
              rotate_left
              · intro w hSw
                try dsimp only at hSw
                go_simp
                try with_reducible rfl
              try simp only [Act.put, List.getElem_toArray, List.getElem_cons_succ, List.getElem_cons_zero, List.setIfInBounds_toArray, List.set_cons_zero, List.set_cons_succ]
              refine wpAnyH_take (i := 6) (v := ?_) rfl (by as_aux_lemma => kernel_rfl) (by as_aux_lemma => kernel_rfl) (by as_aux_lemma => kernel_rfl) (fun _ _ _ h => h) (Or.inl ⟨by rfl, ?_⟩) (by assumption) ?_
              rotate_left
              · intro w hSw
                try dsimp only at hSw
                go_simp
                try with_reducible rfl
              try simp only [Act.put, List.getElem_toArray, List.getElem_cons_succ, List.getElem_cons_zero, List.setIfInBounds_toArray, List.set_cons_zero, List.set_cons_succ]
              refine wpAnyH_take (i := 7) (v := ?_) rfl (by as_aux_lemma => kernel_rfl) (by as_aux_lemma => kernel_rfl) (by as_aux_lemma => kernel_rfl) (fun _ _ _ h => h) (Or.inl ⟨by rfl, ?_⟩) (by assumption) ?_
              rotate_left
              · intro w hSw
                try dsimp only at hSw
                go_simp
                try with_reducible rfl
              try simp only [Act.put, List.getElem_toArray, List.getElem_cons_succ, List.getElem_cons_zero, List.setIfInBounds_toArray, List.set_cons_zero, List.set_cons_succ]
              refine wpAnyH_take (i := 8) (v := ?_) rfl (by as_aux_lemma => kernel_rfl) (by as_aux_lemma => kernel_rfl) (by as_aux_lemma => kernel_rfl) (fun _ _ _ h => h) (Or.inl ⟨by rfl, ?_⟩) (by assumption) ?_
              rotate_left
              · intro w hSw
                try dsimp only at hSw
                go_simp
                try with_reducible rfl
              try simp only [Act.put, List.getElem_toArray, List.getElem_cons_succ, List.getElem_cons_zero, List.setIfInBounds_toArray, List.set_cons_zero, List.set_cons_succ]
              refine wpAnyH_ready (rs := [9]) (by as_aux_lemma => kernel_rfl) (by simp) ?_
              refine AllReadyH.cons rfl (fun K hK => ?_) AllReadyH.nil
              go_simp
              refine (lspan_any _ _ _).mono ?_
              rintro e ws ⟨rfl, hbs⟩
              refine hK.out _ _ (KA _ (Below.trans hh0.2.2.2.2 (Below.mono hbs (hh0.2.2.2.2).size))) (fun hh1 => ?_)
              clear hK K
              try simp only [Act.put, List.getElem_toArray, List.getElem_cons_succ, List.getElem_cons_zero, List.setIfInBounds_toArray, List.set_cons_zero, List.set_cons_succ]
              refine wpAnyH_take (i := 10) (v := ?_) rfl (by as_aux_lemma => kernel_rfl) (by as_aux_lemma => kernel_rfl) (by as_aux_lemma => kernel_rfl) (fun _ _ _ h => h) (Or.inl ⟨by rfl, ?_⟩) (by assumption) ?_
              rotate_left
              · intro w hSw
                try dsimp only at hSw
                go_simp
                try with_reducible rfl
              try simp only [Act.put, List.getElem_toArray, List.getElem_cons_succ, List.getElem_cons_zero, List.setIfInBounds_toArray, List.set_cons_zero, List.set_cons_succ]
              refine wpAnyH_take (i := 11) (v := ?_) rfl (by as_aux_lemma => kernel_rfl) (by as_aux_lemma => kernel_rfl) (by as_aux_lemma => kernel_rfl) (fun _ _ _ h => h) (Or.inl ⟨by rfl, ?_⟩) (by assumption) ?_
              rotate_left
              · intro w hSw
                try dsimp only at hSw
                go_simp
                try with_reducible rfl
              try simp only [Act.put, List.getElem_toArray, List.getElem_cons_succ, List.getElem_cons_zero, List.setIfInBounds_toArray, List.set_cons_zero, List.set_cons_succ]
              refine wpAnyH_ready (rs := [12]) (by as_aux_lemma => kernel_rfl) (by simp) ?_
              refine AllReadyH.cons rfl (fun K hK => ?_) AllReadyH.nil
              go_simp
              refine (awake_any _).mono ?_
              rintro e wt ⟨rfl, hbt⟩
              refine hK.out _ _ (KA _ (Below.trans hh1.2.2.2.2 (Below.mono hbt (hh1.2.2.2.2).size))) (fun hh2 => ?_)
              clear hK K
              try simp only [Act.put, List.getElem_toArray, List.getElem_cons_succ, List.getElem_cons_zero, List.setIfInBounds_toArray, List.set_cons_zero, List.set_cons_succ]
              refine wpAnyH_take (i := 13) (v := ?_) rfl (by as_aux_lemma => kernel_rfl) (by as_aux_lemma => kernel_rfl) (by as_aux_lemma => kernel_rfl) (fun _ _ _ h => h) (Or.inl ⟨by rfl, ?_⟩) (by assumption) ?_
              rotate_left
              · intro w hSw
                try dsimp only at hSw
                go_simp
                try with_reducible rfl
              try simp only [Act.put, List.getElem_toArray, List.getElem_cons_succ, List.getElem_cons_zero, List.setIfInBounds_toArray, List.set_cons_zero, List.set_cons_succ]
              refine wpAnyH_ready (rs := [14]) (by as_aux_lemma => kernel_rfl) (by simp) ?_
              refine AllReadyH.cons rfl (fun K hK => ?_) AllReadyH.nil
              go_simp
              refine hK.out _ _ hh2 (fun hh3 => ?_)
              clear hK K
              try simp only [Act.put, List.getElem_toArray, List.getElem_cons_succ, List.getElem_cons_zero, List.setIfInBounds_toArray, List.set_cons_zero, List.set_cons_succ]
              refine wpAnyH_done (by as_aux_lemma => kernel_rfl) ?_ _
              refine NoPanic.normal ?_
              have HBZ := Lib.hid (hh3.2.2.2.2)
              have HBF := Lib.hid (HB.out.trans (HBZ.out.mono HB.out.size))
              go_wp2_with fail
              go_ret
              exact ⟨rfl, HBF.out⟩
            · skip
              by_cases hd : db = (i : Int)
              · skip
                have ta : (da == (i : Int)) = false := by simp [ha]
                have ta2 : decide (da = (i : Int)) = false := by simp [ha]
                have tb : (db == (i : Int)) = true := by simp [hd]
                have hshv : sh = b := by have := HSV.out; rw [if_neg ha, if_pos hd] at this; exact this
                have HSHV := Lib.hid hshv
                clear hshv hne ha hd
                have s0 : IntKind.i64.wrap (-b) = -b := by rw [IntKind.wrap_i64] <;> omega
                obtain ⟨sv2, hsv2⟩ : ∃ s : Int, s = b := ⟨_, rfl⟩
                have r0 := cellOf HR.out 0 _ rfl
                have r1 := cellOf HR.out 1 _ rfl
                have r2 := cellOf HR.out 2 _ rfl
                have rl := lt_of_block HR.out
                have z0 := cellOf HZ.out 0 _ rfl
                have z1 := cellOf HZ.out 1 _ rfl
                have zl := lt_of_block HZ.out
                have o0 := cellOf HO.out 0 _ rfl
                have o1 := cellOf HO.out 1 _ rfl
                have o2 := cellOf HO.out 2 _ rfl
                have ol := lt_of_block HO.out
                have s0 := cellOf HS1.out 0 _ rfl
                have s1 := cellOf HS1.out 1 _ rfl
                have sl := lt_of_block HS1.out
                have d0 := D0.out
                have d1 := D1.out
                have dl := World.block_lt_of_cell? y7 _ d0
                go_wp2_with fail
                clear r0 r1 r2 rl z0 z1 zl o0 o1 o2 ol s0 s1 sl
                clear d0 d1 dl
                have hshh := HSHV.out
                clear HSH HSV HSHV
                subst sh
                clear hsv2
                have hb := (Below.refl y7.heap.size y7).alloc (Nat.le_refl _) (Obj.cells #[.int .i64 (lo + b), .int .i64 (hi + b)] 31)
                have HS2 := Lib.hid (heap_alloc_new y7 (Obj.cells #[.int .i64 (lo + b), .int .i64 (hi + b)] 31))
                have HR' := Lib.hid ((hb.block _ (lt_of_block HR.out)).trans HR.out)
                have HZ' := Lib.hid ((hb.block _ (lt_of_block HZ.out)).trans HZ.out)
                have HC' := Lib.hid (HC.out.below hb)
                have HB' := Lib.hid (HB.out.trans (hb.mono HB.out.size))
                have HD' := Lib.hid (HD.out.below hb)
                have HA' := Lib.hid ((hb.block _ (lt_of_block HA.out)).trans HA.out)
                have HI' := Lib.hid (HI.out.below hb)
                have HJ' := Lib.hid (HJ.out.below hb)
                have HU' := Lib.hid (HU.out.below hb)
                have HX' := Lib.hid (HX.out.below hb)
                have HF' := Lib.hid (HF.out.below hb)
                have HO' := Lib.hid ((hb.block _ (lt_of_block HO.out)).trans HO.out)
                have HS1' := Lib.hid ((hb.block _ (lt_of_block HS1.out)).trans HS1.out)
                clear HR
                have HR := HR'
                clear HR'
                clear HZ
                have HZ := HZ'
                clear HZ'
                clear HC
                have HC := HC'
                clear HC'
                clear HB
                have HB := HB'
                clear HB'
                clear HD
                have HD := HD'
                clear HD'
                clear HA
                have HA := HA'
                clear HA'
                clear HI
                have HI := HI'
                clear HI'
                clear HJ
                have HJ := HJ'
                clear HJ'
                clear HU
                have HU := HU'
                clear HU'
                clear HX
                have HX := HX'
                clear HX'
                clear HF
                have HF := HF'
                clear HF'
                clear HO
                have HO := HO'
                clear HO'
                clear HS1
                have HS1 := HS1'
                clear HS1'
                clear hb
                generalize y7.alloc (Obj.cells #[.int .i64 (lo + b), .int .i64 (hi + b)] 31) = y8 at *
                obtain ⟨u24, hu24⟩ : ∃ u, y7.heap.size = u := ⟨_, rfl⟩
                rw [hu24] at HS2 ⊢
                clear hu24
                have s1 : IntKind.i64.wrap (lo + b) = lo + b := by rw [IntKind.wrap_i64] <;> omega
                have s2 : IntKind.i64.wrap (hi + b) = hi + b := by rw [IntKind.wrap_i64] <;> omega
                have s0c := cellOf HS1.out 0 _ rfl
                have s1c := cellOf HS1.out 1 _ rfl
                have q0c := cellOf HS2.out 0 _ rfl
                have q1c := cellOf HS2.out 1 _ rfl
                have KA : ∀ W' : World, Below y8.heap.size y8 W' → (W'.cell? ⟨u22, 0, none⟩ = some (.int .i64 lo) ∧ W'.cell? ⟨u22, 1, none⟩ = some (.int .i64 hi) ∧ W'.cell? ⟨u24, 0, none⟩ = some (.int .i64 (lo + b)) ∧ W'.cell? ⟨u24, 1, none⟩ = some (.int .i64 (hi + b)) ∧ Below y8.heap.size y8 W') := fun W' hb => ⟨keepK s0c hb, keepK s1c hb, keepK q0c hb, keepK q1c hb, hb⟩
                refine wp_region_noPanic ?_
                refine wp_region_held_drew (S := (fun W' => W'.cell? ⟨u22, 0, none⟩ = some (.int .i64 lo) ∧ W'.cell? ⟨u22, 1, none⟩ = some (.int .i64 hi) ∧ W'.cell? ⟨u24, 0, none⟩ = some (.int .i64 (lo + b)) ∧ W'.cell? ⟨u24, 1, none⟩ = some (.int .i64 (hi + b)) ∧ Below y8.heap.size y8 W')) (by kernel_rfl) ?_ (fun hh0 => ?_)
                · exact KA _ (Below.refl _ _).drew
                refine wpAnyH_take (i := 0) (v := ?_) rfl (by as_aux_lemma => kernel_rfl) (by as_aux_lemma => kernel_rfl) (by as_aux_lemma => kernel_rfl) (fun _ _ _ h => h) (Or.inl ⟨by rfl, ?_⟩) (by assumption) ?_
                rotate_left
                · intro w hSw
                  try dsimp only at hSw
                  go_simp
                  try with_reducible rfl
                try simp only [Act.put, List.getElem_toArray, List.getElem_cons_succ, List.getElem_cons_zero, List.setIfInBounds_toArray, List.set_cons_zero, List.set_cons_succ]
                refine wpAnyH_take (i := 1) (v := ?_) rfl (by as_aux_lemma => kernel_rfl) (by as_aux_lemma => kernel_rfl) (by as_aux_lemma => kernel_rfl) (fun _ _ _ h => h) (Or.inl ⟨by rfl, ?_⟩) (by assumption) ?_
                rotate_left
                · intro w hSw
                  try dsimp only at hSw
                  go_simp
                  try with_reducible rfl
                try simp only [Act.put, List.getElem_toArray, List.getElem_cons_succ, List.getElem_cons_zero, List.setIfInBounds_toArray, List.set_cons_zero, List.set_cons_succ]
                refine wpAnyH_take (i := 2) (v := ?_) rfl (by as_aux_lemma => kernel_rfl) (by as_aux_lemma => kernel_rfl) (by as_aux_lemma => kernel_rfl) (fun _ _ _ h => h) (Or.inl ⟨by rfl, ?_⟩) (by assumption) ?_
                rotate_left
                · intro w hSw
                  try dsimp only at hSw
                  go_simp
                  try with_reducible rfl
                try simp only [Act.put, List.getElem_toArray, List.getElem_cons_succ, List.getElem_cons_zero, List.setIfInBounds_toArray, List.set_cons_zero, List.set_cons_succ]
                refine wpAnyH_take (i := 3) (v := ?_) rfl (by as_aux_lemma => kernel_rfl) (by as_aux_lemma => kernel_rfl) (by as_aux_lemma => kernel_rfl) (fun _ _ _ h => h) (Or.inl ⟨by rfl, ?_⟩) (by assumption) ?_
                rotate_left
                · intro w hSw
                  try dsimp only at hSw
                  go_simp
                  try with_reducible rfl
                try simp only [Act.put, List.getElem_toArray, List.getElem_cons_succ, List.getElem_cons_zero, List.setIfInBounds_toArray, List.set_cons_zero, List.set_cons_succ]
                refine wpAnyH_take (i := 4) (v := ?_) rfl (by as_aux_lemma => kernel_rfl) (by as_aux_lemma => kernel_rfl) (by as_aux_lemma => kernel_rfl) (fun _ _ _ h => h) (Or.inl ⟨by rfl, ?_⟩) (by assumption) ?_
                rotate_left
                · intro w hSw
                  try dsimp only at hSw
                  go_simp
                  try with_reducible rfl
                try simp only [Act.put, List.getElem_toArray, List.getElem_cons_succ, List.getElem_cons_zero, List.setIfInBounds_toArray, List.set_cons_zero, List.set_cons_succ]
                refine wpAnyH_take (i := 5) (v := ?_) rfl (by as_aux_lemma => kernel_rfl) (by as_aux_lemma => kernel_rfl) (by as_aux_lemma => kernel_rfl) (fun _ _ _ h => h) (Or.inl ⟨by rfl, ?_⟩) (by assumption) ?_
                rotate_left
                · intro w hSw
                  try dsimp only at hSw
                  go_simp
                  try with_reducible rfl
                try simp only [Act.put, List.getElem_toArray, List.getElem_cons_succ, List.getElem_cons_zero, List.setIfInBounds_toArray, List.set_cons_zero, List.set_cons_succ]
                refine wpAnyH_take (i := 6) (v := ?_) rfl (by as_aux_lemma => kernel_rfl) (by as_aux_lemma => kernel_rfl) (by as_aux_lemma => kernel_rfl) (fun _ _ _ h => h) (Or.inl ⟨by rfl, ?_⟩) (by assumption) ?_
                rotate_left
                · intro w hSw
                  try dsimp only at hSw
                  go_simp
                  try with_reducible rfl
                try simp only [Act.put, List.getElem_toArray, List.getElem_cons_succ, List.getElem_cons_zero, List.setIfInBounds_toArray, List.set_cons_zero, List.set_cons_succ]
                refine wpAnyH_take (i := 7) (v := ?_) rfl (by as_aux_lemma => kernel_rfl) (by as_aux_lemma => kernel_rfl) (by as_aux_lemma => kernel_rfl) (fun _ _ _ h => h) (Or.inl ⟨by rfl, ?_⟩) (by assumption) ?_
                rotate_left
                · intro w hSw
                  try dsimp only at hSw
                  go_simp
                  try with_reducible rfl
                try simp only [Act.put, List.getElem_toArray, List.getElem_cons_succ, List.getElem_cons_zero, List.setIfInBounds_toArray, List.set_cons_zero, List.set_cons_succ]
                refine wpAnyH_take (i := 8) (v := ?_) rfl (by as_aux_lemma => kernel_rfl) (by as_aux_lemma => kernel_rfl) (by as_aux_lemma => kernel_rfl) (fun _ _ _ h => h) (Or.inl ⟨by rfl, ?_⟩) (by assumption) ?_
                rotate_left
                · intro w hSw
                  try dsimp only at hSw
                  go_simp
                  try with_reducible rfl
                try simp only [Act.put, List.getElem_toArray, List.getElem_cons_succ, List.getElem_cons_zero, List.setIfInBounds_toArray, List.set_cons_zero, List.set_cons_succ]
                refine wpAnyH_ready (rs := [9]) (by as_aux_lemma => kernel_rfl) (by simp) ?_
                refine AllReadyH.cons rfl (fun K hK => ?_) AllReadyH.nil
                go_simp
                refine (lspan_any _ _ _).mono ?_
                rintro e ws ⟨rfl, hbs⟩
                refine hK.out _ _ (KA _ (Below.trans hh0.2.2.2.2 (Below.mono hbs (hh0.2.2.2.2).size))) (fun hh1 => ?_)
                clear hK K
                try simp only [Act.put, List.getElem_toArray, List.getElem_cons_succ, List.getElem_cons_zero, List.setIfInBounds_toArray, List.set_cons_zero, List.set_cons_succ]
                refine wpAnyH_take (i := 10) (v := ?_) rfl (by as_aux_lemma => kernel_rfl) (by as_aux_lemma => kernel_rfl) (by as_aux_lemma => kernel_rfl) (fun _ _ _ h => h) (Or.inl ⟨by rfl, ?_⟩) (by assumption) ?_
                rotate_left
                · intro w hSw
                  try dsimp only at hSw
                  go_simp
                  try with_reducible rfl
                try simp only [Act.put, List.getElem_toArray, List.getElem_cons_succ, List.getElem_cons_zero, List.setIfInBounds_toArray, List.set_cons_zero, List.set_cons_succ]
                refine wpAnyH_take (i := 11) (v := ?_) rfl (by as_aux_lemma => kernel_rfl) (by as_aux_lemma => kernel_rfl) (by as_aux_lemma => kernel_rfl) (fun _ _ _ h => h) (Or.inl ⟨by rfl, ?_⟩) (by assumption) ?_
                rotate_left
                · intro w hSw
                  try dsimp only at hSw
                  go_simp
                  try with_reducible rfl
                try simp only [Act.put, List.getElem_toArray, List.getElem_cons_succ, List.getElem_cons_zero, List.setIfInBounds_toArray, List.set_cons_zero, List.set_cons_succ]
                refine wpAnyH_ready (rs := [12]) (by as_aux_lemma => kernel_rfl) (by simp) ?_
                refine AllReadyH.cons rfl (fun K hK => ?_) AllReadyH.nil
                go_simp
                refine (awake_any _).mono ?_
                rintro e wt ⟨rfl, hbt⟩
                refine hK.out _ _ (KA _ (Below.trans hh1.2.2.2.2 (Below.mono hbt (hh1.2.2.2.2).size))) (fun hh2 => ?_)
                clear hK K
                try simp only [Act.put, List.getElem_toArray, List.getElem_cons_succ, List.getElem_cons_zero, List.setIfInBounds_toArray, List.set_cons_zero, List.set_cons_succ]
                refine wpAnyH_take (i := 13) (v := ?_) rfl (by as_aux_lemma => kernel_rfl) (by as_aux_lemma => kernel_rfl) (by as_aux_lemma => kernel_rfl) (fun _ _ _ h => h) (Or.inl ⟨by rfl, ?_⟩) (by assumption) ?_
                rotate_left
                · intro w hSw
                  try dsimp only at hSw
                  go_simp
                  try with_reducible rfl
                try simp only [Act.put, List.getElem_toArray, List.getElem_cons_succ, List.getElem_cons_zero, List.setIfInBounds_toArray, List.set_cons_zero, List.set_cons_succ]
                refine wpAnyH_ready (rs := [14]) (by as_aux_lemma => kernel_rfl) (by simp) ?_
                refine AllReadyH.cons rfl (fun K hK => ?_) AllReadyH.nil
                go_simp
                refine hK.out _ _ hh2 (fun hh3 => ?_)
                clear hK K
                try simp only [Act.put, List.getElem_toArray, List.getElem_cons_succ, List.getElem_cons_zero, List.setIfInBounds_toArray, List.set_cons_zero, List.set_cons_succ]
                refine wpAnyH_done (by as_aux_lemma => kernel_rfl) ?_ _
                refine NoPanic.normal ?_
                have HBZ := Lib.hid (hh3.2.2.2.2)
                have HBF := Lib.hid (HB.out.trans (HBZ.out.mono HB.out.size))
                go_wp2_with fail
                go_ret
                exact ⟨rfl, HBF.out⟩
              · skip
                have ta : (da == (i : Int)) = false := by simp [ha]
                have ta2 : decide (da = (i : Int)) = false := by simp [ha]
                have tb : (db == (i : Int)) = false := by simp [hd]
                have tb2 : decide (db = (i : Int)) = false := by simp [hd]
                have hshv : sh = 0 := by have := HSV.out; rw [if_neg ha, if_neg hd] at this; exact this
                have HSHV := Lib.hid hshv
                clear hshv hne ha hd
                have s0 : IntKind.i64.wrap (-b) = -b := by rw [IntKind.wrap_i64] <;> omega
                obtain ⟨sv2, hsv2⟩ : ∃ s : Int, s = 0 := ⟨_, rfl⟩
                have r0 := cellOf HR.out 0 _ rfl
                have r1 := cellOf HR.out 1 _ rfl
                have r2 := cellOf HR.out 2 _ rfl
                have rl := lt_of_block HR.out
                have z0 := cellOf HZ.out 0 _ rfl
                have z1 := cellOf HZ.out 1 _ rfl
                have zl := lt_of_block HZ.out
                have o0 := cellOf HO.out 0 _ rfl
                have o1 := cellOf HO.out 1 _ rfl
                have o2 := cellOf HO.out 2 _ rfl
                have ol := lt_of_block HO.out
                have s0 := cellOf HS1.out 0 _ rfl
                have s1 := cellOf HS1.out 1 _ rfl
                have sl := lt_of_block HS1.out
                have d0 := D0.out
                have d1 := D1.out
                have dl := World.block_lt_of_cell? y7 _ d0
                go_wp2_with fail
                clear r0 r1 r2 rl z0 z1 zl o0 o1 o2 ol s0 s1 sl
                clear d0 d1 dl
                have hshh := HSHV.out
                clear HSH HSV HSHV
                subst sh
                clear hsv2
                have hb := (Below.refl y7.heap.size y7).alloc (Nat.le_refl _) (Obj.cells #[.int .i64 (lo + 0), .int .i64 (hi + 0)] 31)
                have HS2 := Lib.hid (heap_alloc_new y7 (Obj.cells #[.int .i64 (lo + 0), .int .i64 (hi + 0)] 31))
                have HR' := Lib.hid ((hb.block _ (lt_of_block HR.out)).trans HR.out)
                have HZ' := Lib.hid ((hb.block _ (lt_of_block HZ.out)).trans HZ.out)
                have HC' := Lib.hid (HC.out.below hb)
                have HB' := Lib.hid (HB.out.trans (hb.mono HB.out.size))
                have HD' := Lib.hid (HD.out.below hb)
                have HA' := Lib.hid ((hb.block _ (lt_of_block HA.out)).trans HA.out)
                have HI' := Lib.hid (HI.out.below hb)
                have HJ' := Lib.hid (HJ.out.below hb)
                have HU' := Lib.hid (HU.out.below hb)
                have HX' := Lib.hid (HX.out.below hb)
                have HF' := Lib.hid (HF.out.below hb)
                have HO' := Lib.hid ((hb.block _ (lt_of_block HO.out)).trans HO.out)
                have HS1' := Lib.hid ((hb.block _ (lt_of_block HS1.out)).trans HS1.out)
                clear HR
                have HR := HR'
                clear HR'
                clear HZ
                have HZ := HZ'
                clear HZ'
                clear HC
                have HC := HC'
                clear HC'
                clear HB
                have HB := HB'
                clear HB'
                clear HD
                have HD := HD'
                clear HD'
                clear HA
                have HA := HA'
                clear HA'
                clear HI
                have HI := HI'
                clear HI'
                clear HJ
                have HJ := HJ'
                clear HJ'
                clear HU
                have HU := HU'
                clear HU'
                clear HX
                have HX := HX'
                clear HX'
                clear HF
                have HF := HF'
                clear HF'
                clear HO
                have HO := HO'
                clear HO'
                clear HS1
                have HS1 := HS1'
                clear HS1'
                clear hb
                generalize y7.alloc (Obj.cells #[.int .i64 (lo + 0), .int .i64 (hi + 0)] 31) = y8 at *
                obtain ⟨u24, hu24⟩ : ∃ u, y7.heap.size = u := ⟨_, rfl⟩
                rw [hu24] at HS2 ⊢
                clear hu24
                have s1 : IntKind.i64.wrap (lo + 0) = lo + 0 := by rw [IntKind.wrap_i64] <;> omega
                have s2 : IntKind.i64.wrap (hi + 0) = hi + 0 := by rw [IntKind.wrap_i64] <;> omega
                simp only [Int.add_zero] at HS2 s1 s2 ⊢
                have s0c := cellOf HS1.out 0 _ rfl
                have s1c := cellOf HS1.out 1 _ rfl
                have q0c := cellOf HS2.out 0 _ rfl
                have q1c := cellOf HS2.out 1 _ rfl
                have KA : ∀ W' : World, Below y8.heap.size y8 W' → (W'.cell? ⟨u22, 0, none⟩ = some (.int .i64 lo) ∧ W'.cell? ⟨u22, 1, none⟩ = some (.int .i64 hi) ∧ W'.cell? ⟨u24, 0, none⟩ = some (.int .i64 (lo)) ∧ W'.cell? ⟨u24, 1, none⟩ = some (.int .i64 (hi)) ∧ Below y8.heap.size y8 W') := fun W' hb => ⟨keepK s0c hb, keepK s1c hb, keepK q0c hb, keepK q1c hb, hb⟩
                refine wp_region_noPanic ?_
                refine wp_region_held_drew (S := (fun W' => W'.cell? ⟨u22, 0, none⟩ = some (.int .i64 lo) ∧ W'.cell? ⟨u22, 1, none⟩ = some (.int .i64 hi) ∧ W'.cell? ⟨u24, 0, none⟩ = some (.int .i64 (lo)) ∧ W'.cell? ⟨u24, 1, none⟩ = some (.int .i64 (hi)) ∧ Below y8.heap.size y8 W')) (by kernel_rfl) ?_ (fun hh0 => ?_)
                · exact KA _ (Below.refl _ _).drew
                refine wpAnyH_take (i := 0) (v := ?_) rfl (by as_aux_lemma => kernel_rfl) (by as_aux_lemma => kernel_rfl) (by as_aux_lemma => kernel_rfl) (fun _ _ _ h => h) (Or.inl ⟨by rfl, ?_⟩) (by assumption) ?_
                rotate_left
                · intro w hSw
                  try dsimp only at hSw
                  go_simp
                  try with_reducible rfl
                try simp only [Act.put, List.getElem_toArray, List.getElem_cons_succ, List.getElem_cons_zero, List.setIfInBounds_toArray, List.set_cons_zero, List.set_cons_succ]
                refine wpAnyH_take (i := 1) (v := ?_) rfl (by as_aux_lemma => kernel_rfl) (by as_aux_lemma => kernel_rfl) (by as_aux_lemma => kernel_rfl) (fun _ _ _ h => h) (Or.inl ⟨by rfl, ?_⟩) (by assumption) ?_
                rotate_left
                · intro w hSw
                  try dsimp only at hSw
                  go_simp
                  try with_reducible rfl
                try simp only [Act.put, List.getElem_toArray, List.getElem_cons_succ, List.getElem_cons_zero, List.setIfInBounds_toArray, List.set_cons_zero, List.set_cons_succ]
                refine wpAnyH_take (i := 2) (v := ?_) rfl (by as_aux_lemma => kernel_rfl) (by as_aux_lemma => kernel_rfl) (by as_aux_lemma => kernel_rfl) (fun _ _ _ h => h) (Or.inl ⟨by rfl, ?_⟩) (by assumption) ?_
                rotate_left
                · intro w hSw
                  try dsimp only at hSw
                  go_simp
                  try with_reducible rfl
                try simp only [Act.put, List.getElem_toArray, List.getElem_cons_succ, List.getElem_cons_zero, List.setIfInBounds_toArray, List.set_cons_zero, List.set_cons_succ]
                refine wpAnyH_take (i := 3) (v := ?_) rfl (by as_aux_lemma => kernel_rfl) (by as_aux_lemma => kernel_rfl) (by as_aux_lemma => kernel_rfl) (fun _ _ _ h => h) (Or.inl ⟨by rfl, ?_⟩) (by assumption) ?_
                rotate_left
                · intro w hSw
                  try dsimp only at hSw
                  go_simp
                  try with_reducible rfl
                try simp only [Act.put, List.getElem_toArray, List.getElem_cons_succ, List.getElem_cons_zero, List.setIfInBounds_toArray, List.set_cons_zero, List.set_cons_succ]
                refine wpAnyH_take (i := 4) (v := ?_) rfl (by as_aux_lemma => kernel_rfl) (by as_aux_lemma => kernel_rfl) (by as_aux_lemma => kernel_rfl) (fun _ _ _ h => h) (Or.inl ⟨by rfl, ?_⟩) (by assumption) ?_
                rotate_left
                · intro w hSw
                  try dsimp only at hSw
                  go_simp
                  try with_reducible rfl
                try simp only [Act.put, List.getElem_toArray, List.getElem_cons_succ, List.getElem_cons_zero, List.setIfInBounds_toArray, List.set_cons_zero, List.set_cons_succ]
                refine wpAnyH_take (i := 5) (v := ?_) rfl (by as_aux_lemma => kernel_rfl) (by as_aux_lemma => kernel_rfl) (by as_aux_lemma => kernel_rfl) (fun _ _ _ h => h) (Or.inl ⟨by rfl, ?_⟩) (by assumption) ?_
                rotate_left
                · intro w hSw
                  try dsimp only at hSw
                  go_simp
                  try with_reducible rfl
                try simp only [Act.put, List.getElem_toArray, List.getElem_cons_succ, List.getElem_cons_zero, List.setIfInBounds_toArray, List.set_cons_zero, List.set_cons_succ]
                refine wpAnyH_take (i := 6) (v := ?_) rfl (by as_aux_lemma => kernel_rfl) (by as_aux_lemma => kernel_rfl) (by as_aux_lemma => kernel_rfl) (fun _ _ _ h => h) (Or.inl ⟨by rfl, ?_⟩) (by assumption) ?_
                rotate_left
                · intro w hSw
                  try dsimp only at hSw
                  go_simp
                  try with_reducible rfl
                try simp only [Act.put, List.getElem_toArray, List.getElem_cons_succ, List.getElem_cons_zero, List.setIfInBounds_toArray, List.set_cons_zero, List.set_cons_succ]
                refine wpAnyH_take (i := 7) (v := ?_) rfl (by as_aux_lemma => kernel_rfl) (by as_aux_lemma => kernel_rfl) (by as_aux_lemma => kernel_rfl) (fun _ _ _ h => h) (Or.inl ⟨by rfl, ?_⟩) (by assumption) ?_
                rotate_left
                · intro w hSw
                  try dsimp only at hSw
                  go_simp
                  try with_reducible rfl
                try simp only [Act.put, List.getElem_toArray, List.getElem_cons_succ, List.getElem_cons_zero, List.setIfInBounds_toArray, List.set_cons_zero, List.set_cons_succ]
                refine wpAnyH_take (i := 8) (v := ?_) rfl (by as_aux_lemma => kernel_rfl) (by as_aux_lemma => kernel_rfl) (by as_aux_lemma => kernel_rfl) (fun _ _ _ h => h) (Or.inl ⟨by rfl, ?_⟩) (by assumption) ?_
                rotate_left
                · intro w hSw
                  try dsimp only at hSw
                  go_simp
                  try with_reducible rfl
                try simp only [Act.put, List.getElem_toArray, List.getElem_cons_succ, List.getElem_cons_zero, List.setIfInBounds_toArray, List.set_cons_zero, List.set_cons_succ]
                refine wpAnyH_ready (rs := [9]) (by as_aux_lemma => kernel_rfl) (by simp) ?_
                refine AllReadyH.cons rfl (fun K hK => ?_) AllReadyH.nil
                go_simp
                refine (lspan_any _ _ _).mono ?_
                rintro e ws ⟨rfl, hbs⟩
                refine hK.out _ _ (KA _ (Below.trans hh0.2.2.2.2 (Below.mono hbs (hh0.2.2.2.2).size))) (fun hh1 => ?_)
                clear hK K
                try simp only [Act.put, List.getElem_toArray, List.getElem_cons_succ, List.getElem_cons_zero, List.setIfInBounds_toArray, List.set_cons_zero, List.set_cons_succ]
                refine wpAnyH_take (i := 10) (v := ?_) rfl (by as_aux_lemma => kernel_rfl) (by as_aux_lemma => kernel_rfl) (by as_aux_lemma => kernel_rfl) (fun _ _ _ h => h) (Or.inl ⟨by rfl, ?_⟩) (by assumption) ?_
                rotate_left
                · intro w hSw
                  try dsimp only at hSw
                  go_simp
                  try with_reducible rfl
                try simp only [Act.put, List.getElem_toArray, List.getElem_cons_succ, List.getElem_cons_zero, List.setIfInBounds_toArray, List.set_cons_zero, List.set_cons_succ]
                refine wpAnyH_take (i := 11) (v := ?_) rfl (by as_aux_lemma => kernel_rfl) (by as_aux_lemma => kernel_rfl) (by as_aux_lemma => kernel_rfl) (fun _ _ _ h => h) (Or.inl ⟨by rfl, ?_⟩) (by assumption) ?_
                rotate_left
                · intro w hSw
                  try dsimp only at hSw
                  go_simp
                  try with_reducible rfl
                try simp only [Act.put, List.getElem_toArray, List.getElem_cons_succ, List.getElem_cons_zero, List.setIfInBounds_toArray, List.set_cons_zero, List.set_cons_succ]
                refine wpAnyH_ready (rs := [12]) (by as_aux_lemma => kernel_rfl) (by simp) ?_
                refine AllReadyH.cons rfl (fun K hK => ?_) AllReadyH.nil
                go_simp
                refine (awake_any _).mono ?_
                rintro e wt ⟨rfl, hbt⟩
                refine hK.out _ _ (KA _ (Below.trans hh1.2.2.2.2 (Below.mono hbt (hh1.2.2.2.2).size))) (fun hh2 => ?_)
                clear hK K
                try simp only [Act.put, List.getElem_toArray, List.getElem_cons_succ, List.getElem_cons_zero, List.setIfInBounds_toArray, List.set_cons_zero, List.set_cons_succ]
                refine wpAnyH_take (i := 13) (v := ?_) rfl (by as_aux_lemma => kernel_rfl) (by as_aux_lemma => kernel_rfl) (by as_aux_lemma => kernel_rfl) (fun _ _ _ h => h) (Or.inl ⟨by rfl, ?_⟩) (by assumption) ?_
                rotate_left
                · intro w hSw
                  try dsimp only at hSw
                  go_simp
                  try with_reducible rfl
                try simp only [Act.put, List.getElem_toArray, List.getElem_cons_succ, List.getElem_cons_zero, List.setIfInBounds_toArray, List.set_cons_zero, List.set_cons_succ]
                refine wpAnyH_ready (rs := [14]) (by as_aux_lemma => kernel_rfl) (by simp) ?_
                refine AllReadyH.cons rfl (fun K hK => ?_) AllReadyH.nil
                go_simp
                refine hK.out _ _ hh2 (fun hh3 => ?_)
                clear hK K
                try simp only [Act.put, List.getElem_toArray, List.getElem_cons_succ, List.getElem_cons_zero, List.setIfInBounds_toArray, List.set_cons_zero, List.set_cons_succ]
                refine wpAnyH_done (by as_aux_lemma => kernel_rfl) ?_ _
                refine NoPanic.normal ?_
                have HBZ := Lib.hid (hh3.2.2.2.2)
                have HBF := Lib.hid (HB.out.trans (HBZ.out.mono HB.out.size))
                go_wp2_with fail
                go_ret
                exact ⟨rfl, HBF.out⟩
      · skip
        rw [show decide (errC (raisedC c (i : Int) b) = 0) = false by simp [hf]]
        clear hf
        have r0 := cellOf HR.out 0 _ rfl
        have r1 := cellOf HR.out 1 _ rfl
        have r2 := cellOf HR.out 2 _ rfl
        have rl := lt_of_block HR.out
        have z0 := cellOf HZ.out 0 _ rfl
        have z1 := cellOf HZ.out 1 _ rfl
        have zl := lt_of_block HZ.out
        go_wp2_with fail
        clear r0 r1 r2 rl z0 z1 zl
        refine (awake_any y4).mono ?_
        rintro e wz ⟨rfl, hb⟩
        have HBF := Lib.hid (HB.out.trans (hb.mono HB.out.size))
        clear hb
        go_wp2_with fail
        go_ret
        exact ⟨rfl, HBF.out⟩
    · skip
      rw [show decide (errC (raisedC c (-1) b) = 0) = false by simp [hd0]]
      clear hd0
      have xI : (x : Int) ≤ 255 := by omega
      have nz : ((n : Int) == 0) = false := by rw [beq_eq_false_iff_ne]; omega
      have nd0 : ¬ n = 0 := by omega
      have nd1 : ¬ (n : Int) = -1 := by omega
      have em := tmod_nat x n
      have hxm : x % n < n := Nat.mod_lt _ (by omega)
      generalize hxn : x % n = i at *
      clear hxn
      have iI : (i : Int) < (n : Int) := by omega
      have r0 := cellOf HR.out 0 _ rfl
      have r1 := cellOf HR.out 1 _ rfl
      have r2 := cellOf HR.out 2 _ rfl
      have rl := lt_of_block HR.out
      have z0 := cellOf HZ.out 0 _ rfl
      have z1 := cellOf HZ.out 1 _ rfl
      have zl := lt_of_block HZ.out
      go_wp2_with fail
      clear r0 r1 r2 rl z0 z1 zl
      clear em nz xI nd0 nd1
      have hcall := raised_any c HV.out _ _ (i : Int) b w4 ⟨b0, b9⟩ HC.out
      rw [HTOL.out] at hcall
      refine hcall.mono ?_
      clear hcall
      rintro e y2 ⟨ev4, rfl, hF, hb⟩
      have HR' := Lib.hid ((hb.block _ (lt_of_block HR.out)).trans HR.out)
      have HZ' := Lib.hid ((hb.block _ (lt_of_block HZ.out)).trans HZ.out)
      have HC' := Lib.hid (HC.out.below hb)
      have HB' := Lib.hid (HB.out.trans (hb.mono HB.out.size))
      have HD' := Lib.hid (HD.out.below hb)
      have HA' := Lib.hid ((hb.block _ (lt_of_block HA.out)).trans HA.out)
      clear HR
      have HR := HR'
      clear HR'
      clear HZ
      have HZ := HZ'
      clear HZ'
      clear HC
      have HC := HC'
      clear HC'
      clear HB
      have HB := HB'
      clear HB'
      clear HD
      have HD := HD'
      clear HD'
      clear HA
      have HA := HA'
      clear HA'
      clear hb
      have HF := Lib.hid hF
      clear hF
      obtain ⟨ea4, m4, ec4, rfl⟩ : ∃ a n cc, ev4 = .slice a n cc := by obtain ⟨_, a, cap, h, _⟩ := HF.out.eds; exact ⟨_, _, _, h⟩
      have r0 := cellOf HR.out 0 _ rfl
      have r1 := cellOf HR.out 1 _ rfl
      have r2 := cellOf HR.out 2 _ rfl
      have rl := lt_of_block HR.out
      have z0 := cellOf HZ.out 0 _ rfl
      have z1 := cellOf HZ.out 1 _ rfl
      have zl := lt_of_block HZ.out
      go_wp2_with fail
      clear r0 r1 r2 rl z0 z1 zl
      have hb := (Below.refl y2.heap.size y2).alloc (Nat.le_refl _) (Obj.cells #[.int .i64 tol, .slice sa n sc, .slice ea4 m4 ec4] 25)
      have HO := Lib.hid (heap_alloc_new y2 (Obj.cells #[.int .i64 tol, .slice sa n sc, .slice ea4 m4 ec4] 25))
      have HR' := Lib.hid ((hb.block _ (lt_of_block HR.out)).trans HR.out)
      have HZ' := Lib.hid ((hb.block _ (lt_of_block HZ.out)).trans HZ.out)
      have HC' := Lib.hid (HC.out.below hb)
      have HB' := Lib.hid (HB.out.trans (hb.mono HB.out.size))
      have HD' := Lib.hid (HD.out.below hb)
      have HA' := Lib.hid ((hb.block _ (lt_of_block HA.out)).trans HA.out)
      have HF' := Lib.hid (HF.out.below hb)
      clear HR
      have HR := HR'
      clear HR'
      clear HZ
      have HZ := HZ'
      clear HZ'
      clear HC
      have HC := HC'
      clear HC'
      clear HB
      have HB := HB'
      clear HB'
      clear HD
      have HD := HD'
      clear HD'
      clear HA
      have HA := HA'
      clear HA'
      clear HF
      have HF := HF'
      clear HF'
      clear hb
      generalize y2.alloc (Obj.cells #[.int .i64 tol, .slice sa n sc, .slice ea4 m4 ec4] 25) = y3 at *
      obtain ⟨u20, hu20⟩ : ∃ u, y2.heap.size = u := ⟨_, rfl⟩
      rw [hu20] at HO ⊢
      clear hu20
      have HTF : Hid ((raisedC c (i : Int) b).tol = tol) := HTOL.out
      have hcall := lvalid_any (raisedC c (i : Int) b) _ _ y3 HF.out
      rw [HTF.out] at hcall
      refine hcall.mono ?_
      clear hcall
      rintro e y4 ⟨rfl, hb⟩
      have HR' := Lib.hid ((hb.block _ (lt_of_block HR.out)).trans HR.out)
      have HZ' := Lib.hid ((hb.block _ (lt_of_block HZ.out)).trans HZ.out)
      have HC' := Lib.hid (HC.out.below hb)
      have HB' := Lib.hid (HB.out.trans (hb.mono HB.out.size))
      have HD' := Lib.hid (HD.out.below hb)
      have HA' := Lib.hid ((hb.block _ (lt_of_block HA.out)).trans HA.out)
      have HF' := Lib.hid (HF.out.below hb)
      have HO' := Lib.hid ((hb.block _ (lt_of_block HO.out)).trans HO.out)
      clear HR
      have HR := HR'
      clear HR'
      clear HZ
      have HZ := HZ'
      clear HZ'
      clear HC
      have HC := HC'
      clear HC'
      clear HB
      have HB := HB'
      clear HB'
      clear HD
      have HD := HD'
      clear HD'
      clear HA
      have HA := HA'
      clear HA'
      clear HF
      have HF := HF'
      clear HF'
      clear HO
      have HO := HO'
      clear HO'
      clear hb
      by_cases hf : errC (raisedC c (i : Int) b) = 0
      · skip
        have HF0 := Lib.hid hf
        rw [show decide (errC (raisedC c (i : Int) b) = 0) = true by simp [hf]]
        clear hf
        by_cases hm0 : m = 0
        · skip
          have tm : ((m : Int) == 0) = true := by simp [hm0]
          clear hm0
          have r0 := cellOf HR.out 0 _ rfl
          have r1 := cellOf HR.out 1 _ rfl
          have r2 := cellOf HR.out 2 _ rfl
          have rl := lt_of_block HR.out
          have z0 := cellOf HZ.out 0 _ rfl
          have z1 := cellOf HZ.out 1 _ rfl
          have zl := lt_of_block HZ.out
          go_wp2_with fail
          clear r0 r1 r2 rl z0 z1 zl
          refine (awake_any y4).mono ?_
          rintro e wz ⟨rfl, hb⟩
          have HBF := Lib.hid (HB.out.trans (hb.mono HB.out.size))
          clear hb
          go_wp2_with fail
          go_ret
          exact ⟨rfl, HBF.out⟩
        · skip
          have tm : ((m : Int) == 0) = false := by simp [hm0]
          have yI : (y : Int) ≤ 255 := by omega
          have md0 : ¬ m = 0 := hm0
          have md1 : ¬ (m : Int) = -1 := by omega
          have m1I : (1 : Int) ≤ m := by omega
          have em := tmod_nat y m
          have hym : y % m < m := Nat.mod_lt _ (by omega)
          generalize hyn : y % m = k at *
          clear hyn hm0
          have kI : (k : Int) < (m : Int) := by omega
          have r0 := cellOf HR.out 0 _ rfl
          have r1 := cellOf HR.out 1 _ rfl
          have r2 := cellOf HR.out 2 _ rfl
          have rl := lt_of_block HR.out
          have z0 := cellOf HZ.out 0 _ rfl
          have z1 := cellOf HZ.out 1 _ rfl
          have zl := lt_of_block HZ.out
          go_wp2_with fail
          clear r0 r1 r2 rl z0 z1 zl
          clear em tm yI md0 md1
          have hcall := wants_any c _ _ (k : Int) y4 HC.out
          rw [HTOL.out] at hcall
          refine hcall.mono ?_
          clear hcall
          rintro e y5 ⟨rfl, hb⟩
          have HR' := Lib.hid ((hb.block _ (lt_of_block HR.out)).trans HR.out)
          have HZ' := Lib.hid ((hb.block _ (lt_of_block HZ.out)).trans HZ.out)
          have HC' := Lib.hid (HC.out.below hb)
          have HB' := Lib.hid (HB.out.trans (hb.mono HB.out.size))
          have HD' := Lib.hid (HD.out.below hb)
          have HA' := Lib.hid ((hb.block _ (lt_of_block HA.out)).trans HA.out)
          have HF' := Lib.hid (HF.out.below hb)
          have HO' := Lib.hid ((hb.block _ (lt_of_block HO.out)).trans HO.out)
          clear HR
          have HR := HR'
          clear HR'
          clear HZ
          have HZ := HZ'
          clear HZ'
          clear HC
          have HC := HC'
          clear HC'
          clear HB
          have HB := HB'
          clear HB'
          clear HD
          have HD := HD'
          clear HD'
          clear HA
          have HA := HA'
          clear HA'
          clear HF
          have HF := HF'
          clear HF'
          clear HO
          have HO := HO'
          clear HO'
          clear hb
          have hin : inB 0 ((c.eds.length : Int) - 1) (k : Int) = true := by have := HM.out; unfold inB; simp; omega
          have hinF : inB 0 (((raisedC c (i : Int) b).eds.length : Int) - 1) (k : Int) = true := by have := HM.out; unfold inB; simp [raisedC]; omega
          have hkc : k < c.eds.length := by have := HM.out; omega
          have hw1 := wantsA_ok H0.out hin
          have hw2 := wantsA_ok HF0.out hinF
          rw [Int.toNat_natCast] at hw1 hw2
          rw [raised_want c (i : Int) b HV.out (valid_of HF0.out) k hkc] at hw2
          obtain ⟨sh, hsh⟩ : ∃ s, bOf (i : Int) b (c.eds.getD k default) - aOf (i : Int) b (c.eds.getD k default) = s := ⟨_, rfl⟩
          rw [hsh] at hw2
          have hwb := wantS_bd c.tol HV.out.t0 HV.out.t50 (c.eds.getD k default).pts (by rw [getD_lt _ _ hkc]; exact (HV.out.ed _ (List.getElem_mem hkc)).pt) (c.eds.getD k default).pts.length (Nat.le_refl _)
          rw [List.take_length] at hwb
          change -9050 ≤ (wantF c k).1 ∧ (wantF c k).1 ≤ 9050 ∧ -9050 ≤ (wantF c k).2 ∧ (wantF c k).2 ≤ 9050 at hwb
          obtain ⟨⟨lo, hi⟩, hwf⟩ : ∃ x, wantF c k = x := ⟨_, rfl⟩
          rw [hwf] at hw1 hw2 hwb
          simp only at hw1 hw2 hwb
          obtain ⟨l1, l2, l3, l4⟩ := hwb
          have HSH := Lib.hid hsh
          have HKC := Lib.hid hkc
          clear hsh hwf hin hinF hkc
          by_cases hlt : hi < lo
          · skip
            rw [if_pos hlt] at hw1
            rw [if_pos (by omega)] at hw2
            rw [hw1]
            have HW2 := Lib.hid hw2
            clear hw1 hw2 hlt
            simp only
            have r0 := cellOf HR.out 0 _ rfl
            have r1 := cellOf HR.out 1 _ rfl
            have r2 := cellOf HR.out 2 _ rfl
            have rl := lt_of_block HR.out
            have z0 := cellOf HZ.out 0 _ rfl
            have z1 := cellOf HZ.out 1 _ rfl
            have zl := lt_of_block HZ.out
            have o0 := cellOf HO.out 0 _ rfl
            have o1 := cellOf HO.out 1 _ rfl
            have o2 := cellOf HO.out 2 _ rfl
            have ol := lt_of_block HO.out
            go_wp2_with fail
            clear r0 r1 r2 rl z0 z1 zl o0 o1 o2 ol
            have hb := (Below.refl y5.heap.size y5).alloc (Nat.le_refl _) (Obj.cells #[.int .i64 0, .int .i64 0] 31)
            have HS1 := Lib.hid (heap_alloc_new y5 (Obj.cells #[.int .i64 0, .int .i64 0] 31))
            have HR' := Lib.hid ((hb.block _ (lt_of_block HR.out)).trans HR.out)
            have HZ' := Lib.hid ((hb.block _ (lt_of_block HZ.out)).trans HZ.out)
            have HC' := Lib.hid (HC.out.below hb)
            have HB' := Lib.hid (HB.out.trans (hb.mono HB.out.size))
            have HD' := Lib.hid (HD.out.below hb)
            have HA' := Lib.hid ((hb.block _ (lt_of_block HA.out)).trans HA.out)
            have HF' := Lib.hid (HF.out.below hb)
            have HO' := Lib.hid ((hb.block _ (lt_of_block HO.out)).trans HO.out)
            clear HR
            have HR := HR'
            clear HR'
            clear HZ
            have HZ := HZ'
            clear HZ'
            clear HC
            have HC := HC'
            clear HC'
            clear HB
            have HB := HB'
            clear HB'
            clear HD
            have HD := HD'
            clear HD'
            clear HA
            have HA := HA'
            clear HA'
            clear HF
            have HF := HF'
            clear HF'
            clear HO
            have HO := HO'
            clear HO'
            clear hb
            generalize y5.alloc (Obj.cells #[.int .i64 0, .int .i64 0] 31) = y6 at *
            obtain ⟨u22, hu22⟩ : ∃ u, y5.heap.size = u := ⟨_, rfl⟩
            rw [hu22] at HS1 ⊢
            clear hu22
            have hcall := wants_any (raisedC c (i : Int) b) _ _ (k : Int) y6 HF.out
            rw [HW2.out, HTF.out] at hcall
            simp only at hcall
            refine hcall.mono ?_
            clear hcall
            rintro e y7 ⟨rfl, hb⟩
            have HR' := Lib.hid ((hb.block _ (lt_of_block HR.out)).trans HR.out)
            have HZ' := Lib.hid ((hb.block _ (lt_of_block HZ.out)).trans HZ.out)
            have HC' := Lib.hid (HC.out.below hb)
            have HB' := Lib.hid (HB.out.trans (hb.mono HB.out.size))
            have HD' := Lib.hid (HD.out.below hb)
            have HA' := Lib.hid ((hb.block _ (lt_of_block HA.out)).trans HA.out)
            have HF' := Lib.hid (HF.out.below hb)
            have HO' := Lib.hid ((hb.block _ (lt_of_block HO.out)).trans HO.out)
            have HS1' := Lib.hid ((hb.block _ (lt_of_block HS1.out)).trans HS1.out)
            clear HR
            have HR := HR'
            clear HR'
            clear HZ
            have HZ := HZ'
            clear HZ'
            clear HC
            have HC := HC'
            clear HC'
            clear HB
            have HB := HB'
            clear HB'
            clear HD
            have HD := HD'
            clear HD'
            clear HA
            have HA := HA'
            clear HA'
            clear HF
            have HF := HF'
            clear HF'
            clear HO
            have HO := HO'
            clear HO'
            clear HS1
            have HS1 := HS1'
            clear HS1'
            clear hb
            have r0 := cellOf HR.out 0 _ rfl
            have r1 := cellOf HR.out 1 _ rfl
            have r2 := cellOf HR.out 2 _ rfl
            have rl := lt_of_block HR.out
            have z0 := cellOf HZ.out 0 _ rfl
            have z1 := cellOf HZ.out 1 _ rfl
            have zl := lt_of_block HZ.out
            go_wp2_with fail
            clear r0 r1 r2 rl z0 z1 zl
            have hb := (Below.refl y7.heap.size y7).alloc (Nat.le_refl _) (Obj.cells #[.int .i64 0, .int .i64 0] 31)
            have HS2 := Lib.hid (heap_alloc_new y7 (Obj.cells #[.int .i64 0, .int .i64 0] 31))
            have HR' := Lib.hid ((hb.block _ (lt_of_block HR.out)).trans HR.out)
            have HZ' := Lib.hid ((hb.block _ (lt_of_block HZ.out)).trans HZ.out)
            have HC' := Lib.hid (HC.out.below hb)
            have HB' := Lib.hid (HB.out.trans (hb.mono HB.out.size))
            have HD' := Lib.hid (HD.out.below hb)
            have HA' := Lib.hid ((hb.block _ (lt_of_block HA.out)).trans HA.out)
            have HF' := Lib.hid (HF.out.below hb)
            have HO' := Lib.hid ((hb.block _ (lt_of_block HO.out)).trans HO.out)
            have HS1' := Lib.hid ((hb.block _ (lt_of_block HS1.out)).trans HS1.out)
            clear HR
            have HR := HR'
            clear HR'
            clear HZ
            have HZ := HZ'
            clear HZ'
            clear HC
            have HC := HC'
            clear HC'
            clear HB
            have HB := HB'
            clear HB'
            clear HD
            have HD := HD'
            clear HD'
            clear HA
            have HA := HA'
            clear HA'
            clear HF
            have HF := HF'
            clear HF'
            clear HO
            have HO := HO'
            clear HO'
            clear HS1
            have HS1 := HS1'
            clear HS1'
            clear hb
            generalize y7.alloc (Obj.cells #[.int .i64 0, .int .i64 0] 31) = y8 at *
            refine (awake_any y8).mono ?_
            rintro e wz ⟨rfl, hb⟩
            have HBF := Lib.hid (HB.out.trans (hb.mono HB.out.size))
            clear hb
            go_wp2_with fail
            go_ret
            exact ⟨rfl, HBF.out⟩
          · skip
            rw [if_neg hlt] at hw1
            rw [if_neg (by omega)] at hw2
            rw [hw1]
            have HW2 := Lib.hid hw2
            clear hw1 hw2 hlt
            simp only
            have r0 := cellOf HR.out 0 _ rfl
            have r1 := cellOf HR.out 1 _ rfl
            have r2 := cellOf HR.out 2 _ rfl
            have rl := lt_of_block HR.out
            have z0 := cellOf HZ.out 0 _ rfl
            have z1 := cellOf HZ.out 1 _ rfl
            have zl := lt_of_block HZ.out
            have o0 := cellOf HO.out 0 _ rfl
            have o1 := cellOf HO.out 1 _ rfl
            have o2 := cellOf HO.out 2 _ rfl
            have ol := lt_of_block HO.out
            go_wp2_with fail
            clear r0 r1 r2 rl z0 z1 zl o0 o1 o2 ol
            have hb := (Below.refl y5.heap.size y5).alloc (Nat.le_refl _) (Obj.cells #[.int .i64 lo, .int .i64 hi] 31)
            have HS1 := Lib.hid (heap_alloc_new y5 (Obj.cells #[.int .i64 lo, .int .i64 hi] 31))
            have HR' := Lib.hid ((hb.block _ (lt_of_block HR.out)).trans HR.out)
            have HZ' := Lib.hid ((hb.block _ (lt_of_block HZ.out)).trans HZ.out)
            have HC' := Lib.hid (HC.out.below hb)
            have HB' := Lib.hid (HB.out.trans (hb.mono HB.out.size))
            have HD' := Lib.hid (HD.out.below hb)
            have HA' := Lib.hid ((hb.block _ (lt_of_block HA.out)).trans HA.out)
            have HF' := Lib.hid (HF.out.below hb)
            have HO' := Lib.hid ((hb.block _ (lt_of_block HO.out)).trans HO.out)
            clear HR
            have HR := HR'
            clear HR'
            clear HZ
            have HZ := HZ'
            clear HZ'
            clear HC
            have HC := HC'
            clear HC'
            clear HB
            have HB := HB'
            clear HB'
            clear HD
            have HD := HD'
            clear HD'
            clear HA
            have HA := HA'
            clear HA'
            clear HF
            have HF := HF'
            clear HF'
            clear HO
            have HO := HO'
            clear HO'
            clear hb
            generalize y5.alloc (Obj.cells #[.int .i64 lo, .int .i64 hi] 31) = y6 at *
            obtain ⟨u22, hu22⟩ : ∃ u, y5.heap.size = u := ⟨_, rfl⟩
            rw [hu22] at HS1 ⊢
            clear hu22
            have hcall := wants_any (raisedC c (i : Int) b) _ _ (k : Int) y6 HF.out
            rw [HW2.out, HTF.out] at hcall
            simp only at hcall
            refine hcall.mono ?_
            clear hcall
            rintro e y7 ⟨rfl, hb⟩
            have HR' := Lib.hid ((hb.block _ (lt_of_block HR.out)).trans HR.out)
            have HZ' := Lib.hid ((hb.block _ (lt_of_block HZ.out)).trans HZ.out)
            have HC' := Lib.hid (HC.out.below hb)
            have HB' := Lib.hid (HB.out.trans (hb.mono HB.out.size))
            have HD' := Lib.hid (HD.out.below hb)
            have HA' := Lib.hid ((hb.block _ (lt_of_block HA.out)).trans HA.out)
            have HF' := Lib.hid (HF.out.below hb)
            have HO' := Lib.hid ((hb.block _ (lt_of_block HO.out)).trans HO.out)
            have HS1' := Lib.hid ((hb.block _ (lt_of_block HS1.out)).trans HS1.out)
            clear HR
            have HR := HR'
            clear HR'
            clear HZ
            have HZ := HZ'
            clear HZ'
            clear HC
            have HC := HC'
            clear HC'
            clear HB
            have HB := HB'
            clear HB'
            clear HD
            have HD := HD'
            clear HD'
            clear HA
            have HA := HA'
            clear HA'
            clear HF
            have HF := HF'
            clear HF'
            clear HO
            have HO := HO'
            clear HO'
            clear HS1
            have HS1 := HS1'
            clear HS1'
            clear hb
            have HKC2 := HKC.out
            obtain ⟨eb, eo, pa, pc, heq, d0, d1, d2, hpp⟩ := HC.out.eds.get HKC2
            subst heq
            have hed := HV.out.ed _ (List.getElem_mem HKC2)
            have hsv : sh = if c.eds[k].a = (i : Int) then -b else if c.eds[k].b = (i : Int) then b else 0 := by
              have h := HSH.out
              rw [getD_lt _ _ HKC2] at h
              have hne := hed.ne
              unfold aOf bOf at h
              by_cases h1 : c.eds[k].a = (i : Int)
              · have h2 : ¬ c.eds[k].b = (i : Int) := fun h => hne (h1.trans h.symm)
                have h3 : ¬ (i : Int) < 0 := by omega
                simp only [h1, h2, h3, or_true, or_false, if_true, if_false] at h ⊢
                omega
              · have h3 : ¬ (i : Int) < 0 := by omega
                by_cases h2 : c.eds[k].b = (i : Int)
                · simp only [h1, h2, h3, or_true, or_false, if_true, if_false] at h ⊢
                  omega
                · simp only [h1, h2, h3, or_false, if_false] at h ⊢
                  omega
            have hne := hed.ne
            have HSV := Lib.hid hsv
            have HWK := Lib.hid HW2.out
            clear hed hsv d2 hpp
            generalize c.eds[k].a = da at *
            generalize c.eds[k].b = db at *
            clear HKC2
            have D0 := Lib.hid d0
            have D1 := Lib.hid d1
            clear d0 d1
            have hbA : Below y7.heap.size y7 (y7.alloc (Obj.cells #[.int .i64 (lo + sh), .int .i64 (hi + sh)] 31)) := (Below.refl _ _).alloc (Nat.le_refl _) _
            by_cases ha : da = (i : Int)
            · skip
              have ta : (da == (i : Int)) = true := by simp [ha]
              have tb : (db == (i : Int)) = false := by simp; omega
              have tb2 : decide (db = (i : Int)) = false := by simp; omega
              have hshv : sh = -b := by have := HSV.out; rw [if_pos ha] at this; exact this
              have HSHV := Lib.hid hshv
              clear hshv hne ha
              have s0 : IntKind.i64.wrap (-b) = -b := by rw [IntKind.wrap_i64] <;> omega
              obtain ⟨sv2, hsv2⟩ : ∃ s : Int, s = (-b) := ⟨_, rfl⟩
              have r0 := cellOf HR.out 0 _ rfl
              have r1 := cellOf HR.out 1 _ rfl
              have r2 := cellOf HR.out 2 _ rfl
              have rl := lt_of_block HR.out
              have z0 := cellOf HZ.out 0 _ rfl
              have z1 := cellOf HZ.out 1 _ rfl
              have zl := lt_of_block HZ.out
              have o0 := cellOf HO.out 0 _ rfl
              have o1 := cellOf HO.out 1 _ rfl
              have o2 := cellOf HO.out 2 _ rfl
              have ol := lt_of_block HO.out
              have s0 := cellOf HS1.out 0 _ rfl
              have s1 := cellOf HS1.out 1 _ rfl
              have sl := lt_of_block HS1.out
              have d0 := D0.out
              have d1 := D1.out
              have dl := World.block_lt_of_cell? y7 _ d0
              go_wp2_with fail
              clear r0 r1 r2 rl z0 z1 zl o0 o1 o2 ol s0 s1 sl
              clear d0 d1 dl
              have hshh := HSHV.out
              clear HSH HSV HSHV
              subst sh
              clear hsv2
              have hb := (Below.refl y7.heap.size y7).alloc (Nat.le_refl _) (Obj.cells #[.int .i64 (lo + (-b)), .int .i64 (hi + (-b))] 31)
              have HS2 := Lib.hid (heap_alloc_new y7 (Obj.cells #[.int .i64 (lo + (-b)), .int .i64 (hi + (-b))] 31))
              have HR' := Lib.hid ((hb.block _ (lt_of_block HR.out)).trans HR.out)
              have HZ' := Lib.hid ((hb.block _ (lt_of_block HZ.out)).trans HZ.out)
              have HC' := Lib.hid (HC.out.below hb)
              have HB' := Lib.hid (HB.out.trans (hb.mono HB.out.size))
              have HD' := Lib.hid (HD.out.below hb)
              have HA' := Lib.hid ((hb.block _ (lt_of_block HA.out)).trans HA.out)
              have HF' := Lib.hid (HF.out.below hb)
              have HO' := Lib.hid ((hb.block _ (lt_of_block HO.out)).trans HO.out)
              have HS1' := Lib.hid ((hb.block _ (lt_of_block HS1.out)).trans HS1.out)
              clear HR
              have HR := HR'
              clear HR'
              clear HZ
              have HZ := HZ'
              clear HZ'
              clear HC
              have HC := HC'
              clear HC'
              clear HB
              have HB := HB'
              clear HB'
              clear HD
              have HD := HD'
              clear HD'
              clear HA
              have HA := HA'
              clear HA'
              clear HF
              have HF := HF'
              clear HF'
              clear HO
              have HO := HO'
              clear HO'
              clear HS1
              have HS1 := HS1'
              clear HS1'
              clear hb
              generalize y7.alloc (Obj.cells #[.int .i64 (lo + (-b)), .int .i64 (hi + (-b))] 31) = y8 at *
              obtain ⟨u24, hu24⟩ : ∃ u, y7.heap.size = u := ⟨_, rfl⟩
              rw [hu24] at HS2 ⊢
              clear hu24
              have s1 : IntKind.i64.wrap (lo + (-b)) = lo + (-b) := by rw [IntKind.wrap_i64] <;> omega
              have s2 : IntKind.i64.wrap (hi + (-b)) = hi + (-b) := by rw [IntKind.wrap_i64] <;> omega
              have s0c := cellOf HS1.out 0 _ rfl
              have s1c := cellOf HS1.out 1 _ rfl
              have q0c := cellOf HS2.out 0 _ rfl
              have q1c := cellOf HS2.out 1 _ rfl
              have KA : ∀ W' : World, Below y8.heap.size y8 W' → (W'.cell? ⟨u22, 0, none⟩ = some (.int .i64 lo) ∧ W'.cell? ⟨u22, 1, none⟩ = some (.int .i64 hi) ∧ W'.cell? ⟨u24, 0, none⟩ = some (.int .i64 (lo + (-b))) ∧ W'.cell? ⟨u24, 1, none⟩ = some (.int .i64 (hi + (-b))) ∧ Below y8.heap.size y8 W') := fun W' hb => ⟨keepK s0c hb, keepK s1c hb, keepK q0c hb, keepK q1c hb, hb⟩
              refine wp_region_noPanic ?_
              refine wp_region_held_drew (S := (fun W' => W'.cell? ⟨u22, 0, none⟩ = some (.int .i64 lo) ∧ W'.cell? ⟨u22, 1, none⟩ = some (.int .i64 hi) ∧ W'.cell? ⟨u24, 0, none⟩ = some (.int .i64 (lo + (-b))) ∧ W'.cell? ⟨u24, 1, none⟩ = some (.int .i64 (hi + (-b))) ∧ Below y8.heap.size y8 W')) (by kernel_rfl) ?_ (fun hh0 => ?_)
              · exact KA _ (Below.refl _ _).drew
              refine wpAnyH_take (i := 0) (v := ?_) rfl (by as_aux_lemma => kernel_rfl) (by as_aux_lemma => kernel_rfl) (by as_aux_lemma => kernel_rfl) (fun _ _ _ h => h) (Or.inl ⟨by rfl, ?_⟩) (by assumption) ?_
              rotate_left
              · intro w hSw
                try dsimp only at hSw
                go_simp
                try with_reducible rfl
              try simp only [Act.put, List.getElem_toArray, List.getElem_cons_succ, List.getElem_cons_zero, List.setIfInBounds_toArray, List.set_cons_zero, List.set_cons_succ]
              refine wpAnyH_take (i := 1) (v := ?_) rfl (by as_aux_lemma => kernel_rfl) (by as_aux_lemma => kernel_rfl) (by as_aux_lemma => kernel_rfl) (fun _ _ _ h => h) (Or.inl ⟨by rfl, ?_⟩) (by assumption) ?_
              rotate_left
              · intro w hSw
                try dsimp only at hSw
                go_simp
                try with_reducible rfl
              try simp only [Act.put, List.getElem_toArray, List.getElem_cons_succ, List.getElem_cons_zero, List.setIfInBounds_toArray, List.set_cons_zero, List.set_cons_succ]
              refine wpAnyH_take (i := 2) (v := ?_) rfl (by as_aux_lemma => kernel_rfl) (by as_aux_lemma => kernel_rfl) (by as_aux_lemma => kernel_rfl) (fun _ _ _ h => h) (Or.inl ⟨by rfl, ?_⟩) (by assumption) ?_
              rotate_left
              · intro w hSw
                try dsimp only at hSw
                go_simp
                try with_reducible rfl
              try simp only [Act.put, List.getElem_toArray, List.getElem_cons_succ, List.getElem_cons_zero, List.setIfInBounds_toArray, List.set_cons_zero, List.set_cons_succ]
              refine wpAnyH_take (i := 3) (v := ?_) rfl (by as_aux_lemma => kernel_rfl) (by as_aux_lemma => kernel_rfl) (by as_aux_lemma => kernel_rfl) (fun _ _ _ h => h) (Or.inl ⟨by rfl, ?_⟩) (by assumption) ?_
              rotate_left
              · intro w hSw
                try dsimp only at hSw
                go_simp
                try with_reducible rfl
              try simp only [Act.put, List.getElem_toArray, List.getElem_cons_succ, List.getElem_cons_zero, List.setIfInBounds_toArray, List.set_cons_zero, List.set_cons_succ]
              refine wpAnyH_take (i := 4) (v := ?_) rfl (by as_aux_lemma => kernel_rfl) (by as_aux_lemma => kernel_rfl) (by as_aux_lemma => kernel_rfl) (fun _ _ _ h => h) (Or.inl ⟨by rfl, ?_⟩) (by assumption) ?_
              rotate_left
              · intro w hSw
                try dsimp only at hSw
                go_simp
                try with_reducible rfl
              try simp only [Act.put, List.getElem_toArray, List.getElem_cons_succ, List.getElem_cons_zero, List.setIfInBounds_toArray, List.set_cons_zero, List.set_cons_succ]
              refine wpAnyH_take (i := 5) (v := ?_) rfl (by as_aux_lemma => kernel_rfl) (by as_aux_lemma => kernel_rfl) (by as_aux_lemma => kernel_rfl) (fun _ _ _ h => h) (Or.inl ⟨by rfl, ?_⟩) (by assumption) ?_
              rotate_left
              · intro w hSw
                try dsimp only at hSw
                go_simp
                try with_reducible rfl
              try simp only [Act.put, List.getElem_toArray, List.getElem_cons_succ, List.getElem_cons_zero, List.setIfInBounds_toArray, List.set_cons_zero, List.set_cons_succ]
              refine wpAnyH_take (i := 6) (v := ?_) rfl (by as_aux_lemma => kernel_rfl) (by as_aux_lemma => kernel_rfl) (by as_aux_lemma => kernel_rfl) (fun _ _ _ h => h) (Or.inl ⟨by rfl, ?_⟩) (by assumption) ?_
              rotate_left
              · intro w hSw
                try dsimp only at hSw
                go_simp
                try with_reducible rfl
              try simp only [Act.put, List.getElem_toArray, List.getElem_cons_succ, List.getElem_cons_zero, List.setIfInBounds_toArray, List.set_cons_zero, List.set_cons_succ]
              refine wpAnyH_take (i := 7) (v := ?_) rfl (by as_aux_lemma => kernel_rfl) (by as_aux_lemma => kernel_rfl) (by as_aux_lemma => kernel_rfl) (fun _ _ _ h => h) (Or.inl ⟨by rfl, ?_⟩) (by assumption) ?_
              rotate_left
              · intro w hSw
                try dsimp only at hSw
                go_simp
                try with_reducible rfl
              try simp only [Act.put, List.getElem_toArray, List.getElem_cons_succ, List.getElem_cons_zero, List.setIfInBounds_toArray, List.set_cons_zero, List.set_cons_succ]
              refine wpAnyH_take (i := 8) (v := ?_) rfl (by as_aux_lemma => kernel_rfl) (by as_aux_lemma => kernel_rfl) (by as_aux_lemma => kernel_rfl) (fun _ _ _ h => h) (Or.inl ⟨by rfl, ?_⟩) (by assumption) ?_
              rotate_left
              · intro w hSw
                try dsimp only at hSw
                go_simp
                try with_reducible rfl
              try simp only [Act.put, List.getElem_toArray, List.getElem_cons_succ, List.getElem_cons_zero, List.setIfInBounds_toArray, List.set_cons_zero, List.set_cons_succ]
              refine wpAnyH_ready (rs := [9]) (by as_aux_lemma => kernel_rfl) (by simp) ?_
              refine AllReadyH.cons rfl (fun K hK => ?_) AllReadyH.nil
              go_simp
              refine (lspan_any _ _ _).mono ?_
              rintro e ws ⟨rfl, hbs⟩
              refine hK.out _ _ (KA _ (Below.trans hh0.2.2.2.2 (Below.mono hbs (hh0.2.2.2.2).size))) (fun hh1 => ?_)
              clear hK K
              try simp only [Act.put, List.getElem_toArray, List.getElem_cons_succ, List.getElem_cons_zero, List.setIfInBounds_toArray, List.set_cons_zero, List.set_cons_succ]
              refine wpAnyH_take (i := 10) (v := ?_) rfl (by as_aux_lemma => kernel_rfl) (by as_aux_lemma => kernel_rfl) (by as_aux_lemma => kernel_rfl) (fun _ _ _ h => h) (Or.inl ⟨by rfl, ?_⟩) (by assumption) ?_
              rotate_left
              · intro w hSw
                try dsimp only at hSw
                go_simp
                try with_reducible rfl
              try simp only [Act.put, List.getElem_toArray, List.getElem_cons_succ, List.getElem_cons_zero, List.setIfInBounds_toArray, List.set_cons_zero, List.set_cons_succ]
              refine wpAnyH_take (i := 11) (v := ?_) rfl (by as_aux_lemma => kernel_rfl) (by as_aux_lemma => kernel_rfl) (by as_aux_lemma => kernel_rfl) (fun _ _ _ h => h) (Or.inl ⟨by rfl, ?_⟩) (by assumption) ?_
              rotate_left
              · intro w hSw
                try dsimp only at hSw
                go_simp
                try with_reducible rfl
              try simp only [Act.put, List.getElem_toArray, List.getElem_cons_succ, List.getElem_cons_zero, List.setIfInBounds_toArray, List.set_cons_zero, List.set_cons_succ]
              refine wpAnyH_ready (rs := [12]) (by as_aux_lemma => kernel_rfl) (by simp) ?_
              refine AllReadyH.cons rfl (fun K hK => ?_) AllReadyH.nil
              go_simp
              refine (awake_any _).mono ?_
              rintro e wt ⟨rfl, hbt⟩
              refine hK.out _ _ (KA _ (Below.trans hh1.2.2.2.2 (Below.mono hbt (hh1.2.2.2.2).size))) (fun hh2 => ?_)
              clear hK K
              try simp only [Act.put, List.getElem_toArray, List.getElem_cons_succ, List.getElem_cons_zero, List.setIfInBounds_toArray, List.set_cons_zero, List.set_cons_succ]
              refine wpAnyH_take (i := 13) (v := ?_) rfl (by as_aux_lemma => kernel_rfl) (by as_aux_lemma => kernel_rfl) (by as_aux_lemma => kernel_rfl) (fun _ _ _ h => h) (Or.inl ⟨by rfl, ?_⟩) (by assumption) ?_
              rotate_left
              · intro w hSw
                try dsimp only at hSw
                go_simp
                try with_reducible rfl
              try simp only [Act.put, List.getElem_toArray, List.getElem_cons_succ, List.getElem_cons_zero, List.setIfInBounds_toArray, List.set_cons_zero, List.set_cons_succ]
              refine wpAnyH_ready (rs := [14]) (by as_aux_lemma => kernel_rfl) (by simp) ?_
              refine AllReadyH.cons rfl (fun K hK => ?_) AllReadyH.nil
              go_simp
              refine hK.out _ _ hh2 (fun hh3 => ?_)
              clear hK K
              try simp only [Act.put, List.getElem_toArray, List.getElem_cons_succ, List.getElem_cons_zero, List.setIfInBounds_toArray, List.set_cons_zero, List.set_cons_succ]
              refine wpAnyH_done (by as_aux_lemma => kernel_rfl) ?_ _
              refine NoPanic.normal ?_
              have HBZ := Lib.hid (hh3.2.2.2.2)
              have HBF := Lib.hid (HB.out.trans (HBZ.out.mono HB.out.size))
              go_wp2_with fail
              go_ret
              exact ⟨rfl, HBF.out⟩
            · skip
              by_cases hd : db = (i : Int)
              · skip
                have ta : (da == (i : Int)) = false := by simp [ha]
                have ta2 : decide (da = (i : Int)) = false := by simp [ha]
                have tb : (db == (i : Int)) = true := by simp [hd]
                have hshv : sh = b := by have := HSV.out; rw [if_neg ha, if_pos hd] at this; exact this
                have HSHV := Lib.hid hshv
                clear hshv hne ha hd
                have s0 : IntKind.i64.wrap (-b) = -b := by rw [IntKind.wrap_i64] <;> omega
                obtain ⟨sv2, hsv2⟩ : ∃ s : Int, s = b := ⟨_, rfl⟩
                have r0 := cellOf HR.out 0 _ rfl
                have r1 := cellOf HR.out 1 _ rfl
                have r2 := cellOf HR.out 2 _ rfl
                have rl := lt_of_block HR.out
                have z0 := cellOf HZ.out 0 _ rfl
                have z1 := cellOf HZ.out 1 _ rfl
                have zl := lt_of_block HZ.out
                have o0 := cellOf HO.out 0 _ rfl
                have o1 := cellOf HO.out 1 _ rfl
                have o2 := cellOf HO.out 2 _ rfl
                have ol := lt_of_block HO.out
                have s0 := cellOf HS1.out 0 _ rfl
                have s1 := cellOf HS1.out 1 _ rfl
                have sl := lt_of_block HS1.out
                have d0 := D0.out
                have d1 := D1.out
                have dl := World.block_lt_of_cell? y7 _ d0
                go_wp2_with fail
                clear r0 r1 r2 rl z0 z1 zl o0 o1 o2 ol s0 s1 sl
                clear d0 d1 dl
                have hshh := HSHV.out
                clear HSH HSV HSHV
                subst sh
                clear hsv2
                have hb := (Below.refl y7.heap.size y7).alloc (Nat.le_refl _) (Obj.cells #[.int .i64 (lo + b), .int .i64 (hi + b)] 31)
                have HS2 := Lib.hid (heap_alloc_new y7 (Obj.cells #[.int .i64 (lo + b), .int .i64 (hi + b)] 31))
                have HR' := Lib.hid ((hb.block _ (lt_of_block HR.out)).trans HR.out)
                have HZ' := Lib.hid ((hb.block _ (lt_of_block HZ.out)).trans HZ.out)
                have HC' := Lib.hid (HC.out.below hb)
                have HB' := Lib.hid (HB.out.trans (hb.mono HB.out.size))
                have HD' := Lib.hid (HD.out.below hb)
                have HA' := Lib.hid ((hb.block _ (lt_of_block HA.out)).trans HA.out)
                have HF' := Lib.hid (HF.out.below hb)
                have HO' := Lib.hid ((hb.block _ (lt_of_block HO.out)).trans HO.out)
                have HS1' := Lib.hid ((hb.block _ (lt_of_block HS1.out)).trans HS1.out)
                clear HR
                have HR := HR'
                clear HR'
                clear HZ
                have HZ := HZ'
                clear HZ'
                clear HC
                have HC := HC'
                clear HC'
                clear HB
                have HB := HB'
                clear HB'
                clear HD
                have HD := HD'
                clear HD'
                clear HA
                have HA := HA'
                clear HA'
                clear HF
                have HF := HF'
                clear HF'
                clear HO
                have HO := HO'
                clear HO'
                clear HS1
                have HS1 := HS1'
                clear HS1'
                clear hb
                generalize y7.alloc (Obj.cells #[.int .i64 (lo + b), .int .i64 (hi + b)] 31) = y8 at *
                obtain ⟨u24, hu24⟩ : ∃ u, y7.heap.size = u := ⟨_, rfl⟩
                rw [hu24] at HS2 ⊢
                clear hu24
                have s1 : IntKind.i64.wrap (lo + b) = lo + b := by rw [IntKind.wrap_i64] <;> omega
                have s2 : IntKind.i64.wrap (hi + b) = hi + b := by rw [IntKind.wrap_i64] <;> omega
                have s0c := cellOf HS1.out 0 _ rfl
                have s1c := cellOf HS1.out 1 _ rfl
                have q0c := cellOf HS2.out 0 _ rfl
                have q1c := cellOf HS2.out 1 _ rfl
                have KA : ∀ W' : World, Below y8.heap.size y8 W' → (W'.cell? ⟨u22, 0, none⟩ = some (.int .i64 lo) ∧ W'.cell? ⟨u22, 1, none⟩ = some (.int .i64 hi) ∧ W'.cell? ⟨u24, 0, none⟩ = some (.int .i64 (lo + b)) ∧ W'.cell? ⟨u24, 1, none⟩ = some (.int .i64 (hi + b)) ∧ Below y8.heap.size y8 W') := fun W' hb => ⟨keepK s0c hb, keepK s1c hb, keepK q0c hb, keepK q1c hb, hb⟩
                refine wp_region_noPanic ?_
                refine wp_region_held_drew (S := (fun W' => W'.cell? ⟨u22, 0, none⟩ = some (.int .i64 lo) ∧ W'.cell? ⟨u22, 1, none⟩ = some (.int .i64 hi) ∧ W'.cell? ⟨u24, 0, none⟩ = some (.int .i64 (lo + b)) ∧ W'.cell? ⟨u24, 1, none⟩ = some (.int .i64 (hi + b)) ∧ Below y8.heap.size y8 W')) (by kernel_rfl) ?_ (fun hh0 => ?_)
                · exact KA _ (Below.refl _ _).drew
                refine wpAnyH_take (i := 0) (v := ?_) rfl (by as_aux_lemma => kernel_rfl) (by as_aux_lemma => kernel_rfl) (by as_aux_lemma => kernel_rfl) (fun _ _ _ h => h) (Or.inl ⟨by rfl, ?_⟩) (by assumption) ?_
                rotate_left
                · intro w hSw
                  try dsimp only at hSw
                  go_simp
                  try with_reducible rfl
                try simp only [Act.put, List.getElem_toArray, List.getElem_cons_succ, List.getElem_cons_zero, List.setIfInBounds_toArray, List.set_cons_zero, List.set_cons_succ]
                refine wpAnyH_take (i := 1) (v := ?_) rfl (by as_aux_lemma => kernel_rfl) (by as_aux_lemma => kernel_rfl) (by as_aux_lemma => kernel_rfl) (fun _ _ _ h => h) (Or.inl ⟨by rfl, ?_⟩) (by assumption) ?_
                rotate_left
                · intro w hSw
                  try dsimp only at hSw
                  go_simp
                  try with_reducible rfl
                try simp only [Act.put, List.getElem_toArray, List.getElem_cons_succ, List.getElem_cons_zero, List.setIfInBounds_toArray, List.set_cons_zero, List.set_cons_succ]
                refine wpAnyH_take (i := 2) (v := ?_) rfl (by as_aux_lemma => kernel_rfl) (by as_aux_lemma => kernel_rfl) (by as_aux_lemma => kernel_rfl) (fun _ _ _ h => h) (Or.inl ⟨by rfl, ?_⟩) (by assumption) ?_
                rotate_left
                · intro w hSw
                  try dsimp only at hSw
                  go_simp
                  try with_reducible rfl
                try simp only [Act.put, List.getElem_toArray, List.getElem_cons_succ, List.getElem_cons_zero, List.setIfInBounds_toArray, List.set_cons_zero, List.set_cons_succ]
                refine wpAnyH_take (i := 3) (v := ?_) rfl (by as_aux_lemma => kernel_rfl) (by as_aux_lemma => kernel_rfl) (by as_aux_lemma => kernel_rfl) (fun _ _ _ h => h) (Or.inl ⟨by rfl, ?_⟩) (by assumption) ?_
                rotate_left
                · intro w hSw
                  try dsimp only at hSw
                  go_simp
                  try with_reducible rfl
                try simp only [Act.put, List.getElem_toArray, List.getElem_cons_succ, List.getElem_cons_zero, List.setIfInBounds_toArray, List.set_cons_zero, List.set_cons_succ]
                refine wpAnyH_take (i := 4) (v := ?_) rfl (by as_aux_lemma => kernel_rfl) (by as_aux_lemma => kernel_rfl) (by as_aux_lemma => kernel_rfl) (fun _ _ _ h => h) (Or.inl ⟨by rfl, ?_⟩) (by assumption) ?_
                rotate_left
                · intro w hSw
                  try dsimp only at hSw
                  go_simp
                  try with_reducible rfl
                try simp only [Act.put, List.getElem_toArray, List.getElem_cons_succ, List.getElem_cons_zero, List.setIfInBounds_toArray, List.set_cons_zero, List.set_cons_succ]
                refine wpAnyH_take (i := 5) (v := ?_) rfl (by as_aux_lemma => kernel_rfl) (by as_aux_lemma => kernel_rfl) (by as_aux_lemma => kernel_rfl) (fun _ _ _ h => h) (Or.inl ⟨by rfl, ?_⟩) (by assumption) ?_
                rotate_left
                · intro w hSw
                  try dsimp only at hSw
                  go_simp
                  try with_reducible rfl
                try simp only [Act.put, List.getElem_toArray, List.getElem_cons_succ, List.getElem_cons_zero, List.setIfInBounds_toArray, List.set_cons_zero, List.set_cons_succ]
                refine wpAnyH_take (i := 6) (v := ?_) rfl (by as_aux_lemma => kernel_rfl) (by as_aux_lemma => kernel_rfl) (by as_aux_lemma => kernel_rfl) (fun _ _ _ h => h) (Or.inl ⟨by rfl, ?_⟩) (by assumption) ?_
                rotate_left
                · intro w hSw
                  try dsimp only at hSw
                  go_simp
                  try with_reducible rfl
                try simp only [Act.put, List.getElem_toArray, List.getElem_cons_succ, List.getElem_cons_zero, List.setIfInBounds_toArray, List.set_cons_zero, List.set_cons_succ]
                refine wpAnyH_take (i := 7) (v := ?_) rfl (by as_aux_lemma => kernel_rfl) (by as_aux_lemma => kernel_rfl) (by as_aux_lemma => kernel_rfl) (fun _ _ _ h => h) (Or.inl ⟨by rfl, ?_⟩) (by assumption) ?_
                rotate_left
                · intro w hSw
                  try dsimp only at hSw
                  go_simp
                  try with_reducible rfl
                try simp only [Act.put, List.getElem_toArray, List.getElem_cons_succ, List.getElem_cons_zero, List.setIfInBounds_toArray, List.set_cons_zero, List.set_cons_succ]
                refine wpAnyH_take (i := 8) (v := ?_) rfl (by as_aux_lemma => kernel_rfl) (by as_aux_lemma => kernel_rfl) (by as_aux_lemma => kernel_rfl) (fun _ _ _ h => h) (Or.inl ⟨by rfl, ?_⟩) (by assumption) ?_
                rotate_left
                · intro w hSw
                  try dsimp only at hSw
                  go_simp
                  try with_reducible rfl
                try simp only [Act.put, List.getElem_toArray, List.getElem_cons_succ, List.getElem_cons_zero, List.setIfInBounds_toArray, List.set_cons_zero, List.set_cons_succ]
                refine wpAnyH_ready (rs := [9]) (by as_aux_lemma => kernel_rfl) (by simp) ?_
                refine AllReadyH.cons rfl (fun K hK => ?_) AllReadyH.nil
                go_simp
                refine (lspan_any _ _ _).mono ?_
                rintro e ws ⟨rfl, hbs⟩
                refine hK.out _ _ (KA _ (Below.trans hh0.2.2.2.2 (Below.mono hbs (hh0.2.2.2.2).size))) (fun hh1 => ?_)
                clear hK K
                try simp only [Act.put, List.getElem_toArray, List.getElem_cons_succ, List.getElem_cons_zero, List.setIfInBounds_toArray, List.set_cons_zero, List.set_cons_succ]
                refine wpAnyH_take (i := 10) (v := ?_) rfl (by as_aux_lemma => kernel_rfl) (by as_aux_lemma => kernel_rfl) (by as_aux_lemma => kernel_rfl) (fun _ _ _ h => h) (Or.inl ⟨by rfl, ?_⟩) (by assumption) ?_
                rotate_left
                · intro w hSw
                  try dsimp only at hSw
                  go_simp
                  try with_reducible rfl
                try simp only [Act.put, List.getElem_toArray, List.getElem_cons_succ, List.getElem_cons_zero, List.setIfInBounds_toArray, List.set_cons_zero, List.set_cons_succ]
                refine wpAnyH_take (i := 11) (v := ?_) rfl (by as_aux_lemma => kernel_rfl) (by as_aux_lemma => kernel_rfl) (by as_aux_lemma => kernel_rfl) (fun _ _ _ h => h) (Or.inl ⟨by rfl, ?_⟩) (by assumption) ?_
                rotate_left
                · intro w hSw
                  try dsimp only at hSw
                  go_simp
                  try with_reducible rfl
                try simp only [Act.put, List.getElem_toArray, List.getElem_cons_succ, List.getElem_cons_zero, List.setIfInBounds_toArray, List.set_cons_zero, List.set_cons_succ]
                refine wpAnyH_ready (rs := [12]) (by as_aux_lemma => kernel_rfl) (by simp) ?_
                refine AllReadyH.cons rfl (fun K hK => ?_) AllReadyH.nil
                go_simp
                refine (awake_any _).mono ?_
                rintro e wt ⟨rfl, hbt⟩
                refine hK.out _ _ (KA _ (Below.trans hh1.2.2.2.2 (Below.mono hbt (hh1.2.2.2.2).size))) (fun hh2 => ?_)
                clear hK K
                try simp only [Act.put, List.getElem_toArray, List.getElem_cons_succ, List.getElem_cons_zero, List.setIfInBounds_toArray, List.set_cons_zero, List.set_cons_succ]
                refine wpAnyH_take (i := 13) (v := ?_) rfl (by as_aux_lemma => kernel_rfl) (by as_aux_lemma => kernel_rfl) (by as_aux_lemma => kernel_rfl) (fun _ _ _ h => h) (Or.inl ⟨by rfl, ?_⟩) (by assumption) ?_
                rotate_left
                · intro w hSw
                  try dsimp only at hSw
                  go_simp
                  try with_reducible rfl
                try simp only [Act.put, List.getElem_toArray, List.getElem_cons_succ, List.getElem_cons_zero, List.setIfInBounds_toArray, List.set_cons_zero, List.set_cons_succ]
                refine wpAnyH_ready (rs := [14]) (by as_aux_lemma => kernel_rfl) (by simp) ?_
                refine AllReadyH.cons rfl (fun K hK => ?_) AllReadyH.nil
                go_simp
                refine hK.out _ _ hh2 (fun hh3 => ?_)
                clear hK K
                try simp only [Act.put, List.getElem_toArray, List.getElem_cons_succ, List.getElem_cons_zero, List.setIfInBounds_toArray, List.set_cons_zero, List.set_cons_succ]
                refine wpAnyH_done (by as_aux_lemma => kernel_rfl) ?_ _
                refine NoPanic.normal ?_
                have HBZ := Lib.hid (hh3.2.2.2.2)
                have HBF := Lib.hid (HB.out.trans (HBZ.out.mono HB.out.size))
                go_wp2_with fail
                go_ret
                exact ⟨rfl, HBF.out⟩
              · skip
                have ta : (da == (i : Int)) = false := by simp [ha]
                have ta2 : decide (da = (i : Int)) = false := by simp [ha]
                have tb : (db == (i : Int)) = false := by simp [hd]
                have tb2 : decide (db = (i : Int)) = false := by simp [hd]
                have hshv : sh = 0 := by have := HSV.out; rw [if_neg ha, if_neg hd] at this; exact this
                have HSHV := Lib.hid hshv
                clear hshv hne ha hd
                have s0 : IntKind.i64.wrap (-b) = -b := by rw [IntKind.wrap_i64] <;> omega
                obtain ⟨sv2, hsv2⟩ : ∃ s : Int, s = 0 := ⟨_, rfl⟩
                have r0 := cellOf HR.out 0 _ rfl
                have r1 := cellOf HR.out 1 _ rfl
                have r2 := cellOf HR.out 2 _ rfl
                have rl := lt_of_block HR.out
                have z0 := cellOf HZ.out 0 _ rfl
                have z1 := cellOf HZ.out 1 _ rfl
                have zl := lt_of_block HZ.out
                have o0 := cellOf HO.out 0 _ rfl
                have o1 := cellOf HO.out 1 _ rfl
                have o2 := cellOf HO.out 2 _ rfl
                have ol := lt_of_block HO.out
                have s0 := cellOf HS1.out 0 _ rfl
                have s1 := cellOf HS1.out 1 _ rfl
                have sl := lt_of_block HS1.out
                have d0 := D0.out
                have d1 := D1.out
                have dl := World.block_lt_of_cell? y7 _ d0
                go_wp2_with fail
                clear r0 r1 r2 rl z0 z1 zl o0 o1 o2 ol s0 s1 sl
                clear d0 d1 dl
                have hshh := HSHV.out
                clear HSH HSV HSHV
                subst sh
                clear hsv2
                have hb := (Below.refl y7.heap.size y7).alloc (Nat.le_refl _) (Obj.cells #[.int .i64 (lo + 0), .int .i64 (hi + 0)] 31)
                have HS2 := Lib.hid (heap_alloc_new y7 (Obj.cells #[.int .i64 (lo + 0), .int .i64 (hi + 0)] 31))
                have HR' := Lib.hid ((hb.block _ (lt_of_block HR.out)).trans HR.out)
                have HZ' := Lib.hid ((hb.block _ (lt_of_block HZ.out)).trans HZ.out)
                have HC' := Lib.hid (HC.out.below hb)
                have HB' := Lib.hid (HB.out.trans (hb.mono HB.out.size))
                have HD' := Lib.hid (HD.out.below hb)
                have HA' := Lib.hid ((hb.block _ (lt_of_block HA.out)).trans HA.out)
                have HF' := Lib.hid (HF.out.below hb)
                have HO' := Lib.hid ((hb.block _ (lt_of_block HO.out)).trans HO.out)
                have HS1' := Lib.hid ((hb.block _ (lt_of_block HS1.out)).trans HS1.out)
                clear HR
                have HR := HR'
                clear HR'
                clear HZ
                have HZ := HZ'
                clear HZ'
                clear HC
                have HC := HC'
                clear HC'
                clear HB
                have HB := HB'
                clear HB'
                clear HD
                have HD := HD'
                clear HD'
                clear HA
                have HA := HA'
                clear HA'
                clear HF
                have HF := HF'
                clear HF'
                clear HO
                have HO := HO'
                clear HO'
                clear HS1
                have HS1 := HS1'
                clear HS1'
                clear hb
                generalize y7.alloc (Obj.cells #[.int .i64 (lo + 0), .int .i64 (hi + 0)] 31) = y8 at *
                obtain ⟨u24, hu24⟩ : ∃ u, y7.heap.size = u := ⟨_, rfl⟩
                rw [hu24] at HS2 ⊢
                clear hu24
                have s1 : IntKind.i64.wrap (lo + 0) = lo + 0 := by rw [IntKind.wrap_i64] <;> omega
                have s2 : IntKind.i64.wrap (hi + 0) = hi + 0 := by rw [IntKind.wrap_i64] <;> omega
                simp only [Int.add_zero] at HS2 s1 s2 ⊢
                have s0c := cellOf HS1.out 0 _ rfl
                have s1c := cellOf HS1.out 1 _ rfl
                have q0c := cellOf HS2.out 0 _ rfl
                have q1c := cellOf HS2.out 1 _ rfl
                have KA : ∀ W' : World, Below y8.heap.size y8 W' → (W'.cell? ⟨u22, 0, none⟩ = some (.int .i64 lo) ∧ W'.cell? ⟨u22, 1, none⟩ = some (.int .i64 hi) ∧ W'.cell? ⟨u24, 0, none⟩ = some (.int .i64 (lo)) ∧ W'.cell? ⟨u24, 1, none⟩ = some (.int .i64 (hi)) ∧ Below y8.heap.size y8 W') := fun W' hb => ⟨keepK s0c hb, keepK s1c hb, keepK q0c hb, keepK q1c hb, hb⟩
                refine wp_region_noPanic ?_
                refine wp_region_held_drew (S := (fun W' => W'.cell? ⟨u22, 0, none⟩ = some (.int .i64 lo) ∧ W'.cell? ⟨u22, 1, none⟩ = some (.int .i64 hi) ∧ W'.cell? ⟨u24, 0, none⟩ = some (.int .i64 (lo)) ∧ W'.cell? ⟨u24, 1, none⟩ = some (.int .i64 (hi)) ∧ Below y8.heap.size y8 W')) (by kernel_rfl) ?_ (fun hh0 => ?_)
                · exact KA _ (Below.refl _ _).drew
                refine wpAnyH_take (i := 0) (v := ?_) rfl (by as_aux_lemma => kernel_rfl) (by as_aux_lemma => kernel_rfl) (by as_aux_lemma => kernel_rfl) (fun _ _ _ h => h) (Or.inl ⟨by rfl, ?_⟩) (by assumption) ?_
                rotate_left
                · intro w hSw
                  try dsimp only at hSw
                  go_simp
                  try with_reducible rfl
                try simp only [Act.put, List.getElem_toArray, List.getElem_cons_succ, List.getElem_cons_zero, List.setIfInBounds_toArray, List.set_cons_zero, List.set_cons_succ]
                refine wpAnyH_take (i := 1) (v := ?_) rfl (by as_aux_lemma => kernel_rfl) (by as_aux_lemma => kernel_rfl) (by as_aux_lemma => kernel_rfl) (fun _ _ _ h => h) (Or.inl ⟨by rfl, ?_⟩) (by assumption) ?_
                rotate_left
                · intro w hSw
                  try dsimp only at hSw
                  go_simp
                  try with_reducible rfl
                try simp only [Act.put, List.getElem_toArray, List.getElem_cons_succ, List.getElem_cons_zero, List.setIfInBounds_toArray, List.set_cons_zero, List.set_cons_succ]
                refine wpAnyH_take (i := 2) (v := ?_) rfl (by as_aux_lemma => kernel_rfl) (by as_aux_lemma => kernel_rfl) (by as_aux_lemma => kernel_rfl) (fun _ _ _ h => h) (Or.inl ⟨by rfl, ?_⟩) (by assumption) ?_
                rotate_left
                · intro w hSw
                  try dsimp only at hSw
                  go_simp
                  try with_reducible rfl
                try simp only [Act.put, List.getElem_toArray, List.getElem_cons_succ, List.getElem_cons_zero, List.setIfInBounds_toArray, List.set_cons_zero, List.set_cons_succ]
                refine wpAnyH_take (i := 3) (v := ?_) rfl (by as_aux_lemma => kernel_rfl) (by as_aux_lemma => kernel_rfl) (by as_aux_lemma => kernel_rfl) (fun _ _ _ h => h) (Or.inl ⟨by rfl, ?_⟩) (by assumption) ?_
                rotate_left
                · intro w hSw
                  try dsimp only at hSw
                  go_simp
                  try with_reducible rfl
                try simp only [Act.put, List.getElem_toArray, List.getElem_cons_succ, List.getElem_cons_zero, List.setIfInBounds_toArray, List.set_cons_zero, List.set_cons_succ]
                refine wpAnyH_take (i := 4) (v := ?_) rfl (by as_aux_lemma => kernel_rfl) (by as_aux_lemma => kernel_rfl) (by as_aux_lemma => kernel_rfl) (fun _ _ _ h => h) (Or.inl ⟨by rfl, ?_⟩) (by assumption) ?_
                rotate_left
                · intro w hSw
                  try dsimp only at hSw
                  go_simp
                  try with_reducible rfl
                try simp only [Act.put, List.getElem_toArray, List.getElem_cons_succ, List.getElem_cons_zero, List.setIfInBounds_toArray, List.set_cons_zero, List.set_cons_succ]
                refine wpAnyH_take (i := 5) (v := ?_) rfl (by as_aux_lemma => kernel_rfl) (by as_aux_lemma => kernel_rfl) (by as_aux_lemma => kernel_rfl) (fun _ _ _ h => h) (Or.inl ⟨by rfl, ?_⟩) (by assumption) ?_
                rotate_left
                · intro w hSw
                  try dsimp only at hSw
                  go_simp
                  try with_reducible rfl
                try simp only [Act.put, List.getElem_toArray, List.getElem_cons_succ, List.getElem_cons_zero, List.setIfInBounds_toArray, List.set_cons_zero, List.set_cons_succ]
                refine wpAnyH_take (i := 6) (v := ?_) rfl (by as_aux_lemma => kernel_rfl) (by as_aux_lemma => kernel_rfl) (by as_aux_lemma => kernel_rfl) (fun _ _ _ h => h) (Or.inl ⟨by rfl, ?_⟩) (by assumption) ?_
                rotate_left
                · intro w hSw
                  try dsimp only at hSw
                  go_simp
                  try with_reducible rfl
                try simp only [Act.put, List.getElem_toArray, List.getElem_cons_succ, List.getElem_cons_zero, List.setIfInBounds_toArray, List.set_cons_zero, List.set_cons_succ]
                refine wpAnyH_take (i := 7) (v := ?_) rfl (by as_aux_lemma => kernel_rfl) (by as_aux_lemma => kernel_rfl) (by as_aux_lemma => kernel_rfl) (fun _ _ _ h => h) (Or.inl ⟨by rfl, ?_⟩) (by assumption) ?_
                rotate_left
                · intro w hSw
                  try dsimp only at hSw
                  go_simp
                  try with_reducible rfl
                try simp only [Act.put, List.getElem_toArray, List.getElem_cons_succ, List.getElem_cons_zero, List.setIfInBounds_toArray, List.set_cons_zero, List.set_cons_succ]
                refine wpAnyH_take (i := 8) (v := ?_) rfl (by as_aux_lemma => kernel_rfl) (by as_aux_lemma => kernel_rfl) (by as_aux_lemma => kernel_rfl) (fun _ _ _ h => h) (Or.inl ⟨by rfl, ?_⟩) (by assumption) ?_
                rotate_left
                · intro w hSw
                  try dsimp only at hSw
                  go_simp
                  try with_reducible rfl
                try simp only [Act.put, List.getElem_toArray, List.getElem_cons_succ, List.getElem_cons_zero, List.setIfInBounds_toArray, List.set_cons_zero, List.set_cons_succ]
                refine wpAnyH_ready (rs := [9]) (by as_aux_lemma => kernel_rfl) (by simp) ?_
                refine AllReadyH.cons rfl (fun K hK => ?_) AllReadyH.nil
                go_simp
                refine (lspan_any _ _ _).mono ?_
                rintro e ws ⟨rfl, hbs⟩
                refine hK.out _ _ (KA _ (Below.trans hh0.2.2.2.2 (Below.mono hbs (hh0.2.2.2.2).size))) (fun hh1 => ?_)
                clear hK K
                try simp only [Act.put, List.getElem_toArray, List.getElem_cons_succ, List.getElem_cons_zero, List.setIfInBounds_toArray, List.set_cons_zero, List.set_cons_succ]
                refine wpAnyH_take (i := 10) (v := ?_) rfl (by as_aux_lemma => kernel_rfl) (by as_aux_lemma => kernel_rfl) (by as_aux_lemma => kernel_rfl) (fun _ _ _ h => h) (Or.inl ⟨by rfl, ?_⟩) (by assumption) ?_
                rotate_left
                · intro w hSw
                  try dsimp only at hSw
                  go_simp
                  try with_reducible rfl
                try simp only [Act.put, List.getElem_toArray, List.getElem_cons_succ, List.getElem_cons_zero, List.setIfInBounds_toArray, List.set_cons_zero, List.set_cons_succ]
                refine wpAnyH_take (i := 11) (v := ?_) rfl (by as_aux_lemma => kernel_rfl) (by as_aux_lemma => kernel_rfl) (by as_aux_lemma => kernel_rfl) (fun _ _ _ h => h) (Or.inl ⟨by rfl, ?_⟩) (by assumption) ?_
                rotate_left
                · intro w hSw
                  try dsimp only at hSw
                  go_simp
                  try with_reducible rfl
                try simp only [Act.put, List.getElem_toArray, List.getElem_cons_succ, List.getElem_cons_zero, List.setIfInBounds_toArray, List.set_cons_zero, List.set_cons_succ]
                refine wpAnyH_ready (rs := [12]) (by as_aux_lemma => kernel_rfl) (by simp) ?_
                refine AllReadyH.cons rfl (fun K hK => ?_) AllReadyH.nil
                go_simp
                refine (awake_any _).mono ?_
                rintro e wt ⟨rfl, hbt⟩
                refine hK.out _ _ (KA _ (Below.trans hh1.2.2.2.2 (Below.mono hbt (hh1.2.2.2.2).size))) (fun hh2 => ?_)
                clear hK K
                try simp only [Act.put, List.getElem_toArray, List.getElem_cons_succ, List.getElem_cons_zero, List.setIfInBounds_toArray, List.set_cons_zero, List.set_cons_succ]
                refine wpAnyH_take (i := 13) (v := ?_) rfl (by as_aux_lemma => kernel_rfl) (by as_aux_lemma => kernel_rfl) (by as_aux_lemma => kernel_rfl) (fun _ _ _ h => h) (Or.inl ⟨by rfl, ?_⟩) (by assumption) ?_
                rotate_left
                · intro w hSw
                  try dsimp only at hSw
                  go_simp
                  try with_reducible rfl
                try simp only [Act.put, List.getElem_toArray, List.getElem_cons_succ, List.getElem_cons_zero, List.setIfInBounds_toArray, List.set_cons_zero, List.set_cons_succ]
                refine wpAnyH_ready (rs := [14]) (by as_aux_lemma => kernel_rfl) (by simp) ?_
                refine AllReadyH.cons rfl (fun K hK => ?_) AllReadyH.nil
                go_simp
                refine hK.out _ _ hh2 (fun hh3 => ?_)
                clear hK K
                try simp only [Act.put, List.getElem_toArray, List.getElem_cons_succ, List.getElem_cons_zero, List.setIfInBounds_toArray, List.set_cons_zero, List.set_cons_succ]
                refine wpAnyH_done (by as_aux_lemma => kernel_rfl) ?_ _
                refine NoPanic.normal ?_
                have HBZ := Lib.hid (hh3.2.2.2.2)
                have HBF := Lib.hid (HB.out.trans (HBZ.out.mono HB.out.size))
                go_wp2_with fail
                go_ret
                exact ⟨rfl, HBF.out⟩
      · skip
        rw [show decide (errC (raisedC c (i : Int) b) = 0) = false by simp [hf]]
        clear hf
        have r0 := cellOf HR.out 0 _ rfl
        have r1 := cellOf HR.out 1 _ rfl
        have r2 := cellOf HR.out 2 _ rfl
        have rl := lt_of_block HR.out
        have z0 := cellOf HZ.out 0 _ rfl
        have z1 := cellOf HZ.out 1 _ rfl
        have zl := lt_of_block HZ.out
        go_wp2_with fail
        clear r0 r1 r2 rl z0 z1 zl
        refine (awake_any y4).mono ?_
        rintro e wz ⟨rfl, hb⟩
        have HBF := Lib.hid (HB.out.trans (hb.mono HB.out.size))
        clear hb
        go_wp2_with fail
        go_ret
        exact ⟨rfl, HBF.out⟩
  · skip
    rw [show decide (errC c = 0) = false by simp [h0]]
    clear h0
    have r0 := cellOf HR.out 0 _ rfl
    have r1 := cellOf HR.out 1 _ rfl
    have r2 := cellOf HR.out 2 _ rfl
    have rl := lt_of_block HR.out
    have z0 := cellOf HZ.out 0 _ rfl
    have z1 := cellOf HZ.out 1 _ rfl
    have zl := lt_of_block HZ.out
    go_wp2_with fail
    clear r0 r1 r2 rl z0 z1 zl
    refine (awake_any w1).mono ?_
    rintro e wz ⟨rfl, hb⟩
    have HBF := Lib.hid (HB.out.trans (hb.mono HB.out.size))
    clear hb
    go_wp2_with fail
    go_ret
    exact ⟨rfl, HBF.out⟩
end Go.Proofs.Ytkcfcjijmgbciaa
namespace Go.Proofs.Ytkcfcjijmgbciaa
namespace ClaimEdgeRaised
open Go.ChangeShapes Go.WideShapes Go.ChangeAt Go.RowKit

theorem own : ownKnob Try.prog.godebug = none := by kernel_rfl
theorem laidOutP : laidOutB Try.prog = true := by kernel_rfl

set_option maxRecDepth 100000 in
theorem contract (H : Type) (enc : TypeId × Value → H) (W : World) (base : Nat) (args : Array Value) (ds gs : List (DataW H)) (before : List MemPlace)
    (hval : ∀ (j : Nat) t v, Try.f14.params[j]? = some t → args[j]? = some v → Value.okWide Try.prog W .any base t v)
    (hW : DataW.Whole enc Try.prog Try.f14.params.toList Rows.edgeRaisedSpec.vars false W args.toList ds gs before)
    (hsz : (DataW.weightsEach Try.prog (Try.f14.params.toList ++ Rows.edgeRaisedSpec.plain.varTypes Try.prog) (ds ++ gs)).all (· ≤ reachBytes) = true) :
    Calls Try.prog 14 args W fun e W' => ∃ v, e = .returned v ∧ Rows.edgeRaisedSpec.post enc Try.prog Try.f14 false true false false W args v W' := by
  have hW' := hW
  obtain ⟨p, q, hA0, hV, rfl, hfz, hnd⟩ := hW
  have hA : DataW.TrodAll enc Try.prog W 0 (fun _ => true) true Try.f14.params.toList args.toList ds p := hA0
  rw [Try.params14] at hA hval hsz
  obtain ⟨v0, vs0, d0, ds0, p0, q0, hargs, rfl, rfl, h0, r0⟩ := trodAll_cons hA
  obtain ⟨v1, vs1, d1, ds1, p1, q1, rfl, rfl, rfl, h1, r1⟩ := trodAll_cons r0
  obtain ⟨v2, vs2, d2, ds2, p2, q2, rfl, rfl, rfl, h2, r2⟩ := trodAll_cons r1
  obtain ⟨rfl, rfl, rfl⟩ := trodAll_nil r2
  obtain rfl : args = #[v0, v1, v2] := by cases args; simp_all
  obtain ⟨rfl, rfl⟩ := trodVars_none hV
  have w0 : ∀ x ∈ d0.weights Try.prog 25, x ≤ reachBytes := fun x hx => of_decide_eq_true (List.all_eq_true.1 hsz _ (DataW.weights_mem_each (j := 0) (t := 25) (d := d0) rfl rfl x hx))
  obtain ⟨c0, sv0, ev0, rfl, hC0⟩ := open_case (hval 0 25 v0 rfl rfl) h0 w0
  obtain ⟨n1, rfl, _, _, k1⟩ := open_int Try.underlying78 (hval 1 78 v1 rfl rfl) h1
  have b1 : 0 ≤ n1 ∧ n1 ≤ 65535 := by simpa [Lit.wf, IntKind.min, IntKind.max, IntKind.signed, IntKind.bits] using k1
  obtain ⟨x2, y2, rfl, bx2, by2⟩ := open_u8x2 (hval 2 72 v2 rfl rfl) h2
  clear hA0
  refine (lraised_any c0 sv0 ev0 n1 x2 y2 W b1 bx2 by2 hC0).mono fun e W' ⟨he, hb⟩ => ?_
  subst he
  exact ⟨_, rfl, post_law laidOutP (by rw [Try.params14]; intro t ht; simp at ht; rcases ht with rfl | rfl | rfl <;> exact ⟨by kernel_rfl, of_decide_eq_true (by kernel_rfl)⟩) rfl rfl Try.underlying4 rfl hW' hb⟩

set_option maxRecDepth 100000 in
theorem lifted (os : Os) (started : os.Started) (H : Type) (enc : TypeId × Value → H) :
    ReturnsInHanded {} Try.checked os 14 .any (Rows.edgeRaisedSpec.pre6 enc Try.prog Try.f14 Rows.edgeRaisedRow.domain false) (Rows.edgeRaisedSpec.post enc Try.prog Try.f14 false true false false) := by
  refine returnsInHanded_of_change_sized (C := Try.checked) own started (by kernel_rfl) Try.func14
    (ChangeSpec.witness6 (enc := enc) (C := Try.checked) false ⟨#[], #[.agg #[.int .i64 0, .slice none 0 0, .slice none 0 0], .int .u16 0, .agg #[.int .u8 0, .int .u8 0]], []⟩ 8 (by kernel_rfl) (by kernel_rfl) (by kernel_rfl) (by kernel_rfl)) ?_
  intro W base args ds gs before hval hW _ hsz _
  exact contract H enc W base args ds gs before hval hW hsz

theorem over : Rows.EdgeRaisedSaid :=
  OpenClaim.holds_of_wide 14 Try.f14 rfl rfl rfl rfl rfl rfl rfl ⟨rfl, rfl, rfl, rfl, rfl⟩ rfl rfl rfl rfl rfl (by kernel_rfl) Try.func14 (by kernel_rfl)
    (of_decide_eq_true (by kernel_rfl)) (by unfold Func.isWrapper; first | (rw [if_pos (by decide +kernel)]; kernel_rfl) | (rw [if_neg (by decide +kernel)]; exact ⟨rfl, rfl⟩))
    (fun os started H enc _ => lifted os started H enc)
end ClaimEdgeRaised

theorem edgeRaised_holds : Rows.EdgeRaisedSaid := ClaimEdgeRaised.over
end Go.Proofs.Ytkcfcjijmgbciaa
