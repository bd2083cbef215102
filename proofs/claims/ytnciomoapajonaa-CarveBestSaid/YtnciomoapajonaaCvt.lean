/- Package carve: Why. -/
import Derived.Test.YtnciomoapajonaaCvq
import Derived.Test.YtnciomoapajonaaCvr
set_option linter.unusedSimpArgs false
set_option linter.unusedVariables false
namespace Go.Proofs.Ytnciomoapajonaa
open Go Go.RowKit Cv

/-- Why a surface is not good at a point. -/
def whyAt (st : Int) (l : List Pt) (s : List Int) : Nat → Int
  | 0 => whyV0 (l.getD 0 default) (s.getD 0 0)
  | k + 1 => whyV st (l.getD (k + 1) default) (s.getD (k + 1) 0) (s.getD k 0)
theorem why_any (st : Int) (pv sv : Value) (l : List Pt) (s : List Int) (k : Nat) (w : World) (hP : PtsAt w pv l) (hS : IntsAt w sv s) (ha : k < l.length) (hb : k < s.length) (hsr : ∀ x, x ∈ s → 0 ≤ x ∧ x ≤ 9000) (hst : 0 ≤ st) (hst2 : st ≤ 200) :
    Calls Try.prog 61 #[.agg #[.int .i64 st, pv], sv, .int .i64 k] w fun e w' => e = .returned (.int .i64 (whyAt st l s k)) ∧ Below w.heap.size w w' := by
  cases k with
  | zero =>
    have h := why_zero st pv sv l s w hP hS ha hb hsr
    have e : whyAt st l s 0 = whyV0 l[0] s[0] := by simp [whyAt, List.getD_eq_getElem?_getD, ha, hb]
    rw [e]
    exact h
  | succ k =>
    have h := why_succ st pv sv l s k w hP hS ha hb hsr hst hst2
    have e : whyAt st l s (k + 1) = whyV st l[k + 1] s[k + 1] s[k] := by simp [whyAt, List.getD_eq_getElem?_getD, ha, hb, show k < s.length by omega]
    rw [e]
    exact h
/-- The first point from one on at which something is not 0, and what. -/
def firstW (f : Nat → Int) : Nat → Nat → Int × Int
  | _, 0 => (0, 0)
  | k, g + 1 => if f k = 0 then firstW f (k + 1) g else (k, f k)
/-- Where a surface is not good, why, and its error. -/
def whyR (r : Row) (s : List Int) : Int × Int × Int := if surfR r s = 0 then ((firstW (whyAt r.st r.pts s) 0 s.length).1, (firstW (whyAt r.st r.pts s) 0 s.length).2, 0) else (0, 0, surfR r s)
set_option maxRecDepth 100000 in
set_option maxHeartbeats 2000000 in
theorem Why_any (r : Row) (pv sv : Value) (s : List Int) (w : World) (hP : PtsAt w pv r.pts) (hS : IntsAt w sv s) :
    Calls Try.prog 26 #[.agg #[.int .i64 r.st, pv], sv] w fun e w' => e = .returned (.tuple #[.int .i64 (whyR r s).1, .int .i64 (whyR r s).2.1, .int .i64 (whyR r s).2.2]) ∧ Below w.heap.size w w' := by
  obtain ⟨st, pts⟩ := r
  simp only at hP ⊢
  obtain ⟨lp, pa, pc, rfl, _, _⟩ := id hP
  obtain ⟨ls, sa, sc, rfl, _, _⟩ := id hS
  have hB : Below w.heap.size w (w.alloc (Obj.cells #[.int .i64 st, .slice pa pts.length pc] 24)) := by go_grown
  have HB := Lib.hid hB
  have HP := Lib.hid (hP.below hB)
  have HS := Lib.hid (hS.below hB)
  have HA := Lib.hid (heap_alloc_new w (Obj.cells #[.int .i64 st, .slice pa pts.length pc] 24))
  have a0 := cellOf HA.out 0 _ rfl
  have a1 := cellOf HA.out 1 _ rfl
  clear hP hS hB
  go_enter Try.func26, Try.ntmps26
  go_wp2_with fail
  generalize w.alloc (Obj.cells #[.int .i64 st, .slice pa pts.length pc] 24) = w0 at *
  by_cases hz : surfR ⟨st, pts⟩ s = 0
  · refine (lookWith_ok ⟨st, pts⟩ (.slice pa pts.length pc) (.slice sa s.length sc) s w0 HP.out HS.out hz).mono ?_
    rintro e w1 ⟨rfl, hb⟩
    obtain ⟨f, HFF⟩ : ∃ f, Hid (whyAt st pts s = f) := ⟨_, rfl⟩
    have HF : Hid (whyR ⟨st, pts⟩ s = ((firstW f 0 s.length).1, (firstW f 0 s.length).2, 0)) := by show _ = _; unfold whyR; rw [if_pos hz]; rw [← HFF.out]
    obtain ⟨hv, hl, hs9⟩ := surfR_ok hz
    simp only at hl
    have hn10 : pts.length ≤ 10 := hv.n10
    have HST : Hid (0 ≤ st ∧ st ≤ 200) := ⟨hv.s0, hv.s200⟩
    have HS9 := Lib.hid hs9
    have hB2 : Below w1.heap.size w1 (w1.alloc (Obj.cells #[.int .i64 st, .slice pa pts.length pc] 76)) := by go_grown
    have HB2 := Lib.hid ((HB.out.trans (hb.mono HB.out.size)).trans (hB2.mono (Nat.le_trans HB.out.size hb.size)))
    have HL2 := Lib.hid (heap_alloc_new w1 (Obj.cells #[.int .i64 st, .slice pa pts.length pc] 76))
    have HP2 := Lib.hid ((HP.out.below hb).below hB2)
    have HS2 := Lib.hid ((HS.out.below hb).below hB2)
    have HLE := Lib.hid hl
    clear hb HB HP HS HA a0 a1 hB2 hz hv hs9 hl
    go_wp2_with fail
    generalize w1.alloc (Obj.cells #[.int .i64 st, .slice pa pts.length pc] 76) = w2 at *
    generalize w1.heap.size = b6 at *
    go_loopg [21] s.length (fun g i wr => ∃ k : Nat, g + k = s.length ∧ i = .int .i64 k ∧ Hid (firstW f 0 s.length = firstW f k g) ∧ Hid (Below w2.heap.size w2 wr))
    case atStart => exact ⟨0, rfl, rfl, rfl, Below.refl _ _⟩
    case round =>
      obtain ⟨k, hk, rfl, HI, HR⟩ := hrel
      by_cases hlt : k < s.length
      · have hkp : k < pts.length := by have := HLE.out; omega
        have l0 := cellOf ((HR.out.block _ (lt_of_block HL2.out)).trans HL2.out) 0 _ rfl
        have l1 := cellOf ((HR.out.block _ (lt_of_block HL2.out)).trans HL2.out) 1 _ rfl
        have HC0 := why_any st (.slice pa pts.length pc) (.slice sa s.length sc) pts s k wr (HP2.out.below HR.out) (HS2.out.below HR.out) hkp hlt HS9.out HST.out.1 HST.out.2
        rw [HFF.out] at HC0
        have HC := Lib.hid HC0
        obtain ⟨g', rfl⟩ : ∃ g', gk = g' + 1 := ⟨gk - 1, by omega⟩
        have HI2 : Hid (firstW f 0 s.length = if f k = 0 then firstW f (k + 1) g' else (k, f k)) := HI.out
        obtain ⟨y, HY⟩ : ∃ y, Hid (f k = y) := ⟨_, rfl⟩
        rw [HY.out] at HC HI2
        have kI : (k : Int) < (s.length : Int) := by omega
        have k10 : k ≤ 10 := by omega
        clear HC0
        go_wp2_with fail
        refine HC.out.mono ?_
        rintro e w4 ⟨rfl, hb⟩
        have HR4 := Lib.hid (HR.out.trans (hb.mono HR.out.size))
        clear hb HC l0 l1
        by_cases hy : y = 0
        · have HI3 : Hid (firstW f 0 s.length = firstW f (k + 1) g') := by show _ = _; rw [HI2.out, if_pos hy]
          have ty : (y != 0) = false := by simp [hy]
          clear HI2 hy HI
          go_wp2
          go_roundg g'
          case measure => omega
          case rel => exact ⟨k + 1, by omega, by go_num, HI3, HR4.out⟩
        · have HI3 : Hid (firstW f 0 s.length = ((k : Int), y)) := by show _ = _; rw [HI2.out, if_neg hy]
          have ty : (y != 0) = true := by simp [hy]
          clear HI2 hy HI
          go_wp2
          go_ret3
          exact ⟨by rw [HF.out, HI3.out]; rfl, HB2.out.trans (HR4.out.mono HB2.out.size)⟩
      · obtain rfl : k = s.length := by omega
        obtain rfl : gk = 0 := by omega
        clear hlt hk
        go_wp2
        go_ret3
        exact ⟨by rw [HF.out, HI.out]; rfl, HB2.out.trans (HR.out.mono HB2.out.size)⟩
  · refine (lookWith_no ⟨st, pts⟩ (.slice pa pts.length pc) (.slice sa s.length sc) s w0 HP.out HS.out hz).mono ?_
    rintro e w1 ⟨rfl, hb⟩
    have HF : Hid (whyR ⟨st, pts⟩ s = (0, 0, surfR ⟨st, pts⟩ s)) := by show _ = _; unfold whyR; rw [if_neg hz]
    have HB1 := Lib.hid (HB.out.trans (hb.mono HB.out.size))
    obtain ⟨z, HE⟩ : ∃ z, Hid (surfR ⟨st, pts⟩ s = z) := ⟨_, rfl⟩
    rw [HE.out] at hz HF ⊢
    have tz : (z != 0) = true := by simp [hz]
    clear hb HP HS HA a0 a1 hz HB
    go_wp2_with fail
    go_ret3
    exact ⟨by rw [HF.out]; rfl, HB1.out.trans (Below.mono (B := w1.heap.size) (by go_grown) HB1.out.size)⟩
end Go.Proofs.Ytnciomoapajonaa
