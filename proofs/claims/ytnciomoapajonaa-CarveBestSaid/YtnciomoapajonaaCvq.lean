/- Package carve: Plaster. -/
import Derived.Test.YtnciomoapajonaaCvo
set_option linter.unusedSimpArgs false
set_option linter.unusedVariables false
namespace Go.Proofs.Ytnciomoapajonaa
open Go Go.RowKit Cv

/-- The plaster of the first points. -/
def fillsN (l : List Pt) (s : List Int) : Nat → Int
  | 0 => 0
  | k + 1 => fillsN l s k + max 0 (s.getD k 0 - (l.getD k default).bd)
theorem fillsN_bd (l : List Pt) (s : List Int) (hl : ∀ p, p ∈ l → PtOk p) (hs : ∀ x, x ∈ s → 0 ≤ x ∧ x ≤ 9000) : ∀ k, k ≤ l.length → k ≤ s.length → 0 ≤ fillsN l s k ∧ fillsN l s k ≤ 9000 * k := by
  intro k
  induction k with
  | zero => intro _ _; simp [fillsN]
  | succ k ih =>
    intro h1 h2
    obtain ⟨a, b⟩ := ih (by omega) (by omega)
    have e1 : s.getD k 0 = s[k] := by simp [List.getD_eq_getElem?_getD, show k < s.length by omega]
    have e2 : l.getD k default = l[k] := by simp [List.getD_eq_getElem?_getD, show k < l.length by omega]
    have c := hs s[k] (List.getElem_mem _)
    have d := hl l[k] (List.getElem_mem _)
    have d1 := d.b0
    unfold fillsN
    rw [e1, e2]
    push_cast
    omega
theorem fillsN_succ (l : List Pt) (s : List Int) (k : Nat) (h1 : k < l.length) (h2 : k < s.length) : fillsN l s (k + 1) = fillsN l s k + max 0 (s[k] - l[k].bd) := by
  have e1 : s.getD k 0 = s[k] := by simp [List.getD_eq_getElem?_getD, h2]
  have e2 : l.getD k default = l[k] := by simp [List.getD_eq_getElem?_getD, h1]
  rw [fillsN, e1, e2]
theorem lookWith_ok (r : Row) (pv sv : Value) (s : List Int) (w : World) (hP : PtsAt w pv r.pts) (hS : IntsAt w sv s) (hz : surfR r s = 0) : Calls Try.prog 60 #[.agg #[.int .i64 r.st, pv], sv] w fun e w' => e = .returned (.tuple #[.agg #[.int .i64 r.st, pv], .int .i64 0]) ∧ Below w.heap.size w w' :=
  (lookWith_any r pv sv s w hP hS).mono fun e w' ⟨h1, h2⟩ => ⟨by rw [h1, hz, if_pos rfl], h2⟩
theorem lookWith_no (r : Row) (pv sv : Value) (s : List Int) (w : World) (hP : PtsAt w pv r.pts) (hS : IntsAt w sv s) (hz : surfR r s ≠ 0) : Calls Try.prog 60 #[.agg #[.int .i64 r.st, pv], sv] w fun e w' => e = .returned (.tuple #[.agg #[.int .i64 0, .slice none 0 0], .int .i64 (surfR r s)]) ∧ Below w.heap.size w w' :=
  (lookWith_any r pv sv s w hP hS).mono fun e w' ⟨h1, h2⟩ => ⟨by rw [h1, if_neg hz], h2⟩
/-- The plaster of a surface, and its error. -/
def plasterR (r : Row) (s : List Int) : Int × Int := if surfR r s = 0 then (fillsN r.pts s s.length, 0) else (0, surfR r s)
set_option maxRecDepth 100000 in
set_option maxHeartbeats 2000000 in
theorem plaster_any (r : Row) (pv sv : Value) (s : List Int) (w : World) (hP : PtsAt w pv r.pts) (hS : IntsAt w sv s) :
    Calls Try.prog 28 #[.agg #[.int .i64 r.st, pv], sv] w fun e w' => e = .returned (.tuple #[.int .i64 (plasterR r s).1, .int .i64 (plasterR r s).2]) ∧ Below w.heap.size w w' := by
  obtain ⟨st, pts⟩ := r
  simp only at hP ⊢
  obtain ⟨lp, pa, pc, rfl, _, _⟩ := id hP
  obtain ⟨ls, sa, sc, rfl, _, _⟩ := id hS
  have hB : Below w.heap.size w (w.alloc (Obj.cells #[.int .i64 st, .slice pa pts.length pc] 24)) := by go_grown
  have HB := Lib.hid hB
  have HP := Lib.hid (hP.below hB)
  have HS := Lib.hid (hS.below hB)
  have HA := Lib.hid (heap_alloc_new w (Obj.cells #[.int .i64 st, .slice pa pts.length pc] 24))
  have a0 := cellOf HA.out 0 _ rfl
  have a1 := cellOf HA.out 1 _ rfl
  clear hP hS hB
  go_enter Try.func28, Try.ntmps28
  go_wp2_with fail
  generalize w.alloc (Obj.cells #[.int .i64 st, .slice pa pts.length pc] 24) = w0 at *
  by_cases hz : surfR ⟨st, pts⟩ s = 0
  · refine (lookWith_ok ⟨st, pts⟩ (.slice pa pts.length pc) (.slice sa s.length sc) s w0 HP.out HS.out hz).mono ?_
    rintro e w1 ⟨rfl, hb⟩
    have HF : Hid (plasterR ⟨st, pts⟩ s = (fillsN pts s s.length, 0)) := by show _ = _; unfold plasterR; rw [if_pos hz]
    obtain ⟨hv, hl, hs9⟩ := surfR_ok hz
    simp only at hl
    have hn10 : pts.length ≤ 10 := hv.n10
    have HOK := Lib.hid hv.ok
    have HS9 := Lib.hid hs9
    have HBD := Lib.hid (fillsN_bd pts s hv.ok hs9)
    have hB2 : Below w1.heap.size w1 (w1.alloc (Obj.cells #[.int .i64 st, .slice pa pts.length pc] 76)) := by go_grown
    have HB2 := Lib.hid ((HB.out.trans (hb.mono HB.out.size)).trans (hB2.mono (Nat.le_trans HB.out.size hb.size)))
    have HL2 := Lib.hid (heap_alloc_new w1 (Obj.cells #[.int .i64 st, .slice pa pts.length pc] 76))
    have HP2 := Lib.hid ((HP.out.below hb).below hB2)
    have HS2 := Lib.hid ((HS.out.below hb).below hB2)
    have HLE := Lib.hid hl
    clear hb HB HP HS HA a0 a1 hB2 hz hv hs9 hl
    go_wp2_with fail
    generalize w1.alloc (Obj.cells #[.int .i64 st, .slice pa pts.length pc] 76) = w2 at *
    generalize w1.heap.size = b6 at *
    go_loopg [22, 8] s.length (fun g i v wr => ∃ k : Nat, g + k = s.length ∧ i = .int .i64 k ∧ v = .int .i64 (fillsN pts s k) ∧ Hid (Below w2.heap.size w2 wr))
    case atStart => exact ⟨0, rfl, rfl, rfl, Below.refl _ _⟩
    case round =>
      obtain ⟨k, hk, rfl, rfl, HR⟩ := hrel
      by_cases hlt : k < s.length
      · have hkp : k < pts.length := by have := HLE.out; omega
        obtain ⟨bs, os, rfl, c0⟩ := (HS2.out.below HR.out).get hlt
        have l0 := cellOf ((HR.out.block _ (lt_of_block HL2.out)).trans HL2.out) 0 _ rfl
        have l1 := cellOf ((HR.out.block _ (lt_of_block HL2.out)).trans HL2.out) 1 _ rfl
        have hx := HS9.out s[k] (List.getElem_mem _)
        have HC := Lib.hid (filled_any st (.slice pa pts.length pc) pts k s[k] wr (HP2.out.below HR.out) hkp hx.1 hx.2 HOK.out)
        have hpb := (HOK.out pts[k] (List.getElem_mem _)).b0
        have HN := Lib.hid (fillsN_succ pts s k hkp hlt)
        have hbd := HBD.out k (by omega) (by omega)
        have hk10 : k ≤ 10 := by omega
        generalize fillsN pts s k = F at *
        generalize s[k] = x at *
        generalize pts[k].bd = d at *
        have m0 : 0 ≤ max 0 (x - d) := by omega
        have m9 : max 0 (x - d) ≤ 9000 := by omega
        generalize max 0 (x - d) = m at *
        have f0 : 0 ≤ F := hbd.1
        have f9 : F ≤ 90000 := by omega
        have kI : (k : Int) < (s.length : Int) := by omega
        clear hbd hx
        go_wp2_with fail
        refine HC.out.mono ?_
        rintro e w4 ⟨rfl, hb⟩
        have HR4 := Lib.hid (HR.out.trans (hb.mono HR.out.size))
        clear hb HC l0 l1 c0 hpb
        go_wp2
        go_roundg (gk - 1)
        case measure => omega
        case rel => exact ⟨k + 1, by omega, by go_num, by rw [HN.out], HR4.out⟩
      · obtain rfl : k = s.length := by omega
        clear hlt hk
        go_wp2
        go_ret2
        exact ⟨by rw [HF.out]; rfl, HB2.out.trans (HR.out.mono HB2.out.size)⟩
  · refine (lookWith_no ⟨st, pts⟩ (.slice pa pts.length pc) (.slice sa s.length sc) s w0 HP.out HS.out hz).mono ?_
    rintro e w1 ⟨rfl, hb⟩
    have HF : Hid (plasterR ⟨st, pts⟩ s = (0, surfR ⟨st, pts⟩ s)) := by show _ = _; unfold plasterR; rw [if_neg hz]
    have HB1 := Lib.hid (HB.out.trans (hb.mono HB.out.size))
    obtain ⟨z, HE⟩ : ∃ z, Hid (surfR ⟨st, pts⟩ s = z) := ⟨_, rfl⟩
    rw [HE.out] at hz HF ⊢
    have tz : (z != 0) = true := by simp [hz]
    clear hb HP HS HA a0 a1 hz HB
    go_wp2_with fail
    go_ret2
    exact ⟨by rw [HF.out]; rfl, HB1.out.trans (Below.mono (B := w1.heap.size) (by go_grown) HB1.out.size)⟩
end Go.Proofs.Ytnciomoapajonaa
