/- Package carve: Passes. -/
import Derived.Test.YtnciomoapajonaaCwg
import Derived.Test.YtnciomoapajonaaCvz
set_option linter.unusedSimpArgs false
set_option linter.unusedVariables false
namespace Go.Proofs.Ytnciomoapajonaa
open Go Go.RowKit Go.Shelf Cv

theorem intsAt_own {w : World} {base : Nat} {v : Value} {l : List Int} (h : w.ownsRow base 3 1 v l.length (l.map (Value.int .i64))) (hl : l.length ≤ 4611686018427387904) : IntsAt w v l := by
  rcases h.2 with ⟨rfl, h0⟩ | ⟨g, cap, cur, rfl, hb, hg, hnc, hcm, hcs, htake⟩
  · have : l = [] := List.length_eq_zero_iff.1 h0
    subst this
    exact ⟨by simp, none, 0, rfl, by simp, fun hne => absurd rfl hne⟩
  · refine ⟨hl, _, cap, rfl, hnc, fun _ => ⟨g, 0, rfl, fun k hk => ?_⟩⟩
    rw [Nat.zero_add]
    have h1 := h.cellAt k (by omega)
    rw [h1]
    simp [hk]
theorem deepN_bd (l : List Pt) (s : List Int) (hl : ∀ p, p ∈ l → PtOk p) (hs : ∀ x, x ∈ s → 0 ≤ x ∧ x ≤ 9000) (n : Nat) (h1 : n ≤ l.length) (h2 : n ≤ s.length) : ∀ x, x ∈ deepN l s n → 0 ≤ x ∧ x ≤ 9000 := by
  intro x hx
  obtain ⟨k, hk, rfl⟩ := List.mem_map.1 hx
  have hk' := List.mem_range.1 hk
  have e1 : l.getD k default = l[k] := by simp [List.getD_eq_getElem?_getD, show k < l.length by omega]
  have e2 : s.getD k 0 = s[k] := by simp [List.getD_eq_getElem?_getD, show k < s.length by omega]
  have a := hl l[k] (List.getElem_mem _)
  have b := hs s[k] (List.getElem_mem _)
  have := a.b0
  have := a.b9
  rw [e1, e2]
  omega
theorem foldl_max : ∀ (l : List Int) (x : Int), (l.foldl max x = x ∨ l.foldl max x ∈ l) ∧ x ≤ l.foldl max x ∧ ∀ y, y ∈ l → y ≤ l.foldl max x := by
  intro l
  induction l with
  | nil => intro x; exact ⟨.inl rfl, Int.le_refl _, fun y hy => by simp at hy⟩
  | cons z l ih =>
    intro x
    obtain ⟨h1, h2, h3⟩ := ih (max x z)
    rw [List.foldl_cons]
    refine ⟨?_, by omega, fun y hy => ?_⟩
    · rcases h1 with h1 | h1
      · rw [h1]
        rcases Int.le_total x z with q | q
        · right; rw [Int.max_eq_right q]; simp
        · left; exact Int.max_eq_left q
      · exact .inr (List.mem_cons_of_mem _ h1)
    · rcases List.mem_cons.1 hy with e | hy
      · omega
      · exact h3 y hy
theorem maxOf_mem (d : List Int) (h1 : 0 < d.length) : Lib.maxOf d ∈ d ∧ ∀ y, y ∈ d → y ≤ Lib.maxOf d := by
  cases d with
  | nil => simp at h1
  | cons x l =>
    obtain ⟨a, b, c⟩ := foldl_max (x :: l) x
    unfold Lib.maxOf
    simp only [List.headD_cons]
    refine ⟨?_, c⟩
    rcases a with a | a
    · rw [a]; simp
    · exact a
theorem maxOf_bd (d : List Int) (h : ∀ x, x ∈ d → 0 ≤ x ∧ x ≤ 9000) (h1 : 0 < d.length) : 0 ≤ Lib.maxOf d ∧ Lib.maxOf d ≤ 9000 := h _ (maxOf_mem d h1).1
/-- What Passes answers. -/
def passesR (r : Row) (s : List Int) : List (Int × Int) × Int :=
  if surfR r s = 0 then (if 60 < manyL 0 (deepN r.pts s s.length) then ([], 9) else (passL (deepN r.pts s s.length), 0)) else ([], surfR r s)
set_option maxRecDepth 100000 in
set_option maxHeartbeats 2000000 in
theorem passes_any (r : Row) (pv sv : Value) (s : List Int) (w : World) (hP : PtsAt w pv r.pts) (hS : IntsAt w sv s) :
    Calls Try.prog 30 #[.agg #[.int .i64 r.st, pv], sv] w fun e w' => ∃ v, e = .returned (.tuple #[v, .int .i64 (passesR r s).2]) ∧ w'.ownsRow w.heap.size 90 2 v (passesR r s).1.length (passC (passesR r s).1) ∧ Below w.heap.size w w' := by
  obtain ⟨st, pts⟩ := r
  simp only at hP ⊢
  obtain ⟨lp, pa, pc, rfl, _, _⟩ := id hP
  obtain ⟨ls, sa, sc, rfl, _, _⟩ := id hS
  have hB : Below w.heap.size w (w.alloc (Obj.cells #[.int .i64 st, .slice pa pts.length pc] 24)) := by go_grown
  have HB := Lib.hid hB
  have HP := Lib.hid (hP.below hB)
  have HS := Lib.hid (hS.below hB)
  have HA := Lib.hid (heap_alloc_new w (Obj.cells #[.int .i64 st, .slice pa pts.length pc] 24))
  have a0 := cellOf HA.out 0 _ rfl
  have a1 := cellOf HA.out 1 _ rfl
  clear hP hS hB
  go_enter Try.func30, Try.ntmps30
  go_wp2_with fail
  generalize w.alloc (Obj.cells #[.int .i64 st, .slice pa pts.length pc] 24) = w0 at *
  by_cases hz : surfR ⟨st, pts⟩ s = 0
  · refine (lookWith_ok ⟨st, pts⟩ (.slice pa pts.length pc) (.slice sa s.length sc) s w0 HP.out HS.out hz).mono ?_
    rintro e w1 ⟨rfl, hb⟩
    obtain ⟨hV, hl, hs9⟩ := surfR_ok hz
    have HPA : Hid (passesR ⟨st, pts⟩ s = if 60 < manyL 0 (deepN pts s s.length) then ([], 9) else (passL (deepN pts s s.length), 0)) := by show _ = _; unfold passesR; rw [if_pos hz]
    have HB1 := Lib.hid (HB.out.trans (hb.mono HB.out.size))
    have HP1 := Lib.hid (HP.out.below hb)
    have HS1 := Lib.hid (HS.out.below hb)
    have HV := Lib.hid hV
    have HL := Lib.hid hl
    have HS9 := Lib.hid hs9
    clear hz hb hV hl hs9 a0 a1 HA HB HP HS
    go_wp2_with fail
    have HP2 := Lib.hid (HP1.out.below ((Below.refl _ w1).alloc (Nat.le_refl _) (Obj.cells #[.int .i64 st, .slice pa pts.length pc] 76)))
    have HS2 := Lib.hid (HS1.out.below ((Below.refl _ w1).alloc (Nat.le_refl _) (Obj.cells #[.int .i64 st, .slice pa pts.length pc] 76)))
    have HB2 := Lib.hid (HB1.out.alloc HB1.out.size (Obj.cells #[.int .i64 st, .slice pa pts.length pc] 76))
    have HL2 := Lib.hid (heap_alloc_new w1 (Obj.cells #[.int .i64 st, .slice pa pts.length pc] 76))
    generalize w1.alloc (Obj.cells #[.int .i64 st, .slice pa pts.length pc] 76) = W2 at *
    have n10 := HV.out.n10
    simp only at n10
    refine (depths_any st (.slice pa pts.length pc) (.slice sa s.length sc) pts s W2 HP2.out HS2.out HL.out n10 HV.out.ok HS9.out).mono ?_
    rintro e w3 ⟨dv, rfl, hown, hb⟩
    have hdl := deepN_length pts s s.length
    have hdb := deepN_bd pts s HV.out.ok HS9.out s.length (by have := HL.out; omega) (Nat.le_refl _)
    have hn1 : 0 < s.length := by have h1 := HV.out.n1; have h2 := HL.out; simp only at h1; omega
    have hn2 : s.length ≤ 10 := by have := HL.out; omega
    obtain ⟨d, hd⟩ : ∃ d, deepN pts s s.length = d := ⟨_, rfl⟩
    rw [hd] at hown hdl hdb HPA
    have HD3 := Lib.hid (intsAt_own (by rw [hdl]; exact hown) (by rw [hdl]; omega) : IntsAt w3 dv d)
    have HL3 := Lib.hid ((hb.block _ (lt_of_block HL2.out)).trans HL2.out)
    have HB3 := Lib.hid (HB2.out.trans (hb.mono HB2.out.size))
    have HDB := Lib.hid hdb
    have HDL := Lib.hid hdl
    have h3 := HB3.out.size
    obtain ⟨_, da, dc, rfl, _, _⟩ := id HD3.out
    have b0 := cellOf HL3.out 0 _ rfl
    have b1 := cellOf HL3.out 1 _ rfl
    have hlp : pts.length = d.length := by have := HL.out; omega
    have HLP := Lib.hid hlp
    clear hown hd hb hdb hdl hlp HP1 HS1 HB1 HP2 HS2 HB2 HL2
    have HM : Hid (Calls Try.prog 66 #[.agg #[.int .i64 st, .slice pa pts.length pc], .slice da d.length dc] w3 fun e w' => e = .returned (.int .i64 (manyL 0 d)) ∧ Below w3.heap.size w3 w') := by
      have h := many_any st pa pc (.slice da d.length dc) d w3 HD3.out (by rw [HDL.out]; omega) (by rw [HDL.out]; omega) HDB.out
      show Calls _ _ _ _ _
      rw [HLP.out]
      exact h
    go_wp2_with fail
    refine HM.out.mono ?_
    rintro e w4 ⟨rfl, hb⟩
    have HD4 := Lib.hid (HD3.out.below hb)
    have HB4 := Lib.hid (HB3.out.trans (hb.mono HB3.out.size))
    have h4 := HB4.out.size
    have m0 := manyL_nonneg d 0
    have mb := manyL_bd d 0 (by omega) HDB.out
    have mb2 : manyL 0 d ≤ 99000 := by have := HDL.out; omega
    clear hb mb b0 b1 HM HL3 HB3 HD3
    generalize manyL 0 d = mn at *

    by_cases h60 : 60 < mn
    · have HPB : Hid (passesR ⟨st, pts⟩ s = ([], 9)) := by show _ = _; rw [HPA.out, if_pos h60]
      clear HPA
      go_wp2_with fail
      go_ret2
      rw [HPB.out]
      exact ⟨_, rfl, World.ownsRow_nil .., HB4.out⟩
    · have HPB : Hid (passesR ⟨st, pts⟩ s = (passL d, 0)) := by show _ = _; rw [HPA.out, if_neg h60]
      clear HPA
      go_wp2_with fail
      refine (passesOf_any (.slice da d.length dc) d w4 HD4.out (by rw [HDL.out]; omega) (by rw [HDL.out]; omega) HDB.out (maxOf_bd d HDB.out (by rw [HDL.out]; omega))).mono ?_
      rintro e w5 ⟨v', rfl, hown, hb⟩
      have HO := Lib.hid hown
      have HB5 := Lib.hid (HB4.out.trans (hb.mono HB4.out.size))
      clear hown hb
      go_wp2_with fail
      go_ret2
      rw [HPB.out]
      exact ⟨_, rfl, own_base HO.out (by omega), HB5.out⟩
  · refine (lookWith_no ⟨st, pts⟩ (.slice pa pts.length pc) (.slice sa s.length sc) s w0 HP.out HS.out hz).mono ?_
    rintro e w1 ⟨rfl, hb⟩
    have HPA : Hid (passesR ⟨st, pts⟩ s = ([], surfR ⟨st, pts⟩ s)) := by show _ = _; unfold passesR; rw [if_neg hz]
    have HB1 := Lib.hid (HB.out.trans (hb.mono HB.out.size))
    generalize surfR ⟨st, pts⟩ s = er at *
    have tz : (er != 0) = true := by simp [hz]
    clear hz hb a0 a1 HA HB HP HS
    go_wp2_with fail
    go_ret2
    rw [HPA.out]
    exact ⟨_, rfl, World.ownsRow_nil .., HB1.out.alloc HB1.out.size _⟩
end Go.Proofs.Ytnciomoapajonaa
