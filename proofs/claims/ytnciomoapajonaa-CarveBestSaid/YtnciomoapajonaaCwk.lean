/- Package carve: bounds of a row. -/
import Derived.Test.YtnciomoapajonaaCwj
set_option linter.unusedSimpArgs false
set_option linter.unusedVariables false
namespace Go.Proofs.Ytnciomoapajonaa
open Go Go.RowKit Go.Shelf Cv

theorem own_at {w : World} {B e size n g cap : Nat} {xs : List Value} (h : w.ownsRow B e size (.slice (some ⟨g, 0, none⟩) n cap) n xs) : w.ownsRow g e size (.slice (some ⟨g, 0, none⟩) n cap) n xs ∧ B ≤ g := by
  obtain ⟨h1, h2⟩ := h
  rcases h2 with ⟨h, _⟩ | ⟨g', cap', cur, h, r2, r3⟩
  · simp at h
  · simp only [Value.slice.injEq, Option.some.injEq, Addr.mk.injEq, and_true, true_and] at h
    obtain ⟨rfl, rfl⟩ := h
    exact ⟨⟨h1, .inr ⟨g, cap, cur, rfl, Nat.le_refl _, r3⟩⟩, r2⟩
theorem crossing_any (lo hi : Int) (w : World) : Calls Try.prog 87 #[.agg #[.int .i64 lo, .int .i64 hi]] w fun e w' => e = .returned (.bool (decide (hi < lo))) ∧ Below w.heap.size w w' := by
  go_enter Try.func87, Try.ntmps87
  go_wp2
  go_ret
  exact ⟨rfl, by go_grown⟩
def anyX (q : List Sp) : Bool := q.any fun b => decide (b.2 < b.1)
theorem anyX_more (q : List Sp) (k : Nat) (h : k < q.length) (hf : anyX (q.take k) = false) (hx : ¬ (q.getD k (0, 0)).2 < (q.getD k (0, 0)).1) : anyX (q.take (k + 1)) = false := by
  unfold anyX at *
  rw [List.take_succ_eq_append_getElem h, List.any_append, hf]
  have e : q.getD k (0, 0) = q[k] := by simp [List.getD_eq_getElem?_getD, h]
  rw [e] at hx
  simp
  omega
theorem anyX_at (q : List Sp) (k : Nat) (h : k < q.length) (hx : (q.getD k (0, 0)).2 < (q.getD k (0, 0)).1) : anyX q = true := by
  unfold anyX
  rw [List.any_eq_true]
  have e : q.getD k (0, 0) = q[k] := by simp [List.getD_eq_getElem?_getD, h]
  rw [e] at hx
  exact ⟨q[k], List.getElem_mem h, by simpa using hx⟩
set_option maxRecDepth 100000 in
set_option maxHeartbeats 2000000 in
theorem indexFunc_any (B g cap : Nat) (q : List Sp) (n : Nat) (w : World) (hO : w.ownsRow B 56 2 (.slice (some ⟨g, 0, none⟩) n cap) n (passC q)) (hn : q.length = n) (n10 : n ≤ 10) :
    Calls Try.prog 95 #[.slice (some ⟨g, 0, none⟩) n cap, .func (.func 87) #[] #[]] w fun e w' => (∃ k : Int, e = .returned (.int .i64 k) ∧ Hid (decide (0 ≤ k) = anyX q)) ∧ Below w.heap.size w w' := by
  have HO := Lib.hid hO
  have HN := Lib.hid hn
  clear hO hn
  have nI : (n : Int) ≤ 10 := by omega
  go_enter Try.func95, Try.ntmps95
  go_wp2
  go_loopg [8] n (fun gh i wr => ∃ (k : Nat), gh + k = n ∧ i = .int .i64 (k : Int) ∧ Hid (anyX (q.take k) = false) ∧ Hid (Below w.heap.size w wr))
  case atStart => exact ⟨0, by omega, rfl, rfl, Below.refl _ _⟩
  case round =>
    obtain ⟨k, hkn, rfl, HA, HB⟩ := hrel
    by_cases hlt : k < n
    · have kI : (k : Int) < (n : Int) := by omega
      have hr := own_below HO.out HB.out
      have gk := passC_get q k (by have := HN.out; omega)
      have ck0 := (hr.cellAt (k * 2) (by omega)).trans gk.1
      have ck1 := (hr.cellAt (k * 2 + 1) (by omega)).trans gk.2
      have HM := Lib.hid (anyX_more q k (by have := HN.out; omega) HA.out)
      have HX := Lib.hid (anyX_at q k (by have := HN.out; omega))
      generalize (q.getD k (0, 0)).1 = x at *
      generalize (q.getD k (0, 0)).2 = y at *
      clear gk hr
      go_wp2_with fail
      refine (crossing_any x y wr).mono ?_
      rintro e w2 ⟨rfl, hb⟩
      have HB2 := Lib.hid (HB.out.trans (hb.mono HB.out.size))
      clear hb ck0 ck1
      by_cases hyx : y < x
      · have HQ := Lib.hid (HX.out hyx)
        go_wp2_with fail
        go_ret
        exact ⟨⟨k, rfl, by rw [HQ.out]; show decide _ = true; simp⟩, HB2.out⟩
      · have HQ := Lib.hid (HM.out (by omega))
        go_wp2_with fail
        go_roundg (gk - 1)
        case measure => omega
        case rel => exact ⟨k + 1, by omega, by go_num, HQ, HB2⟩
    · have e : q.take k = q := List.take_of_length_le (by have := HN.out; omega)
      rw [e] at HA
      have kI : ¬ (k : Int) < (n : Int) := by omega
      clear hlt e hkn
      go_wp2_with fail
      go_ret
      exact ⟨⟨-1, rfl, by rw [HA.out]; show decide _ = false; simp⟩, HB.out⟩
set_option maxRecDepth 100000 in
set_option maxHeartbeats 2000000 in
theorem containsFunc_any (B g cap : Nat) (q : List Sp) (n : Nat) (w : World) (hO : w.ownsRow B 56 2 (.slice (some ⟨g, 0, none⟩) n cap) n (passC q)) (hn : q.length = n) (n10 : n ≤ 10) :
    Calls Try.prog 86 #[.slice (some ⟨g, 0, none⟩) n cap, .func (.func 87) #[] #[]] w fun e w' => e = .returned (.bool (anyX q)) ∧ Below w.heap.size w w' := by
  have HI := Lib.hid (indexFunc_any B g cap q n w hO hn n10)
  clear hO hn
  go_enter Try.func86, Try.ntmps86
  go_wp2_with fail
  refine HI.out.mono ?_
  rintro e w2 ⟨⟨k, rfl, HK⟩, hb⟩
  have HB := Lib.hid hb
  clear hb
  go_wp2_with fail
  go_ret
  exact ⟨by rw [← HK.out]; rfl, HB.out⟩
set_option maxRecDepth 100000 in
set_option maxHeartbeats 4000000 in
theorem bounds_any (r : Row) (hv : Valid r) (pv : Value) (w : World) (hP : PtsAt w pv r.pts) :
    Calls Try.prog 75 #[.agg #[.int .i64 r.st, pv]] w fun e w' => ∃ g cap, e = .returned (.tuple #[.slice (some ⟨g, 0, none⟩) r.pts.length cap, .bool (!crossB r)]) ∧ w'.ownsRow w.heap.size 56 2 (.slice (some ⟨g, 0, none⟩) r.pts.length cap) r.pts.length (passC (bandsR r)) ∧ Below w.heap.size w w' := by
  have HN1 := Lib.hid (nar_all r)
  have HX := Lib.hid (cross_bands r)
  have HSO := Lib.hid (startR_ok r hv)
  have HSL := Lib.hid (startR_length r)
  obtain ⟨st, pts⟩ := r
  simp only at hP ⊢
  obtain ⟨lp, pa, pc, rfl, _, _⟩ := id hP
  obtain ⟨i0, hi⟩ := info_of_underlying Try.underlying56
  have HI : Hid (i0.zero = some (.agg #[.int .i64 0, .int .i64 0]) ∧ i0.size = 2 ∧ i0.bytes = 16) := by
    have h := spanInfo
    rw [hi] at h
    simp at h
    exact h
  have s0 := hv.s0
  have s2 := hv.s200
  have n1 := hv.n1
  have n10 := hv.n10
  simp only at s0 s2 n1 n10
  have hB : Below w.heap.size w (w.alloc (Obj.cells #[.int .i64 st, .slice pa pts.length pc] 76)) := by go_grown
  have HB := Lib.hid hB
  have HP := Lib.hid (hP.below hB)
  have HL := Lib.hid (heap_alloc_new w (Obj.cells #[.int .i64 st, .slice pa pts.length pc] 76))
  have HV := Lib.hid hv
  clear hP hB hv
  have nI : (pts.length : Int) ≤ 10 := by omega
  go_enter Try.func75, Try.ntmps75
  have a1 := cellOf HL.out 1 _ rfl
  go_wp2
  generalize w.alloc (Obj.cells #[.int .i64 st, .slice pa pts.length pc] 76) = W at *
  go_loopg [2, 10] pts.length (fun gh v i wr => ∃ (k : Nat) (sa : Option Addr) (sc : Nat), gh + k = pts.length ∧ i = .int .i64 (k : Int) ∧ v = .slice sa k sc ∧ wr.ownsRow W.heap.size 56 2 (.slice sa k sc) k (passC ((startR ⟨st, pts⟩).take k)) ∧ Hid (Below W.heap.size W wr))
  case atStart => exact ⟨0, none, 0, by omega, rfl, rfl, World.ownsRow_nil _ _ _ _, Below.refl _ _⟩
  case round =>
    obtain ⟨k, sa, sc, hk, rfl, rfl, hown, HR⟩ := hrel
    clear a1
    by_cases hlt : k < pts.length
    · have kI : (k : Int) < (pts.length : Int) := by omega
      have k10 : (k : Int) ≤ 10 := by omega
      obtain ⟨bp, op, e, c0, c1, c2⟩ := (HP.out.below HR.out).get hlt
      have HT : Hid ((startR ⟨st, pts⟩).take (k + 1) = (startR ⟨st, pts⟩).take k ++ [(pts[k].lo, pts[k].hi)]) := by
        show _ = _
        rw [List.take_succ_eq_append_getElem (by have := HSL.out; omega)]
        simp [startR]
      subst e
      generalize pts[k].bd = d0 at *
      generalize pts[k].lo = d1 at *
      generalize pts[k].hi = d2 at *
      have hownA := (hown.alloc (Obj.cells #[.int .i64 d0, .int .i64 d1, .int .i64 d2] 58)).alloc (Obj.cells #[.int .i64 d1, .int .i64 d2] 56)
      have hHb : Hid (Below W.heap.size W ((wr.alloc (Obj.cells #[.int .i64 d0, .int .i64 d1, .int .i64 d2] 58)).alloc (Obj.cells #[.int .i64 d1, .int .i64 d2] 56))) := (HR.out.alloc HR.out.size _).alloc (by have := HR.out.size; simp; omega) _
      clear hown HR
      go_wp2_with (at_builtin; refine wpList_append_own _ rfl _ _ 28 rfl W.heap.size 56 i0 (.agg #[.int .i64 0, .int .i64 0]) 2 16 Try.underlying28 hi HI.out.1 HI.out.2.1 HI.out.2.2 rfl (by decide) _ _ _ rfl hownA ⟨wr.heap.size + 1, 0, none⟩ 1 1 [.int .i64 d1, .int .i64 d2] rfl rfl ?pa1 ?pa2 ?pa3 ?pa4 ?pa5 ?_)
      case pa1 =>
        have hc := heap_alloc_new (wr.alloc (Obj.cells #[.int .i64 d0, .int .i64 d1, .int .i64 d2] 58)) (Obj.cells #[.int .i64 d1, .int .i64 d2] 56)
        rw [show (wr.alloc (Obj.cells #[.int .i64 d0, .int .i64 d1, .int .i64 d2] 58)).heap.size = wr.heap.size + 1 by simp] at hc
        intro j u hj
        match j, hj with
        | 0, hj => cases hj; exact cellOf hc 0 _ rfl
        | 1, hj => cases hj; exact cellOf hc 1 _ rfl
      case pa2 =>
        intro u hu
        simp at hu
        rcases hu with rfl | rfl <;> rfl
      case pa3 => unfold maxLen; omega
      case pa4 => omega
      case pa5 => have := hHb.out.size; simpa using this
      · intro v' w3 hown3 hgrow _
        have hB3 : Hid (Below W.heap.size W w3) := hHb.out.grown hgrow hHb.out.size (fun g hg => (hownA.lt g hg).1)
        obtain ⟨sa', sc', rfl⟩ := own_slice hown3
        clear hgrow hownA hHb
        go_wp2
        go_roundg (gk - 1)
        case measure => omega
        case rel => exact ⟨k + 1, sa', sc', by omega, by go_num, rfl, by rw [HT.out, passC_append]; exact hown3, hB3⟩
    · have hkn : k = pts.length := by omega
      have kI : ¬ (k : Int) < (pts.length : Int) := by omega
      have HKN := Lib.hid hkn
      rw [List.take_of_length_le (by have := HSL.out; omega)] at hown
      rw [hkn] at hown
      obtain ⟨g, rfl⟩ := own_some hown (by omega)
      obtain ⟨ho1, hg⟩ := own_at hown
      have HO1 := Lib.hid ho1
      have HL1 := Lib.hid ((HR.out.block _ (lt_of_block HL.out)).trans HL.out)
      have b0 := cellOf HL1.out 0 _ rfl
      have b1 := cellOf HL1.out 1 _ rfl
      clear hk hlt hown ho1
      subst hkn
      have hlb := startR_length (⟨st, pts⟩ : Row)
      simp only at hlb
      have hgW : w.heap.size < g := by have := lt_of_block HL.out; omega
      go_wp2_with fail
      refine (narrow_any st pa pc g sc _ pts.length wr HO1.out hlb n1 n10 s0 s2 HSO.out).mono ?_
      rintro e w1 ⟨⟨v, rfl⟩, hown, hb⟩
      have hl1 : (nar st (startR ⟨st, pts⟩)).length = pts.length := by rw [nar_length]; exact hlb
      have hok1 := nar_ok st s0 _ HSO.out
      have HBa := Lib.hid ((HB.out.trans (HR.out.mono HB.out.size)).trans (hb.mono (by omega)))
      have HL2 := Lib.hid ((hb.block w.heap.size (by omega)).trans HL1.out)
      have HO2 := Lib.hid hown
      have c0 := cellOf HL2.out 0 _ rfl
      have c1 := cellOf HL2.out 1 _ rfl
      clear hown hb b0 b1 HL1 HO1 HR
      go_wp2_with fail
      refine (turned_any g g sc _ pts.length w1 HO2.out hl1 n1 n10).mono ?_
      rintro e w2 ⟨rfl, hown, hb⟩
      have hl2 : (nar st (startR ⟨st, pts⟩)).reverse.length = pts.length := by rw [List.length_reverse]; exact hl1
      have hok2 : ∀ b, b ∈ (nar st (startR ⟨st, pts⟩)).reverse → SpOk b := fun b hb => hok1 b (List.mem_reverse.1 hb)
      have HBb := Lib.hid (HBa.out.trans (hb.mono HBa.out.size))
      have HL3 := Lib.hid ((hb.block _ (lt_of_block HL2.out)).trans HL2.out)
      have HO3 := Lib.hid hown
      have hz1 := lt_of_block HL2.out
      have d0 := cellOf HL3.out 0 _ rfl
      have d1 := cellOf HL3.out 1 _ rfl
      clear hown hb c0 c1 HL2 HO2
      obtain ⟨g2, hg2⟩ : ∃ g2, w1.heap.size = g2 := ⟨_, rfl⟩
      rw [hg2] at HO3 hz1 ⊢
      go_wp2_with fail
      refine (narrow_any st pa pc g2 pts.length _ pts.length w2 HO3.out hl2 n1 n10 s0 s2 hok2).mono ?_
      rintro e w3 ⟨⟨v, rfl⟩, hown, hb⟩
      have hl3 : (nar st (nar st (startR ⟨st, pts⟩)).reverse).length = pts.length := by rw [nar_length]; exact hl2
      have HBc := Lib.hid (HBb.out.trans (hb.mono (by omega)))
      have HL4 := Lib.hid ((hb.block _ hz1).trans HL3.out)
      have HO4 := Lib.hid hown
      clear hown hb d0 d1 HL3 HO3
      go_wp2_with fail
      refine (turned_any g2 g2 pts.length _ pts.length w3 HO4.out hl3 n1 n10).mono ?_
      rintro e w4 ⟨rfl, hown, hb⟩
      rw [HN1.out] at hown
      have hl4 : (bandsR ⟨st, pts⟩).length = pts.length := bandsR_length _
      have HBd := Lib.hid (HBc.out.trans (hb.mono HBc.out.size))
      have HO5 := Lib.hid hown
      have hz3 := HBc.out.size
      clear hown hb HL4 HO4
      obtain ⟨g3, hg3⟩ : ∃ g3, w3.heap.size = g3 := ⟨_, rfl⟩
      rw [hg3] at HO5 hz3 ⊢
      go_wp2_with fail
      refine (containsFunc_any g3 g3 pts.length _ pts.length w4 HO5.out hl4 n10).mono ?_
      rintro e w5 ⟨rfl, hb⟩
      have HBe := Lib.hid (HBd.out.trans (hb.mono HBd.out.size))
      have HO6 := Lib.hid (own_below HO5.out hb)
      have HXX : Hid (anyX (bandsR ⟨st, pts⟩) = crossB ⟨st, pts⟩) := HX.out
      rw [HXX.out]
      clear hb
      go_wp2_with fail
      go_ret2
      exact ⟨g3, pts.length, rfl, own_base HO6.out (by omega), HBe.out⟩
end Go.Proofs.Ytnciomoapajonaa
