/- Package edge: turned. -/
import Derived.Test.YtojdocomkhihoaaFb1
import Derived.Deep.MidRow
set_option linter.unusedSimpArgs false
set_option linter.unusedVariables false
namespace Go.Proofs.Ytojdocomkhihoaa
open Go Go.RowKit Ed

/-- The spans, those of the first so many turned. -/
def turnTo (ws : List Int) (k : Nat) : List Int := (List.range 16).map fun j => if j / 2 < k then (if j % 2 = 0 then -ws.getD (j + 1) 0 else -ws.getD (j - 1) 0) else ws.getD j 0
def turnW (ws : List Int) : List Int := turnTo ws 8
theorem turnTo_length (ws : List Int) (k : Nat) : (turnTo ws k).length = 16 := by simp [turnTo]
theorem turnTo_get (ws : List Int) (k j : Nat) (hj : j < 16) : (turnTo ws k).getD j 0 = if j / 2 < k then (if j % 2 = 0 then -ws.getD (j + 1) 0 else -ws.getD (j - 1) 0) else ws.getD j 0 := by
  simp only [turnTo, List.getD_eq_getElem?_getD, List.getElem?_map, List.getElem?_range hj, Option.map_some, Option.getD_some]
theorem turnTo_zero (ws : List Int) (hw : ws.length = 16) : turnTo ws 0 = ws := by
  apply List.ext_getElem (by rw [turnTo_length, hw])
  intro j h1 h2
  have := turnTo_get ws 0 j (by omega)
  simp [List.getD_eq_getElem?_getD, h1, h2] at this
  exact this
theorem turnTo_succ (ws : List Int) (hw : ws.length = 16) (k : Nat) (h8 : k < 8) : ((turnTo ws k).set (k * 2) (-(wL ws k).2)).set (k * 2 + 1) (-(wL ws k).1) = turnTo ws (k + 1) := by
  apply List.ext_getElem?
  intro j
  rcases Nat.lt_or_ge j 16 with hj | hj
  · rw [List.getElem?_set, List.getElem?_set]
    by_cases e1 : k * 2 + 1 = j
    · subst e1
      have q : (k * 2 + 1) / 2 = k := by omega
      rw [if_pos rfl, if_pos (by rw [List.length_set, turnTo_length]; omega)]
      simp only [turnTo, List.getElem?_map, List.getElem?_range hj, Option.map_some, q, wL]
      rw [if_pos (by omega), if_neg (by omega)]
      rfl
    · rw [if_neg e1]
      by_cases e2 : k * 2 = j
      · subst e2
        have q : k * 2 / 2 = k := by omega
        rw [if_pos rfl, if_pos (by rw [turnTo_length]; omega)]
        simp only [turnTo, List.getElem?_map, List.getElem?_range hj, Option.map_some, q, wL]
        rw [if_pos (by omega), if_pos (by omega)]
      · rw [if_neg e2]
        simp only [turnTo, List.getElem?_map, List.getElem?_range hj, Option.map_some, Option.some.injEq]
        by_cases q : j / 2 < k
        · have q2 : j / 2 < k + 1 := Nat.lt_succ_of_lt q
          rw [if_pos q, if_pos q2]
        · have q2 : ¬ j / 2 < k + 1 := by omega
          rw [if_neg q, if_neg q2]
  · rw [List.getElem?_eq_none (by rw [List.length_set, List.length_set, turnTo_length]; exact hj), List.getElem?_eq_none (by rw [turnTo_length]; exact hj)]
theorem turnW_span (ws : List Int) (k : Nat) (h8 : k < 8) : wL (turnW ws) k = (-(wL ws k).2, -(wL ws k).1) := by
  unfold wL turnW
  rw [turnTo_get _ _ _ (by omega), turnTo_get _ _ _ (by omega), if_pos (by omega), if_pos (by omega), if_pos (by omega), if_neg (by omega)]
  rfl
theorem turnW_bd (ws : List Int) (h : SpBd ws) : SpBd (turnW ws) := by
  intro i
  rcases Nat.lt_or_ge i 8 with h8 | h8
  · rw [turnW_span ws i h8]
    have := h i
    simp only
    omega
  · have e : ∀ j, 16 ≤ j → (turnW ws).getD j 0 = 0 := fun j hj => by
      rw [List.getD_eq_getElem?_getD, List.getElem?_eq_none (by unfold turnW; rw [turnTo_length]; exact hj)]; rfl
    unfold wL
    rw [e _ (by omega), e _ (by omega)]
    simp only
    omega
theorem wantsSize : (Try.prog.info? 87).map (·.size) = some 16 := by kernel_rfl
theorem lk_loadW {ops : Array Oper} {rest : List Oper} {o : Oper} {a : Act} {w : World} {Q : Exit → Act → World → Prop} (hgd : o.guard = none) (x : Operand) (ho : o.op = .load 87 x)
    (g : Nat) (hx : a.eval x = .pointer (some ⟨g, 3, none⟩)) (tol : Int) (sv ev : Value) (ws : List Int) (hF : LkBlk w g tol sv ev ws) (hm : ws.length = 16)
    (h : wpList Try.prog ops Q rest (a.put o.dst (.agg (chC ws))) w) : wpList Try.prog ops Q (o :: rest) a w :=
  wpList_load_mid hgd 87 x ho g 3 hx (ws.map (Value.int .i64)) _ (fun j v hv => by
    have hj : j < ws.length := by have := (List.getElem?_eq_some_iff.1 hv).1; simpa using this
    rw [hF.cw j hj, ← hv]
    simp [List.getD_eq_getElem?_getD, hj]) Try.underlying87 rfl (by rw [wantsSize, List.length_map, hm]) h
theorem span_index (ws : List Int) (hw : ws.length = 16) (k : Nat) (h : k < 8) (W : World) : (Instr.index 87 (.agg (chC ws)) (.int .i64 k)).run Try.prog W = .ok (.agg #[.int .i64 (wL ws k).1, .int .i64 (wL ws k).2]) W := by
  have hs : (sizeOf 31).run Try.prog W = .ok 2 W := by kernel_rfl
  have hg : (isAgg 31).run Try.prog W = .ok true W := by kernel_rfl
  have hk : (0 : Int) ≤ (k : Int) ∧ (k : Int) < ((8 : Nat) : Int) := by omega
  have e : (chC ws).extract (k * 2) (k * 2 + 2) = #[.int .i64 (wL ws k).1, .int .i64 (wL ws k).2] := by
    apply Array.ext'
    have e1 := ch_get ws (k * 2) (by omega)
    have e2 := ch_get ws (k * 2 + 1) (by omega)
    apply List.ext_getElem?
    intro i
    rw [Array.getElem?_toList, Array.getElem?_toList, Array.getElem?_extract]
    have hsz := ch_size ws
    match i with
    | 0 => rw [if_pos (by omega)]; simpa [wL] using e1
    | 1 => rw [if_pos (by omega)]; simpa [wL] using e2
    | i + 2 => rw [if_neg (by omega)]; simp
  simp only [Instr.index, Sem.run_bind, asIntOf, Sem.run_pure, Result.andThen_ok, run_underlying Try.underlying87, if_pos hk, hs, part, hg, if_true, Int.toNat_natCast, e]
set_option maxRecDepth 100000 in
set_option maxHeartbeats 4000000 in
theorem turned_any (tol : Int) (sa ea : Option Addr) (n sc m ec : Nat) (ws : List Int) (hw : ws.length = 16) (hsb : SpBd ws) (w : World) :
    Calls Try.prog 63 #[.agg (lkC tol (.slice sa n sc) (.slice ea m ec) ws)] w fun e w' => e = .returned (.agg (lkC tol (.slice sa n sc) (.slice ea m ec) (turnW ws))) ∧ Below w.heap.size w w' := by
  have HTW : Hid (turnW ws = turnTo ws 8) := rfl
  have HW := Lib.hid hw
  have HSB := Lib.hid hsb
  obtain ⟨W, hW, q1, q2, hb, hsz⟩ := al2 w (Obj.cells (lkC tol (.slice sa n sc) (.slice ea m ec) ws) 89) (Obj.cells (lkC 0 (.slice none 0 0) (.slice none 0 0) z16) 89)
  have HK : Hid (LkBlk W w.heap.size tol (.slice sa n sc) (.slice ea m ec) ws) := q1
  have HR : Hid (LkBlk W (w.heap.size + 1) 0 (.slice none 0 0) (.slice none 0 0) z16) := q2
  have HB := Lib.hid hb
  have HWW := Lib.hid hW
  have hK1 : LkBlk ((w.alloc (Obj.cells (lkC tol (.slice sa n sc) (.slice ea m ec) ws) 89)).alloc (Obj.cells (lkC 0 (.slice none 0 0) (.slice none 0 0) z16) 89)) w.heap.size tol (.slice sa n sc) (.slice ea m ec) ws := by rw [hW]; exact q1
  have HK1 := Lib.hid hK1
  have hz := (zero_of_info lkZero).1
  rw [HTW.out]
  clear hW q1 q2 hb hsz hw hsb hK1
  go_enter Try.func63, Try.ntmps63
  go_wp2_with (refine lk_loadW rfl (.tmp 5) rfl w.heap.size rfl tol (.slice sa n sc) (.slice ea m ec) ws HK1.out HW.out ?_)
  clear HK1 hz
  rw [HWW.out]
  clear HWW
  go_loopg [7] 8 (fun g v wr => ∃ k : Nat, g + k = 8 ∧ v = .int .i64 k ∧ Hid (LkBlk wr w.heap.size tol (.slice sa n sc) (.slice ea m ec) (turnTo ws k)) ∧ Hid (LkBlk wr (w.heap.size + 1) 0 (.slice none 0 0) (.slice none 0 0) z16) ∧ Hid (Below w.heap.size w wr))
  case atStart => exact ⟨0, by omega, rfl, by rw [turnTo_zero ws HW.out]; exact HK, HR, HB⟩
  case round =>
    clear HK HR HB
    obtain ⟨k, hk, rfl, HK, HR, HB⟩ := hrel
    by_cases hkm : k < 8
    · have kI : (k : Int) < 8 := by omega
      have hix := span_index ws HW.out k hkm
      have HST := Lib.hid (turnTo_succ ws HW.out k hkm)
      have hbd := HSB.out k
      obtain ⟨⟨lo, hi⟩, hs⟩ : ∃ s, wL ws k = s := ⟨_, rfl⟩
      rw [hs] at hix HST hbd
      simp only at hix hbd HST
      clear hs
      obtain ⟨b1, b2, b3, b4⟩ := hbd
      have hba : Below wr.heap.size wr (wr.alloc (Obj.cells #[.int .i64 lo, .int .i64 hi] 31)) := by go_grown
      have KA := Lib.hid (HK.out.below hba HK.out.lt)
      have KR := Lib.hid (HR.out.below hba HR.out.lt)
      have KB := Lib.hid (HB.out.trans (hba.mono HB.out.size))
      have x0 := KA.out.cw (k * 2) (by rw [turnTo_length]; omega)
      have x1 : (wr.alloc (Obj.cells #[.int .i64 lo, .int .i64 hi] 31)).cell? ⟨w.heap.size, 3 + k * 2 + 1, none⟩ = some (.int .i64 ((turnTo ws k).getD (k * 2 + 1) 0)) := KA.out.cw (k * 2 + 1) (by rw [turnTo_length]; omega)
      have y0 := HK.out.cw (k * 2) (by rw [turnTo_length]; omega)
      have y1 : wr.cell? ⟨w.heap.size, 3 + k * 2 + 1, none⟩ = some (.int .i64 ((turnTo ws k).getD (k * 2 + 1) 0)) := HK.out.cw (k * 2 + 1) (by rw [turnTo_length]; omega)
      have g0 := frozen_of_row _ _ (3 + k * 2) _ _ HK.out
      have g1 := frozen_of_row _ _ (3 + k * 2 + 1) _ _ HK.out
      have f0 := frozen_of_row _ _ (3 + k * 2) _ _ KA.out
      have f1 := frozen_of_row _ _ (3 + k * 2 + 1) _ _ KA.out
      have gl := HK.out.lt
      have gl1 : w.heap.size < wr.heap.size + 1 := by omega
      clear hba
      go_wp2_with fail
      go_roundg (gk - 1)
      case measure => omega
      case rel =>
        have B9 : Below ((wr.setCell ⟨w.heap.size, 3 + k * 2, none⟩ (.int .i64 (-hi))).setCell ⟨w.heap.size, 3 + k * 2 + 1, none⟩ (.int .i64 (-lo))).heap.size ((wr.setCell ⟨w.heap.size, 3 + k * 2, none⟩ (.int .i64 (-hi))).setCell ⟨w.heap.size, 3 + k * 2 + 1, none⟩ (.int .i64 (-lo))) (((wr.setCell ⟨w.heap.size, 3 + k * 2, none⟩ (.int .i64 (-hi))).setCell ⟨w.heap.size, 3 + k * 2 + 1, none⟩ (.int .i64 (-lo))).alloc (Obj.cells #[.int .i64 lo, .int .i64 hi] 31)) := (Below.refl _ _).alloc (Nat.le_refl _) _
        have h := (HK.out.set (k * 2) (-hi)).set (k * 2 + 1) (-lo)
        rw [HST.out] at h
        have h2 := (HB.out.setCell (p := ⟨w.heap.size, 3 + k * 2, none⟩) (show w.heap.size ≤ w.heap.size by omega) (.int .i64 (-hi))).setCell (p := ⟨w.heap.size, 3 + k * 2 + 1, none⟩) (show w.heap.size ≤ w.heap.size by omega) (.int .i64 (-lo))
        have h3 : LkBlk ((wr.setCell ⟨w.heap.size, 3 + k * 2, none⟩ (.int .i64 (-hi))).setCell ⟨w.heap.size, 3 + k * 2 + 1, none⟩ (.int .i64 (-lo))) (w.heap.size + 1) 0 (.slice none 0 0) (.slice none 0 0) z16 := two_other HR.out (by omega)
        exact ⟨k + 1, by omega, by go_num, h.below B9 h.lt, h3.below B9 h3.lt, h2.trans (B9.mono h2.size)⟩
    · obtain rfl : k = 8 := by omega
      clear hkm hk
      go_wp2_with (first
        | (refine lk_load rfl (.tmp 1) rfl w.heap.size rfl tol (.slice sa n sc) (.slice ea m ec) (turnTo ws 8) HK.out (turnTo_length _ _) ?_)
        | (refine lk_store rfl (.tmp 2) (.tmp 22) rfl (w.heap.size + 1) rfl tol sa ea n m sc ec (turnTo ws 8) 0 (.slice none 0 0) (.slice none 0 0) z16 rfl HR.out (turnTo_length _ _) rfl rfl ?_))
      exact bodyPost_ret (lk_result rfl _ _ (w.heap.size + 1) tol (.slice sa n sc) (.slice ea m ec) (turnTo ws 8) rfl (HR.out.put _ _ _ _) (turnTo_length _ _)) rfl ⟨rfl, below_setRow HB.out (by omega) _⟩
end Go.Proofs.Ytojdocomkhihoaa
