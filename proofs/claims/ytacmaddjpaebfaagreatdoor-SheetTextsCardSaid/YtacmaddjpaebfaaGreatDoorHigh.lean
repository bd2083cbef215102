/- orderOf of package sheet. -/
import Derived.Test.YtacmaddjpaebfaaGreatDoorMeas
import Derived.OwnWalk
import Derived.Laws.AppendOwn
set_option linter.unusedSimpArgs false
set_option linter.unusedVariables false
namespace Go.Proofs.YtacmaddjpaebfaaGreatDoor
open Go Go.RowKit Hs Dc

/-- What orderOf answers. -/
def orderV (lo hi : Int) : Int := if lo = 0 ∧ hi = 0 then 3 else if 0 < lo then 2 else if hi < 0 then 1 else 0

set_option maxRecDepth 100000 in
set_option maxHeartbeats 1000000 in
theorem orderOf_any (lo hi : Int) (w : World) :
    Calls Tryz.prog 72 #[.agg #[.int .i64 lo, .int .i64 hi]] w fun e w' => e = .returned (.int .i64 (orderV lo hi)) ∧ w.alloc (Obj.cells #[.int .i64 lo, .int .i64 hi] 40) = w' := by
  by_cases h1 : lo = 0 ∧ hi = 0
  · obtain ⟨rfl, rfl⟩ := h1
    go_enter Tryz.func72, Tryz.ntmps72
    go_wp2
    go_ret
    exact ⟨rfl, rfl⟩
  · have e1 : ((lo == 0) && (hi == 0)) = false := by
      rw [Bool.and_eq_false_iff]; simp; omega
    by_cases h2 : 0 < lo
    · have e2 : decide ((0:Int) < lo) = true := by simp [h2]
      have E3 : Hid (orderV lo hi = 2) := by show _ = _; unfold orderV; rw [if_neg h1, if_pos h2]
      go_enter Tryz.func72, Tryz.ntmps72
      go_wp2
      go_ret
      exact ⟨by rw [E3.out]; rfl, rfl⟩
    · have e2 : decide ((0:Int) < lo) = false := by simp; omega
      by_cases h3 : hi < 0
      · have e3 : decide (hi < 0) = true := by simp [h3]
        have E3 : Hid (orderV lo hi = 1) := by show _ = _; unfold orderV; rw [if_neg h1, if_neg h2, if_pos h3]
        go_enter Tryz.func72, Tryz.ntmps72
        go_wp2
        go_ret
        exact ⟨by rw [E3.out]; rfl, rfl⟩
      · have e3 : decide (hi < 0) = false := by simp; omega
        go_enter Tryz.func72, Tryz.ntmps72
        go_wp2
        all_goals go_ret
        all_goals refine ⟨?_, rfl⟩
        all_goals (unfold orderV; rw [if_neg (by omega), if_neg (by omega), if_neg (by omega)]; rfl)
end Go.Proofs.YtacmaddjpaebfaaGreatDoor
/- Highest of package sheet. -/
namespace Go.Proofs.YtacmaddjpaebfaaGreatDoor
open Go Go.RowKit Hs Dc

theorem own_below {w w' : World} {B e size n : Nat} {v : Value} {xs : List Value} (h : w.ownsRow B e size v n xs) (hb : Below w.heap.size w w') : w'.ownsRow B e size v n xs := by
  obtain ⟨h0, h⟩ := h
  refine ⟨h0, ?_⟩
  rcases h with h | ⟨g, cap, cur, r1, r2, r3, r4⟩
  · exact .inl h
  · exact .inr ⟨g, cap, cur, r1, r2, (hb.block g (lt_of_block r3)).trans r3, r4⟩

theorem own_base {w : World} {B B' e size n : Nat} {v : Value} {xs : List Value} (h : w.ownsRow B e size v n xs) (hb : B' ≤ B) : w.ownsRow B' e size v n xs := by
  obtain ⟨h0, h⟩ := h
  refine ⟨h0, ?_⟩
  rcases h with h | ⟨g, cap, cur, r1, r2, r3⟩
  · exact .inl h
  · exact .inr ⟨g, cap, cur, r1, Nat.le_trans hb r2, r3⟩

theorem intInfo : (Tryz.prog.info? 3).map (fun i => (i.zero, i.size, i.bytes)) = some (some (.int .i64 0), 1, 8) := by kernel_rfl

/-- The points below k that can be highest. -/
def topsK (M : List Int) (n k : Nat) : List Int := ((List.range k).filter fun a => topB M a n).map Int.ofNat
theorem topsK_succ (M : List Int) (n k : Nat) : topsK M n (k + 1) = if topB M k n then topsK M n k ++ [(k : Int)] else topsK M n k := by
  unfold topsK
  rw [List.range_succ, List.filter_append, List.map_append]
  by_cases h : topB M k n <;> simp [h]
theorem topsK_le (M : List Int) (n k : Nat) : (topsK M n k).length ≤ k := by
  unfold topsK
  rw [List.length_map]
  exact Nat.le_trans (List.length_filter_le _ _) (by simp)
/-- What Highest answers. -/
noncomputable def highS (s : Sheet) : List Int := if measE s = 0 then topsK (measM s) s.pts.length s.pts.length else []

set_option maxRecDepth 4000 in
set_option maxHeartbeats 1000000 in
theorem Highest_any (s : Sheet) (pv nv : Value) (w : World) (hS : SheetAt w.heap.size w pv nv s) :
    Calls Tryz.prog 27 #[.agg #[.int .i64 s.iv, pv, nv]] w fun e w' => ∃ v, e = .returned (.tuple #[v, .int .i64 (measE s)]) ∧ w'.ownsRow w.heap.size 3 1 v (highS s).length ((highS s).map (Value.int .i64)) ∧ (highS s = [] → v = .slice none 0 0) ∧ Below w.heap.size w w' := by
  have hz := (zero_of_info zeroInfo).1
  obtain ⟨i0, hi⟩ := info_of_underlying Tryz.underlying3
  have HI : Hid (i0.zero = some (.int .i64 0) ∧ i0.size = 1 ∧ i0.bytes = 8) := by
    have h := intInfo
    rw [hi] at h
    simp at h
    exact h
  obtain ⟨iv, pts, notes⟩ := s
  obtain ⟨hP, hN, hsz⟩ := id hS
  obtain ⟨lp, pa, pc, rfl, _⟩ := id hP
  obtain ⟨ln, na, nc, rfl, _⟩ := id hN
  simp only at hP hN hsz lp ln ⊢
  have HS := Lib.hid hS
  clear hP hN hsz hS
  have lp' : (pts.length : Int) ≤ 4611686018427387904 := by omega
  have B0 : Below w.heap.size w (w.alloc (Obj.cells #[.int .i64 iv, .slice pa pts.length pc, .slice na notes.length nc] 25)) := by go_grown
  have hc := measured_any ⟨iv, pts, notes⟩ (.slice pa pts.length pc) (.slice na notes.length nc) (w.alloc (Obj.cells #[.int .i64 iv, .slice pa pts.length pc, .slice na notes.length nc] 25)) ((HS.out.below B0).mono B0.size)
  have HC := Lib.hid hc
  clear hc
  go_enter Tryz.func27, Tryz.ntmps27
  go_wp2_with fail
  refine HC.out.mono ?_
  rintro e w1 ⟨rfl, hb1⟩
  have hB1 := B0.trans (hb1.mono B0.size)
  have hA := (hb1.block w.heap.size (by simp)).trans (heap_alloc_new w (Obj.cells #[.int .i64 iv, .slice pa pts.length pc, .slice na notes.length nc] 25))
  obtain ⟨M, HM, hML⟩ : ∃ M, Hid (M = measM ⟨iv, pts, notes⟩) ∧ Hid (M.length = 81) := ⟨_, rfl, measM_length _⟩
  rw [← HM.out]
  obtain ⟨r, HE⟩ : ∃ r, Hid (r = measE ⟨iv, pts, notes⟩) := ⟨_, rfl⟩
  rw [← HE.out]
  have n1 : FarBlk (w1.alloc (Obj.cells (cs z81) 99)) w1.heap.size z81 := FarBlk.new w1 z81
  have g1 := n1.put M
  have hw1 := hb1.size
  have hA1 : (w1.alloc (Obj.cells (cs z81) 99)).heap[w.heap.size]? = _ := (Below.heap_alloc _ _ _ (lt_of_block hA)).trans hA
  have gB := below_setRow (hB1.alloc hB1.size (Obj.cells (cs z81) 99)) hB1.size (cs M)
  have hAW := ((below_setRow (Below.refl w1.heap.size (w1.alloc (Obj.cells (cs z81) 99))) (Nat.le_refl _) (cs M)).block w.heap.size (by have := lt_of_block hA; exact this)).trans hA1
  have hn : w.heap.size < w1.heap.size := lt_of_block hA
  clear hA1 hA hb1 hB1 B0 HC
  by_cases hr : r = 0
  · have tr : (r != 0) = false := by simp [hr]
    have HR := Lib.hid hr
    clear hr
    have np8 : pts.length ≤ 8 := by
      refine ((check_valid ⟨iv, pts, notes⟩).1 ?_).np8
      have h := HE.out
      rw [HR.out] at h
      unfold measE at h
      show errS _ = 0
      split at h
      · assumption
      · exact h.symm
    have HHS : Hid (highS ⟨iv, pts, notes⟩ = topsK M pts.length pts.length) := by show _ = _; unfold highS; rw [← HE.out, if_pos HR.out, ← HM.out]
    have a1 := cellOf hAW 1 _ rfl
    go_wp2_with (first
      | (refine far_store rfl (.tmp 4) (.tmp 11) rfl w1.heap.size rfl M z81 rfl n1 hML.out rfl rfl ?_))
    have gS := gB.size
    clear n1 tr
    generalize hW : (w1.alloc (Obj.cells (cs z81) 99)).setRow w1.heap.size (cs M) = W at *
    have hWs : w1.heap.size < W.heap.size := g1.lt
    have hAW' := hAW
    clear hw1 a1 hAW
    go_loopw [6, 19] (fun v i wr => ∃ k : Nat, k ≤ pts.length ∧ i = .int .i64 k ∧ wr.ownsRow W.heap.size 3 1 v (topsK M pts.length k).length ((topsK M pts.length k).map (Value.int .i64)) ∧ Hid (Below W.heap.size W wr) ∧ (topsK M pts.length k = [] → v = .slice none 0 0)) (fun _ i _ => pts.length - (intOf i).toNat)
    case atStart => exact ⟨0, Nat.zero_le _, rfl, World.ownsRow_nil _ _ _ _, Below.refl _ _, fun _ => rfl⟩
    case round =>
      obtain ⟨k, hk, rfl, hown, HB, hnil⟩ := hrel
      have kI : (k : Int) ≤ 8 := by omega
      have hF := g1.below HB.out hWs
      have a1 := cellOf ((HB.out.block w.heap.size (by omega)).trans hAW') 1 _ rfl
      by_cases hlt : k < pts.length
      · go_wp2_with (first
          | (refine far_load rfl (.tmp 4) rfl w1.heap.size rfl M hF hML.out ?_))
        refine (canTop_any M k pts.length _ hML.out (by omega) (by omega)).mono ?_
        rintro e w2 ⟨rfl, hb2⟩
        have hown2 := own_below hown hb2
        have HB2 : Hid (Below W.heap.size W w2) := HB.out.trans (hb2.mono HB.out.size)
        have hs2 := HB2.out.size
        have hkl := topsK_le M pts.length k
        clear a1 hown hF
        cases ht : topB M k pts.length
        · have HT : Hid (topsK M pts.length (k + 1) = topsK M pts.length k) := by show _ = _; rw [topsK_succ, ht]; rfl
          clear ht
          go_wp2
          go_round
          case rel => exact ⟨k + 1, by omega, by go_num, by rw [HT.out]; exact hown2, HB2, by rw [HT.out]; exact hnil⟩
          case measure => simp [intOf]; omega
        · have HT : Hid (topsK M pts.length (k + 1) = topsK M pts.length k ++ [(k : Int)]) := by show _ = _; rw [topsK_succ, ht]; rfl
          clear ht
          have hownA := hown2.alloc (Obj.cells #[.int .i64 k] 3)
          go_wp2_with (first
            | (at_builtin; refine wpList_append_own _ rfl _ _ 43 rfl W.heap.size 3 i0 (.int .i64 0) 1 8 Tryz.underlying43 hi HI.out.1 HI.out.2.1 HI.out.2.2 rfl (by decide) _ _ _ rfl hownA ⟨w2.heap.size, 0, none⟩ 1 1 [.int .i64 k] rfl rfl ?c1 ?c2 ?c3 ?c4 ?c5 ?_))
          case c1 =>
            intro j u hj
            match j, hj with
            | 0, hj => simp at hj; subst hj; simp [Addr.add]
          case c2 => intro u hu; simp at hu; subst hu; rfl
          case c3 => unfold maxLen; omega
          case c4 => omega
          case c5 => simp; omega
          · intro v' w3 hown3 hgrow _
            have hB3 : Below W.heap.size W w3 := (HB2.out.alloc hs2 (Obj.cells #[.int .i64 k] 3)).grown hgrow (by simp; omega) (fun g hg => (hownA.lt g hg).1)
            have HB3 := Lib.hid hB3
            clear hgrow hownA hB3
            go_wp2
            go_round
            case rel => exact ⟨k + 1, by omega, by go_num, by rw [HT.out]; simpa using hown3, HB3, by rw [HT.out]; intro h; simp at h⟩
            case measure => simp [intOf]; omega
      · go_wp2
        go_ret2
        obtain rfl : k = pts.length := by omega
        refine ⟨_, by rw [← HE.out, HR.out]; rfl, ?_, ?_, gB.trans (HB.out.mono gS)⟩
        · rw [HHS.out]; exact own_base hown gS
        · rw [HHS.out]; exact hnil
  · have tr : (r != 0) = true := by simp [hr]
    have HH : Hid (highS ⟨iv, pts, notes⟩ = []) := by show _ = _; unfold highS; rw [← HE.out, if_neg hr]
    clear hr hAW
    go_wp2_with (first
      | (refine far_store rfl (.tmp 4) (.tmp 11) rfl w1.heap.size rfl M z81 rfl n1 hML.out rfl rfl ?_))
    go_ret2
    refine ⟨.slice none 0 0, by rw [← HE.out]; rfl, ?_, fun _ => rfl, gB⟩
    rw [HH.out]
    exact World.ownsRow_nil _ _ _ _
end Go.Proofs.YtacmaddjpaebfaaGreatDoor
