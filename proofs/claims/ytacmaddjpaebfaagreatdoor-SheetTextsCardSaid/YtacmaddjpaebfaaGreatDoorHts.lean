/- Heights of package sheet. -/
import Derived.Test.YtacmaddjpaebfaaGreatDoorHigh
import Derived.Laws.OwnMore
set_option linter.unusedSimpArgs false
set_option linter.unusedVariables false
namespace Go.Proofs.YtacmaddjpaebfaaGreatDoor
open Go Go.RowKit Hs Dc

theorem z81_bd : Bd z81 := by
  intro i
  unfold z81
  rcases Nat.lt_or_ge i 81 with h | h
  · rw [List.getElem?_replicate, if_pos h]; decide
  · rw [List.getElem?_eq_none (by simpa using h)]; decide
theorem tightR_bd (m : List Int) (hs : Start m) : Bd (tightR m) := by
  have h := stopN_spec m hs
  unfold tightR
  split
  · exact z81_bd
  · exact it_bd m hs _ h.1 _ (Nat.le_refl _)
theorem measM_bd (s : Sheet) : Bd (measM s) := by
  unfold measM
  split
  · split
    · exact tightR_bd _ (start_apL _)
    · exact z81_bd
  · exact z81_bd

/-- A value reads as spans that lie at the head of a row of their own. -/
def SpansAt (n : Nat) (w : World) (v : Value) (l : List (Int × Int)) : Prop :=
  ∃ g, v = .slice (some ⟨g, 0, none⟩) l.length l.length ∧ n ≤ g ∧ g < w.heap.size ∧ ∀ k (h : k < l.length), w.cell? ⟨g, k * 2, none⟩ = some (.int .i64 l[k].1) ∧ w.cell? ⟨g, k * 2 + 1, none⟩ = some (.int .i64 l[k].2)
/-- What Heights answers. -/
noncomputable def heightS (s : Sheet) : List (Int × Int) := (List.range s.pts.length).map fun a => (-((measM s)[8 * 9 + a]?.getD 0), (measM s)[a * 9 + 8]?.getD 0)

/-- The first k spans of a row of cells. -/
def RowTo (M : List Int) (cur : List Value) (k : Nat) : Prop := ∀ a, a < k → cur[a * 2]? = some (.int .i64 (-(M[8 * 9 + a]?.getD 0))) ∧ cur[a * 2 + 1]? = some (.int .i64 (M[a * 9 + 8]?.getD 0))
theorem RowTo.more {M : List Int} {cur : List Value} {k : Nat} (h : RowTo M cur k) (hl : k * 2 + 1 < cur.length) :
    RowTo M ((cur.set (k * 2) (.int .i64 (-(M[8 * 9 + k]?.getD 0)))).set (k * 2 + 1) (.int .i64 (M[k * 9 + 8]?.getD 0))) (k + 1) := by
  intro a ha
  rcases Nat.lt_or_ge a k with h1 | h1
  · obtain ⟨r1, r2⟩ := h a h1
    rw [List.getElem?_set_ne (by omega), List.getElem?_set_ne (by omega), List.getElem?_set_ne (by omega), List.getElem?_set_ne (by omega)]
    exact ⟨r1, r2⟩
  · obtain rfl : a = k := by omega
    refine ⟨?_, ?_⟩
    · rw [List.getElem?_set_ne (by omega), List.getElem?_set_self (by omega)]
    · rw [List.getElem?_set_self (by rw [List.length_set]; omega)]

theorem spanInfo : (Tryz.prog.info? 40).map (fun i => (i.zero, i.size, i.bytes)) = some (some (.agg #[.int .i64 0, .int .i64 0]), 2, 16) := by kernel_rfl

set_option maxRecDepth 4000 in
set_option maxHeartbeats 1000000 in
theorem Heights_any (s : Sheet) (pv nv : Value) (w : World) (hS : SheetAt w.heap.size w pv nv s) :
    Calls Tryz.prog 22 #[.agg #[.int .i64 s.iv, pv, nv]] w fun e w' => ∃ v, e = .returned (.tuple #[v, .int .i64 (measE s)]) ∧ (measE s = 0 → SpansAt w.heap.size w' v (heightS s)) ∧ (measE s ≠ 0 → v = .slice none 0 0) ∧ Below w.heap.size w w' := by
  have hz := (zero_of_info zeroInfo).1
  obtain ⟨i0, hi⟩ := info_of_underlying Tryz.underlying40
  have HI : Hid (i0.zero = some (.agg #[.int .i64 0, .int .i64 0]) ∧ i0.size = 2 ∧ i0.bytes = 16) := by
    have h := spanInfo
    rw [hi] at h
    simp at h
    exact h
  obtain ⟨iv, pts, notes⟩ := s
  obtain ⟨hP, hN, hsz⟩ := id hS
  obtain ⟨lp, pa, pc, rfl, _⟩ := id hP
  obtain ⟨ln, na, nc, rfl, _⟩ := id hN
  simp only at hP hN hsz lp ln ⊢
  have HS := Lib.hid hS
  clear hP hN hsz hS
  have lp' : (pts.length : Int) ≤ 4611686018427387904 := by omega
  have B0 : Below w.heap.size w (w.alloc (Obj.cells #[.int .i64 iv, .slice pa pts.length pc, .slice na notes.length nc] 25)) := by go_grown
  have hc := measured_any ⟨iv, pts, notes⟩ (.slice pa pts.length pc) (.slice na notes.length nc) (w.alloc (Obj.cells #[.int .i64 iv, .slice pa pts.length pc, .slice na notes.length nc] 25)) ((HS.out.below B0).mono B0.size)
  have HC := Lib.hid hc
  clear hc
  go_enter Tryz.func22, Tryz.ntmps22
  go_wp2_with fail
  refine HC.out.mono ?_
  rintro e w1 ⟨rfl, hb1⟩
  have hB1 := B0.trans (hb1.mono B0.size)
  have hA := (hb1.block w.heap.size (by simp)).trans (heap_alloc_new w (Obj.cells #[.int .i64 iv, .slice pa pts.length pc, .slice na notes.length nc] 25))
  obtain ⟨M, HM, hML⟩ : ∃ M, Hid (M = measM ⟨iv, pts, notes⟩) ∧ Hid (M.length = 81) := ⟨_, rfl, measM_length _⟩
  have HBD : Hid (Bd M) := by show Bd M; rw [HM.out]; exact measM_bd _
  rw [← HM.out]
  obtain ⟨r, HE⟩ : ∃ r, Hid (r = measE ⟨iv, pts, notes⟩) := ⟨_, rfl⟩
  rw [← HE.out]
  have n1 : FarBlk (w1.alloc (Obj.cells (cs z81) 99)) w1.heap.size z81 := FarBlk.new w1 z81
  have g1 := n1.put M
  have hA1 : (w1.alloc (Obj.cells (cs z81) 99)).heap[w.heap.size]? = _ := (Below.heap_alloc _ _ _ (lt_of_block hA)).trans hA
  have gB := below_setRow (hB1.alloc hB1.size (Obj.cells (cs z81) 99)) hB1.size (cs M)
  have hAW := ((below_setRow (Below.refl w1.heap.size (w1.alloc (Obj.cells (cs z81) 99))) (Nat.le_refl _) (cs M)).block w.heap.size (by have := lt_of_block hA; exact this)).trans hA1
  have hn : w.heap.size < w1.heap.size := lt_of_block hA
  clear hA1 hA hb1 hB1 B0 HC
  by_cases hr : r = 0
  · have tr : (r != 0) = false := by simp [hr]
    have HR := Lib.hid hr
    clear hr
    have np8 : pts.length ≤ 8 := by
      refine ((check_valid ⟨iv, pts, notes⟩).1 ?_).np8
      have h := HE.out
      rw [HR.out] at h
      unfold measE at h
      show errS _ = 0
      split at h
      · assumption
      · exact h.symm
    have a1 := cellOf hAW 1 _ rfl
    have gS := gB.size
    have hWs := g1.lt
    go_wp2_with (first
      | (refine far_store rfl (.tmp 4) (.tmp 11) rfl w1.heap.size rfl M z81 rfl n1 hML.out rfl rfl ?_; generalize hW : (w1.alloc (Obj.cells (cs z81) 99)).setRow w1.heap.size (cs M) = W at *; clear hW)
      | (at_make; refine wpList_make_full _ rfl _ _ 35 rfl W.heap.size 40 i0 (.agg #[.int .i64 0, .int .i64 0]) 2 Tryz.underlying35 hi HI.out.1 HI.out.2.1 .i64 .i64 _ _ pts.length rfl rfl rfl rfl ?c1 ?c2 (Nat.le_refl _) ?_))
    case c1 => rw [HI.out.2.2]; omega
    case c2 => unfold maxLen; omega
    intro w3 hown0 hgr
    have HB0 : Hid (Below W.heap.size W w3) := (Below.refl W.heap.size W).grown hgr (Nat.le_refl _) (by simp)
    have hlen0 := hown0.1
    generalize (madeCells #[Value.int IntKind.i64 0, Value.int IntKind.i64 0] (pts.length * 2)).toList = cur0 at hown0 hlen0
    clear hgr a1 n1 tr
    go_wp2
    go_loopw [22] (fun i wr => ∃ (k : Nat) (cur : List Value), k ≤ pts.length ∧ i = .int .i64 k ∧ wr.ownsRow W.heap.size 40 2 (.slice (some ⟨W.heap.size, 0, none⟩) pts.length pts.length) pts.length cur ∧ Hid (RowTo M cur k) ∧ Hid (Below W.heap.size W wr)) (fun i _ => pts.length - (intOf i).toNat)
    case atStart => exact ⟨0, cur0, Nat.zero_le _, rfl, hown0, fun a h => by omega, HB0⟩
    case round =>
      obtain ⟨k, cur, hk, rfl, hown, HF, HB⟩ := hrel
      have kI : (k : Int) ≤ 8 := by omega
      have hF := g1.below HB.out hWs
      by_cases hlt : k < pts.length
      · go_wp2_with (first
          | (refine far_load rfl (.tmp 4) rfl w1.heap.size rfl M hF hML.out ?_))
        refine (between_any M k 8 _ hML.out (by omega) (by omega) HBD.out).mono ?_
        rintro e w2 ⟨rfl, hb2⟩
        have hown2 := own_below hown hb2
        have HB2 : Hid (Below W.heap.size W w2) := HB.out.trans (hb2.mono HB.out.size)
        have hs2 := HB2.out.size
        have hg2 : W.heap.size < w2.heap.size := (hown2.lt W.heap.size rfl).2
        have hl := hown2.1
        have d0 := (hown2.cellAt (k * 2) (by omega)).trans (List.getElem?_eq_getElem (by omega))
        have d1 := (hown2.cellAt (k * 2 + 1) (by omega)).trans (List.getElem?_eq_getElem (by omega))
        have f0 := hown2.frozenAt (k * 2)
        have f1 := hown2.frozenAt (k * 2 + 1)
        have s1 := hown2.stored (k * 2) (.int .i64 (-(M[8 * 9 + k]?.getD 0)))
        have s2 := s1.1.stored (k * 2 + 1) (.int .i64 (M[k * 9 + 8]?.getD 0))
        have HO := Lib.hid s2.1
        have HB3 : Hid (Below W.heap.size W ((w2.setCell ⟨W.heap.size, k * 2, none⟩ (.int .i64 (-(M[8 * 9 + k]?.getD 0)))).setCell ⟨W.heap.size, k * 2 + 1, none⟩ (.int .i64 (M[k * 9 + 8]?.getD 0)))) :=
          (HB2.out.setCell (Nat.le_refl _) _).setCell (Nat.le_refl _) _
        have HM' : Hid (RowTo M ((cur.set (k * 2) (.int .i64 (-(M[8 * 9 + k]?.getD 0)))).set (k * 2 + 1) (.int .i64 (M[k * 9 + 8]?.getD 0))) (k + 1)) := HF.out.more (by rw [hl]; omega)
        clear s1 s2 hown hF
        go_wp2
        exact ⟨⟨k + 1, _, by omega, by go_num, HO.out, HM', HB3⟩, by simp [intOf]; omega⟩
      · go_wp2
        go_ret2
        obtain rfl : k = pts.length := by omega
        refine ⟨.slice (some ⟨W.heap.size, 0, none⟩) pts.length pts.length, by rw [← HE.out, HR.out]; rfl, fun _ => ⟨W.heap.size, by simp [heightS], gS, (hown.lt _ rfl).2, ?_⟩, fun h => absurd (HE.out.symm.trans HR.out) h, gB.trans (HB.out.mono gS)⟩
        intro a ha
        have ha' : a < pts.length := by simpa [heightS] using ha
        obtain ⟨r1, r2⟩ := HF.out a ha'
        refine ⟨(hown.cellAt (a * 2) (by omega)).trans ?_, (hown.cellAt (a * 2 + 1) (by omega)).trans ?_⟩
        · rw [r1, HM.out]; simp [heightS]
        · rw [r2, HM.out]; simp [heightS]
  · have tr : (r != 0) = true := by simp [hr]
    have HR := Lib.hid hr
    clear hr hAW
    go_wp2_with (first
      | (refine far_store rfl (.tmp 4) (.tmp 11) rfl w1.heap.size rfl M z81 rfl n1 hML.out rfl rfl ?_))
    go_ret2
    exact ⟨.slice none 0 0, by rw [← HE.out]; rfl, fun h => absurd h (by rw [← HE.out]; exact HR.out), fun _ => rfl, gB⟩
end Go.Proofs.YtacmaddjpaebfaaGreatDoor
