/- SheetHeights: the call returns true. Condition: the tables of Go's library are laid. -/
import Derived.Test.YtpmnnomeaaaenaaGreatDoorBnd
import Derived.Test.YtpmnnomeaaaenaaGreatDoorApt
import Derived.Test.YtpmnnomeaaaenaaGreatDoorRef
import Derived.Test.YtpmnnomeaaaenaaGreatDoorFew
import Derived.Test.YtpmnnomeaaaenaaGreatDoorCmp
import Derived.StillTailTactics
import Derived.Deep.RegionHeld3
import Derived.Deep.RegionWith
import Derived.BigRegion
import Derived.Laws.BitsLemmas
import Derived.Deep.RegionLaw
import Derived.Maps.AppendAt
import Derived.Test.YtpmnnomeaaaenaaGreatDoorAwake
set_option linter.unusedSimpArgs false
set_option linter.unusedVariables false
namespace Go.Proofs.YtpmnnomeaaaenaaGreatDoor
open Go Go.RowKit Hs Dc

/-- The indices below n. -/
def ixL (n : Nat) : List Int := (List.range n).map Int.ofNat
theorem ixL_succ (n : Nat) : ixL (n + 1) = ixL n ++ [(n : Int)] := by unfold ixL; rw [List.range_succ, List.map_append]; rfl
theorem ixL_len (n : Nat) : (ixL n).length = n := by simp [ixL]
theorem ixL_in (n : Nat) : ∀ z, z ∈ ixL n → 0 ≤ z ∧ z < (n : Int) := by
  intro z hz
  unfold ixL at hz
  obtain ⟨i, hi, rfl⟩ := List.mem_map.1 hz
  have := List.mem_range.1 hi
  exact ⟨Int.natCast_nonneg i, by show (i : Int) < n; omega⟩
theorem pick_all (l : List Note) : pickL l (ixL l.length) = l := by
  apply List.ext_getElem (by simp [pickL, ixL])
  intro i h1 h2
  simp [pickL, ixL, List.getD_eq_getElem?_getD, h2]
theorem all_ok {s : Sheet} (hv : ValidS s) : ∀ x, x ∈ s.notes → NtOk s.iv s.pts.length x := fun x hx => ntOk_of hv.iv1 hv.np8 (hv.err0 x hx)

theorem jx_of {np i : Nat} (hnp : np ≤ 8) (hi : i < np + 1) : ∃ b, (b < np ∨ b = 8) ∧ jx np b = i := by
  by_cases h : i < np
  · exact ⟨i, .inl h, if_pos h⟩
  · exact ⟨8, .inr rfl, by unfold jx; rw [if_neg (by omega)]; omega⟩
theorem refM_bd9 {iv : Int} {np : Nat} (hnp : np ≤ 8) {l : List Note} (hl : ∀ x, x ∈ l → NtOk iv np x) (hf : fitB iv 0 l = true) : ∀ i j, i < np + 1 → j < np + 1 → -9000 ≤ refM iv 0 np l i j ∧ refM iv 0 np l i j ≤ 9000 := by
  intro i j hi hj
  obtain ⟨b, hb, rfl⟩ := jx_of hnp hi
  obtain ⟨a, ha, rfl⟩ := jx_of hnp hj
  rw [refM_ent hnp (Int.le_refl 0) (by omega) hl hf ha hb]
  have hc := (farM_closed iv 0 l hf).1
  rcases Nat.lt_or_ge a 8 with a8 | a8 <;> rcases Nat.lt_or_ge b 8 with b8 | b8
  · have h1 := farM_apart iv l hf a8 b8
    omega
  · obtain rfl : b = 8 := by omega
    have h1 := farM_ends iv l hf a8
    omega
  · obtain rfl : a = 8 := by omega
    have h1 := farM_ends iv l hf b8
    omega
  · obtain rfl : a = 8 := by omega
    obtain rfl : b = 8 := by omega
    rw [hc.diag 8 (by omega)]
    omega
theorem refM_lo {iv : Int} {np : Nat} (hnp : np ≤ 8) {l : List Note} (hl : ∀ x, x ∈ l → NtOk iv np x) (hf : fitB iv 0 l = true) {i : Nat} (hi : i < np) : refM iv 0 np l i np = ent (farM iv 0 l) 8 i := by
  have h := refM_ent hnp (Int.le_refl 0) (by omega) hl hf (a := 8) (b := i) (.inr rfl) (.inl hi)
  rw [show jx np i = i from if_pos hi, show jx np 8 = np by unfold jx; rw [if_neg (by omega)]] at h
  exact h
theorem refM_hi {iv : Int} {np : Nat} (hnp : np ≤ 8) {l : List Note} (hl : ∀ x, x ∈ l → NtOk iv np x) (hf : fitB iv 0 l = true) {i : Nat} (hi : i < np) : refM iv 0 np l np i = ent (farM iv 0 l) i 8 := by
  have h := refM_ent hnp (Int.le_refl 0) (by omega) hl hf (a := i) (b := 8) (.inl hi) (.inr rfl)
  rw [show jx np i = i from if_pos hi, show jx np 8 = np by unfold jx; rw [if_neg (by omega)]] at h
  exact h
theorem refM_two {iv : Int} {np : Nat} (hnp : np ≤ 8) {l : List Note} (hl : ∀ x, x ∈ l → NtOk iv np x) (hf : fitB iv 0 l = true) {a b : Nat} (ha : a < np) (hb : b < np) : refM iv 0 np l a b = ent (farM iv 0 l) b a := by
  have h := refM_ent hnp (Int.le_refl 0) (by omega) hl hf (a := b) (b := a) (.inl hb) (.inl ha)
  rw [show jx np a = a from if_pos ha, show jx np b = b from if_pos hb] at h
  exact h
/-- The first k spans that the reference tells. -/
def rhtL (F : Mx) (np k : Nat) : List (Int × Int) := (List.range k).map fun i => (-(F i np), F np i)
theorem rhtL_succ (F : Mx) (np k : Nat) : rhtL F np (k + 1) = rhtL F np k ++ [(-(F k np), F np k)] := by unfold rhtL; rw [List.range_succ, List.map_append]; rfl
theorem rhtL_len (F : Mx) (np k : Nat) : (rhtL F np k).length = k := by simp [rhtL]
/-- The cells of spans. -/
def spnC (l : List (Int × Int)) : List Value := l.flatMap fun x => [.int .i64 x.1, .int .i64 x.2]
theorem spnC_snoc (l : List (Int × Int)) (x : Int × Int) : spnC (l ++ [x]) = spnC l ++ [.int .i64 x.1, .int .i64 x.2] := by unfold spnC; rw [List.flatMap_append]; simp
theorem rhtL_all {s : Sheet} (hv : ValidS s) (hf : fitB s.iv 0 s.notes = true) : rhtL (refM s.iv 0 s.pts.length s.notes) s.pts.length s.pts.length = heightS s := by
  unfold rhtL heightS
  apply List.map_congr_left
  intro a ha
  have ha := List.mem_range.1 ha
  rw [refM_lo hv.np8 (all_ok hv) hf ha, refM_hi hv.np8 (all_ok hv) hf ha, (meas_fit hv hf).1]
  rfl
theorem spnC_get (l : List (Int × Int)) : ∀ k (h : k < l.length), (spnC l)[k * 2]? = some (.int .i64 l[k].1) ∧ (spnC l)[k * 2 + 1]? = some (.int .i64 l[k].2) := by
  induction l with
  | nil => intro k h; simp at h
  | cons x l ih =>
    intro k h
    have e : spnC (x :: l) = .int .i64 x.1 :: .int .i64 x.2 :: spnC l := by simp [spnC]
    rw [e]
    cases k with
    | zero => exact ⟨rfl, rfl⟩
    | succ k =>
      have := ih k (by simpa using h)
      rw [show (k + 1) * 2 = k * 2 + 1 + 1 by omega]
      simpa using this
theorem spnC_len (l : List (Int × Int)) : (spnC l).length = l.length * 2 := by
  induction l with
  | nil => rfl
  | cons x l ih => rw [show spnC (x :: l) = .int .i64 x.1 :: .int .i64 x.2 :: spnC l by simp [spnC]]; simp; omega
end Go.Proofs.YtpmnnomeaaaenaaGreatDoor
namespace Go.Proofs.YtpmnnomeaaaenaaGreatDoor
open Go Go.RowKit Hs Dc

theorem below_next {B : Nat} {a b c : World} (h : Below B a b) (k : Below b.heap.size b c) (hB : B ≤ b.heap.size) : Below B a c := h.trans (k.mono hB)
def AllP (n : Nat) (w : World) (e : Ending) (w' : World) : Prop := ∃ v, e = .returned v ∧ IntsAt w' v (ixL n) ∧ Below w.heap.size w w'

set_option maxRecDepth 100000 in
set_option maxHeartbeats 2000000 in
theorem all_any (s : Sheet) (pv nv : Value) (w : World) (hN : NotesAt w.heap.size w nv s.notes) (hn : s.notes.length ≤ 12) :
    Calls Tryz.prog 68 #[.agg #[.int .i64 s.iv, pv, nv]] w (AllP s.notes.length w) := by
  obtain ⟨i0, hi⟩ := info_of_underlying Tryz.underlying3
  have HI : Hid (i0.zero = some (.int .i64 0) ∧ i0.size = 1 ∧ i0.bytes = 8) := by
    have h := intInfo
    rw [hi] at h
    simp at h
    exact h
  obtain ⟨iv, pts, notes⟩ := s
  obtain ⟨ln, na, nc, rfl, _⟩ := id hN
  simp only at hN hn ln ⊢
  have HA := Lib.hid (heap_alloc_new w (Obj.cells #[.int .i64 iv, pv, .slice na notes.length nc] 25))
  have B0 : Below w.heap.size w (w.alloc (Obj.cells #[.int .i64 iv, pv, .slice na notes.length nc] 25)) := by go_grown
  have HB0 := Lib.hid B0
  clear hN B0
  go_enter Tryz.func68, Tryz.ntmps68
  go_wp2_with fail
  generalize w.alloc (Obj.cells #[.int .i64 iv, pv, .slice na notes.length nc] 25) = W at *
  have hlt0 := lt_of_block HA.out
  have nI : (notes.length : Int) ≤ 12 := by omega
  go_loopw [3, 4] (fun v i wr => ∃ k : Nat, k ≤ notes.length ∧ i = .int .i64 k ∧ wr.ownsRow W.heap.size 3 1 v (ixL k).length ((ixL k).map (Value.int .i64)) ∧ Hid (Below W.heap.size W wr)) (fun _ i _ => notes.length - (intOf i).toNat)
  case atStart => exact ⟨0, Nat.zero_le _, rfl, World.ownsRow_nil _ _ _ _, Below.refl _ _⟩
  case round =>
    obtain ⟨k, hk, rfl, hown, HB⟩ := hrel
    have kI : (k : Int) ≤ 12 := by omega
    have a2 := cellOf ((HB.out.block w.heap.size hlt0).trans HA.out) 2 _ rfl
    by_cases hlt : k < notes.length
    · have kl : (k : Int) < (notes.length : Int) := by omega
      have HT : Hid (ixL (k + 1) = ixL k ++ [(k : Int)]) := ixL_succ k
      have hkl := ixL_len k
      have hs2 := HB.out.size
      have hownA := hown.alloc (Obj.cells #[.int .i64 k] 3)
      go_wp2_with (first
        | (at_builtin; refine wpList_append_own _ rfl _ _ 43 rfl W.heap.size 3 i0 (.int .i64 0) 1 8 Tryz.underlying43 hi HI.out.1 HI.out.2.1 HI.out.2.2 rfl (by decide) _ _ _ rfl hownA ⟨wr.heap.size, 0, none⟩ 1 1 [.int .i64 k] rfl rfl ?c1 ?c2 ?c3 ?c4 ?c5 ?_))
      case c1 =>
        intro j u hj
        match j, hj with
        | 0, hj => simp at hj; subst hj; simp [Addr.add]
      case c2 => intro u hu; simp at hu; subst hu; rfl
      case c3 => unfold maxLen; omega
      case c4 => omega
      case c5 => simp; omega
      intro v' w3 hown3 hgrow _
      have hB3 : Below W.heap.size W w3 := (HB.out.alloc hs2 (Obj.cells #[.int .i64 k] 3)).grown hgrow (by simp; omega) (fun g hg => (hownA.lt g hg).1)
      have HB3 := Lib.hid hB3
      have HO3 : Hid (w3.ownsRow W.heap.size 3 1 v' (ixL (k + 1)).length ((ixL (k + 1)).map (Value.int .i64))) := by show w3.ownsRow _ _ _ _ _ _; rw [HT.out]; simpa [ixL_len] using hown3
      clear hgrow hownA hB3 hown hown3 HT
      go_wp2
      go_round
      case rel => exact ⟨k + 1, by omega, by go_num, HO3.out, HB3⟩
      case measure => simp [intOf]; omega
    · obtain rfl : k = notes.length := by omega
      have HIN := Lib.hid (intsAt_own hown (by rw [ixL_len]; omega))
      clear hown hlt
      go_wp2
      go_ret
      exact ⟨_, rfl, HIN.out, HB0.out.trans (HB.out.mono HB0.out.size)⟩

theorem all_from {s : Sheet} {pv nv : Value} {w w' : World} (hS : SheetAt w.heap.size w pv nv s) (hn : s.notes.length ≤ 12) (hb : Below w.heap.size w w') :
    Calls Tryz.prog 68 #[.agg #[.int .i64 s.iv, pv, nv]] w' (AllP s.notes.length w') := all_any s pv nv w' ((hS.notes.below hb).mono hb.size) hn
def BndAll (s : Sheet) (w : World) (e : Ending) (w' : World) : Prop :=
  ∃ (g c : Nat) (r : Nat → Nat), e = .returned (.tuple #[.slice (some ⟨g, 0, none⟩) (s.pts.length + 1) c, .bool (fitB s.iv 0 s.notes)]) ∧ NarP w.heap.size w (s.pts.length + 1) g r (refM s.iv 0 s.pts.length s.notes) w'
theorem bounds_from {s : Sheet} {pv nv lv : Value} {w w8 w' : World} (hS : SheetAt w.heap.size w pv nv s) (hv : ValidS s) (hL : IntsAt w8 lv (ixL s.notes.length)) (hb : Below w.heap.size w w') (hb8 : Below w8.heap.size w8 w') :
    Calls Tryz.prog 67 #[.agg #[.int .i64 s.iv, pv, nv], lv, .int .i64 0] w' (BndAll s w') := by
  refine (bounds_any s pv nv lv (ixL s.notes.length) 0 w' ((hS.below hb).mono hb.size) hv (hL.below hb8) (ixL_in _) (by omega)).mono ?_
  rintro e w2 ⟨g, c, r, rfl, hN⟩
  rw [pick_all] at hN ⊢
  refine ⟨g, c, r, ?_, hN⟩
  rw [refB_iff hv.np8 (by omega) (by omega) (all_ok hv)]
  rfl

set_option maxRecDepth 100000 in
set_option maxHeartbeats 4000000 in
theorem rfits_any (s : Sheet) (pv nv : Value) (w : World) (hS : SheetAt w.heap.size w pv nv s) (hcap : CapOk pv) :
    Calls Tryz.prog 21 #[.agg #[.int .i64 s.iv, pv, nv]] w fun e w' => e = .returned (.tuple #[.bool (fitsS s), .int .i64 (errS s)]) ∧ Below w.heap.size w w' := by
  obtain ⟨iv, pts, notes⟩ := s
  obtain ⟨lp, pa, pc, rfl, _⟩ := id hS.pts
  obtain ⟨ln, na, nc, rfl, _⟩ := id hS.notes
  simp only at hS lp ln ⊢
  have HS := Lib.hid hS
  have B0 : Below w.heap.size w (w.alloc (Obj.cells #[.int .i64 iv, .slice pa pts.length pc, .slice na notes.length nc] 25)) := by go_grown
  have HC := Lib.hid (rcheck_any ⟨iv, pts, notes⟩ (.slice pa pts.length pc) (.slice na notes.length nc) (w.alloc (Obj.cells #[.int .i64 iv, .slice pa pts.length pc, .slice na notes.length nc] 25)) ((hS.below B0).mono B0.size) hcap)
  clear hS
  go_enter Tryz.func21, Tryz.ntmps21
  go_wp2_with fail
  refine HC.out.mono ?_
  rintro e w1 ⟨rfl, hb1⟩
  have HB1 := Lib.hid (below_next B0 hb1 B0.size)
  have HA1 := Lib.hid ((hb1.block w.heap.size (by simp)).trans (heap_alloc_new w (Obj.cells #[.int .i64 iv, .slice pa pts.length pc, .slice na notes.length nc] 25)))
  obtain ⟨p, q, r, hpq⟩ : ∃ p q r, Hid (checkS ⟨iv, pts, notes⟩ = (p, q, r)) := ⟨_, _, _, rfl⟩
  rw [hpq.out]
  have HE : Hid (errS ⟨iv, pts, notes⟩ = r) := by show _ = _; unfold errS; rw [hpq.out]
  clear hb1 B0 HC
  by_cases hr : r = 0
  · have tr : (r != 0) = false := by simp [hr]
    have hv := (check_valid ⟨iv, pts, notes⟩).1 (by rw [hpq.out]; exact hr)
    have HV := Lib.hid hv
    have HS1 := Lib.hid ((HS.out.below HB1.out).mono HB1.out.size)
    have HF : Hid (fitsS ⟨iv, pts, notes⟩ = fitB iv 0 notes ∧ r = 0) := ⟨fitsS_of hv, hr⟩
    have a0 := cellOf HA1.out 0 _ rfl
    have a1 := cellOf HA1.out 1 _ rfl
    have a2 := cellOf HA1.out 2 _ rfl
    have ht := lt_of_block HA1.out
    have hn12 : notes.length ≤ 12 := hv.nn
    clear hr hv HS
    go_wp2_with fail
    go_region_held3 (fun W' => W'.cell? ⟨w.heap.size, 0, none⟩ = some (.int .i64 iv) ∧ W'.cell? ⟨w.heap.size, 1, none⟩ = some (.slice pa pts.length pc) ∧ W'.cell? ⟨w.heap.size, 2, none⟩ = some (.slice na notes.length nc))
      (first | exact ⟨a0, a1, a2⟩ | exact ⟨c0, c1, c2⟩ | exact ⟨d0, d1, d2⟩)
      (first
        | (go_at_call 68; refine (all_from HS1.out hn12 (by go_grown)).mono ?_; rintro e w8 ⟨lv, rfl, hL8, hb8⟩; have hB8 := below_next (B := w1.heap.size) (a := w1) (by go_grown) hb8 (by simp); have c0 := (hB8.cell (p := ⟨w.heap.size, 0, none⟩) ht).trans a0; have c1 := (hB8.cell (p := ⟨w.heap.size, 1, none⟩) ht).trans a1; have c2 := (hB8.cell (p := ⟨w.heap.size, 2, none⟩) ht).trans a2)
        | (go_at_call 67; refine (bounds_from HS1.out HV.out hL8 (hB8.trans (by go_grown)) (by go_grown)).mono ?_; rintro e w9 ⟨g9, c9, r9, rfl, hN9⟩; have hB9 := below_next (B := w1.heap.size) (a := w1) (hB8.trans (by go_grown)) hN9.below (Nat.le_trans hB8.size (by simp)); have d0 := (hB9.cell (p := ⟨w.heap.size, 0, none⟩) ht).trans a0; have d1 := (hB9.cell (p := ⟨w.heap.size, 1, none⟩) ht).trans a1; have d2 := (hB9.cell (p := ⟨w.heap.size, 2, none⟩) ht).trans a2))
    all_goals
      have HB9 := Lib.hid (HB1.out.trans (hB9.mono HB1.out.size))
      clear hB8 hB9 hN9 hb8 hL8 a0 a1 a2 c0 c1 c2 d0 d1 d2
      go_wp2
      go_ret2
      exact ⟨by rw [HF.out.1, HE.out, HF.out.2]; rfl, HB9.out⟩
  · have tr : (r != 0) = true := by simp [hr]
    have HZ : Hid (fitsS ⟨iv, pts, notes⟩ = false) := by show _ = _; unfold fitsS; rw [HE.out, if_neg hr]
    clear hr
    go_wp2
    go_ret2
    exact ⟨by rw [HZ.out, HE.out]; rfl, HB1.out⟩

/-- What bound of the reference leaves. -/
def BoundP (s : Sheet) (w : World) (e : Ending) (w' : World) : Prop :=
  (measE s ≠ 0 ∧ e = .returned (.tuple #[.slice none 0 0, .int .i64 (measE s)]) ∧ Below w.heap.size w w') ∨
  (ValidS s ∧ fitB s.iv 0 s.notes = true ∧ ∃ (g c : Nat) (r : Nat → Nat), e = .returned (.tuple #[.slice (some ⟨g, 0, none⟩) (s.pts.length + 1) c, .int .i64 0]) ∧ NarP w.heap.size w (s.pts.length + 1) g r (refM s.iv 0 s.pts.length s.notes) w')

set_option maxRecDepth 100000 in
set_option maxHeartbeats 4000000 in
theorem bound_any (s : Sheet) (pv nv : Value) (w : World) (hS : SheetAt w.heap.size w pv nv s) (hcap : CapOk pv) :
    Calls Tryz.prog 71 #[.agg #[.int .i64 s.iv, pv, nv]] w (BoundP s w) := by
  obtain ⟨iv, pts, notes⟩ := s
  obtain ⟨lp, pa, pc, rfl, _⟩ := id hS.pts
  obtain ⟨ln, na, nc, rfl, _⟩ := id hS.notes
  simp only at hS lp ln ⊢
  have HS := Lib.hid hS
  have B0 : Below w.heap.size w (w.alloc (Obj.cells #[.int .i64 iv, .slice pa pts.length pc, .slice na notes.length nc] 25)) := by go_grown
  have HC := Lib.hid (rcheck_any ⟨iv, pts, notes⟩ (.slice pa pts.length pc) (.slice na notes.length nc) (w.alloc (Obj.cells #[.int .i64 iv, .slice pa pts.length pc, .slice na notes.length nc] 25)) ((hS.below B0).mono B0.size) hcap)
  clear hS
  go_enter Tryz.func71, Tryz.ntmps71
  go_wp2_with fail
  refine HC.out.mono ?_
  rintro e w1 ⟨rfl, hb1⟩
  have HB1 := Lib.hid (below_next B0 hb1 B0.size)
  have HA1 := Lib.hid ((hb1.block w.heap.size (by simp)).trans (heap_alloc_new w (Obj.cells #[.int .i64 iv, .slice pa pts.length pc, .slice na notes.length nc] 25)))
  obtain ⟨p, q, r, hpq⟩ : ∃ p q r, Hid (checkS ⟨iv, pts, notes⟩ = (p, q, r)) := ⟨_, _, _, rfl⟩
  rw [hpq.out]
  have HE : Hid (errS ⟨iv, pts, notes⟩ = r) := by show _ = _; unfold errS; rw [hpq.out]
  clear hb1 B0 HC
  by_cases hr : r = 0
  · have tr : (r != 0) = false := by simp [hr]
    have hv := (check_valid ⟨iv, pts, notes⟩).1 (by rw [hpq.out]; exact hr)
    have HV := Lib.hid hv
    have HS1 := Lib.hid ((HS.out.below HB1.out).mono HB1.out.size)
    have a0 := cellOf HA1.out 0 _ rfl
    have a1 := cellOf HA1.out 1 _ rfl
    have a2 := cellOf HA1.out 2 _ rfl
    have ht := lt_of_block HA1.out
    have hn12 : notes.length ≤ 12 := hv.nn
    clear hr hv HS
    go_wp2_with fail
    go_region_held3 (fun W' => W'.cell? ⟨w.heap.size, 0, none⟩ = some (.int .i64 iv) ∧ W'.cell? ⟨w.heap.size, 1, none⟩ = some (.slice pa pts.length pc) ∧ W'.cell? ⟨w.heap.size, 2, none⟩ = some (.slice na notes.length nc))
      (first | exact ⟨a0, a1, a2⟩ | exact ⟨c0, c1, c2⟩ | exact ⟨d0, d1, d2⟩)
      (first
        | (go_at_call 68; refine (all_from HS1.out hn12 (by go_grown)).mono ?_; rintro e w8 ⟨lv, rfl, hL8, hb8⟩; have hB8 := below_next (B := w1.heap.size) (a := w1) (by go_grown) hb8 (by simp); have c0 := (hB8.cell (p := ⟨w.heap.size, 0, none⟩) ht).trans a0; have c1 := (hB8.cell (p := ⟨w.heap.size, 1, none⟩) ht).trans a1; have c2 := (hB8.cell (p := ⟨w.heap.size, 2, none⟩) ht).trans a2)
        | (go_at_call 67; refine (bounds_from HS1.out HV.out hL8 (hB8.trans (by go_grown)) (by go_grown)).mono ?_; rintro e w9 ⟨g9, c9, r9, rfl, hN9⟩; have hB9 := below_next (B := w1.heap.size) (a := w1) (hB8.trans (by go_grown)) hN9.below (Nat.le_trans hB8.size (by simp)); have hM9 := hN9.mx.mono (B' := w.heap.size) (Nat.le_trans HB1.out.size (Nat.le_trans hB8.size (by simp))); have d0 := (hB9.cell (p := ⟨w.heap.size, 0, none⟩) ht).trans a0; have d1 := (hB9.cell (p := ⟨w.heap.size, 1, none⟩) ht).trans a1; have d2 := (hB9.cell (p := ⟨w.heap.size, 2, none⟩) ht).trans a2))
    all_goals
      have HB9 := Lib.hid (HB1.out.trans (hB9.mono HB1.out.size))
      have HM9 := Lib.hid hM9
      clear hB8 hB9 hN9 hM9 hb8 hL8 a0 a1 a2 c0 c1 c2 d0 d1 d2
      obtain ⟨f, hf⟩ : ∃ f, Hid (fitB iv 0 notes = f) := ⟨_, rfl⟩
      rw [hf.out]
      cases f
      · have HZ : Hid (measE ⟨iv, pts, notes⟩ = 9) := meas_no HV.out hf.out
        go_wp2
        go_ret2
        exact .inl ⟨by rw [HZ.out]; decide, by rw [HZ.out]; rfl, HB9.out⟩
      · go_wp2
        go_ret2
        exact .inr ⟨HV.out, hf.out, g9, c9, r9, rfl, HM9.out, HB9.out⟩
  · have tr : (r != 0) = true := by simp [hr]
    have HZ : Hid (measE ⟨iv, pts, notes⟩ = r) := by show _ = _; unfold measE; rw [HE.out, if_neg hr]
    have HR := Lib.hid hr
    clear hr
    go_wp2
    go_ret2
    exact .inl ⟨by rw [HZ.out]; exact HR.out, by rw [HZ.out]; rfl, HB1.out⟩
end Go.Proofs.YtpmnnomeaaaenaaGreatDoor
namespace Go.Proofs.YtpmnnomeaaaenaaGreatDoor
open Go Go.RowKit Hs Dc

theorem spnAt_own {w : World} {base : Nat} {v : Value} {l : List (Int × Int)} (hne : 0 < l.length) (h : w.ownsRow base 40 2 v l.length (spnC l)) (hl : l.length ≤ 100) : SpnAt w v l := by
  have h' := h
  obtain ⟨h0, h1⟩ := h
  rcases h1 with ⟨_, e⟩ | ⟨g, cap, cur, rfl, r2, r3, r4⟩
  · omega
  · refine ⟨hl, g, 0, cap, rfl, (h'.lt g rfl).2, fun k hk => ?_⟩
    obtain ⟨e1, e2⟩ := spnC_get l k hk
    have hlen := spnC_len l
    exact ⟨by rw [Nat.zero_add]; exact (h'.cellAt (k * 2) (by omega)).trans e1, by rw [Nat.zero_add]; exact (h'.cellAt (k * 2 + 1) (by omega)).trans e2⟩

theorem step_span {ops : Array Oper} {o : Oper} {a : Act} {K : Act → World → Prop} {Q : Exit → Act → World → Prop} {E : Prop} {w : World} (hgd : o.guard = none) (s x : Operand)
    (ho : o.op = .call { callee := .builtin .append, args := #[s, x], argTypes := #[35, 35] })
    (base : Nat) (v : Value) (g n : Nat) (xs : List Value) (p q : Int) (hs : a.eval s = v) (hx : a.eval x = .slice (some ⟨g, 0, none⟩) 1 1) (hown : w.ownsRow base 40 2 v n xs)
    (hg : w.heap[g]? = some (.cells #[.int .i64 p, .int .i64 q] 40 (0, 0))) (hb : base ≤ w.heap.size) (hlen : n ≤ 1000)
    (h : ∀ v' w', w'.ownsRow base 40 2 v' (n + 1) (xs ++ [.int .i64 p, .int .i64 q]) → w.grownBy w' v.ownBlock → (∀ k, v.ownBlock = some k → base ≤ k) → K (a.put o.dst v') w') :
    if Region.wanted o (yielded ops a.tmps) = true then Oper.wp Tryz.prog o a w K Q else E := by
  obtain ⟨i0, hi⟩ := info_of_underlying Tryz.underlying40
  have HI : i0.zero = some (.agg #[.int .i64 0, .int .i64 0]) ∧ i0.size = 2 ∧ i0.bytes = 16 := by
    have h := spanInfo
    rw [hi] at h
    simp at h
    exact h
  rw [if_pos (by simp [Region.wanted, hgd])]
  obtain ⟨v', w', hrun, h2, h3, _, _⟩ := run_append_own_at (P := Tryz.prog) w base 35 o.type 40 i0 _ 2 16 Tryz.underlying35 hi HI.1 HI.2.1 HI.2.2 rfl (by decide) v n xs hown ⟨g, 0, none⟩ 1 1 [.int .i64 p, .int .i64 q] rfl (fun j u hj => by
    match j, hj with
    | 0, hj => simp at hj; subst hj; exact cellOf hg 0 _ rfl
    | 1, hj => simp at hj; subst hj; exact cellOf hg 1 _ rfl) (fun u hu => by simp at hu; rcases hu with rfl | rfl <;> rfl) (by unfold maxLen; omega) (by omega) hb
  unfold Oper.wp execOp
  simp only [ho, resolve, invoke, builtin, Sem.run_bind, Sem.run_pure, Result.andThen_ok, List.map_toArray, List.map_cons, List.map_nil, hs, hx, hrun]
  exact h v' w' h2 h3 (fun k hk => (hown.lt k hk).1)

set_option maxRecDepth 100000 in
set_option maxHeartbeats 4000000 in
theorem rheights_any (s : Sheet) (pv nv : Value) (w : World) (hS : SheetAt w.heap.size w pv nv s) (hcap : CapOk pv) :
    Calls Tryz.prog 23 #[.agg #[.int .i64 s.iv, pv, nv]] w fun e w' => ∃ v, e = .returned (.tuple #[v, .int .i64 (measE s)]) ∧ (measE s = 0 → SpnAt w' v (heightS s)) ∧ (measE s ≠ 0 → v = .slice none 0 0) ∧ Below w.heap.size w w' := by
  obtain ⟨i0, hi⟩ := info_of_underlying Tryz.underlying40
  have HI : Hid (i0.zero = some (.agg #[.int .i64 0, .int .i64 0]) ∧ i0.size = 2 ∧ i0.bytes = 16) := by
    have h := spanInfo
    rw [hi] at h
    simp at h
    exact h
  obtain ⟨iv, pts, notes⟩ := s
  obtain ⟨lp, pa, pc, rfl, _⟩ := id hS.pts
  obtain ⟨ln, na, nc, rfl, _⟩ := id hS.notes
  simp only at hS lp ln ⊢
  have B0 : Below w.heap.size w (w.alloc (Obj.cells #[.int .i64 iv, .slice pa pts.length pc, .slice na notes.length nc] 25)) := by go_grown
  have HC := Lib.hid (bound_any ⟨iv, pts, notes⟩ (.slice pa pts.length pc) (.slice na notes.length nc) (w.alloc (Obj.cells #[.int .i64 iv, .slice pa pts.length pc, .slice na notes.length nc] 25)) ((hS.below B0).mono B0.size) hcap)
  clear hS
  go_enter Tryz.func23, Tryz.ntmps23
  go_wp2_with fail
  refine HC.out.mono ?_
  rintro e w1 (⟨hne, rfl, hb1⟩ | ⟨hv, hf, g, c, r, rfl, hN⟩)
  · have HB1 := Lib.hid (below_next B0 hb1 B0.size)
    have tr : (measE ⟨iv, pts, notes⟩ != 0) = true := by simp [hne]
    have HNE := Lib.hid hne
    obtain ⟨z, hz⟩ : ∃ z, Hid (measE ⟨iv, pts, notes⟩ = z) := ⟨_, rfl⟩
    rw [hz.out] at tr ⊢
    clear hb1 B0 HC hne
    go_wp2
    go_ret2
    exact ⟨_, by rw [hz.out]; rfl, fun h => absurd h HNE.out, fun _ => rfl, HB1.out⟩
  · have hb1 := hN.below
    have HB1 := Lib.hid (below_next B0 hb1 B0.size)
    have HA1 := Lib.hid ((hb1.block w.heap.size (by simp)).trans (heap_alloc_new w (Obj.cells #[.int .i64 iv, .slice pa pts.length pc, .slice na notes.length nc] 25)))
    have HM := Lib.hid hN.mx
    have HZ : Hid (measE ⟨iv, pts, notes⟩ = 0) := (meas_fit hv hf).2
    have HH := Lib.hid (rhtL_all hv hf)
    have HBD := Lib.hid (refM_bd9 hv.np8 (all_ok hv) hf)
    have np8 : pts.length ≤ 8 := hv.np8
    have np1 : 1 ≤ pts.length := hv.np1
    have npI : (pts.length : Int) ≤ 8 := by omega
    simp only at HH HBD
    generalize refM iv 0 pts.length notes = F at *
    have a1 := cellOf HA1.out 1 _ rfl
    have hsz := HB1.out.size
    clear hb1 B0 HC hN hv hf
    go_wp2_with fail
    clear a1
    go_loopw [6, 8] (fun v i wr => ∃ k : Nat, k ≤ pts.length ∧ i = .int .i64 k ∧ wr.ownsRow w1.heap.size 40 2 v (rhtL F pts.length k).length (spnC (rhtL F pts.length k)) ∧ Hid (Below w1.heap.size w1 wr)) (fun _ i _ => pts.length - (intOf i).toNat)
    case atStart => exact ⟨0, Nat.zero_le _, rfl, World.ownsRow_nil _ _ _ _, Below.refl _ _⟩
    case round =>
      obtain ⟨k, hk, rfl, hown, HB⟩ := hrel
      have kI : (k : Int) ≤ 8 := by omega
      by_cases hlt : k < pts.length
      · have kl : (k : Int) < (pts.length : Int) := by omega
        have kl2 : (k : Int) < (pts.length : Int) + 1 := by omega
        have pl2 : (pts.length : Int) < (pts.length : Int) + 1 := by omega
        have HMr := HM.out.below HB.out
        obtain ⟨c1, o1⟩ := HMr.outer k (by omega)
        obtain ⟨c2, o2⟩ := HMr.outer pts.length (by omega)
        have e1 := HMr.cell (i := k) (n := pts.length) (by omega) (by omega)
        have e2 := HMr.cell (i := pts.length) (n := k) (by omega) (by omega)
        have b1 := HBD.out k pts.length (by omega) (by omega)
        have b2 := HBD.out pts.length k (by omega) (by omega)
        have HT : Hid (rhtL F pts.length (k + 1) = rhtL F pts.length k ++ [(-(F k pts.length), F pts.length k)]) := rhtL_succ F pts.length k
        have hkl := rhtL_len F pts.length k
        generalize F k pts.length = x at *
        generalize F pts.length k = y at *
        generalize r k = g1 at *
        generalize r pts.length = g2 at *
        have hs2 := HB.out.size
        have hwr : IntKind.i64.wrap (-x) = -x := by rw [IntKind.wrap_i64]; omega
        go_wp2_with fail
        go_region_law (refine step_span (by rfl) _ _ (by rfl) w1.heap.size _ _ _ _ (-x) y (by rfl) (by rfl) (by first | exact hown.alloc _ | exact hown.drew.alloc _) (by first | exact heap_alloc_new _ _ | exact heap_alloc_new wr (Obj.cells #[.int .i64 (-x), .int .i64 y] 40)) (by simp; omega) (by omega) ?_; intro v' w3 hown3 hgrow3 hrow3; have HB3 : Hid (Below w1.heap.size w1 w3) := (by first | exact (HB.out.alloc hs2 _).grown hgrow3 (by simp; omega) hrow3 | exact (HB.out.drew.alloc hs2 _).grown hgrow3 (by simp; omega) hrow3))
        all_goals
          have HO3 : Hid (w3.ownsRow w1.heap.size 40 2 v' (rhtL F pts.length (k + 1)).length (spnC (rhtL F pts.length (k + 1)))) := by show w3.ownsRow _ _ _ _ _ _; rw [HT.out, spnC_snoc]; simpa [rhtL_len] using hown3
          clear hgrow3 hrow3 hown3 hown HT HB o1 o2 e1 e2 HMr
          go_wp2
          go_round
          case rel => exact ⟨k + 1, by omega, by go_num, HO3.out, HB3⟩
          case measure => simp [intOf]; omega
      · have e : k = pts.length := by omega
        subst e
        have HSP := Lib.hid (spnAt_own (by rw [rhtL_len]; omega) hown (by rw [rhtL_len]; omega))
        rw [HH.out] at HSP
        clear hown hlt
        go_wp2
        go_ret2
        exact ⟨_, by rw [HZ.out]; rfl, fun _ => HSP.out, fun h => absurd HZ.out h, HB1.out.trans (HB.out.mono hsz)⟩
end Go.Proofs.YtpmnnomeaaaenaaGreatDoor
namespace Go.Proofs.YtpmnnomeaaaenaaGreatDoor
open Go Go.RowKit Hs Dc

/-- The first i rows of a square, copied: the row of slices is v, its cells cur. -/
structure TopIn (B : Nat) (w : World) (N i : Nat) (r : Nat → Nat) (v : Value) (cur : List Value) (T : Mx) : Prop where
  outer : w.ownsRow B 43 1 v i cur
  sl : ∀ j, j < i → ∃ c, cur[j]? = some (.slice (some ⟨r j, 0, none⟩) N c)
  r0 : ∀ j, j < i → B ≤ r j
  inj : ∀ j l, j < i → l < i → r j = r l → j = l
  rows : ∀ j, j < i → ∃ cu : Array Value, w.heap[r j]? = some (.cells cu 3 (0, 0)) ∧ ∀ n, n < N → cu[n]? = some (.int .i64 (T j n))
theorem TopIn.rlt {B N i : Nat} {w : World} {r : Nat → Nat} {v : Value} {cur : List Value} {T : Mx} (h : TopIn B w N i r v cur T) {j : Nat} (hj : j < i) : r j < w.heap.size := by
  obtain ⟨cu, h1, _⟩ := h.rows j hj
  exact lt_of_block h1
theorem TopIn.ne {B N i : Nat} {w : World} {r : Nat → Nat} {v : Value} {cur : List Value} {T : Mx} (h : TopIn B w N i r v cur T) {j : Nat} (hj : j < i) : v.ownBlock ≠ some (r j) := by
  intro e
  obtain ⟨cu, h1, _⟩ := h.rows j hj
  rcases h.outer.2 with ⟨rfl, _⟩ | ⟨g, cap, c', rfl, _, q, _⟩
  · simp [Value.ownBlock] at e
  · simp [Value.ownBlock] at e
    rw [e, h1] at q
    injection q with q
    injection q with _ q
    exact absurd q (by decide)
theorem TopIn.start (B : Nat) (w : World) (N : Nat) (T : Mx) : TopIn B w N 0 (fun _ => 0) (.slice none 0 0) [] T :=
  ⟨World.ownsRow_nil _ _ _ _, fun j hj => by omega, fun j hj => by omega, fun j l hj => by omega, fun j hj => by omega⟩
theorem TopIn.next {B N i : Nat} {w w3 w4 : World} {r : Nat → Nat} {v u v' : Value} {cur : List Value} {T : Mx} (hN : 0 < N) (h : TopIn B w N i r v cur T) (hw : B ≤ w.heap.size) (hb3 : Below w.heap.size w w3)
    (hu : w3.ownsRow w.heap.size 3 1 u N ((List.range N).map fun n => Value.int .i64 (T i n))) (hg : w3.grownBy w4 v.ownBlock) (ho : w4.ownsRow B 43 1 v' (i + 1) (cur ++ [u])) :
    ∃ r', TopIn B w4 N (i + 1) r' v' (cur ++ [u]) T := by
  have hcl : cur.length = i := by have := h.outer.1; omega
  have hlt := h.outer.lt
  obtain ⟨h0, ⟨_, e⟩ | ⟨ri, cap, cu, rfl, q2, q3, q4, q5, q6, q7⟩⟩ := hu
  · omega
  refine ⟨fun j => if j = i then ri else r j, ho, fun j hj => ?_, fun j hj => ?_, fun j l hj hl e => ?_, fun j hj => ?_⟩
  · by_cases e : j = i
    · subst e
      rw [if_pos rfl]
      exact ⟨cap, by rw [List.getElem?_append_right (by omega), hcl]; simp⟩
    · rw [if_neg e, List.getElem?_append_left (by omega)]
      exact h.sl j (by omega)
  · by_cases e : j = i
    · rw [if_pos e]; omega
    · rw [if_neg e]; exact h.r0 j (by omega)
  · by_cases e1 : j = i <;> by_cases e2 : l = i
    · omega
    · rw [if_pos e1, if_neg e2] at e
      have := h.rlt (j := l) (by omega)
      omega
    · rw [if_neg e1, if_pos e2] at e
      have := h.rlt (j := j) (by omega)
      omega
    · rw [if_neg e1, if_neg e2] at e
      exact h.inj j l (by omega) (by omega) e
  · by_cases e : j = i
    · subst e
      rw [if_pos rfl]
      refine ⟨cu, (hg.block ri (lt_of_block q3) (fun e => ?_)).trans q3, fun n hn => ?_⟩
      · have := (hlt ri e.symm).2
        omega
      · have : (cu.toList.take (N * 1))[n]? = ((List.range N).map fun n => Value.int .i64 (T j n))[n]? := by rw [q7]
        rw [List.getElem?_take_of_lt (by omega), Array.getElem?_toList] at this
        rw [this]
        simp [hn]
    · rw [if_neg e]
      obtain ⟨cu', h1, h2⟩ := h.rows j (by omega)
      have hl1 := lt_of_block h1
      exact ⟨cu', (hg.block _ (Nat.lt_of_lt_of_le hl1 hb3.size) (fun e' => h.ne (by omega) e'.symm)).trans ((hb3.block _ hl1).trans h1), h2⟩
theorem TopIn.done {B N : Nat} {w : World} {r : Nat → Nat} {v : Value} {cur : List Value} {T : Mx} (hN : 0 < N) (h : TopIn B w N N r v cur T) : ∃ g c, v = .slice (some ⟨g, 0, none⟩) N c ∧ MxIn B w N g r T := by
  have h' := h.outer
  rcases h'.2 with ⟨_, e⟩ | ⟨g, cap, c', rfl, q2, q3, _⟩
  · omega
  · refine ⟨g, cap, rfl, q2, fun j hj => ⟨h.r0 j hj, fun e => h.ne hj (by rw [e]; rfl)⟩, h.inj, lt_of_block q3, fun j hj => ?_, fun j hj => ?_⟩
    · obtain ⟨c, hc⟩ := h.sl j hj
      exact ⟨c, (h'.cellAt j (by omega)).trans hc⟩
    · obtain ⟨cu, h1, h2⟩ := h.rows j hj
      exact ⟨cu, _, h1, h2⟩
theorem mx_news {Bs N g0 i : Nat} {w w' : World} {r0 : Nat → Nat} {F : Mx} (h : MxIn Bs w N g0 r0 F) (hi : i < N) (hb : Below w.heap.size w w') : ∀ j u, ((List.range N).map fun n => Value.int .i64 (F i n))[j]? = some u → w'.cell? ((⟨r0 i, 0, none⟩ : Addr).add j) = some u := by
  intro j u hu
  have hj : j < N := by have := (List.getElem?_eq_some_iff.1 hu).1; simpa using this
  rw [Go.WideShapes.add_plain, Nat.zero_add]
  simp [hj] at hu
  subst hu
  exact (hb.cell (p := ⟨r0 i, j, none⟩) (h.rlt hi)).trans (h.cell hi hj)

set_option maxRecDepth 100000 in
set_option maxHeartbeats 4000000 in
theorem rtop_any (Bs g0 c0 N p : Nat) (r0 : Nat → Nat) (F : Mx) (w : World) (hM : MxIn Bs w N g0 r0 F) (hN : N ≤ 9) (hp : p + 1 < N) (hbd : ∀ a b, a < N → b < N → -9000 ≤ F a b ∧ F a b ≤ 9000) :
    Calls Tryz.prog 74 #[.slice (some ⟨g0, 0, none⟩) N c0, .int .i64 p] w fun e w' => e = .returned (.bool (diagOk N (fwF N (topT F p (N - 1)) N))) ∧ Below w.heap.size w w' := by
  obtain ⟨i0, hi⟩ := info_of_underlying Tryz.underlying3
  have HI : Hid (i0.zero = some (.int .i64 0) ∧ i0.size = 1 ∧ i0.bytes = 8) := by
    have h := intInfo
    rw [hi] at h
    simp at h
    exact h
  obtain ⟨j0, hj⟩ := info_of_underlying Tryz.underlying43
  have HJ : Hid (j0.zero = some (.slice none 0 0) ∧ j0.size = 1 ∧ j0.bytes = 24) := by
    have h := rowInfo
    rw [hj] at h
    simp at h
    exact h
  have HM := Lib.hid hM
  have HBD := Lib.hid hbd
  have nI : (N : Int) ≤ 9 := by omega
  have HT0 : Hid (TopIn w.heap.size w N 0 (fun _ => 0) (.slice none 0 0) [] F ∧ Below w.heap.size w w) := ⟨TopIn.start _ _ _ _, Below.refl _ _⟩
  clear hM hbd
  go_enter Tryz.func74, Tryz.ntmps74
  go_wp2
  go_loopw [5, 6] (fun v i wr => ∃ (k : Nat) (r : Nat → Nat) (cur : List Value), k ≤ N ∧ i = .int .i64 k ∧ Hid (TopIn w.heap.size wr N k r v cur F ∧ Below w.heap.size w wr)) (fun _ i _ => N - (intOf i).toNat)
  case atStart => exact ⟨0, _, _, Nat.zero_le _, rfl, HT0.out⟩
  case round =>
    obtain ⟨k, r, cur, hk, rfl, HT⟩ := hrel
    by_cases hlt : k < N
    · have kl : (k : Int) < (N : Int) := by omega
      have HMr := Lib.hid (HM.out.below HT.out.2)
      obtain ⟨c1, o1⟩ := HMr.out.outer k hlt
      have HB1 : Hid (Below wr.heap.size wr (wr.alloc (Obj.cells #[] 3))) := (Below.refl _ _).alloc (Nat.le_refl _) _
      have hnews := Lib.hid (mx_news HMr.out hlt HB1.out)
      have hmade : (wr.alloc (Obj.cells #[] 3)).ownsRow wr.heap.size 3 1 (.slice (some ⟨wr.heap.size, 0, none⟩) 0 0) 0 [] := World.ownsRow_made wr #[] 0 (Nat.le_refl _) (by decide) rfl
      have hlt0 := World.block_lt_of_cell? wr _ o1
      obtain ⟨gk, hgk⟩ : ∃ gk, Hid (r0 k = gk) := ⟨_, rfl⟩
      rw [hgk.out] at o1 hnews
      go_wp2_with (first
        | (at_builtin; refine wpList_append_own _ rfl _ _ 43 rfl wr.heap.size 3 i0 (.int .i64 0) 1 8 Tryz.underlying43 hi HI.out.1 HI.out.2.1 HI.out.2.2 rfl (by decide) _ _ _ rfl hmade ⟨gk, 0, none⟩ N c1 ((List.range N).map fun n => Value.int .i64 (F k n)) rfl ?c0 hnews.out ?c2 ?c3 ?c4 ?c5 ?_))
      case c2 => intro u hu; first | (obtain ⟨x, _, rfl⟩ := List.mem_map.1 hu; rfl) | rfl
      case c3 => unfold maxLen; omega
      case c4 => omega
      intro u w2 hu hgrow _
      have hB2 : Below wr.heap.size wr w2 := HB1.out.grown hgrow (by simp) (fun g hg => by simp [Value.ownBlock] at hg; omega)
      have hs2 := hB2.size
      obtain ⟨ua, uc, rfl⟩ := own_slice hu
      have HB2 := Lib.hid (hB2.alloc hs2 (Obj.cells #[.slice ua N uc] 43))
      have HU := Lib.hid (hu.alloc (Obj.cells #[.slice ua N uc] 43))
      have hvo := (own_below HT.out.1.outer hB2).alloc (Obj.cells #[.slice ua N uc] 43)
      have hsw := HT.out.2.size
      clear hgrow hmade hnews HMr hB2 hu o1
      go_wp2_with (first
        | (at_builtin; refine wpList_append_own _ rfl _ _ 93 rfl w.heap.size 43 j0 (.slice none 0 0) 1 24 Tryz.underlying93 hj HJ.out.1 HJ.out.2.1 HJ.out.2.2 rfl (by decide) _ _ _ rfl hvo ⟨w2.heap.size, 0, none⟩ 1 1 [.slice ua N uc] rfl rfl ?d1 ?d2 ?d3 ?d4 ?d5 ?_))
      case d1 =>
        intro j u hj
        match j, hj with
        | 0, hj => simp at hj; subst hj; simp [Addr.add]
      case d2 => intro u hu; simp at hu; subst hu; rfl
      case d3 => unfold maxLen; omega
      case d4 => omega
      case d5 => simp; omega
      intro v' w4 ho4 hgrow4 _
      have hB4 : Below w.heap.size w w4 := (below_next HT.out.2 HB2.out hsw).grown hgrow4 (by simp; omega) (fun g hg => (HT.out.1.outer.lt g hg).1)
      obtain ⟨r', hr'⟩ := TopIn.next (by omega) HT.out.1 hsw HB2.out HU.out hgrow4 ho4
      have HT4 := Lib.hid (And.intro hr' hB4)
      clear hgrow4 ho4 hB4 hr' hvo HU HB2 HT
      go_wp2
      go_round
      case rel => exact ⟨k + 1, r', _, by omega, by go_num, HT4.out⟩
      case measure => simp [intOf]; omega
    · have e : k = N := by omega
      subst e
      obtain ⟨g, c, rfl, hMx⟩ := HT.out.1.done (by omega)
      have HN0 : Hid (NarP w.heap.size wr k g r (topT F p 0) wr) := ⟨hMx, Below.refl _ _⟩
      have HBW := Lib.hid HT.out.2
      have hsw := HT.out.2.size
      clear hMx HT HM HT0
      obtain ⟨w5, HW5⟩ : ∃ w5, Hid (w5 = wr) := ⟨_, rfl⟩
      have HN1 : Hid (NarP w.heap.size w5 k g r (topT F p 0) wr) := by rw [HW5.out]; exact HN0.out
      rw [← HW5.out] at HBW hsw
      clear HW5 HN0
      go_wp2_with fail
      go_loopw [7] (fun i wr2 => ∃ n, n + 1 ≤ k ∧ i = .int .i64 n ∧ Hid (NarP w.heap.size w5 k g r (topT F p n) wr2)) (fun i _ => k - (intOf i).toNat)
      case atStart => exact ⟨0, by omega, rfl, HN1.out⟩
      case round =>
        obtain ⟨n, hn, rfl, HN⟩ := hrel
        by_cases hln : n + 1 < k
        · have nl : (n : Int) + 1 < (k : Int) := by omega
          have nl2 : (n : Int) < (k : Int) := by omega
          have pl : (p : Int) < (k : Int) := by omega
          have hpl : p < k := by omega
          have hbx := topT_bd (p := p) HBD.out hpl n (by omega) p n hpl (by omega)
          have c1 := HN.out.mx.cell hpl (show n < k by omega)
          obtain ⟨s1, o1⟩ := HN.out.mx.outer p hpl
          have f1 := HN.out.mx.frozen hpl n
          have HS : Hid (∀ gi, r p = gi → NarP w.heap.size w5 k g r (topT F p (n + 1)) (wr.drew.setCell ⟨gi, n, none⟩ (.int .i64 (min (topT F p n p n) 0)))) := fun gi e => HN.out.drew.put hpl e _ rfl
          obtain ⟨gi, hgi⟩ : ∃ gi, Hid (r p = gi) := ⟨_, rfl⟩
          rw [hgi.out] at c1 o1 f1
          have HS2 := Lib.hid (HS.out gi hgi.out)
          clear HS hgi
          generalize topT F p n p n = x at *
          go_wp2_with fail
          go_still_tail 14, (by kernel_rfl)
          have c1d : wr.drew.cell? ⟨gi, n, none⟩ = some (.int .i64 x) := c1
          have f1d : wr.drew.frozen? ⟨gi, n, none⟩ = false := f1
          change wpList _ _ _ _ _ wr.drew
          clear c1 o1 f1
          generalize wr.drew = w6 at *
          go_wp2
          go_round
          case rel => exact ⟨n + 1, by omega, by go_num, HS2.out⟩
          case measure => simp [intOf]; omega
        · have e : n = k - 1 := by omega
          have HT5 := Lib.hid (narrow_any w.heap.size k g c r (topT F p n) wr HN.out.mx hN (topT_bd (p := p) HBD.out (by omega) n (by omega)))
          have HB5 := Lib.hid (HBW.out.trans HN.out.below)
          have nl : ¬ ((n : Int) + 1 < (k : Int)) := by omega
          have HEQ := Lib.hid e
          clear HN HBD e
          go_wp2_with fail
          refine HT5.out.mono ?_
          rintro e w6 ⟨rfl, hN6⟩
          have HB6 := Lib.hid (HB5.out.trans hN6.below)
          clear hN6
          go_wp2
          go_ret
          exact ⟨by rw [← HEQ.out]; rfl, HB6.out⟩

set_option maxRecDepth 100000 in
set_option maxHeartbeats 4000000 in
theorem rhighest_any (s : Sheet) (pv nv : Value) (w : World) (hS : SheetAt w.heap.size w pv nv s) (hcap : CapOk pv) :
    Calls Tryz.prog 28 #[.agg #[.int .i64 s.iv, pv, nv]] w fun e w' => ∃ v, e = .returned (.tuple #[v, .int .i64 (measE s)]) ∧ IntsAt w' v (highS s) ∧ Below w.heap.size w w' := by
  obtain ⟨i0, hi⟩ := info_of_underlying Tryz.underlying3
  have HI : Hid (i0.zero = some (.int .i64 0) ∧ i0.size = 1 ∧ i0.bytes = 8) := by
    have h := intInfo
    rw [hi] at h
    simp at h
    exact h
  obtain ⟨iv, pts, notes⟩ := s
  obtain ⟨lp, pa, pc, rfl, _⟩ := id hS.pts
  obtain ⟨ln, na, nc, rfl, _⟩ := id hS.notes
  simp only at hS lp ln ⊢
  have B0 : Below w.heap.size w (w.alloc (Obj.cells #[.int .i64 iv, .slice pa pts.length pc, .slice na notes.length nc] 25)) := by go_grown
  have HC := Lib.hid (bound_any ⟨iv, pts, notes⟩ (.slice pa pts.length pc) (.slice na notes.length nc) (w.alloc (Obj.cells #[.int .i64 iv, .slice pa pts.length pc, .slice na notes.length nc] 25)) ((hS.below B0).mono B0.size) hcap)
  clear hS
  go_enter Tryz.func28, Tryz.ntmps28
  go_wp2_with fail
  refine HC.out.mono ?_
  rintro e w1 (⟨hne, rfl, hb1⟩ | ⟨hv, hf, g, c, r, rfl, hN⟩)
  · have HB1 := Lib.hid (below_next B0 hb1 B0.size)
    have tr : (measE ⟨iv, pts, notes⟩ != 0) = true := by simp [hne]
    have HH : Hid (highS ⟨iv, pts, notes⟩ = []) := by show _ = _; unfold highS; rw [if_neg hne]
    obtain ⟨z, hz⟩ : ∃ z, Hid (measE ⟨iv, pts, notes⟩ = z) := ⟨_, rfl⟩
    rw [hz.out] at tr ⊢
    clear hb1 B0 HC hne
    go_wp2
    go_ret2
    refine ⟨_, by rw [hz.out]; rfl, ?_, HB1.out⟩
    rw [HH.out]
    exact ⟨by simp, none, 0, rfl, fun h => absurd rfl h⟩
  · have hb1 := hN.below
    have HB1 := Lib.hid (below_next B0 hb1 B0.size)
    have HA1 := Lib.hid ((hb1.block w.heap.size (by simp)).trans (heap_alloc_new w (Obj.cells #[.int .i64 iv, .slice pa pts.length pc, .slice na notes.length nc] 25)))
    have HM := Lib.hid hN.mx
    have HZ : Hid (measE ⟨iv, pts, notes⟩ = 0) := (meas_fit hv hf).2
    have HH : Hid (highS ⟨iv, pts, notes⟩ = topsK (farM iv 0 notes) pts.length pts.length) := by show _ = _; unfold highS; rw [(meas_fit hv hf).2, if_pos rfl, (meas_fit hv hf).1]
    have HTP : Hid (∀ p, p < pts.length → diagOk (pts.length + 1) (fwF (pts.length + 1) (topT (refM iv 0 pts.length notes) p pts.length) (pts.length + 1)) = topB (farM iv 0 notes) p pts.length) := fun p hp => top_iff hv.np8 (all_ok hv) hf hp
    have HBD := Lib.hid (refM_bd9 hv.np8 (all_ok hv) hf)
    have np8 : pts.length ≤ 8 := hv.np8
    have npI : (pts.length : Int) ≤ 8 := by omega
    simp only at HBD
    generalize refM iv 0 pts.length notes = F at *
    generalize farM iv 0 notes = M at *
    have hsz := HB1.out.size
    have hlt0 := lt_of_block HA1.out
    clear hb1 B0 HC hN hv hf
    go_wp2_with fail
    go_loopw [6, 7] (fun v i wr => ∃ k : Nat, k ≤ pts.length ∧ i = .int .i64 k ∧ wr.ownsRow w1.heap.size 3 1 v (topsK M pts.length k).length ((topsK M pts.length k).map (Value.int .i64)) ∧ Hid (Below w1.heap.size w1 wr)) (fun _ i _ => pts.length - (intOf i).toNat)
    case atStart => exact ⟨0, Nat.zero_le _, rfl, World.ownsRow_nil _ _ _ _, Below.refl _ _⟩
    case round =>
      obtain ⟨k, hk, rfl, hown, HB⟩ := hrel
      have kI : (k : Int) ≤ 8 := by omega
      have a1 := cellOf ((HB.out.block w.heap.size hlt0).trans HA1.out) 1 _ rfl
      by_cases hlt : k < pts.length
      · have kl : (k : Int) < (pts.length : Int) := by omega
        have HTC := rtop_any _ g c (pts.length + 1) k r F wr (HM.out.below HB.out) (by omega) (by omega) HBD.out
        rw [Nat.add_sub_cancel, HTP.out k hlt] at HTC
        have HTC2 := Lib.hid HTC
        have hkl := topsK_le M pts.length k
        clear HTC
        go_wp2_with fail
        refine HTC2.out.mono ?_
        rintro e w2 ⟨rfl, hb2⟩
        have hown2 := own_below hown hb2
        have HB2 := Lib.hid (below_next HB.out hb2 HB.out.size)
        have hs2 := HB2.out.size
        clear a1 hown HTC2 hb2
        cases ht : topB M k pts.length
        · have HT : Hid (topsK M pts.length (k + 1) = topsK M pts.length k) := by show _ = _; rw [topsK_succ, ht]; rfl
          clear ht
          go_wp2
          go_round
          case rel => exact ⟨k + 1, by omega, by go_num, by rw [HT.out]; exact hown2, HB2.out⟩
          case measure => simp [intOf]; omega
        · have HT : Hid (topsK M pts.length (k + 1) = topsK M pts.length k ++ [(k : Int)]) := by show _ = _; rw [topsK_succ, ht]; rfl
          clear ht
          have hownA := hown2.alloc (Obj.cells #[.int .i64 k] 3)
          go_wp2_with (first
            | (at_builtin; refine wpList_append_own _ rfl _ _ 43 rfl w1.heap.size 3 i0 (.int .i64 0) 1 8 Tryz.underlying43 hi HI.out.1 HI.out.2.1 HI.out.2.2 rfl (by decide) _ _ _ rfl hownA ⟨w2.heap.size, 0, none⟩ 1 1 [.int .i64 k] rfl rfl ?c1 ?c2 ?c3 ?c4 ?c5 ?_))
          case c1 =>
            intro j u hj
            match j, hj with
            | 0, hj => simp at hj; subst hj; simp [Addr.add]
          case c2 => intro u hu; simp at hu; subst hu; rfl
          case c3 => unfold maxLen; omega
          case c4 => omega
          case c5 => simp; omega
          intro v' w3 hown3 hgrow _
          have hB3 : Below w1.heap.size w1 w3 := (HB2.out.alloc hs2 (Obj.cells #[.int .i64 k] 3)).grown hgrow (by simp; omega) (fun g hg => (hownA.lt g hg).1)
          have HB3 := Lib.hid hB3
          have HO3 : Hid (w3.ownsRow w1.heap.size 3 1 v' (topsK M pts.length (k + 1)).length ((topsK M pts.length (k + 1)).map (Value.int .i64))) := by show w3.ownsRow _ _ _ _ _ _; rw [HT.out]; simpa using hown3
          clear hgrow hownA hB3 hown3 hown2
          go_wp2
          go_round
          case rel => exact ⟨k + 1, by omega, by go_num, HO3.out, HB3⟩
          case measure => simp [intOf]; omega
      · have e : k = pts.length := by omega
        subst e
        have hkl := topsK_le M pts.length pts.length
        have HIN := Lib.hid (intsAt_own hown (by omega))
        clear hown
        go_wp2
        go_ret2
        exact ⟨_, by rw [HZ.out]; rfl, by rw [HH.out]; exact HIN.out, HB1.out.trans (HB.out.mono hsz)⟩
end Go.Proofs.YtpmnnomeaaaenaaGreatDoor
namespace Go.Proofs.YtpmnnomeaaaenaaGreatDoor
open Go Go.RowKit Hs Dc

set_option maxRecDepth 100000 in
set_option maxHeartbeats 4000000 in
theorem rapart_any (s : Sheet) (pv nv : Value) (a b : Int) (w : World) (hS : SheetAt w.heap.size w pv nv s) (hcap : CapOk pv) :
    Calls Tryz.prog 26 #[.agg #[.int .i64 s.iv, pv, nv], .int .i64 a, .int .i64 b] w fun e w' => e = .returned (.tuple #[spanV (apartS s a b).1.1 (apartS s a b).1.2, .int .i64 (apartS s a b).2.1, .int .i64 (apartS s a b).2.2]) ∧ Below w.heap.size w w' := by
  obtain ⟨iv, pts, notes⟩ := s
  obtain ⟨lp, pa, pc, rfl, _⟩ := id hS.pts
  obtain ⟨ln, na, nc, rfl, _⟩ := id hS.notes
  simp only at hS lp ln ⊢
  have HS := Lib.hid hS
  have lp' : (pts.length : Int) ≤ 4611686018427387904 := by omega
  have B0 : Below w.heap.size w ((w.alloc (Obj.cells #[.int .i64 iv, .slice pa pts.length pc, .slice na notes.length nc] 25)).alloc (Obj.cells #[.int .i64 0, .int .i64 0] 40)) := by go_grown
  have HC := Lib.hid (rcheck_any ⟨iv, pts, notes⟩ (.slice pa pts.length pc) (.slice na notes.length nc) ((w.alloc (Obj.cells #[.int .i64 iv, .slice pa pts.length pc, .slice na notes.length nc] 25)).alloc (Obj.cells #[.int .i64 0, .int .i64 0] 40)) ((hS.below B0).mono B0.size) hcap)
  clear hS
  go_enter Tryz.func26, Tryz.ntmps26
  go_wp2_with fail
  refine HC.out.mono ?_
  rintro e w1 ⟨rfl, hb1⟩
  have hB1 := below_next B0 hb1 B0.size
  have hA := (hb1.block w.heap.size (by simp; omega)).trans (heap_alloc2_old w (Obj.cells #[.int .i64 iv, .slice pa pts.length pc, .slice na notes.length nc] 25) (Obj.cells #[.int .i64 0, .int .i64 0] 40))
  have hO := (hb1.block (w.heap.size + 1) (by simp)).trans (heap_alloc2_new w (Obj.cells #[.int .i64 iv, .slice pa pts.length pc, .slice na notes.length nc] 25) (Obj.cells #[.int .i64 0, .int .i64 0] 40))
  have HA1 := Lib.hid hA
  have a0 := cellOf hA 0 _ rfl
  have a1 := cellOf hA 1 _ rfl
  have a2 := cellOf hA 2 _ rfl
  have o0 := cellOf hO 0 _ rfl
  have o1 := cellOf hO 1 _ rfl
  have q0 := frozen_of_row w1 (w.heap.size + 1) 0 _ _ hO
  have q1 := frozen_of_row w1 (w.heap.size + 1) 1 _ _ hO
  obtain ⟨p, q, r, hpq⟩ : ∃ p q r, Hid (checkS ⟨iv, pts, notes⟩ = (p, q, r)) := ⟨_, _, _, rfl⟩
  rw [hpq.out]
  have HE : Hid (errS ⟨iv, pts, notes⟩ = r) := by show _ = _; unfold errS; rw [hpq.out]
  have HB1 := Lib.hid hB1
  have HO1 := Lib.hid hO
  clear hb1 B0 HC hA hB1 hO
  by_cases hr : r = 0
  · have tr : (r != 0) = false := by simp [hr]
    have t0 : (r == 0) = true := by simp [hr]
    have HR := Lib.hid hr
    go_wp2_with fail
    refine (in_any _ _ _ _).mono ?_
    rintro e w' ⟨rfl, rfl⟩
    by_cases h1 : 0 ≤ a ∧ a ≤ (pts.length : Int) - 1
    · have d1 : (decide ((0 : Int) ≤ a) && decide (a ≤ (pts.length : Int) - 1)) = true := by simp; omega
      rw [d1]
      clear d1
      go_wp2_with fail
      refine (in_any _ _ _ _).mono ?_
      rintro e w' ⟨rfl, rfl⟩
      by_cases h2 : 0 ≤ b ∧ b ≤ (pts.length : Int) - 1
      · have d2 : (decide ((0 : Int) ≤ b) && decide (b ≤ (pts.length : Int) - 1)) = true := by simp; omega
        rw [d2]
        clear d2
        have HM := Lib.hid (bound_any ⟨iv, pts, notes⟩ (.slice pa pts.length pc) (.slice na notes.length nc) w1 ((HS.out.below HB1.out).mono HB1.out.size) hcap)
        obtain ⟨an, rfl⟩ := Int.eq_ofNat_of_zero_le h1.1
        obtain ⟨bn, rfl⟩ := Int.eq_ofNat_of_zero_le h2.1
        have HIN : Hid (apartS ⟨iv, pts, notes⟩ (an : Int) (bn : Int) = if measE ⟨iv, pts, notes⟩ ≠ 0 then ((0, 0), 0, measE ⟨iv, pts, notes⟩) else
            ((-((measM ⟨iv, pts, notes⟩)[bn * 9 + an]?.getD 0), (measM ⟨iv, pts, notes⟩)[an * 9 + bn]?.getD 0), orderV (-((measM ⟨iv, pts, notes⟩)[bn * 9 + an]?.getD 0)) ((measM ⟨iv, pts, notes⟩)[an * 9 + bn]?.getD 0), 0)) := by
          show _ = _
          unfold apartS
          rw [HE.out, if_neg (by rw [HR.out]; simp), if_neg (fun h => h ⟨h1, h2⟩)]
          rfl
        have HAB : Hid (an < pts.length ∧ bn < pts.length) := ⟨by omega, by omega⟩
        clear h1 h2 tr t0 hr
        go_wp2_with fail
        refine HM.out.mono ?_
        rintro e w2 (⟨hne, rfl, hb2⟩ | ⟨hv, hf, g, c, rr, rfl, hN⟩)
        · have HAP : Hid (apartS ⟨iv, pts, notes⟩ (an : Int) (bn : Int) = ((0, 0), 0, measE ⟨iv, pts, notes⟩)) := by show _ = _; rw [HIN.out, if_pos hne]
          have tm : (measE ⟨iv, pts, notes⟩ != 0) = true := by simp [hne]
          have HO2 := Lib.hid ((hb2.block _ (lt_of_block HO1.out)).trans HO1.out)
          have HB2 := Lib.hid (below_next HB1.out hb2 HB1.out.size)
          clear a0 a1 a2 o0 o1 q0 q1 hb2 HM HIN
          have o0 := cellOf HO2.out 0 _ rfl
          have o1 := cellOf HO2.out 1 _ rfl
          have q0 := frozen_of_row _ (w.heap.size + 1) 0 _ _ HO2.out
          have q1 := frozen_of_row _ (w.heap.size + 1) 1 _ _ HO2.out
          obtain ⟨z, hz⟩ : ∃ z, Hid (measE ⟨iv, pts, notes⟩ = z) := ⟨_, rfl⟩
          rw [hz.out] at tm HAP ⊢
          have HOF := Lib.hid (span_put HO2.out (.int .i64 0) (.int .i64 0))
          go_wp2
          exact bodyPost_ret (span_result3 rfl _ _ _ _ _ rfl HOF.out) rfl ⟨by rw [HAP.out]; rfl, (HB2.out.setCell (by simp) _).setCell (by simp) _⟩
        · have hb2 := hN.below
          have HO2 := Lib.hid ((hb2.block _ (lt_of_block HO1.out)).trans HO1.out)
          have HB2 := Lib.hid (below_next HB1.out hb2 HB1.out.size)
          have hal := HAB.out.1
          have hbl := HAB.out.2
          have e1 := hN.mx.cell (i := an) (n := bn) (by simp only; omega) (by simp only; omega)
          have e2 := hN.mx.cell (i := bn) (n := an) (by simp only; omega) (by simp only; omega)
          obtain ⟨c1, s1⟩ := hN.mx.outer an (by simp only; omega)
          obtain ⟨c2, s2⟩ := hN.mx.outer bn (by simp only; omega)
          have b1 := refM_bd9 hv.np8 (all_ok hv) hf an bn (by simp only; omega) (by simp only; omega)
          have b2 := refM_bd9 hv.np8 (all_ok hv) hf bn an (by simp only; omega) (by simp only; omega)
          have HX1 := refM_two hv.np8 (all_ok hv) hf hal hbl
          have HX2 := refM_two hv.np8 (all_ok hv) hf hbl hal
          simp only at e1 e2 c1 c2 s1 s2 b1 b2 HX1 HX2
          generalize refM iv 0 pts.length notes an bn = x at *
          generalize refM iv 0 pts.length notes bn an = y at *
          have HAP : Hid (apartS ⟨iv, pts, notes⟩ (an : Int) (bn : Int) = ((-x, y), orderV (-x) y, 0)) := by
            show _ = _
            rw [HIN.out, (meas_fit hv hf).2, if_neg (by simp), (meas_fit hv hf).1, HX1, HX2]
            rfl
          have al : (an : Int) < (pts.length : Int) + 1 := by omega
          have bl : (bn : Int) < (pts.length : Int) + 1 := by omega
          have lg := World.block_lt_of_cell? w2 _ s1
          have l1 := World.block_lt_of_cell? w2 _ e1
          have l2 := World.block_lt_of_cell? w2 _ e2
          simp only at lg l1 l2
          have np8 : (pts.length : Int) ≤ 8 := by have := hv.np8; simp only at this; omega
          clear a0 a1 a2 o0 o1 q0 q1 hb2 HM HIN hN HX1 HX2 hv hf
          generalize rr an = g1 at *
          generalize rr bn = g2 at *
          go_wp2_with fail
          go_region
          have HY := Lib.hid (show ((w2.alloc (Obj.cells #[.int .i64 (-x), .int .i64 y] 40)).drew).heap[w2.heap.size]? = _ from heap_alloc_new w2 (Obj.cells #[.int .i64 (-x), .int .i64 y] 40))
          have hBy : Below w2.heap.size w2 ((w2.alloc (Obj.cells #[.int .i64 (-x), .int .i64 y] 40)).drew) := ((Below.refl _ _).alloc (Nat.le_refl _) _).drew
          have HO3 := Lib.hid ((hBy.block _ (lt_of_block HO2.out)).trans HO2.out)
          have HB3 := Lib.hid (below_next HB2.out hBy HB2.out.size)
          have hgt : w.heap.size + 1 < w2.heap.size := lt_of_block HO2.out
          generalize (w2.alloc (Obj.cells #[.int .i64 (-x), .int .i64 y] 40)).drew = w3 at *
          generalize w2.heap.size = by' at *
          clear hBy e1 e2 s1 s2 lg l1 l2
          have HXY : Hid (orderV (-x) y = orderV (-x) y) := rfl
          obtain ⟨lo, hlo⟩ : ∃ lo : Int, -x = lo := ⟨_, rfl⟩
          rw [hlo] at HY HAP
          have l0 : -9000 ≤ lo := by omega
          have l9 : lo ≤ 9000 := by omega
          clear hlo HXY b1
          have o0 := cellOf HO3.out 0 _ rfl
          have o1 := cellOf HO3.out 1 _ rfl
          have q0 := frozen_of_row _ (w.heap.size + 1) 0 _ _ HO3.out
          have q1 := frozen_of_row _ (w.heap.size + 1) 1 _ _ HO3.out
          by_cases hl0 : lo = 0
          · subst hl0
            by_cases hy0 : y = 0
            · subst hy0
              as_aux_lemma =>
                have HK : Hid (orderV 0 0 = 3) := by show _ = _; unfold orderV; rw [if_pos ⟨rfl, rfl⟩]
                rw [HK.out] at HAP
                have y0 := cellOf HY.out 0 _ rfl
                have y1 := cellOf HY.out 1 _ rfl
                have HOF := Lib.hid (span_put HO3.out (.int .i64 0) (.int .i64 0))
                go_wp2
                exact bodyPost_ret (span_result3 rfl _ _ _ _ _ rfl HOF.out) rfl ⟨by rw [HAP.out]; rfl, (HB3.out.setCell (by simp) _).setCell (by simp) _⟩
            · have ty : (y == 0) = false := by simp [hy0]
              by_cases hn : y < 0
              · have tn : decide (y < 0) = true := by simp [hn]
                as_aux_lemma =>
                  have HK : Hid (orderV 0 y = 1) := by show _ = _; unfold orderV; rw [if_neg (by omega), if_neg (by omega), if_pos hn]
                  rw [HK.out] at HAP
                  have y0 := cellOf HY.out 0 _ rfl
                  have y1 := cellOf HY.out 1 _ rfl
                  have HOF := Lib.hid (span_put HO3.out (.int .i64 0) (.int .i64 y))
                  go_wp2
                  exact bodyPost_ret (span_result3 rfl _ _ _ _ _ rfl HOF.out) rfl ⟨by rw [HAP.out]; rfl, (HB3.out.setCell (by simp) _).setCell (by simp) _⟩
              · have tn : decide (y < 0) = false := by simp; omega
                as_aux_lemma =>
                  have HK : Hid (orderV 0 y = 0) := by show _ = _; unfold orderV; rw [if_neg (by omega), if_neg (by omega), if_neg hn]
                  rw [HK.out] at HAP
                  have y0 := cellOf HY.out 0 _ rfl
                  have y1 := cellOf HY.out 1 _ rfl
                  have HOF := Lib.hid (span_put HO3.out (.int .i64 0) (.int .i64 y))
                  go_wp2
                  exact bodyPost_ret (span_result3 rfl _ _ _ _ _ rfl HOF.out) rfl ⟨by rw [HAP.out]; rfl, (HB3.out.setCell (by simp) _).setCell (by simp) _⟩
          · have tl : (lo == 0) = false := by simp [hl0]
            by_cases hp : 0 < lo
            · have tp : decide ((0 : Int) < lo) = true := by simp [hp]
              as_aux_lemma =>
                have HK : Hid (orderV lo y = 2) := by show _ = _; unfold orderV; rw [if_neg (by omega), if_pos hp]
                rw [HK.out] at HAP
                have y0 := cellOf HY.out 0 _ rfl
                have y1 := cellOf HY.out 1 _ rfl
                have HOF := Lib.hid (span_put HO3.out (.int .i64 lo) (.int .i64 y))
                go_wp2
                exact bodyPost_ret (span_result3 rfl _ _ _ _ _ rfl HOF.out) rfl ⟨by rw [HAP.out]; rfl, (HB3.out.setCell (by simp) _).setCell (by simp) _⟩
            · have tp : decide ((0 : Int) < lo) = false := by simp; omega
              by_cases hn : y < 0
              · have tn : decide (y < 0) = true := by simp [hn]
                as_aux_lemma =>
                  have HK : Hid (orderV lo y = 1) := by show _ = _; unfold orderV; rw [if_neg (by omega), if_neg hp, if_pos hn]
                  rw [HK.out] at HAP
                  have y0 := cellOf HY.out 0 _ rfl
                  have y1 := cellOf HY.out 1 _ rfl
                  have HOF := Lib.hid (span_put HO3.out (.int .i64 lo) (.int .i64 y))
                  go_wp2
                  exact bodyPost_ret (span_result3 rfl _ _ _ _ _ rfl HOF.out) rfl ⟨by rw [HAP.out]; rfl, (HB3.out.setCell (by simp) _).setCell (by simp) _⟩
              · have tn : decide (y < 0) = false := by simp; omega
                as_aux_lemma =>
                  have HK : Hid (orderV lo y = 0) := by show _ = _; unfold orderV; rw [if_neg (by omega), if_neg hp, if_neg hn]
                  rw [HK.out] at HAP
                  have y0 := cellOf HY.out 0 _ rfl
                  have y1 := cellOf HY.out 1 _ rfl
                  have HOF := Lib.hid (span_put HO3.out (.int .i64 lo) (.int .i64 y))
                  go_wp2
                  exact bodyPost_ret (span_result3 rfl _ _ _ _ _ rfl HOF.out) rfl ⟨by rw [HAP.out]; rfl, (HB3.out.setCell (by simp) _).setCell (by simp) _⟩
      · have d2 : (decide ((0 : Int) ≤ b) && decide (b ≤ (pts.length : Int) - 1)) = false := by simp; omega
        rw [d2]
        have HAP : Hid (apartS ⟨iv, pts, notes⟩ a b = ((0, 0), 0, 4)) := by
          show _ = _
          unfold apartS
          rw [HE.out, if_neg (by rw [HR.out]; simp), if_pos (by simp only; omega)]
        clear d2 h1 h2
        have HOF := Lib.hid (span_put HO1.out (.int .i64 0) (.int .i64 0))
        go_wp2
        exact bodyPost_ret (span_result3 rfl _ _ _ _ _ rfl HOF.out) rfl ⟨by rw [HAP.out]; rfl, (HB1.out.setCell (by simp) _).setCell (by simp) _⟩
    · have d1 : (decide ((0 : Int) ≤ a) && decide (a ≤ (pts.length : Int) - 1)) = false := by simp; omega
      rw [d1]
      have HAP : Hid (apartS ⟨iv, pts, notes⟩ a b = ((0, 0), 0, 4)) := by
        show _ = _
        unfold apartS
        rw [HE.out, if_neg (by rw [HR.out]; simp), if_pos (by simp only; omega)]
      clear d1 h1
      have HOF := Lib.hid (span_put HO1.out (.int .i64 0) (.int .i64 0))
      go_wp2
      exact bodyPost_ret (span_result3 rfl _ _ _ _ _ rfl HOF.out) rfl ⟨by rw [HAP.out]; rfl, (HB1.out.setCell (by simp) _).setCell (by simp) _⟩
  · have tr : (r != 0) = true := by simp [hr]
    have t0 : (r == 0) = false := by simp [hr]
    have HAP : Hid (apartS ⟨iv, pts, notes⟩ a b = ((0, 0), 0, r)) := by show _ = _; unfold apartS; rw [HE.out, if_pos hr]
    clear hr
    have HOF := Lib.hid (span_put HO1.out (.int .i64 0) (.int .i64 0))
    go_wp2
    exact bodyPost_ret (span_result3 rfl _ _ _ _ _ rfl HOF.out) rfl ⟨by rw [HAP.out]; rfl, (HB1.out.setCell (by simp) _).setCell (by simp) _⟩
end Go.Proofs.YtpmnnomeaaaenaaGreatDoor
namespace Go.Proofs.YtpmnnomeaaaenaaGreatDoor
open Go Go.RowKit Hs Dc

/-- What stands through the calls. -/
structure HgtA (w0 : World) (bA : Nat) (oA oX : Obj) (pv nv : Value) (s : Sheet) (w : World) : Prop where
  a : w.heap[bA]? = some oA
  x : w.heap[bA + 1]? = some oX
  s : SheetAt w.heap.size w pv nv s
  T : Tabs w
  B : Below w0.heap.size w0 w
theorem HgtA.up {w0 : World} {bA : Nat} {oA oX : Obj} {pv nv : Value} {s : Sheet} {w w' : World} (h : HgtA w0 bA oA oX pv nv s w) (hb : Below w.heap.size w w') : HgtA w0 bA oA oX pv nv s w' :=
  ⟨(hb.block _ (lt_of_block h.a)).trans h.a, (hb.block _ (lt_of_block h.x)).trans h.x, (h.s.below hb).mono hb.size, h.T.below hb, h.B.trans (hb.mono h.B.size)⟩

set_option maxRecDepth 100000 in
set_option maxHeartbeats 1000000 in
theorem spans_nil (w : World) : Calls Tryz.prog 24 #[.slice none 0 0, .slice none 0 0] w fun e w' => e = .returned (.bool true) ∧ Below w.heap.size w w' := by
  go_enter Tryz.func24, Tryz.ntmps24
  go_wp2
  go_loopw [5] (fun i wr => i = .int .i64 0 ∧ Hid (Below w.heap.size w wr)) (fun _ _ => 0)
  case atStart => exact ⟨rfl, Below.refl _ _⟩
  case round =>
    obtain ⟨rfl, HB⟩ := hrel
    go_wp2
    go_ret
    exact ⟨rfl, HB.out⟩
theorem spans_both (z : Int) (va vb : Value) (l : List (Int × Int)) (w : World) (ha : z = 0 → SpnAt w va l) (hb : z = 0 → SpnAt w vb l) (na : z ≠ 0 → va = .slice none 0 0) (nb : z ≠ 0 → vb = .slice none 0 0) :
    Calls Tryz.prog 24 #[va, vb] w fun e w' => e = .returned (.bool true) ∧ Below w.heap.size w w' := by
  by_cases h : z = 0
  · exact spans_eq va vb l w (ha h) (hb h)
  · rw [na h, nb h]
    exact spans_nil w
theorem heightS_len (s : Sheet) : (heightS s).length = s.pts.length := by simp [heightS]
theorem measE_valid {s : Sheet} (h : measE s = 0) : ValidS s := by
  refine (check_valid s).1 ?_
  by_cases e : errS s = 0
  · exact e
  · unfold measE at h
    rw [if_neg e] at h
    exact h
theorem heights_spn {s : Sheet} {n : Nat} {w : World} {v : Value} (h1 : measE s = 0 → SpansAt n w v (heightS s)) : measE s = 0 → SpnAt w v (heightS s) := fun h => (h1 h).spn (by have := (measE_valid h).np8; rw [heightS_len]; omega)
theorem highS_le (s : Sheet) : (highS s).length ≤ s.pts.length := by
  unfold highS
  split
  · exact topsK_le _ _ _
  · simp

set_option maxRecDepth 100000 in
set_option maxHeartbeats 8000000 in
theorem lheights_any (s : Sheet) (pv nv : Value) (x y : Int) (w : World) (hS : SheetAt w.heap.size w pv nv s) (hcap : CapOk pv) (hT : Tabs w) :
    Calls Tryz.prog 4 #[.agg #[.int .i64 s.iv, pv, nv], .agg #[.int .i64 x, .int .i64 y]] w fun e w' => e = .returned (.bool true) ∧ Below w.heap.size w w' := by
  obtain ⟨iv, pts, notes⟩ := s
  obtain ⟨ln, na, nc, rfl, _⟩ := id hS.notes
  obtain ⟨lp, pa, pc, rfl, _⟩ := id hS.pts
  simp only at hS ln lp ⊢
  have B0 : Below w.heap.size w ((w.alloc (Obj.cells #[.int .i64 iv, .slice pa pts.length pc, .slice na notes.length nc] 25)).alloc (Obj.cells #[.int .i64 x, .int .i64 y] 32)) := by go_grown
  have HS0 : Hid (HgtA w w.heap.size (Obj.cells #[.int .i64 iv, .slice pa pts.length pc, .slice na notes.length nc] 25 (0, 0)) (Obj.cells #[.int .i64 x, .int .i64 y] 32 (0, 0)) (.slice pa pts.length pc) (.slice na notes.length nc) ⟨iv, pts, notes⟩ ((w.alloc (Obj.cells #[.int .i64 iv, .slice pa pts.length pc, .slice na notes.length nc] 25)).alloc (Obj.cells #[.int .i64 x, .int .i64 y] 32))) :=
    ⟨heap_alloc2_old w _ _, heap_alloc2_new w _ _, (hS.below B0).mono B0.size, hT.below B0, B0⟩
  clear B0 hS hT
  go_enter Tryz.func4, Tryz.ntmps4
  go_wp2_with fail
  generalize ((w.alloc (Obj.cells #[.int .i64 iv, .slice pa pts.length pc, .slice na notes.length nc] 25)).alloc (Obj.cells #[.int .i64 x, .int .i64 y] 32)) = w0 at *
  refine (Fits_any ⟨iv, pts, notes⟩ (.slice pa pts.length pc) (.slice na notes.length nc) w0 HS0.out.s).mono ?_
  rintro e w1 ⟨rfl, hb⟩
  have HS1 := Lib.hid (HS0.out.up hb)
  obtain ⟨f, HF⟩ : ∃ f, Hid (fitsS ⟨iv, pts, notes⟩ = f) := ⟨_, rfl⟩
  obtain ⟨z, HZ⟩ : ∃ z, Hid (errS ⟨iv, pts, notes⟩ = z) := ⟨_, rfl⟩
  rw [HF.out, HZ.out]
  clear hb HS0
  have a0 := cellOf HS1.out.a 0 _ rfl
  have a1 := cellOf HS1.out.a 1 _ rfl
  have a2 := cellOf HS1.out.a 2 _ rfl
  go_wp2_with fail
  refine (rfits_any ⟨iv, pts, notes⟩ (.slice pa pts.length pc) (.slice na notes.length nc) w1 HS1.out.s hcap).mono ?_
  rintro e w2 ⟨rfl, hb⟩
  have HS2 := Lib.hid (HS1.out.up hb)
  rw [HF.out, HZ.out]
  clear a0 a1 a2
  clear hb HS1
  have tf : (f != f) = false := by simp
  have tz : (z != z) = false := by simp
  have a0 := cellOf HS2.out.a 0 _ rfl
  have a1 := cellOf HS2.out.a 1 _ rfl
  have a2 := cellOf HS2.out.a 2 _ rfl
  go_wp2_with fail
  refine (Heights_any ⟨iv, pts, notes⟩ (.slice pa pts.length pc) (.slice na notes.length nc) w2 HS2.out.s).mono ?_
  rintro e w3 ⟨v1, rfl, h1, n1, hb⟩
  have HS3 := Lib.hid (HS2.out.up hb)
  clear a0 a1 a2
  have HH1 := Lib.hid (heights_spn h1)
  have HN1 := Lib.hid n1
  clear h1 n1
  clear hb HS2
  have a0 := cellOf HS3.out.a 0 _ rfl
  have a1 := cellOf HS3.out.a 1 _ rfl
  have a2 := cellOf HS3.out.a 2 _ rfl
  go_wp2_with fail
  refine (rheights_any ⟨iv, pts, notes⟩ (.slice pa pts.length pc) (.slice na notes.length nc) w3 HS3.out.s hcap).mono ?_
  rintro e w4 ⟨v2, rfl, h2, n2, hb⟩
  have HS4 := Lib.hid (HS3.out.up hb)
  clear a0 a1 a2
  have HSP := Lib.hid (spans_both (measE ⟨iv, pts, notes⟩) v1 v2 (heightS ⟨iv, pts, notes⟩) w4 (fun h => (HH1.out h).below hb) h2 HN1.out n2)
  obtain ⟨m, HM⟩ : ∃ m, Hid (measE ⟨iv, pts, notes⟩ = m) := ⟨_, rfl⟩
  rw [HM.out]
  clear h2 n2 HH1 HN1
  clear hb HS3
  go_wp2_with fail
  refine HSP.out.mono ?_
  rintro e w5 ⟨rfl, hb⟩
  have HS5 := Lib.hid (HS4.out.up hb)
  clear hb HS4 HSP
  have tm : (m != m) = false := by simp
  have a0 := cellOf HS5.out.a 0 _ rfl
  have a1 := cellOf HS5.out.a 1 _ rfl
  have a2 := cellOf HS5.out.a 2 _ rfl
  have b0 := cellOf HS5.out.x 0 _ rfl
  have b1 := cellOf HS5.out.x 1 _ rfl
  go_wp2_with fail
  refine (Apart_any ⟨iv, pts, notes⟩ (.slice pa pts.length pc) (.slice na notes.length nc) x y w5 HS5.out.s).mono ?_
  rintro e w6 ⟨rfl, hb⟩
  have HS6 := Lib.hid (HS5.out.up hb)
  clear a0 a1 a2 b0 b1
  obtain ⟨lo, hi, o, z2, HAP⟩ : ∃ lo hi o z2, Hid (apartS ⟨iv, pts, notes⟩ x y = ((lo, hi), o, z2)) := ⟨_, _, _, _, rfl⟩
  rw [HAP.out]
  simp only
  clear hb HS5
  have HB6 : Hid (Below w6.heap.size w6 (w6.alloc (Obj.cells #[.int .i64 lo, .int .i64 hi] 40))) := (Below.refl _ _).alloc (Nat.le_refl _) _
  have HX := Lib.hid (heap_alloc_new w6 (Obj.cells #[.int .i64 lo, .int .i64 hi] 40))
  have HS7 := Lib.hid (HS6.out.up HB6.out)
  have a0 := cellOf HS7.out.a 0 _ rfl
  have a1 := cellOf HS7.out.a 1 _ rfl
  have a2 := cellOf HS7.out.a 2 _ rfl
  have b0 := cellOf HS7.out.x 0 _ rfl
  have b1 := cellOf HS7.out.x 1 _ rfl
  unfold spanV
  go_wp2_with fail
  generalize w6.alloc (Obj.cells #[.int .i64 lo, .int .i64 hi] 40) = w7 at *
  generalize w6.heap.size = bx at *
  clear HS6 HB6
  refine (rapart_any ⟨iv, pts, notes⟩ (.slice pa pts.length pc) (.slice na notes.length nc) x y w7 HS7.out.s hcap).mono ?_
  rintro e w8 ⟨rfl, hb⟩
  have HS8 := Lib.hid (HS7.out.up hb)
  clear a0 a1 a2 b0 b1
  have HX8 := Lib.hid ((hb.block bx (lt_of_block HX.out)).trans HX.out)
  rw [HAP.out]
  simp only
  clear hb HS7
  have HB8 : Hid (Below w8.heap.size w8 (w8.alloc (Obj.cells #[.int .i64 lo, .int .i64 hi] 40))) := (Below.refl _ _).alloc (Nat.le_refl _) _
  have HX9 := Lib.hid ((Below.heap_alloc w8 (Obj.cells #[.int .i64 lo, .int .i64 hi] 40) _ (lt_of_block HX8.out)).trans HX8.out)
  have HY := Lib.hid (heap_alloc_new w8 (Obj.cells #[.int .i64 lo, .int .i64 hi] 40))
  have HS9 := Lib.hid (HS8.out.up HB8.out)
  clear HX HX8
  unfold spanV
  have x0 := cellOf HX9.out 0 _ rfl
  have x1 := cellOf HX9.out 1 _ rfl
  have y0 := cellOf HY.out 0 _ rfl
  have y1 := cellOf HY.out 1 _ rfl
  have tor : (o != o) = false := by simp
  have t2 : (z2 != z2) = false := by simp
  have a0 := cellOf HS9.out.a 0 _ rfl
  have a1 := cellOf HS9.out.a 1 _ rfl
  have a2 := cellOf HS9.out.a 2 _ rfl
  go_wp2_with fail
  generalize w8.alloc (Obj.cells #[.int .i64 lo, .int .i64 hi] 40) = w9 at *
  clear HS8 HB8 x0 x1 y0 y1
  refine (Highest_any ⟨iv, pts, notes⟩ (.slice pa pts.length pc) (.slice na notes.length nc) w9 HS9.out.s).mono ?_
  rintro e w10 ⟨v3, rfl, hown, _, hb⟩
  have HS10 := Lib.hid (HS9.out.up hb)
  clear a0 a1 a2
  have hle : (highS ⟨iv, pts, notes⟩).length ≤ pts.length := highS_le ⟨iv, pts, notes⟩
  have HI := Lib.hid (intsAt_own hown (by omega))
  rw [HM.out]
  clear hown
  clear hb HS9
  have a0 := cellOf HS10.out.a 0 _ rfl
  have a1 := cellOf HS10.out.a 1 _ rfl
  have a2 := cellOf HS10.out.a 2 _ rfl
  go_wp2_with fail
  refine (rhighest_any ⟨iv, pts, notes⟩ (.slice pa pts.length pc) (.slice na notes.length nc) w10 HS10.out.s hcap).mono ?_
  rintro e w11 ⟨v4, rfl, hi2, hb⟩
  have HS11 := Lib.hid (HS10.out.up hb)
  clear a0 a1 a2
  have HE := Lib.hid (ints_eq v3 v4 (highS ⟨iv, pts, notes⟩) w11 (HI.out.below hb) hi2)
  rw [HM.out]
  clear hi2 HI
  clear hb HS10
  go_wp2_with fail
  refine HE.out.mono ?_
  rintro e w12 ⟨rfl, hb⟩
  have HS12 := Lib.hid (HS11.out.up hb)
  clear hb HS11 HE
  have tq : (m == m) = true := by simp
  go_wp2_with fail
  refine (awake_any _ HS12.out.T).mono ?_
  rintro e wA ⟨rfl, hb⟩
  have HBA := Lib.hid (HS12.out.B.trans (hb.mono HS12.out.B.size))
  clear hb
  go_wp2
  go_ret
  exact ⟨rfl, HBA.out⟩
end Go.Proofs.YtpmnnomeaaaenaaGreatDoor
