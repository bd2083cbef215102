/- The reference's Bounds: the square of bounds of some notes of a sheet, narrowed, and whether there is a truth. Condition: the sheet is valid. -/
import Derived.Test.YtpmnnomeaaaenaaGreatDoorNarrow
import Derived.Test.YtpmnnomeaaaenaaGreatDoorBdp
import Derived.Test.YtpmnnomeaaaenaaGreatDoorArg
import Derived.Test.YtpmnnomeaaaenaaGreatDoorFew
import Derived.OwnWalk
import Derived.BigRegion
import Derived.Laws.AppendOwn
set_option linter.unusedSimpArgs false
set_option linter.unusedVariables false
namespace Go.Proofs.YtpmnnomeaaaenaaGreatDoor
open Go Go.RowKit Hs Dc

theorem putM_min (T : Mx) (i n : Nat) (v : Int) : putM T i n (min (T i n) v) = minM T i n v := rfl
theorem rowInfo : (Tryz.prog.info? 43).map (fun i => (i.zero, i.size, i.bytes)) = some (some (.slice none 0 0), 1, 24) := by kernel_rfl
/-- The first n numbers of a row of the square without any note. -/
def rowZ (np i n : Nat) : List Int := (List.range n).map (tZero np i)
theorem rowZ_succ (np i n : Nat) : rowZ np i (n + 1) = rowZ np i n ++ [tZero np i n] := by simp [rowZ, List.range_succ]
theorem rowZ_len (np i n : Nat) : (rowZ np i n).length = n := by simp [rowZ]

/-- A square of which the first i rows are laid, and row i reads as v. -/
structure PreIn (B : Nat) (w : World) (N g i : Nat) (r : Nat → Nat) (v : Value) (T : Mx) : Prop where
  g0 : B ≤ g
  outer : ∃ cur, w.ownsRow B 43 1 (.slice (some ⟨g, 0, none⟩) N N) N cur ∧ (∀ j, j < i → ∃ c, cur[j]? = some (.slice (some ⟨r j, 0, none⟩) N c)) ∧ (i < N → cur[i]? = some v) ∧ ∀ j, i < j → j < N → cur[j]? = some (.slice none 0 0)
  r0 : ∀ j, j < i → B ≤ r j ∧ r j ≠ g
  inj : ∀ j l, j < i → l < i → r j = r l → j = l
  rows : ∀ j, j < i → ∃ (cur : Array Value) (t : TypeId), w.heap[r j]? = some (.cells cur t (0, 0)) ∧ ∀ n, n < N → cur[n]? = some (.int .i64 (T j n))
theorem PreIn.glt {B : Nat} {w : World} {N g i : Nat} {r : Nat → Nat} {v : Value} {T : Mx} (h : PreIn B w N g i r v T) : g < w.heap.size := by
  obtain ⟨cur, h1, _⟩ := h.outer
  exact (h1.lt g rfl).2
theorem PreIn.rlt {B : Nat} {w : World} {N g i : Nat} {r : Nat → Nat} {v : Value} {T : Mx} (h : PreIn B w N g i r v T) {j : Nat} (hj : j < i) : r j < w.heap.size := by
  obtain ⟨cur, t, h1, _⟩ := h.rows j hj
  exact lt_of_block h1
theorem PreIn.start {B : Nat} {w : World} {N g : Nat} (hg : B ≤ g) (T : Mx) (h : w.ownsRow B 43 1 (.slice (some ⟨g, 0, none⟩) N N) N (madeCells #[.slice none 0 0] N).toList) : PreIn B w N g 0 (fun _ => 0) (.slice none 0 0) T := by
  have hm : ∀ j, j < N → (madeCells #[.slice none 0 0] N).toList[j]? = some (.slice none 0 0) := by
    intro j hj
    simp [madeCells, hj, Nat.mod_one]
  exact ⟨hg, ⟨_, h, fun j hj => by omega, fun hi => hm 0 hi, fun j _ hj => hm j hj⟩, fun j hj => by omega, fun j l hj _ _ => by omega, fun j hj => by omega⟩
theorem PreIn.grown {B : Nat} {w w' : World} {N g i : Nat} {r : Nat → Nat} {v : Value} {T : Mx} (h : PreIn B w N g i r v T) {row : Option Nat} (hg : w.grownBy w' row) (hb : ∀ k, row = some k → k ≠ g ∧ ∀ j, j < i → k ≠ r j) : PreIn B w' N g i r v T := by
  obtain ⟨cur, h1, h2⟩ := h.outer
  refine ⟨h.g0, ⟨cur, h1.kept hg ?_, h2⟩, h.r0, h.inj, fun j hj => ?_⟩
  · rcases row with _ | k
    · exact .inr (by simp [Value.ownBlock])
    · exact .inr (by simp [Value.ownBlock]; exact fun e => (hb k rfl).1 e.symm)
  · obtain ⟨c, t, h3, h4⟩ := h.rows j hj
    exact ⟨c, t, (hg.block _ (lt_of_block h3) (fun e => (hb _ e.symm).2 j hj rfl)).trans h3, h4⟩
theorem PreIn.cellv {B : Nat} {w : World} {N g i : Nat} {r : Nat → Nat} {v : Value} {T : Mx} (h : PreIn B w N g i r v T) (hi : i < N) : w.cell? ⟨g, i, none⟩ = some v ∧ w.frozen? ⟨g, i, none⟩ = false := by
  obtain ⟨cur, h1, _, h2, _⟩ := h.outer
  exact ⟨(h1.cellAt i (by omega)).trans (h2 hi), h1.frozenAt i⟩
theorem PreIn.setv {B : Nat} {w : World} {N g i : Nat} {r : Nat → Nat} {v : Value} {T : Mx} (h : PreIn B w N g i r v T) (hi : i < N) (v' : Value) : PreIn B (w.setCell ⟨g, i, none⟩ v') N g i r v' T := by
  obtain ⟨cur, h1, h2, h3, h4⟩ := h.outer
  have hl := h1.1
  refine ⟨h.g0, ⟨cur.set i v', (h1.stored i v').1, fun j hj => ?_, fun _ => ?_, fun j hj hn => ?_⟩, h.r0, h.inj, fun j hj => ?_⟩
  · rw [List.getElem?_set_ne (by omega)]; exact h2 j hj
  · rw [List.getElem?_set_self (by omega)]
  · rw [List.getElem?_set_ne (by omega)]; exact h4 j hj hn
  · obtain ⟨c, t, h5, h6⟩ := h.rows j hj
    exact ⟨c, t, (heap_setCell_other w _ _ _ (by simpa using (h.r0 j hj).2)).trans h5, h6⟩
/-- A row more is laid. -/
theorem PreIn.next {B : Nat} {w : World} {np g i base : Nat} {r : Nat → Nat} {v : Value} (h : PreIn B w (np + 1) g i r v (tZero np)) (hi : i < np + 1) (hown : w.ownsRow base 3 1 v (np + 1) ((rowZ np i (np + 1)).map (Value.int .i64))) (hg : g < base) (hB : B ≤ base) (hr : ∀ j, j < i → r j < base) :
    ∃ r', PreIn B w (np + 1) g (i + 1) r' (.slice none 0 0) (tZero np) := by
  obtain ⟨h0, h'⟩ := hown
  rcases h' with ⟨_, e⟩ | ⟨gi, cap, cur', rfl, r2, r3, r4, r5, r6, r7⟩
  · omega
  obtain ⟨cur, h1, h2, h3, h4⟩ := h.outer
  refine ⟨fun j => if j = i then gi else r j, h.g0, ⟨cur, h1, fun j hj => ?_, fun hi' => h4 (i + 1) (by omega) hi', fun j hj hn => h4 j (by omega) hn⟩, fun j hj => ?_, fun j l hj hl e => ?_, fun j hj => ?_⟩
  · by_cases e : j = i
    · subst e
      rw [if_pos rfl]
      exact ⟨cap, h3 hi⟩
    · rw [if_neg e]
      exact h2 j (by omega)
  · by_cases e : j = i
    · rw [if_pos e]; omega
    · rw [if_neg e]; exact h.r0 j (by omega)
  · by_cases e1 : j = i <;> by_cases e2 : l = i
    · omega
    · rw [if_pos e1, if_neg e2] at e
      have := hr l (by omega)
      omega
    · rw [if_neg e1, if_pos e2] at e
      have := hr j (by omega)
      omega
    · rw [if_neg e1, if_neg e2] at e
      exact h.inj j l (by omega) (by omega) e
  · by_cases e : j = i
    · subst e
      rw [if_pos rfl]
      refine ⟨cur', 3, r3, fun n hn => ?_⟩
      have : (cur'.toList.take ((np + 1) * 1))[n]? = ((rowZ np j (np + 1)).map (Value.int .i64))[n]? := by rw [r7]
      rw [List.getElem?_take_of_lt (by omega)] at this
      rw [Array.getElem?_toList] at this
      rw [this]
      simp [rowZ, hn]
    · rw [if_neg e]
      exact h.rows j (by omega)
theorem PreIn.done {B : Nat} {w : World} {N g : Nat} {r : Nat → Nat} {v : Value} {T : Mx} (h : PreIn B w N g N r v T) : MxIn B w N g r T := by
  obtain ⟨cur, h1, h2, _⟩ := h.outer
  refine ⟨h.g0, h.r0, h.inj, h.glt, fun i hi => ?_, h.rows⟩
  obtain ⟨c, hc⟩ := h2 i hi
  exact ⟨c, (h1.cellAt i (by omega)).trans hc⟩
/-- The notes with these indices. -/
def pickL (notes : List Note) (L : List Int) : List Note := L.map fun z => notes.getD z.toNat default
theorem pick_ok {s : Sheet} (hv : ValidS s) {L : List Int} (hl : ∀ z, z ∈ L → 0 ≤ z ∧ z < s.notes.length) : ∀ x, x ∈ pickL s.notes L → NtOk s.iv s.pts.length x := by
  intro x hx
  obtain ⟨z, hz, rfl⟩ := List.mem_map.1 hx
  have hzz := hl z hz
  have hlt : z.toNat < s.notes.length := by omega
  have e : s.notes.getD z.toNat default = s.notes[z.toNat] := by simp [List.getD_eq_getElem?_getD, hlt]
  rw [e]
  exact ntOk_of hv.iv1 hv.np8 (hv.err0 _ (List.getElem_mem hlt))

def BndP (s : Sheet) (L : List Int) (wd : Nat) (w : World) (e : Ending) (w' : World) : Prop :=
  ∃ (g c : Nat) (r : Nat → Nat), e = .returned (.tuple #[.slice (some ⟨g, 0, none⟩) (s.pts.length + 1) c, .bool (refB s.iv wd s.pts.length (pickL s.notes L))]) ∧ NarP w.heap.size w (s.pts.length + 1) g r (refM s.iv wd s.pts.length (pickL s.notes L)) w'

set_option maxRecDepth 100000 in
set_option maxHeartbeats 8000000 in
theorem bounds_any (s : Sheet) (pv nv lv : Value) (L : List Int) (wd : Nat) (w : World) (hS : SheetAt w.heap.size w pv nv s) (hv : ValidS s) (hL : IntsAt w lv L) (hl : ∀ z, z ∈ L → 0 ≤ z ∧ z < s.notes.length) (hwd : wd ≤ 18000) :
    Calls Tryz.prog 67 #[.agg #[.int .i64 s.iv, pv, nv], lv, .int .i64 wd] w (BndP s L wd w) := by
  obtain ⟨i0, hi⟩ := info_of_underlying Tryz.underlying3
  have HI : Hid (i0.zero = some (.int .i64 0) ∧ i0.size = 1 ∧ i0.bytes = 8) := by
    have h := intInfo
    rw [hi] at h
    simp at h
    exact h
  obtain ⟨j0, hj⟩ := info_of_underlying Tryz.underlying43
  have HJ : Hid (j0.zero = some (.slice none 0 0) ∧ j0.size = 1 ∧ j0.bytes = 24) := by
    have h := rowInfo
    rw [hj] at h
    simp at h
    exact h
  obtain ⟨iv, pts, notes⟩ := s
  obtain ⟨ln, na, nc, rfl, hcN⟩ := id hS.notes
  obtain ⟨lp, pa, pc, rfl, _⟩ := id hS.pts
  obtain ⟨ll, la, lc, rfl, hcL⟩ := id hL
  simp only at hS hcN hl ln lp ⊢
  have np8 : pts.length ≤ 8 := hv.np8
  have iv1 : 1 ≤ iv := hv.iv1
  have iv2 : iv ≤ 1000 := hv.iv2
  have nn : notes.length ≤ 12 := hv.nn
  have HV := Lib.hid hv
  have HCN := Lib.hid hcN
  have HCL := Lib.hid hcL
  have HLZ := Lib.hid hl
  have B0 : Below w.heap.size w (w.alloc (Obj.cells #[.int .i64 iv, .slice pa pts.length pc, .slice na notes.length nc] 25)) := by go_grown
  have HA0 := Lib.hid (heap_alloc_new w (Obj.cells #[.int .i64 iv, .slice pa pts.length pc, .slice na notes.length nc] 25))
  have hsz : w.heap.size < (w.alloc (Obj.cells #[.int .i64 iv, .slice pa pts.length pc, .slice na notes.length nc] 25)).heap.size := by simp
  have HB0 := Lib.hid B0
  have npI : (pts.length : Int) ≤ 8 := by omega
  have wdI : (wd : Int) ≤ 18000 := by omega
  clear B0 hS hv hL hl hcN hcL
  go_enter Tryz.func67, Tryz.ntmps67
  go_wp2_with (first
    | (at_make; refine wpList_make_full _ rfl _ _ 93 rfl (w.alloc (Obj.cells #[.int .i64 iv, .slice pa pts.length pc, .slice na notes.length nc] 25)).heap.size 43 j0 (.slice none 0 0) 1 Tryz.underlying93 hj HJ.out.1 HJ.out.2.1 .i64 .i64 _ _ (pts.length + 1) rfl rfl (by omega) (by omega) (by rw [HJ.out.2.2]; omega) (by unfold maxLen; omega) (by simp) ?_))
  generalize w.alloc (Obj.cells #[.int .i64 iv, .slice pa pts.length pc, .slice na notes.length nc] 25) = w0 at *
  intro w1 hown0 hgr
  have hB1 : Below (w.heap.size + 1) w0 w1 := (Below.refl _ w0).grown hgr (by omega) (by simp)
  have HP0 := Lib.hid (PreIn.start (Nat.le_refl _) (tZero pts.length) hown0)
  have HA1 := Lib.hid ((hB1.block w.heap.size (by omega)).trans HA0.out)
  have HB1 := Lib.hid (HB0.out.trans (hB1.mono (by omega)))
  obtain ⟨g, HG⟩ : ∃ g, Hid (g = w.heap.size + 1) := ⟨_, rfl⟩
  rw [← HG.out] at HP0 ⊢
  clear hgr hown0 hB1 HB0 HA0 hsz
  go_wp2_with fail
  go_loopw [10] (fun i wr => ∃ (k : Nat) (r : Nat → Nat), k ≤ pts.length + 1 ∧ i = .int .i64 k ∧ Hid (PreIn g wr (pts.length + 1) g k r (.slice none 0 0) (tZero pts.length) ∧ Below g w1 wr)) (fun i _ => pts.length + 1 - (intOf i).toNat)
  case atStart => exact ⟨0, _, Nat.zero_le _, rfl, HP0.out, Below.refl _ _⟩
  case round =>
    obtain ⟨i, r, hi9, rfl, HO⟩ := hrel
    by_cases hlt : i < pts.length + 1
    · have il : (i : Int) ≤ (pts.length : Int) := by omega
      obtain ⟨B2, HB2⟩ : ∃ B2, Hid (B2 = wr.heap.size) := ⟨_, rfl⟩
      have HGB : Hid (g < B2 ∧ ∀ j, j < i → r j < B2) := ⟨by rw [HB2.out]; exact HO.out.1.glt, fun j hj => by rw [HB2.out]; exact HO.out.1.rlt hj⟩
      have HST : Hid (PreIn g wr (pts.length + 1) g i r (.slice none 0 0) (tZero pts.length) ∧ Below g w1 wr ∧ B2 ≤ wr.heap.size) := ⟨HO.out.1, HO.out.2, by rw [HB2.out]; exact Nat.le_refl _⟩
      clear HB2 HO
      go_wp2_with fail
      go_loopw [11] (fun kv wr2 => ∃ (n m : Nat) (sa : Option Addr) (sc : Nat), n ≤ pts.length + 1 ∧ Hid (m = n) ∧ kv = .int .i64 n ∧ wr2.ownsRow B2 3 1 (.slice sa m sc) m ((rowZ pts.length i n).map (Value.int .i64)) ∧ Hid (PreIn g wr2 (pts.length + 1) g i r (.slice sa m sc) (tZero pts.length) ∧ Below g w1 wr2 ∧ B2 ≤ wr2.heap.size)) (fun kv _ => pts.length + 1 - (intOf kv).toNat)
      case atStart => exact ⟨0, 0, none, 0, Nat.zero_le _, rfl, rfl, World.ownsRow_nil _ _ _ _, HST.out⟩
      case round =>
        obtain ⟨n, m, sa, sc, hn9, hmn, rfl, hown, HIn⟩ := hrel
        by_cases hln : n < pts.length + 1
        · have nl : (n : Int) ≤ (pts.length : Int) := by omega
          have HT : Hid (rowZ pts.length i (n + 1) = rowZ pts.length i n ++ [tZero pts.length i n]) := rowZ_succ _ _ _
          obtain ⟨q1, q2⟩ := HIn.out.1.cellv hlt
          obtain ⟨t1, ht1⟩ : ∃ t1, ((i : Int) == (n : Int)) = t1 := ⟨_, rfl⟩
          obtain ⟨t2, ht2⟩ : ∃ t2, ((n : Int) == (pts.length : Int)) = t2 := ⟨_, rfl⟩
          obtain ⟨x, HX⟩ : ∃ x : Int, Hid (tZero pts.length i n = x) := ⟨_, rfl⟩
          have hX : x = if t1 = true ∨ t2 = true then 0 else 9000 := by
            rw [← HX.out, ← ht1, ← ht2]
            unfold tZero
            by_cases e1 : i = n <;> by_cases e2 : n = pts.length <;> simp [e1, e2] <;> omega
          rw [HX.out] at HT
          have hs2 := HIn.out.2.2
          have hownA := hown.alloc (Obj.cells #[.int .i64 x] 3)
          cases t1 <;> cases t2
          · simp only [or_self, Bool.false_eq_true, if_false, if_true, or_true, true_or] at hX
            subst hX
            go_wp2_with (first
              | (at_builtin; refine wpList_append_own _ rfl _ _ 43 rfl B2 3 i0 (.int .i64 0) 1 8 Tryz.underlying43 hi HI.out.1 HI.out.2.1 HI.out.2.2 rfl (by decide) _ _ _ rfl hownA ⟨wr.heap.size, 0, none⟩ 1 1 [.int .i64 9000] rfl rfl ?c1 ?c2 ?c3 ?c4 ?c5 ?_))
            case c1 =>
              intro j u hj
              match j, hj with
              | 0, hj => simp at hj; subst hj; simp [Addr.add]
            case c2 => intro u hu; simp at hu; subst hu; rfl
            case c3 => have := hmn.out; unfold maxLen; omega
            case c4 => have := hmn.out; omega
            case c5 => simp; omega
            intro v' w3 hown3 hgrow _
            have hrow : ∀ k, (Value.slice sa m sc).ownBlock = some k → k ≠ g ∧ ∀ j, j < i → k ≠ r j := fun k hk => by
              have h1 := (hown.lt k hk).1
              have h2 := HGB.out.1
              exact ⟨by omega, fun j hj => by have := HGB.out.2 j hj; omega⟩
            have hg2 := grown_trans (below_grown_row (Below.alloc (Below.refl wr.heap.size wr) (Nat.le_refl _) (Obj.cells #[.int .i64 9000] 3)) (Value.slice sa m sc).ownBlock) hgrow
            have HP3 := HIn.out.1.grown hg2 hrow
            obtain ⟨p1, p2⟩ := HP3.cellv hlt
            have hB3 := HIn.out.2.1.grown hg2 (Nat.le_of_lt HIn.out.1.glt) (fun k hk => by have h1 := (hown.lt k hk).1; have h2 := HGB.out.1; omega)
            have hs3 := hg2.size
            obtain ⟨sa', sc', rfl⟩ := own_slice hown3
            have hgB := HGB.out.1
            have HP4 := Lib.hid (HP3.setv hlt (.slice sa' (m + 1) sc'))
            have hB4 := Lib.hid (hB3.setCell (p := ⟨g, i, none⟩) (Nat.le_refl _) (.slice sa' (m + 1) sc'))
            have hown4 := own_other hown3 ⟨g, i, none⟩ hgB (.slice sa' (m + 1) sc')
            have hs4 : B2 ≤ (w3.setCell ⟨g, i, none⟩ (.slice sa' (m + 1) sc')).heap.size := by simp; omega
            have ho4 : (w3.setCell ⟨g, i, none⟩ (.slice sa' (m + 1) sc')).ownsRow B2 3 1 (.slice sa' (m + 1) sc') (m + 1) ((rowZ pts.length i (n + 1)).map (Value.int .i64)) := by
              rw [HT.out, List.map_append]
              exact hown4
            have HIN4 := Lib.hid (And.intro HP4.out (And.intro hB4.out hs4))
            have HMN : Hid (m + 1 = n + 1) := by show _ = _; rw [hmn.out]
            clear hgrow hownA hown3 hown4 hB3 hB4 HP3 HP4 hrow hg2 q1 q2 hs4 hgB hs3
            go_wp2
            go_round
            case rel => exact ⟨n + 1, m + 1, sa', sc', by omega, HMN, by go_num, ho4, HIN4.out⟩
            case measure => simp [intOf]; omega
          all_goals
            simp only [or_self, Bool.false_eq_true, if_false, if_true, or_true, true_or] at hX
            subst hX
            go_wp2_with (first
              | (at_builtin; refine wpList_append_own _ rfl _ _ 43 rfl B2 3 i0 (.int .i64 0) 1 8 Tryz.underlying43 hi HI.out.1 HI.out.2.1 HI.out.2.2 rfl (by decide) _ _ _ rfl hownA ⟨wr.heap.size, 0, none⟩ 1 1 [.int .i64 0] rfl rfl ?c1 ?c2 ?c3 ?c4 ?c5 ?_))
            case c1 =>
              intro j u hj
              match j, hj with
              | 0, hj => simp at hj; subst hj; simp [Addr.add]
            case c2 => intro u hu; simp at hu; subst hu; rfl
            case c3 => have := hmn.out; unfold maxLen; omega
            case c4 => have := hmn.out; omega
            case c5 => simp; omega
            intro v' w3 hown3 hgrow _
            have hrow : ∀ k, (Value.slice sa m sc).ownBlock = some k → k ≠ g ∧ ∀ j, j < i → k ≠ r j := fun k hk => by
              have h1 := (hown.lt k hk).1
              have h2 := HGB.out.1
              exact ⟨by omega, fun j hj => by have := HGB.out.2 j hj; omega⟩
            have hg2 := grown_trans (below_grown_row (Below.alloc (Below.refl wr.heap.size wr) (Nat.le_refl _) (Obj.cells #[.int .i64 0] 3)) (Value.slice sa m sc).ownBlock) hgrow
            have HP3 := HIn.out.1.grown hg2 hrow
            obtain ⟨p1, p2⟩ := HP3.cellv hlt
            have hB3 := HIn.out.2.1.grown hg2 (Nat.le_of_lt HIn.out.1.glt) (fun k hk => by have h1 := (hown.lt k hk).1; have h2 := HGB.out.1; omega)
            have hs3 := hg2.size
            obtain ⟨sa', sc', rfl⟩ := own_slice hown3
            have hgB := HGB.out.1
            have HP4 := Lib.hid (HP3.setv hlt (.slice sa' (m + 1) sc'))
            have hB4 := Lib.hid (hB3.setCell (p := ⟨g, i, none⟩) (Nat.le_refl _) (.slice sa' (m + 1) sc'))
            have hown4 := own_other hown3 ⟨g, i, none⟩ hgB (.slice sa' (m + 1) sc')
            have hs4 : B2 ≤ (w3.setCell ⟨g, i, none⟩ (.slice sa' (m + 1) sc')).heap.size := by simp; omega
            have ho4 : (w3.setCell ⟨g, i, none⟩ (.slice sa' (m + 1) sc')).ownsRow B2 3 1 (.slice sa' (m + 1) sc') (m + 1) ((rowZ pts.length i (n + 1)).map (Value.int .i64)) := by
              rw [HT.out, List.map_append]
              exact hown4
            have HIN4 := Lib.hid (And.intro HP4.out (And.intro hB4.out hs4))
            have HMN : Hid (m + 1 = n + 1) := by show _ = _; rw [hmn.out]
            clear hgrow hownA hown3 hown4 hB3 hB4 HP3 HP4 hrow hg2 q1 q2 hs4 hgB hs3
            go_wp2
            go_round
            case rel => exact ⟨n + 1, m + 1, sa', sc', by omega, HMN, by go_num, ho4, HIN4.out⟩
            case measure => simp [intOf]; omega
        · obtain rfl : n = pts.length + 1 := by omega
          have hm := hmn.out
          obtain ⟨r', HN⟩ := HIn.out.1.next hlt (by subst hm; exact hown) HGB.out.1 (Nat.le_of_lt HGB.out.1) HGB.out.2
          have HNX := Lib.hid (And.intro HN HIn.out.2.1)
          clear HN hm hown
          go_wp2
          go_round
          case rel => exact ⟨i + 1, r', by omega, by go_num, HNX.out⟩
          case measure => simp [intOf]; omega
    · have HI9 : Hid (i = pts.length + 1) := by show _ = _; omega
      have il : ¬ ((i : Int) ≤ (pts.length : Int)) := by omega
      have HM0 : Hid (MxIn g wr (pts.length + 1) g r (tZero pts.length)) := by
        have := HO.out.1
        rw [HI9.out] at this
        exact this.done
      have pl : (pts.length : Int) < (pts.length : Int) + 1 := by omega
      clear hi9 hlt
      have HAr := Lib.hid ((HO.out.2.block w.heap.size (by rw [HG.out]; omega)).trans HA1.out)
      have HBr := Lib.hid (HB1.out.trans (HO.out.2.mono (by rw [HG.out]; omega)))
      clear HO HA1 HB1 HP0
      have HN0 : Hid (NarP g wr (pts.length + 1) g r (bndT iv wd pts.length ((pickL notes L).take 0)) wr) := ⟨HM0.out, Below.refl _ _⟩
      have HPK0 := Lib.hid (pick_ok HV.out HLZ.out)
      have HPL : Hid ((pickL notes L).length = L.length) := by show _ = _; simp [pickL]
      have hgw : w.heap.size < g := by rw [HG.out]; omega
      go_wp2_with fail
      obtain ⟨w5, HW5⟩ : ∃ w5, Hid (w5 = wr) := ⟨_, rfl⟩
      rw [← HW5.out] at HAr HBr
      have HN1 : Hid (NarP g w5 (pts.length + 1) g r (bndT iv wd pts.length ((pickL notes L).take 0)) wr) := by rw [HW5.out]; exact HN0.out
      clear HW5 HN0 HM0
      go_loopw [13] (fun kv wr2 => ∃ n : Nat, n ≤ L.length ∧ kv = .int .i64 n ∧ Hid (NarP g w5 (pts.length + 1) g r (bndT iv wd pts.length ((pickL notes L).take n)) wr2)) (fun kv _ => L.length - (intOf kv).toNat)
      case atStart => exact ⟨0, Nat.zero_le _, rfl, HN1.out⟩
      case round =>
        obtain ⟨n, hn, rfl, HN⟩ := hrel
        by_cases hln : n < L.length
        · have nl : (n : Int) < (L.length : Int) := by omega
          have HBw := Lib.hid (HBr.out.trans (HN.out.below.mono (Nat.le_of_lt hgw)))
          have hA := (HN.out.below.block w.heap.size hgw).trans HAr.out
          have a0 := cellOf hA 0 _ rfl
          have a2 := cellOf hA 2 _ rfl
          obtain ⟨bl, ol, rfl, hd⟩ := HCL.out (by rintro rfl; simp at hln)
          have hz := hd n hln
          have hzz := HLZ.out (L.getD n 0) (by simp [List.getD_eq_getElem?_getD, hln])
          have hpk : (pickL notes L)[n]? = some (notes.getD (L.getD n 0).toNat default) := by simp [pickL, hln]
          obtain ⟨z, ez⟩ : ∃ z : Nat, L.getD n 0 = (z : Int) := ⟨(L.getD n 0).toNat, by omega⟩
          rw [ez] at hz hzz hpk
          have hzl : z < notes.length := by omega
          have zl : (z : Int) < (notes.length : Int) := by omega
          have hxe : notes.getD ((z : Int)).toNat default = notes[z] := by simp [List.getD_eq_getElem?_getD, hzl]
          rw [hxe] at hpk
          have c0 := (HBw.out.cell (World.block_lt_of_cell? w _ hz)).trans hz
          obtain ⟨b, o, rfl, hb, hcc⟩ := HCN.out (by intro e; simp [e] at hzl)
          obtain ⟨d0, d1, d2, d3, d4⟩ := hcc z hzl
          have e0 := (HBw.out.cell (p := ⟨b, o + z * 5, none⟩) hb).trans d0
          have e1 := (HBw.out.cell (p := ⟨b, o + z * 5 + 1, none⟩) hb).trans d1
          have e2 := (HBw.out.cell (p := ⟨b, o + z * 5 + 2, none⟩) hb).trans d2
          have e3 := (HBw.out.cell (p := ⟨b, o + z * 5 + 3, none⟩) hb).trans d3
          have e4 := (HBw.out.cell (p := ⟨b, o + z * 5 + 4, none⟩) hb).trans d4
          have hnt := ntOk_of (iv := iv) (np := pts.length) iv1 np8 (HV.out.err0 notes[z] (List.getElem_mem hzl))
          have HPK := Lib.hid hpk
          clear hd hzz ez hxe hcc d0 d1 d2 d3 d4 hz hpk
          generalize notes[z] = x at *
          obtain ⟨k, a, b', lo, hi'⟩ := x
          simp only at e0 e1 e2 e3 e4
          go_wp2_with fail
          have lt0 : w.heap.size < wr.heap.size := lt_of_block hA
          have lt1 := World.block_lt_of_cell? wr _ c0
          have lt2 := World.block_lt_of_cell? wr _ e0
          simp only at lt1 lt2
          go_region
          have HX3 := Lib.hid (show ((wr.alloc (Obj.cells #[.int .i64 k, .int .i64 a, .int .i64 b', .int .i64 lo, .int .i64 hi'] 67)).drew).heap[wr.heap.size]? = _ from heap_alloc_new wr (Obj.cells #[.int .i64 k, .int .i64 a, .int .i64 b', .int .i64 lo, .int .i64 hi'] 67))
          have hBx : Below wr.heap.size wr ((wr.alloc (Obj.cells #[.int .i64 k, .int .i64 a, .int .i64 b', .int .i64 lo, .int .i64 hi'] 67)).drew) := ((Below.refl _ _).alloc (Nat.le_refl _) _).drew
          have HN3 : Hid (NarP g w5 (pts.length + 1) g r (bndT iv wd pts.length ((pickL notes L).take n)) ((wr.alloc (Obj.cells #[.int .i64 k, .int .i64 a, .int .i64 b', .int .i64 lo, .int .i64 hi'] 67)).drew)) := ⟨HN.out.mx.below hBx, HN.out.below.trans (hBx.mono (Nat.le_of_lt HN.out.mx.glt))⟩
          have HA3 := Lib.hid ((hBx.block _ lt0).trans hA)
          have HR : Hid (∀ i, i < pts.length + 1 → r i < wr.heap.size) := fun i hi => HN.out.mx.rlt hi
          have hs3 : wr.heap.size < ((wr.alloc (Obj.cells #[.int .i64 k, .int .i64 a, .int .i64 b', .int .i64 lo, .int .i64 hi'] 67)).drew).heap.size := by simp
          generalize (wr.alloc (Obj.cells #[.int .i64 k, .int .i64 a, .int .i64 b', .int .i64 lo, .int .i64 hi'] 67)).drew = w3 at *
          have hgx : g < wr.heap.size := HN.out.mx.glt
          generalize wr.heap.size = bx at *
          clear c0 e0 e1 e2 e3 e4 a0 a2 lt1 lt2 hA hBx HN HBw
          have x0 := cellOf HX3.out 0 _ rfl
          have x1 := cellOf HX3.out 1 _ rfl
          have x2 := cellOf HX3.out 2 _ rfl
          have x3 := cellOf HX3.out 3 _ rfl
          have x4 := cellOf HX3.out 4 _ rfl
          go_wp2_with fail
          go_region
          have HY4 := Lib.hid (show ((w3.alloc (Obj.cells #[.int .i64 lo, .int .i64 hi'] 40)).drew).heap[w3.heap.size]? = _ from heap_alloc_new w3 (Obj.cells #[.int .i64 lo, .int .i64 hi'] 40))
          have hBy : Below w3.heap.size w3 ((w3.alloc (Obj.cells #[.int .i64 lo, .int .i64 hi'] 40)).drew) := ((Below.refl _ _).alloc (Nat.le_refl _) _).drew
          have HN4 : Hid (NarP g w5 (pts.length + 1) g r (bndT iv wd pts.length ((pickL notes L).take n)) ((w3.alloc (Obj.cells #[.int .i64 lo, .int .i64 hi'] 40)).drew)) := ⟨HN3.out.mx.below hBy, HN3.out.below.trans (hBy.mono (by omega))⟩
          have HX4 := Lib.hid ((hBy.block bx hs3).trans HX3.out)
          have HA4 := Lib.hid ((hBy.block w.heap.size (by omega)).trans HA3.out)
          generalize (w3.alloc (Obj.cells #[.int .i64 lo, .int .i64 hi'] 40)).drew = w4 at *
          have hxy : bx < w3.heap.size := hs3
          generalize w3.heap.size = bs at *
          clear x0 x1 x2 x3 x4 hBy HN3 HX3 HA3 hs3
          have x0 := cellOf HX4.out 0 _ rfl
          have x1 := cellOf HX4.out 1 _ rfl
          have y0 := cellOf HY4.out 0 _ rfl
          have y1 := cellOf HY4.out 1 _ rfl
          have a0 := cellOf HA4.out 0 _ rfl
          have g0 := frozen_of_row _ _ 0 _ _ HY4.out
          have g1 := frozen_of_row _ _ 1 _ _ HY4.out
          have HNT := Lib.hid hnt
          have hbd := bndT_bd (iv := iv) (wd := wd) (np := pts.length) (by omega) (l := (pickL notes L).take n) (fun y hy => HPK0.out y (List.mem_of_mem_take hy))
          have HBD := Lib.hid hbd
          have HTS := Lib.hid (bndT_succ iv wd pts.length (pickL notes L) n (by rw [HPL.out]; exact hln))
          clear hbd hnt
          have hab := HNT.out.a
          have ha0 := HNT.out.ok.a0
          simp only at hab ha0
          obtain ⟨an, ea⟩ : ∃ an : Nat, a = (an : Int) := ⟨a.toNat, by omega⟩
          subst ea
          have hal : an < pts.length := by omega
          have al : (an : Int) < (pts.length : Int) := by omega
          have al2 : (an : Int) < (pts.length : Int) + 1 := by omega
          have wd0 : (0 : Int) ≤ (wd : Int) := by omega
          clear hab ha0
          rcases HNT.out.ok.kind with e | e | e | e
          · as_aux_lemma =>
              simp only at e
              subst e
              have hX1 : hiOf iv ⟨1, an, b', lo, hi'⟩ = hi' ∧ loOf iv ⟨1, an, b', lo, hi'⟩ = lo ∧ oIx pts.length ⟨1, an, b', lo, hi'⟩ = pts.length := by simp [hiOf, loOf, oIx]
              have hol : pts.length < pts.length + 1 := by omega
              have hne : pts.length ≠ an := by have := HNT.out.ne; rw [hX1.2.2] at this; simpa using this
              have hlh : -9000 ≤ lo ∧ lo ≤ 9000 ∧ -9000 ≤ hi' ∧ hi' ≤ 9000 := by
                have p1 := HNT.out.ok.l0
                have p2 := HNT.out.ok.l9
                have p3 := HNT.out.ok.h0
                have p4 := HNT.out.ok.h9
                rw [hX1.1] at p3 p4
                rw [hX1.2.1] at p1 p2
                exact ⟨p1, p2, p3, p4⟩
              obtain ⟨l0, l9, h0, h9⟩ := hlh
              have hTN : noteT iv wd pts.length (bndT iv wd pts.length ((pickL notes L).take n)) ⟨1, an, b', lo, hi'⟩ = minM (minM (bndT iv wd pts.length ((pickL notes L).take n)) pts.length an (hi' + wd)) an pts.length (wd - lo) := by
                unfold noteT
                rw [hX1.1, hX1.2.1, hX1.2.2]
                rfl
              have hpk : (pickL notes L)[n]'(by rw [HPL.out]; exact hln) = ⟨1, an, b', lo, hi'⟩ := by have := HPK.out; rw [List.getElem?_eq_getElem (by rw [HPL.out]; exact hln)] at this; simpa using this
              have HTS2 : Hid (bndT iv wd pts.length ((pickL notes L).take (n + 1)) = minM (minM (bndT iv wd pts.length ((pickL notes L).take n)) pts.length an (hi' + wd)) an pts.length (wd - lo)) := by show _ = _; rw [HTS.out, hpk, hTN]
              clear hpk hTN hX1
              obtain ⟨T, hT⟩ : ∃ T, Hid (T = bndT iv wd pts.length ((pickL notes L).take n)) := ⟨_, rfl⟩
              rw [← hT.out] at HN4 HBD HTS2
              have t1 := HBD.out pts.length an
              have t2 := HBD.out an pts.length
              have q1 := HN4.out.mx.cell hol (show an < pts.length + 1 by omega)
              have q2 := HN4.out.mx.cell (show an < pts.length + 1 by omega) hol
              have qf1 := HN4.out.mx.frozen hol an
              have qf2 := HN4.out.mx.frozen (show an < pts.length + 1 by omega) pts.length
              obtain ⟨s1, o1⟩ := HN4.out.mx.outer pts.length hol
              obtain ⟨s2, o2⟩ := HN4.out.mx.outer an (by omega)
              have HP1 : Hid (∀ gi, r pts.length = gi → NarP g w5 (pts.length + 1) g r (minM T pts.length an (hi' + wd)) (w4.drew.setCell ⟨gi, an, none⟩ (.int .i64 (min (T pts.length an) (hi' + wd))))) := fun gi e => HN4.out.drew.put hol e _ rfl
              have HMA : Hid (minM T pts.length an (hi' + wd) an pts.length = T an pts.length) := by show _ = _; unfold minM; rw [if_neg (by omega)]
              have r1 := HR.out pts.length hol
              have r2 := HR.out an (by omega)
              have r3 := (HN4.out.mx.r0 pts.length hol)
              have r4 := (HN4.out.mx.r0 an (by omega))
              have r5 : r pts.length ≠ r an := fun e => hne (HN4.out.mx.inj _ _ hol (by omega) e)
              obtain ⟨go, hgo⟩ : ∃ go, Hid (r pts.length = go) := ⟨_, rfl⟩
              obtain ⟨ga, hga⟩ : ∃ ga, Hid (r an = ga) := ⟨_, rfl⟩
              rw [hgo.out] at q1 qf1 o1 r1 r3 r5
              rw [hga.out] at q2 qf2 o2 r2 r4 r5
              have HP2 := Lib.hid (HP1.out go hgo.out)
              clear HP1 hgo
              generalize T pts.length an = v1 at *
              generalize T an pts.length = v2 at *
              have x1 := cellOf HX4.out 1 _ rfl
              have y1 := cellOf HY4.out 1 _ rfl


              go_wp2_with fail
              go_still_tail 20, (by kernel_rfl)
              have q1d : w4.drew.cell? ⟨go, an, none⟩ = some (.int .i64 v1) := q1
              have q1f : w4.drew.frozen? ⟨go, an, none⟩ = false := qf1
              have q2d := setc_other w4.drew ⟨go, an, none⟩ (.int .i64 (min v1 (hi' + wd))) (b := ga) (o := pts.length) r5.symm q2
              have o1d := setc_other w4.drew ⟨go, an, none⟩ (.int .i64 (min v1 (hi' + wd))) (b := g) (o := pts.length) (by simp; omega) o1
              have o2d := setc_other w4.drew ⟨go, an, none⟩ (.int .i64 (min v1 (hi' + wd))) (b := g) (o := an) (by simp; omega) o2
              have y0d := setc_other w4.drew ⟨go, an, none⟩ (.int .i64 (min v1 (hi' + wd))) (b := bs) (o := 0) (v := .int .i64 lo) (by simp; omega) (cellOf HY4.out 0 _ rfl)
              have x1d := setc_other w4.drew ⟨go, an, none⟩ (.int .i64 (min v1 (hi' + wd))) (b := bx) (o := 1) (v := .int .i64 an) (by simp; omega) x1
              have q2f := HP2.out.mx.frozen (show an < pts.length + 1 by omega) pts.length
              rw [hga.out] at q2f
              change wpList _ _ _ _ _ w4.drew
              clear q1 q2 qf1 qf2 o1 o2 x1 y1 HX4 HY4 HA4 HN4
              try clear x0 y0 a0
              try clear g0 g1
              generalize w4.drew = w7 at *
              go_wp2_with fail
              generalize w7.setCell ⟨go, an, none⟩ (.int .i64 (min v1 (hi' + wd))) = w8 at *
              clear q1d q1f
              have HP4 : Hid (NarP g w5 (pts.length + 1) g r (bndT iv wd pts.length ((pickL notes L).take (n + 1))) (w8.drew.setCell ⟨ga, pts.length, none⟩ (.int .i64 (min v2 (wd - lo))))) := HP2.out.drew.put (show an < pts.length + 1 by omega) hga.out _ (by rw [HTS2.out, ← HMA.out]; rfl)
              clear HP2 HMA HTS2 HTS HBD hT hga
              go_still_tail 20, (by kernel_rfl)
              have q2e : w8.drew.cell? ⟨ga, pts.length, none⟩ = some (.int .i64 v2) := q2d
              have q2g : w8.drew.frozen? ⟨ga, pts.length, none⟩ = false := q2f
              change wpList _ _ _ _ _ w8.drew
              clear q2d q2f o1d o2d y0d x1d
              generalize w8.drew = w9 at *
              go_wp2
              go_roundw
              case rel => exact ⟨n + 1, by omega, by go_num, HP4.out⟩
              case measure => simp [intOf]; omega
          · as_aux_lemma =>
              simp only at e
              subst e
              obtain ⟨m1, m2, m3⟩ := HNT.out.ok.c0 rfl
              simp only at m1 m2 m3
              have m4 : lo * iv ≤ 9000 := by omega
              have m5 : 0 ≤ hi' * iv := by omega
              clear x1
              go_wp2_with fail
              have hs1 := heap_setCell_same w4 bs 0 _ _ (.int .i64 (lo * iv)) HY4.out
              have hs2 := heap_setCell_same _ bs 1 _ _ (.int .i64 (hi' * iv)) hs1
              have HY6 := Lib.hid hs2
              have HX6 := Lib.hid ((heap_setCell_other (w4.setCell ⟨bs, 0, none⟩ (.int .i64 (lo * iv))) ⟨bs, 1, none⟩ bx (.int .i64 (hi' * iv)) (by simp; omega)).trans ((heap_setCell_other w4 ⟨bs, 0, none⟩ bx (.int .i64 (lo * iv)) (by simp; omega)).trans HX4.out))
              have HA6 := Lib.hid ((heap_setCell_other (w4.setCell ⟨bs, 0, none⟩ (.int .i64 (lo * iv))) ⟨bs, 1, none⟩ w.heap.size (.int .i64 (hi' * iv)) (by simp; omega)).trans ((heap_setCell_other w4 ⟨bs, 0, none⟩ w.heap.size (.int .i64 (lo * iv)) (by simp; omega)).trans HA4.out))
              have HN6 := Lib.hid ((HN4.out.far (b := bs) (by omega) (by omega) (fun i hi => by have := HR.out i hi; omega) 0 (.int .i64 (lo * iv))).far (b := bs) (by omega) (by omega) (fun i hi => by have := HR.out i hi; omega) 1 (.int .i64 (hi' * iv)))
              clear hs1 hs2 x0 y0 y1 a0 g0 g1 HN4 HX4 HY4 HA4
              generalize (w4.setCell ⟨bs, 0, none⟩ (.int .i64 (lo * iv))).setCell ⟨bs, 1, none⟩ (.int .i64 (hi' * iv)) = w6 at *
              have HN4 := HN6
              have HX4 := HX6
              have HY4 := HY6
              have HA4 := HA6
              clear HN6 HX6 HY6 HA6
              have hX1 : hiOf iv ⟨2, an, b', lo, hi'⟩ = (hi' * iv) ∧ loOf iv ⟨2, an, b', lo, hi'⟩ = (lo * iv) ∧ oIx pts.length ⟨2, an, b', lo, hi'⟩ = pts.length := by simp [hiOf, loOf, oIx]
              have hol : pts.length < pts.length + 1 := by omega
              have hne : pts.length ≠ an := by have := HNT.out.ne; rw [hX1.2.2] at this; simpa using this
              have hlh : -9000 ≤ (lo * iv) ∧ (lo * iv) ≤ 9000 ∧ -9000 ≤ (hi' * iv) ∧ (hi' * iv) ≤ 9000 := by
                have p1 := HNT.out.ok.l0
                have p2 := HNT.out.ok.l9
                have p3 := HNT.out.ok.h0
                have p4 := HNT.out.ok.h9
                rw [hX1.1] at p3 p4
                rw [hX1.2.1] at p1 p2
                exact ⟨p1, p2, p3, p4⟩
              obtain ⟨l0, l9, h0, h9⟩ := hlh
              have hTN : noteT iv wd pts.length (bndT iv wd pts.length ((pickL notes L).take n)) ⟨2, an, b', lo, hi'⟩ = minM (minM (bndT iv wd pts.length ((pickL notes L).take n)) pts.length an ((hi' * iv) + wd)) an pts.length (wd - (lo * iv)) := by
                unfold noteT
                rw [hX1.1, hX1.2.1, hX1.2.2]
                rfl
              have hpk : (pickL notes L)[n]'(by rw [HPL.out]; exact hln) = ⟨2, an, b', lo, hi'⟩ := by have := HPK.out; rw [List.getElem?_eq_getElem (by rw [HPL.out]; exact hln)] at this; simpa using this
              have HTS2 : Hid (bndT iv wd pts.length ((pickL notes L).take (n + 1)) = minM (minM (bndT iv wd pts.length ((pickL notes L).take n)) pts.length an ((hi' * iv) + wd)) an pts.length (wd - (lo * iv))) := by show _ = _; rw [HTS.out, hpk, hTN]
              clear hpk hTN hX1
              obtain ⟨T, hT⟩ : ∃ T, Hid (T = bndT iv wd pts.length ((pickL notes L).take n)) := ⟨_, rfl⟩
              rw [← hT.out] at HN4 HBD HTS2
              have t1 := HBD.out pts.length an
              have t2 := HBD.out an pts.length
              have q1 := HN4.out.mx.cell hol (show an < pts.length + 1 by omega)
              have q2 := HN4.out.mx.cell (show an < pts.length + 1 by omega) hol
              have qf1 := HN4.out.mx.frozen hol an
              have qf2 := HN4.out.mx.frozen (show an < pts.length + 1 by omega) pts.length
              obtain ⟨s1, o1⟩ := HN4.out.mx.outer pts.length hol
              obtain ⟨s2, o2⟩ := HN4.out.mx.outer an (by omega)
              have HP1 : Hid (∀ gi, r pts.length = gi → NarP g w5 (pts.length + 1) g r (minM T pts.length an ((hi' * iv) + wd)) (w6.drew.setCell ⟨gi, an, none⟩ (.int .i64 (min (T pts.length an) ((hi' * iv) + wd))))) := fun gi e => HN4.out.drew.put hol e _ rfl
              have HMA : Hid (minM T pts.length an ((hi' * iv) + wd) an pts.length = T an pts.length) := by show _ = _; unfold minM; rw [if_neg (by omega)]
              have r1 := HR.out pts.length hol
              have r2 := HR.out an (by omega)
              have r3 := (HN4.out.mx.r0 pts.length hol)
              have r4 := (HN4.out.mx.r0 an (by omega))
              have r5 : r pts.length ≠ r an := fun e => hne (HN4.out.mx.inj _ _ hol (by omega) e)
              obtain ⟨go, hgo⟩ : ∃ go, Hid (r pts.length = go) := ⟨_, rfl⟩
              obtain ⟨ga, hga⟩ : ∃ ga, Hid (r an = ga) := ⟨_, rfl⟩
              rw [hgo.out] at q1 qf1 o1 r1 r3 r5
              rw [hga.out] at q2 qf2 o2 r2 r4 r5
              have HP2 := Lib.hid (HP1.out go hgo.out)
              clear HP1 hgo
              generalize T pts.length an = v1 at *
              generalize T an pts.length = v2 at *
              have x1 := cellOf HX4.out 1 _ rfl
              have y1 := cellOf HY4.out 1 _ rfl


              go_wp2_with fail
              go_still_tail 20, (by kernel_rfl)
              have q1d : w6.drew.cell? ⟨go, an, none⟩ = some (.int .i64 v1) := q1
              have q1f : w6.drew.frozen? ⟨go, an, none⟩ = false := qf1
              have q2d := setc_other w6.drew ⟨go, an, none⟩ (.int .i64 (min v1 ((hi' * iv) + wd))) (b := ga) (o := pts.length) r5.symm q2
              have o1d := setc_other w6.drew ⟨go, an, none⟩ (.int .i64 (min v1 ((hi' * iv) + wd))) (b := g) (o := pts.length) (by simp; omega) o1
              have o2d := setc_other w6.drew ⟨go, an, none⟩ (.int .i64 (min v1 ((hi' * iv) + wd))) (b := g) (o := an) (by simp; omega) o2
              have y0d := setc_other w6.drew ⟨go, an, none⟩ (.int .i64 (min v1 ((hi' * iv) + wd))) (b := bs) (o := 0) (v := .int .i64 (lo * iv)) (by simp; omega) (cellOf HY4.out 0 _ rfl)
              have x1d := setc_other w6.drew ⟨go, an, none⟩ (.int .i64 (min v1 ((hi' * iv) + wd))) (b := bx) (o := 1) (v := .int .i64 an) (by simp; omega) x1
              have q2f := HP2.out.mx.frozen (show an < pts.length + 1 by omega) pts.length
              rw [hga.out] at q2f
              change wpList _ _ _ _ _ w6.drew
              clear q1 q2 qf1 qf2 o1 o2 x1 y1 HX4 HY4 HA4 HN4
              try clear x0 y0 a0
              try clear g0 g1
              generalize w6.drew = w7 at *
              go_wp2_with fail
              generalize w7.setCell ⟨go, an, none⟩ (.int .i64 (min v1 ((hi' * iv) + wd))) = w8 at *
              clear q1d q1f
              have HP4 : Hid (NarP g w5 (pts.length + 1) g r (bndT iv wd pts.length ((pickL notes L).take (n + 1))) (w8.drew.setCell ⟨ga, pts.length, none⟩ (.int .i64 (min v2 (wd - (lo * iv)))))) := HP2.out.drew.put (show an < pts.length + 1 by omega) hga.out _ (by rw [HTS2.out, ← HMA.out]; rfl)
              clear HP2 HMA HTS2 HTS HBD hT hga
              go_still_tail 20, (by kernel_rfl)
              have q2e : w8.drew.cell? ⟨ga, pts.length, none⟩ = some (.int .i64 v2) := q2d
              have q2g : w8.drew.frozen? ⟨ga, pts.length, none⟩ = false := q2f
              change wpList _ _ _ _ _ w8.drew
              clear q2d q2f o1d o2d y0d x1d
              generalize w8.drew = w9 at *
              go_wp2
              go_roundw
              case rel => exact ⟨n + 1, by omega, by go_num, HP4.out⟩
              case measure => simp [intOf]; omega
          · as_aux_lemma =>
              simp only at e
              subst e
              have hbn := HNT.out.b (by simp)
              have hb0 := HNT.out.ok.b0
              simp only at hbn hb0
              obtain ⟨bn, eb⟩ : ∃ bn : Nat, b' = (bn : Int) := ⟨b'.toNat, by omega⟩
              subst eb
              have hbl : bn < pts.length := by omega
              have bl' : (bn : Int) < (pts.length : Int) := by omega
              have bl2 : (bn : Int) < (pts.length : Int) + 1 := by omega
              clear hbn hb0
              have hX1 : hiOf iv ⟨3, an, bn, lo, hi'⟩ = hi' ∧ loOf iv ⟨3, an, bn, lo, hi'⟩ = lo ∧ oIx pts.length ⟨3, an, bn, lo, hi'⟩ = bn := by simp [hiOf, loOf, oIx]
              have hol : bn < pts.length + 1 := by omega
              have hne : bn ≠ an := by have := HNT.out.ne; rw [hX1.2.2] at this; simpa using this
              have hlh : -9000 ≤ lo ∧ lo ≤ 9000 ∧ -9000 ≤ hi' ∧ hi' ≤ 9000 := by
                have p1 := HNT.out.ok.l0
                have p2 := HNT.out.ok.l9
                have p3 := HNT.out.ok.h0
                have p4 := HNT.out.ok.h9
                rw [hX1.1] at p3 p4
                rw [hX1.2.1] at p1 p2
                exact ⟨p1, p2, p3, p4⟩
              obtain ⟨l0, l9, h0, h9⟩ := hlh
              have hTN : noteT iv wd pts.length (bndT iv wd pts.length ((pickL notes L).take n)) ⟨3, an, bn, lo, hi'⟩ = minM (minM (bndT iv wd pts.length ((pickL notes L).take n)) bn an (hi' + wd)) an bn (wd - lo) := by
                unfold noteT
                rw [hX1.1, hX1.2.1, hX1.2.2]
                rfl
              have hpk : (pickL notes L)[n]'(by rw [HPL.out]; exact hln) = ⟨3, an, bn, lo, hi'⟩ := by have := HPK.out; rw [List.getElem?_eq_getElem (by rw [HPL.out]; exact hln)] at this; simpa using this
              have HTS2 : Hid (bndT iv wd pts.length ((pickL notes L).take (n + 1)) = minM (minM (bndT iv wd pts.length ((pickL notes L).take n)) bn an (hi' + wd)) an bn (wd - lo)) := by show _ = _; rw [HTS.out, hpk, hTN]
              clear hpk hTN hX1
              obtain ⟨T, hT⟩ : ∃ T, Hid (T = bndT iv wd pts.length ((pickL notes L).take n)) := ⟨_, rfl⟩
              rw [← hT.out] at HN4 HBD HTS2
              have t1 := HBD.out bn an
              have t2 := HBD.out an bn
              have q1 := HN4.out.mx.cell hol (show an < pts.length + 1 by omega)
              have q2 := HN4.out.mx.cell (show an < pts.length + 1 by omega) hol
              have qf1 := HN4.out.mx.frozen hol an
              have qf2 := HN4.out.mx.frozen (show an < pts.length + 1 by omega) bn
              obtain ⟨s1, o1⟩ := HN4.out.mx.outer bn hol
              obtain ⟨s2, o2⟩ := HN4.out.mx.outer an (by omega)
              have HP1 : Hid (∀ gi, r bn = gi → NarP g w5 (pts.length + 1) g r (minM T bn an (hi' + wd)) (w4.drew.setCell ⟨gi, an, none⟩ (.int .i64 (min (T bn an) (hi' + wd))))) := fun gi e => HN4.out.drew.put hol e _ rfl
              have HMA : Hid (minM T bn an (hi' + wd) an bn = T an bn) := by show _ = _; unfold minM; rw [if_neg (by omega)]
              have r1 := HR.out bn hol
              have r2 := HR.out an (by omega)
              have r3 := (HN4.out.mx.r0 bn hol)
              have r4 := (HN4.out.mx.r0 an (by omega))
              have r5 : r bn ≠ r an := fun e => hne (HN4.out.mx.inj _ _ hol (by omega) e)
              obtain ⟨go, hgo⟩ : ∃ go, Hid (r bn = go) := ⟨_, rfl⟩
              obtain ⟨ga, hga⟩ : ∃ ga, Hid (r an = ga) := ⟨_, rfl⟩
              rw [hgo.out] at q1 qf1 o1 r1 r3 r5
              rw [hga.out] at q2 qf2 o2 r2 r4 r5
              have HP2 := Lib.hid (HP1.out go hgo.out)
              clear HP1 hgo
              generalize T bn an = v1 at *
              generalize T an bn = v2 at *
              have x1 := cellOf HX4.out 1 _ rfl
              have y1 := cellOf HY4.out 1 _ rfl


              go_wp2_with fail
              go_still_tail 20, (by kernel_rfl)
              have q1d : w4.drew.cell? ⟨go, an, none⟩ = some (.int .i64 v1) := q1
              have q1f : w4.drew.frozen? ⟨go, an, none⟩ = false := qf1
              have q2d := setc_other w4.drew ⟨go, an, none⟩ (.int .i64 (min v1 (hi' + wd))) (b := ga) (o := bn) r5.symm q2
              have o1d := setc_other w4.drew ⟨go, an, none⟩ (.int .i64 (min v1 (hi' + wd))) (b := g) (o := bn) (by simp; omega) o1
              have o2d := setc_other w4.drew ⟨go, an, none⟩ (.int .i64 (min v1 (hi' + wd))) (b := g) (o := an) (by simp; omega) o2
              have y0d := setc_other w4.drew ⟨go, an, none⟩ (.int .i64 (min v1 (hi' + wd))) (b := bs) (o := 0) (v := .int .i64 lo) (by simp; omega) (cellOf HY4.out 0 _ rfl)
              have x1d := setc_other w4.drew ⟨go, an, none⟩ (.int .i64 (min v1 (hi' + wd))) (b := bx) (o := 1) (v := .int .i64 an) (by simp; omega) x1
              have q2f := HP2.out.mx.frozen (show an < pts.length + 1 by omega) bn
              rw [hga.out] at q2f
              change wpList _ _ _ _ _ w4.drew
              clear q1 q2 qf1 qf2 o1 o2 x1 y1 HX4 HY4 HA4 HN4
              try clear x0 y0 a0
              try clear g0 g1
              generalize w4.drew = w7 at *
              go_wp2_with fail
              generalize w7.setCell ⟨go, an, none⟩ (.int .i64 (min v1 (hi' + wd))) = w8 at *
              clear q1d q1f
              have HP4 : Hid (NarP g w5 (pts.length + 1) g r (bndT iv wd pts.length ((pickL notes L).take (n + 1))) (w8.drew.setCell ⟨ga, bn, none⟩ (.int .i64 (min v2 (wd - lo))))) := HP2.out.drew.put (show an < pts.length + 1 by omega) hga.out _ (by rw [HTS2.out, ← HMA.out]; rfl)
              clear HP2 HMA HTS2 HTS HBD hT hga
              go_still_tail 20, (by kernel_rfl)
              have q2e : w8.drew.cell? ⟨ga, bn, none⟩ = some (.int .i64 v2) := q2d
              have q2g : w8.drew.frozen? ⟨ga, bn, none⟩ = false := q2f
              change wpList _ _ _ _ _ w8.drew
              clear q2d q2f o1d o2d y0d x1d
              generalize w8.drew = w9 at *
              go_wp2
              go_roundw
              case rel => exact ⟨n + 1, by omega, by go_num, HP4.out⟩
              case measure => simp [intOf]; omega
          · as_aux_lemma =>
              simp only at e
              subst e
              have hbn := HNT.out.b (by simp)
              have hb0 := HNT.out.ok.b0
              simp only at hbn hb0
              obtain ⟨bn, eb⟩ : ∃ bn : Nat, b' = (bn : Int) := ⟨b'.toNat, by omega⟩
              subst eb
              have hbl : bn < pts.length := by omega
              have bl' : (bn : Int) < (pts.length : Int) := by omega
              have bl2 : (bn : Int) < (pts.length : Int) + 1 := by omega
              clear hbn hb0
              have hX1 : hiOf iv ⟨4, an, bn, lo, hi'⟩ = hi' ∧ loOf iv ⟨4, an, bn, lo, hi'⟩ = lo ∧ oIx pts.length ⟨4, an, bn, lo, hi'⟩ = bn := by simp [hiOf, loOf, oIx]
              have hol : bn < pts.length + 1 := by omega
              have hne : bn ≠ an := by have := HNT.out.ne; rw [hX1.2.2] at this; simpa using this
              have hlh : -9000 ≤ lo ∧ lo ≤ 9000 ∧ -9000 ≤ hi' ∧ hi' ≤ 9000 := by
                have p1 := HNT.out.ok.l0
                have p2 := HNT.out.ok.l9
                have p3 := HNT.out.ok.h0
                have p4 := HNT.out.ok.h9
                rw [hX1.1] at p3 p4
                rw [hX1.2.1] at p1 p2
                exact ⟨p1, p2, p3, p4⟩
              obtain ⟨l0, l9, h0, h9⟩ := hlh
              have hTN : noteT iv wd pts.length (bndT iv wd pts.length ((pickL notes L).take n)) ⟨4, an, bn, lo, hi'⟩ = minM (minM (bndT iv wd pts.length ((pickL notes L).take n)) bn an (hi' + wd)) an bn (wd - lo) := by
                unfold noteT
                rw [hX1.1, hX1.2.1, hX1.2.2]
                rfl
              have hpk : (pickL notes L)[n]'(by rw [HPL.out]; exact hln) = ⟨4, an, bn, lo, hi'⟩ := by have := HPK.out; rw [List.getElem?_eq_getElem (by rw [HPL.out]; exact hln)] at this; simpa using this
              have HTS2 : Hid (bndT iv wd pts.length ((pickL notes L).take (n + 1)) = minM (minM (bndT iv wd pts.length ((pickL notes L).take n)) bn an (hi' + wd)) an bn (wd - lo)) := by show _ = _; rw [HTS.out, hpk, hTN]
              clear hpk hTN hX1
              obtain ⟨T, hT⟩ : ∃ T, Hid (T = bndT iv wd pts.length ((pickL notes L).take n)) := ⟨_, rfl⟩
              rw [← hT.out] at HN4 HBD HTS2
              have t1 := HBD.out bn an
              have t2 := HBD.out an bn
              have q1 := HN4.out.mx.cell hol (show an < pts.length + 1 by omega)
              have q2 := HN4.out.mx.cell (show an < pts.length + 1 by omega) hol
              have qf1 := HN4.out.mx.frozen hol an
              have qf2 := HN4.out.mx.frozen (show an < pts.length + 1 by omega) bn
              obtain ⟨s1, o1⟩ := HN4.out.mx.outer bn hol
              obtain ⟨s2, o2⟩ := HN4.out.mx.outer an (by omega)
              have HP1 : Hid (∀ gi, r bn = gi → NarP g w5 (pts.length + 1) g r (minM T bn an (hi' + wd)) (w4.drew.setCell ⟨gi, an, none⟩ (.int .i64 (min (T bn an) (hi' + wd))))) := fun gi e => HN4.out.drew.put hol e _ rfl
              have HMA : Hid (minM T bn an (hi' + wd) an bn = T an bn) := by show _ = _; unfold minM; rw [if_neg (by omega)]
              have r1 := HR.out bn hol
              have r2 := HR.out an (by omega)
              have r3 := (HN4.out.mx.r0 bn hol)
              have r4 := (HN4.out.mx.r0 an (by omega))
              have r5 : r bn ≠ r an := fun e => hne (HN4.out.mx.inj _ _ hol (by omega) e)
              obtain ⟨go, hgo⟩ : ∃ go, Hid (r bn = go) := ⟨_, rfl⟩
              obtain ⟨ga, hga⟩ : ∃ ga, Hid (r an = ga) := ⟨_, rfl⟩
              rw [hgo.out] at q1 qf1 o1 r1 r3 r5
              rw [hga.out] at q2 qf2 o2 r2 r4 r5
              have HP2 := Lib.hid (HP1.out go hgo.out)
              clear HP1 hgo
              generalize T bn an = v1 at *
              generalize T an bn = v2 at *
              have x1 := cellOf HX4.out 1 _ rfl
              have y1 := cellOf HY4.out 1 _ rfl


              go_wp2_with fail
              go_still_tail 20, (by kernel_rfl)
              have q1d : w4.drew.cell? ⟨go, an, none⟩ = some (.int .i64 v1) := q1
              have q1f : w4.drew.frozen? ⟨go, an, none⟩ = false := qf1
              have q2d := setc_other w4.drew ⟨go, an, none⟩ (.int .i64 (min v1 (hi' + wd))) (b := ga) (o := bn) r5.symm q2
              have o1d := setc_other w4.drew ⟨go, an, none⟩ (.int .i64 (min v1 (hi' + wd))) (b := g) (o := bn) (by simp; omega) o1
              have o2d := setc_other w4.drew ⟨go, an, none⟩ (.int .i64 (min v1 (hi' + wd))) (b := g) (o := an) (by simp; omega) o2
              have y0d := setc_other w4.drew ⟨go, an, none⟩ (.int .i64 (min v1 (hi' + wd))) (b := bs) (o := 0) (v := .int .i64 lo) (by simp; omega) (cellOf HY4.out 0 _ rfl)
              have x1d := setc_other w4.drew ⟨go, an, none⟩ (.int .i64 (min v1 (hi' + wd))) (b := bx) (o := 1) (v := .int .i64 an) (by simp; omega) x1
              have q2f := HP2.out.mx.frozen (show an < pts.length + 1 by omega) bn
              rw [hga.out] at q2f
              change wpList _ _ _ _ _ w4.drew
              clear q1 q2 qf1 qf2 o1 o2 x1 y1 HX4 HY4 HA4 HN4
              try clear x0 y0 a0
              try clear g0 g1
              generalize w4.drew = w7 at *
              go_wp2_with fail
              generalize w7.setCell ⟨go, an, none⟩ (.int .i64 (min v1 (hi' + wd))) = w8 at *
              clear q1d q1f
              have HP4 : Hid (NarP g w5 (pts.length + 1) g r (bndT iv wd pts.length ((pickL notes L).take (n + 1))) (w8.drew.setCell ⟨ga, bn, none⟩ (.int .i64 (min v2 (wd - lo))))) := HP2.out.drew.put (show an < pts.length + 1 by omega) hga.out _ (by rw [HTS2.out, ← HMA.out]; rfl)
              clear HP2 HMA HTS2 HTS HBD hT hga
              go_still_tail 20, (by kernel_rfl)
              have q2e : w8.drew.cell? ⟨ga, bn, none⟩ = some (.int .i64 v2) := q2d
              have q2g : w8.drew.frozen? ⟨ga, bn, none⟩ = false := q2f
              change wpList _ _ _ _ _ w8.drew
              clear q2d q2f o1d o2d y0d x1d
              generalize w8.drew = w9 at *
              go_wp2
              go_roundw
              case rel => exact ⟨n + 1, by omega, by go_num, HP4.out⟩
              case measure => simp [intOf]; omega
        · obtain rfl : n = L.length := by omega
          have hT : (pickL notes L).take L.length = pickL notes L := List.take_of_length_le (by rw [HPL.out]; exact Nat.le_refl _)
          have hN := HN.out
          rw [hT] at hN
          have HNR := Lib.hid (narrow_any g (pts.length + 1) g (pts.length + 1) r _ wr hN.mx (by omega) (fun a b _ _ => bndT_bd (by omega) HPK0.out a b))
          have HNB := Lib.hid ((HBr.out.trans (hN.below.mono (Nat.le_of_lt hgw))))
          clear hT hN HN HN1
          go_wp2_with fail
          refine HNR.out.mono ?_
          rintro e w9 ⟨rfl, hN9⟩
          have HF : Hid (NarP w.heap.size w (pts.length + 1) g r (refM iv wd pts.length (pickL notes L)) w9) := ⟨hN9.mx.mono (Nat.le_of_lt hgw), HNB.out.trans (hN9.below.mono (Nat.le_of_lt hgw))⟩
          clear hN9 HNR
          go_wp2
          go_ret2
          exact ⟨g, pts.length + 1, r, rfl, HF.out⟩
end Go.Proofs.YtpmnnomeaaaenaaGreatDoor
