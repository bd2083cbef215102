/- slices.Index and slices.Contains on ints. -/
import Derived.Test.YtacmaddjpaebfaaGreatDoorApt
import Derived.Lib.SliceRun
set_option linter.unusedSimpArgs false
set_option linter.unusedVariables false
namespace Go.Proofs.YtacmaddjpaebfaaGreatDoor
open Go Go.RowKit Hs

set_option maxHeartbeats 400000 in
theorem index_any (x : Int) (v : Value) (l : List Int) (w : World) (hv : IntsAt w v l) :
    Calls Tryz.prog 119 #[v, .int .i64 x] w fun e w' => (∃ r : Int, e = .returned (.int .i64 r) ∧ (0 ≤ r ↔ x ∈ l)) ∧ w = w' := by
  obtain ⟨hm, a, cap, rfl, hc⟩ := hv
  have hm' : (l.length : Int) ≤ 4611686018427387904 := by omega
  go_enter Tryz.func119, Tryz.ntmps119
  go_wp2
  go_loop [8] (fun i => ∃ k : Nat, k ≤ l.length ∧ i = .int .i64 k ∧ Hid (x ∉ l.take k)) (fun i => l.length - (intOf i).toNat)
  case atStart => exact ⟨0, Nat.zero_le _, rfl, by show _ ∉ _; simp⟩
  case round =>
    obtain ⟨k, hk, rfl, HW⟩ := hrel
    by_cases hlt : k < l.length
    · obtain ⟨b, o, rfl, hd⟩ := hc (by intro e; simp [e] at hlt)
      have hck := hd k hlt
      have hg : l.getD k 0 = l[k] := by simp [hlt]
      rw [hg] at hck
      have HX : Hid (l[k] = x → x ∈ l) := fun e => e ▸ List.getElem_mem hlt
      have HN : Hid (l[k] ≠ x → x ∉ l.take (k + 1)) := fun e h => by
        rw [List.take_succ_eq_append_getElem hlt, List.mem_append] at h
        rcases h with h | h
        · exact HW.out h
        · simp at h; exact e h.symm
      clear hc hd hg
      generalize l[k] = y at *
      by_cases hy : y = x
      · have e1 : (x == y) = true := by simp [hy]
        have HY := Lib.hid hy
        clear hy
        go_wp2
        go_ret
        exact ⟨⟨k, rfl, by simp; exact HX.out HY.out⟩, rfl⟩
      · have e1 : (x == y) = false := by simp; exact fun h => hy h.symm
        have HY := Lib.hid hy
        clear hy
        go_wp2
        go_round
        case rel => exact ⟨k + 1, by omega, by go_num, HN.out HY.out⟩
        case measure => simp [intOf]; omega
    · go_wp2
      go_ret
      have e : l.take k = l := List.take_of_length_le (by omega)
      have h := HW.out
      rw [e] at h
      exact ⟨⟨-1, rfl, by simp; exact h⟩, rfl⟩

set_option maxHeartbeats 400000 in
theorem contains_any (x : Int) (v : Value) (l : List Int) (w : World) (hv : IntsAt w v l) :
    Calls Tryz.prog 102 #[v, .int .i64 x] w fun e w' => e = .returned (.bool (decide (x ∈ l))) ∧ w = w' := by
  have hc := Lib.hid (index_any x v l w hv)
  go_enter Tryz.func102, Tryz.ntmps102
  go_wp2_with fail
  refine hc.out.mono ?_
  rintro e w' ⟨⟨r, rfl, hr⟩, rfl⟩
  have HR := Lib.hid hr
  clear hr hc
  go_wp2
  go_ret
  refine ⟨?_, rfl⟩
  by_cases h : 0 ≤ r
  · have h2 := HR.out.1 h
    simp [h, h2]
  · have h2 : x ∉ l := fun m => h (HR.out.2 m)
    simp [h, h2]
end Go.Proofs.YtacmaddjpaebfaaGreatDoor
/- having of package sheet. -/
namespace Go.Proofs.YtacmaddjpaebfaaGreatDoor
open Go Go.RowKit Hs

theorem IntsAt.below {w w' : World} {v : Value} {l : List Int} (h : IntsAt w v l) (hb : Below w.heap.size w w') : IntsAt w' v l := by
  obtain ⟨h1, a, cap, rfl, h2⟩ := h
  refine ⟨h1, a, cap, rfl, fun hne => ?_⟩
  obtain ⟨b, o, rfl, hc⟩ := h2 hne
  refine ⟨b, o, rfl, fun k hk => ?_⟩
  exact (hb.cell (p := ⟨b, o + k, none⟩) (World.block_lt_of_cell? w _ (hc k hk))).trans (hc k hk)

/-- The cells of a note. -/
def noteC (x : Note) : List Value := [.int .i64 x.k, .int .i64 x.a, .int .i64 x.b, .int .i64 x.lo, .int .i64 x.hi]
def notesC (l : List Note) : List Value := l.flatMap noteC
theorem notesC_append (l : List Note) (x : Note) : notesC (l ++ [x]) = notesC l ++ noteC x := by simp [notesC]
theorem notesC_get (l : List Note) (k : Nat) (h : k < l.length) (j : Nat) (hj : j < 5) : (notesC l)[k * 5 + j]? = (noteC l[k])[j]? := by
  induction l generalizing k with
  | nil => simp at h
  | cons x l ih =>
    have e : notesC (x :: l) = noteC x ++ notesC l := by simp [notesC]
    rw [e]
    cases k with
    | zero => rw [List.getElem?_append_left (by simp [noteC]; omega)]; simp
    | succ k =>
      rw [List.getElem?_append_right (by simp [noteC]; omega)]
      have h' : k < l.length := by simpa using h
      have := ih k h'
      simp only [noteC, List.length_cons, List.length_nil]
      rw [show (k + 1) * 5 + j - (0 + 1 + 1 + 1 + 1 + 1) = k * 5 + j by omega]
      simpa [noteC] using this
/-- The notes among the first k that are in a list, or not. -/
def havK (l : List Note) (list : List Int) (inn : Bool) : Nat → List Note
  | 0 => []
  | k + 1 => if decide ((k : Int) ∈ list) = inn then havK l list inn k ++ (l[k]?).toList else havK l list inn k
theorem havK_le (l : List Note) (list : List Int) (inn : Bool) (k : Nat) : (havK l list inn k).length ≤ k := by
  induction k with
  | zero => simp [havK]
  | succ k ih =>
    unfold havK
    split
    · rw [List.length_append]
      have : (l[k]?).toList.length ≤ 1 := by cases l[k]? <;> simp
      omega
    · omega
theorem notesAt_own {w : World} {base : Nat} {v : Value} {l : List Note} (h : w.ownsRow base 67 5 v l.length (notesC l)) (hl : l.length ≤ 4611686018427387904) : NotesAt w.heap.size w v l := by
  rcases h.2 with ⟨rfl, hn⟩ | ⟨g, cap, cur, rfl, hb, hg, r⟩
  · refine ⟨hl, none, 0, by rw [hn], fun hne => absurd (List.eq_nil_of_length_eq_zero hn) hne⟩
  · refine ⟨hl, some ⟨g, 0, none⟩, cap, rfl, fun _ => ⟨g, 0, rfl, lt_of_block hg, fun k hk => ?_⟩⟩
    have key : ∀ j, j < 5 → w.cell? ⟨g, k * 5 + j, none⟩ = (noteC l[k])[j]? := fun j hj => (h.cellAt (k * 5 + j) (by omega)).trans (notesC_get l k hk j hj)
    have k0 := key 0 (by omega)
    have k1 := key 1 (by omega)
    have k2 := key 2 (by omega)
    have k3 := key 3 (by omega)
    have k4 := key 4 (by omega)
    simp only [Nat.zero_add]
    exact ⟨k0, k1, k2, k3, k4⟩
theorem own_other {w : World} {base e size n : Nat} {v : Value} {xs : List Value} (h : w.ownsRow base e size v n xs) (p : Addr) (hp : p.block < base) (u : Value) : (w.setCell p u).ownsRow base e size v n xs := by
  obtain ⟨h0, h⟩ := h
  refine ⟨h0, ?_⟩
  rcases h with h | ⟨g, cap, cur, r1, r2, r3, r4⟩
  · exact .inl h
  · exact .inr ⟨g, cap, cur, r1, r2, (heap_setCell_other w p g u (by omega)).trans r3, r4⟩
theorem own_slice {w : World} {base e size n : Nat} {v : Value} {xs : List Value} (h : w.ownsRow base e size v n xs) : ∃ sa sc, v = .slice sa n sc := by
  rcases h.2 with ⟨rfl, rfl⟩ | ⟨g, cap, cur, rfl, _⟩
  · exact ⟨_, _, rfl⟩
  · exact ⟨_, _, rfl⟩
theorem noteInfo : (Tryz.prog.info? 67).map (fun i => (i.zero, i.size, i.bytes)) = some (some (.agg #[.int .i64 0, .int .i64 0, .int .i64 0, .int .i64 0, .int .i64 0]), 5, 40) := by kernel_rfl

set_option maxRecDepth 100000 in
set_option maxHeartbeats 1000000 in
theorem having_any (iv wd : Int) (pa : Option Addr) (pn pc : Nat) (nv lv : Value) (inn : Bool) (l : List Note) (list : List Int) (w : World) (hn12 : l.length ≤ 12) (hN : NotesAt w.heap.size w nv l) (hL : IntsAt w lv list) :
    Calls Tryz.prog 77 #[.agg #[.int .i64 iv, .slice pa pn pc, nv, .int .i64 wd], lv, .bool inn] w fun e w' => ∃ v', e = .returned (.agg #[.int .i64 iv, .slice pa pn pc, v', .int .i64 wd]) ∧ NotesAt w'.heap.size w' v' (havK l list inn l.length) ∧ Below w.heap.size w w' := by
  obtain ⟨i0, hi⟩ := info_of_underlying Tryz.underlying67
  have HI : Hid (i0.zero = some (.agg #[.int .i64 0, .int .i64 0, .int .i64 0, .int .i64 0, .int .i64 0]) ∧ i0.size = 5 ∧ i0.bytes = 40) := by
    have h := noteInfo
    rw [hi] at h
    simp at h
    exact h
  obtain ⟨ln, na, nc, rfl, hcN⟩ := hN
  obtain ⟨ll, la, lc, rfl, hcL⟩ := id hL
  have HL := Lib.hid hL
  have HC := Lib.hid hcN
  clear hL hcN hcL
  have ln' : (l.length : Int) ≤ 12 := by omega
  go_enter Tryz.func77, Tryz.ntmps77
  go_wp2
  have hBW : Below w.heap.size w ((w.alloc (Obj.cells #[.int .i64 iv, .slice pa pn pc, .slice na l.length nc, .int .i64 wd] 80)).alloc (Obj.cells #[.int .i64 0, .slice none 0 0, .slice none 0 0, .int .i64 0] 80)) := by go_grown
  have hA := heap_alloc2_old w (Obj.cells #[.int .i64 iv, .slice pa pn pc, .slice na l.length nc, .int .i64 wd] 80) (Obj.cells #[.int .i64 0, .slice none 0 0, .slice none 0 0, .int .i64 0] 80)
  have hO := heap_alloc2_new w (Obj.cells #[.int .i64 iv, .slice pa pn pc, .slice na l.length nc, .int .i64 wd] 80) (Obj.cells #[.int .i64 0, .slice none 0 0, .slice none 0 0, .int .i64 0] 80)
  generalize (w.alloc (Obj.cells #[.int .i64 iv, .slice pa pn pc, .slice na l.length nc, .int .i64 wd] 80)).alloc (Obj.cells #[.int .i64 0, .slice none 0 0, .slice none 0 0, .int .i64 0] 80) = W at *
  have HLW : Hid (IntsAt W (.slice la list.length lc) list) := HL.out.below hBW
  have HBW := Lib.hid hBW
  have hs0 := hBW.size
  clear hBW
  go_loopw [7, 14] (fun v i wr => ∃ (k : Nat) (sa : Option Addr) (sc : Nat), k ≤ l.length ∧ i = .int .i64 k ∧ v = .slice sa (havK l list inn k).length sc ∧ wr.ownsRow W.heap.size 67 5 v (havK l list inn k).length (notesC (havK l list inn k)) ∧ Hid (Below W.heap.size W wr)) (fun _ i _ => l.length - (intOf i).toNat)
  case atStart => exact ⟨0, none, 0, Nat.zero_le _, rfl, rfl, World.ownsRow_nil _ _ _ _, Below.refl _ _⟩
  case round =>
    obtain ⟨k, sa, sc, hk, rfl, rfl, hown, HB⟩ := hrel
    have kI : (k : Int) ≤ 12 := by omega
    have hkl := havK_le l list inn k
    by_cases hlt : k < l.length
    · obtain ⟨b, o, rfl, hb, hcc⟩ := HC.out (by intro e; simp [e] at hlt)
      obtain ⟨d0, d1, d2, d3, d4⟩ := hcc k hlt
      have r2 := HBW.out.trans (HB.out.mono hs0)
      have e0 := (r2.cell (p := ⟨b, o + k * 5, none⟩) hb).trans d0
      have e1 := (r2.cell (p := ⟨b, o + k * 5 + 1, none⟩) hb).trans d1
      have e2 := (r2.cell (p := ⟨b, o + k * 5 + 2, none⟩) hb).trans d2
      have e3 := (r2.cell (p := ⟨b, o + k * 5 + 3, none⟩) hb).trans d3
      have e4 := (r2.cell (p := ⟨b, o + k * 5 + 4, none⟩) hb).trans d4
      have HLr : Hid (IntsAt wr (.slice la list.length lc) list) := HLW.out.below HB.out
      have HK : Hid (havK l list inn (k + 1) = if decide ((k : Int) ∈ list) = inn then havK l list inn k ++ [l[k]] else havK l list inn k) := by
        show _ = _
        rw [havK, List.getElem?_eq_getElem hlt]; rfl
      have hsr := HB.out.size
      clear hcc d0 d1 d2 d3 d4 r2
      generalize l[k] = x at *
      go_wp2_with fail
      refine (contains_any (k : Int) _ list _ (HLr.out.below (by go_grown))).mono ?_
      rintro e w' ⟨rfl, rfl⟩
      generalize decide ((k : Int) ∈ list) = d at *
      have hHa : Hid (Below W.heap.size W (wr.alloc (Obj.cells #[.int .i64 x.k, .int .i64 x.a, .int .i64 x.b, .int .i64 x.lo, .int .i64 x.hi] 67))) := HB.out.alloc hsr _
      have hown1 := hown.alloc (Obj.cells #[.int .i64 x.k, .int .i64 x.a, .int .i64 x.b, .int .i64 x.lo, .int .i64 x.hi] 67)
      clear e0 e1 e2 e3 e4 hown
      by_cases hd : d = inn
      · have td : (d == inn) = true := by simp [hd]
        have HT : Hid (havK l list inn (k + 1) = havK l list inn k ++ [x]) := by show _ = _; rw [HK.out, if_pos hd]
        clear hd HK
        have hownA := hown1.alloc (Obj.cells #[.int .i64 x.k, .int .i64 x.a, .int .i64 x.b, .int .i64 x.lo, .int .i64 x.hi] 67)
        have hHb : Hid (Below W.heap.size W ((wr.alloc (Obj.cells #[.int .i64 x.k, .int .i64 x.a, .int .i64 x.b, .int .i64 x.lo, .int .i64 x.hi] 67)).alloc (Obj.cells #[.int .i64 x.k, .int .i64 x.a, .int .i64 x.b, .int .i64 x.lo, .int .i64 x.hi] 67))) := hHa.out.alloc hHa.out.size _
        clear hown1
        go_wp2_with (first
          | (at_builtin; refine wpList_append_own _ rfl _ _ 23 rfl W.heap.size 67 i0 (.agg #[.int .i64 0, .int .i64 0, .int .i64 0, .int .i64 0, .int .i64 0]) 5 40 Tryz.underlying23 hi HI.out.1 HI.out.2.1 HI.out.2.2 rfl (by decide) _ _ _ rfl hownA ⟨wr.heap.size + 1, 0, none⟩ 1 1 (noteC x) rfl rfl ?c1 ?c2 ?c3 ?c4 ?c5 ?_))
        case c1 =>
          intro j u hj
          match j, hj with
          | 0, hj => simp [noteC] at hj; subst hj; simp [Addr.add]
          | 1, hj => simp [noteC] at hj; subst hj; simp [Addr.add]
          | 2, hj => simp [noteC] at hj; subst hj; simp [Addr.add]
          | 3, hj => simp [noteC] at hj; subst hj; simp [Addr.add]
          | 4, hj => simp [noteC] at hj; subst hj; simp [Addr.add]
          | j + 5, hj => simp [noteC] at hj
        case c2 => intro u hu; simp [noteC] at hu; rcases hu with rfl | rfl | rfl | rfl | rfl <;> rfl
        case c3 => unfold maxLen; omega
        case c4 => omega
        case c5 => exact hHb.out.size
        · intro v' w3 hown3 hgrow _
          have hB3 : Hid (Below W.heap.size W w3) := hHb.out.grown hgrow hHb.out.size (fun g hg => (hownA.lt g hg).1)
          obtain ⟨sa', sc', rfl⟩ := own_slice hown3
          clear hgrow hownA
          go_wp2
          go_roundw
          case rel => exact ⟨k + 1, sa', sc', by omega, by go_num, by rw [HT.out]; simp, by rw [HT.out, notesC_append]; simpa using hown3, hB3⟩
          case measure => simp [intOf]; omega
      · have td : (d == inn) = false := by simp [hd]
        have HT : Hid (havK l list inn (k + 1) = havK l list inn k) := by show _ = _; rw [HK.out, if_neg hd]
        clear hd HK
        go_wp2
        go_roundw
        case rel => exact ⟨k + 1, sa, sc, by omega, by go_num, by rw [HT.out], by rw [HT.out]; exact hown1, hHa⟩
        case measure => simp [intOf]; omega
    · obtain rfl : k = l.length := by omega
      have hAr := (HB.out.block _ (lt_of_block hA)).trans hA
      have hOr := (HB.out.block _ (lt_of_block hO)).trans hO
      have hO5 : ((((((wr.setCell ⟨w.heap.size, 2, none⟩ (.slice sa (havK l list inn l.length).length sc)).setCell ⟨w.heap.size + 1, 0, none⟩ (.int .i64 iv)).setCell ⟨w.heap.size + 1, 1, none⟩ (.slice pa pn pc)).setCell ⟨w.heap.size + 1, 2, none⟩ (.slice sa (havK l list inn l.length).length sc)).setCell ⟨w.heap.size + 1, 3, none⟩ (.int .i64 wd))).ownsRow W.heap.size 67 5 (.slice sa (havK l list inn l.length).length sc) (havK l list inn l.length).length (notesC (havK l list inn l.length)) := by
        have x1 := lt_of_block hA
        have x2 := lt_of_block hO
        exact own_other (own_other (own_other (own_other (own_other hown _ x1 _) _ x2 _) _ x2 _) _ x2 _) _ x2 _
      have hB5 : Below w.heap.size w ((((((wr.setCell ⟨w.heap.size, 2, none⟩ (.slice sa (havK l list inn l.length).length sc)).setCell ⟨w.heap.size + 1, 0, none⟩ (.int .i64 iv)).setCell ⟨w.heap.size + 1, 1, none⟩ (.slice pa pn pc)).setCell ⟨w.heap.size + 1, 2, none⟩ (.slice sa (havK l list inn l.length).length sc)).setCell ⟨w.heap.size + 1, 3, none⟩ (.int .i64 wd))) :=
        (((((HBW.out.trans (HB.out.mono hs0)).setCell (Nat.le_refl _) _).setCell (Nat.le_succ _) _).setCell (Nat.le_succ _) _).setCell (Nat.le_succ _) _).setCell (Nat.le_succ _) _
      have hC5 := heap_setCell_same _ (w.heap.size + 1) 3 _ _ (.int .i64 wd) (heap_setCell_same _ (w.heap.size + 1) 2 _ _ (.slice sa (havK l list inn l.length).length sc) (heap_setCell_same _ (w.heap.size + 1) 1 _ _ (.slice pa pn pc) (heap_setCell_same _ (w.heap.size + 1) 0 _ _ (.int .i64 iv)
        ((heap_setCell_other wr ⟨w.heap.size, 2, none⟩ (w.heap.size + 1) (.slice sa (havK l list inn l.length).length sc) (by simp)).trans hOr))))
      have H5 := Lib.hid hO5
      have HB5 := Lib.hid hB5
      have HC5 := Lib.hid hC5
      clear hO5 hB5 hC5
      have a0 := cellOf hAr 0 _ rfl
      have a1 := cellOf hAr 1 _ rfl
      have a2 := cellOf hAr 2 _ rfl
      have a3 := cellOf hAr 3 _ rfl
      have fa := frozen_of_row _ w.heap.size 2 _ _ hAr
      have o0 := cellOf hOr 0 _ rfl
      have o1 := cellOf hOr 1 _ rfl
      have o2 := cellOf hOr 2 _ rfl
      have o3 := cellOf hOr 3 _ rfl
      have f0 := frozen_of_row _ (w.heap.size + 1) 0 _ _ hOr
      have f1 := frozen_of_row _ (w.heap.size + 1) 1 _ _ hOr
      have f2 := frozen_of_row _ (w.heap.size + 1) 2 _ _ hOr
      have f3 := frozen_of_row _ (w.heap.size + 1) 3 _ _ hOr
      clear hown
      go_wp2
      refine bodyPost_ret (results_cell_row rfl _ _ (w.heap.size + 1) 80 _ (0, 0) _ rfl HC5.out Tryz.underlying80 rfl (by kernel_rfl)) rfl ⟨_, rfl, notesAt_own H5.out (by omega), HB5.out⟩
end Go.Proofs.YtacmaddjpaebfaaGreatDoor
/- slices.Clone on ints. -/
namespace Go.Proofs.YtacmaddjpaebfaaGreatDoor
open Go Go.RowKit Hs

set_option maxRecDepth 100000 in
set_option maxHeartbeats 1000000 in
theorem clone_any (v : Value) (l : List Int) (base : Nat) (w : World) (hv : w.ownsRow base 3 1 v l.length (l.map (Value.int .i64))) (hl : l.length ≤ 12) :
    Calls Tryz.prog 101 #[v] w fun e w' => ∃ v', e = .returned v' ∧ w'.ownsRow w.heap.size 3 1 v' l.length (l.map (Value.int .i64)) ∧ Below w.heap.size w w' := by
  obtain ⟨i0, hi⟩ := info_of_underlying Tryz.underlying3
  have HI : Hid (i0.zero = some (.int .i64 0) ∧ i0.size = 1 ∧ i0.bytes = 8) := by
    have h := intInfo
    rw [hi] at h
    simp at h
    exact h
  have heq := fun (w : World) (a : Option Addr) (n c : Nat) => Lib.run_eql_slice_nil (P := Tryz.prog) w 43 3 a n c 0 0 Tryz.underlying43
  have HV := Lib.hid hv
  rcases hv.2 with ⟨rfl, h0⟩ | ⟨g, cap, cur, rfl, hb, hg, hrest⟩
  · have hl0 : l = [] := List.eq_nil_of_length_eq_zero h0
    subst hl0
    clear hv hl
    go_enter Tryz.func101, Tryz.ntmps101
    go_wp2
    go_ret
    exact ⟨.slice none 0 0, rfl, World.ownsRow_nil _ _ _ _, Below.refl _ _⟩
  · have HC : Hid (∀ j u, (l.map (Value.int .i64))[j]? = some u → w.cell? ((⟨g, 0, none⟩ : Addr).add j) = some u) := hv.cells rfl
    have hlt := lt_of_block hg
    have hE := World.ownsRow_lit (base := w.heap.size) (e := 3) (size := 1) w #[] 0 (Nat.le_refl _) (by simp) (by simp)
    clear hrest hg hb hv
    go_enter Tryz.func101, Tryz.ntmps101
    go_wp2_with (first
      | (at_builtin; refine wpList_append_own _ rfl _ _ 43 rfl w.heap.size 3 i0 (.int .i64 0) 1 8 Tryz.underlying43 hi HI.out.1 HI.out.2.1 HI.out.2.2 rfl (by decide) _ _ _ rfl hE ⟨g, 0, none⟩ l.length cap (l.map (Value.int .i64)) rfl (by simp) ?c1 ?c2 ?c3 ?c4 ?c5 ?_))
    case c1 =>
      intro j a hj
      have hjl : j < l.length := by
        rcases Nat.lt_or_ge j l.length with h | h
        · exact h
        · rw [List.getElem?_eq_none h] at hj; cases hj
      have := HV.out.cellAt j (by omega)
      rw [this, List.getElem?_map, hj]; rfl
    case c2 => intro a _; rfl
    case c3 => unfold maxLen; omega
    case c4 => omega
    · intro v' w3 hown3 hgrow _
      have hB : Below w.heap.size w w3 := ((Below.refl w.heap.size w).alloc (Nat.le_refl _) (Obj.cells #[] 3)).grown hgrow (by simp) (fun k hk => by simp [Value.ownBlock] at hk; omega)
      clear hgrow
      go_wp2
      go_ret
      exact ⟨_, rfl, hown3, hB⟩
end Go.Proofs.YtacmaddjpaebfaaGreatDoor
