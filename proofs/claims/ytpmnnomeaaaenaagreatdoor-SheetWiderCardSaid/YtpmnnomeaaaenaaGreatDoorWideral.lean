/- SheetWider: the call returns true. Condition: the tables of Go's library are laid. -/
import Derived.Test.YtpmnnomeaaaenaaGreatDoorToldp
import Derived.Test.YtpmnnomeaaaenaaGreatDoorLaws
import Derived.Deep.CutRange
import Derived.Test.YtpmnnomeaaaenaaGreatDoorTold
import Derived.StillTailTactics
import Derived.BigQuiet
import Derived.Laws.BitsLemmas
import Derived.Deep.RegionHeld3
import Derived.Deep.RegionWith
set_option linter.unusedSimpArgs false
set_option linter.unusedVariables false
namespace Go.Proofs.YtpmnnomeaaaenaaGreatDoor
open Go Go.RowKit Hs Dc

theorem over1 (a b lo hi : Int) : over ⟨1, a, b, lo, hi⟩ = 8 := by simp [over]
theorem over4 (a b lo hi : Int) : over ⟨4, a, b, lo, hi⟩ = b := by simp [over]
/-- A note that is moved by d. -/
def moveN (d : Int) (x : Note) : Note :=
  if x.k = 1 then { x with lo := max 0 (min 9000 (x.lo + d)), hi := max 0 (min 9000 (x.hi + d)) }
  else if x.k = 4 then { x with lo := max (-9000) (min 9000 (x.lo + d)), hi := max (-9000) (min 9000 (x.hi + d)) }
  else x
theorem move_err {iv np : Int} {x : Note} (d : Int) (h : noteErr iv np x = 0) : noteErr iv np (moveN d x) = 0 := by
  obtain ⟨h1, h2, h3, h4, h5⟩ := err_parts h
  unfold moveN
  split
  · rename_i e
    refine ne_0 _ _ _ h1 h2 h3 ?_ ?_
    · simp [withinB, endLo, endHi, e]; omega
    · simp only [e]
      omega
  · split
    · rename_i e
      refine ne_0 _ _ _ h1 h2 h3 ?_ ?_
      · simp [withinB, endLo, endHi, e]; omega
      · simp only [e]
        omega
    · exact h
/-- The first k notes moved. -/
def moveL (l : List Note) (f : Nat → Int) (k : Nat) : List Note := l.mapIdx fun i x => if i < k then moveN (f i) x else x
theorem moveL_len (l : List Note) (f : Nat → Int) (k : Nat) : (moveL l f k).length = l.length := by simp [moveL]
theorem moveL_get (l : List Note) (f : Nat → Int) (k : Nat) (i : Nat) (h : i < l.length) : (moveL l f k)[i]'(by rw [moveL_len]; exact h) = if i < k then moveN (f i) l[i] else l[i] := by simp [moveL]
theorem moveL_zero (l : List Note) (f : Nat → Int) : moveL l f 0 = l := by
  apply List.ext_getElem (moveL_len l f 0)
  intro i h1 h2
  rw [moveL_get l f 0 i h2, if_neg (by omega)]
theorem moveL_mem {l : List Note} {f : Nat → Int} {k : Nat} {z : Note} (h : z ∈ moveL l f k) : ∃ x, x ∈ l ∧ (z = x ∨ ∃ i, z = moveN (f i) x) := by
  obtain ⟨i, hi, rfl⟩ := List.getElem_of_mem h
  have hi' : i < l.length := by rw [moveL_len] at hi; exact hi
  rw [moveL_get l f k i hi']
  refine ⟨l[i], List.getElem_mem hi', ?_⟩
  split
  · exact .inr ⟨i, rfl⟩
  · exact .inl rfl
theorem move_keeps {iv np by' : Int} {x : Note} {h : Nat → Int} (hiv : 1 ≤ iv) (hnp : np ≤ 8) (he : noteErr iv np x = 0) (hs : Sol 9 (ent unbFar) h) (hx : NoteM iv 0 x h) (d : Int) (h1 : -by' ≤ d) (h2 : d ≤ by') (h3 : by' ≤ 100) : NoteM iv by' (moveN d x) h := by
  have ok := noteOk_of iv np x hiv hnp he
  have e8 : ((fin9 8) : Nat) = 8 := rfl
  rw [NoteM_iff] at hx ⊢
  have l0 := ok.l0
  have l9 := ok.l9
  have h0 := ok.h0
  have h9 := ok.h9
  have o0 := ok.o0
  have o8 := ok.o8
  have a0 := ok.a0
  have a8 := ok.a8
  have va := fin9_val x.a a0 (by omega)
  have vo := fin9_val (over x) o0 o8
  have s1 := hs (fin9 x.a) (fin9 (over x)) (by omega) (by omega)
  have s2 := hs (fin9 (over x)) (fin9 x.a) (by omega) (by omega)
  have u1 := unbFar_ent (fin9 x.a) (fin9 (over x))
  have u2 := unbFar_ent (fin9 (over x)) (fin9 x.a)
  rw [u1] at s1
  rw [u2] at s2
  rw [cl_id _ (by omega) (by omega), cl_id _ (by omega) (by omega)] at hx
  clear u1 u2
  unfold moveN
  split
  · rename_i e
    have ho : over x = 8 := by simp [over, e]
    simp only [over1, hiOf, loOf, e, show ¬ ((1 : Int) = 2) by decide, if_false] at *
    simp only [ho, e8] at *
    generalize h (fin9 x.a) = p at *
    generalize h 8 = q at *
    have t1 : p - q ≤ 9000 := by split at s1 <;> omega
    have t2 : q - p ≤ 0 := by rw [if_neg (by omega)] at s2; omega
    clear s1 s2
    rw [cl_id _ (by omega) (by omega), cl_id _ (by omega) (by omega)]
    omega
  · split
    · rename_i e1 e
      have ho : over x = x.b := by simp [over, e]
      simp only [ho, over4, hiOf, loOf, e, show ¬ ((4 : Int) = 2) by decide, if_false] at *
      generalize h (fin9 x.a) = p at *
      generalize h (fin9 x.b) = q at *
      have t1 : p - q ≤ 9000 := by split at s1 <;> omega
      have t2 : q - p ≤ 9000 := by split at s2 <;> omega
      clear s1 s2
      rw [cl_id _ (by omega) (by omega), cl_id _ (by omega) (by omega)]
      omega
    · rw [cl_id _ (by omega) (by omega), cl_id _ (by omega) (by omega)]
      omega
/-- A note that is wider, as looser makes it. -/
def looseN (iv by' : Int) (x : Note) : Note :=
  if x.k = 1 then { x with lo := max 0 (x.lo - by'), hi := min 9000 (x.hi + by') }
  else if x.k = 2 then { x with k := 1, lo := max 0 (x.lo * iv - by'), hi := min 9000 (x.hi * iv + by') }
  else if x.k = 3 then { x with k := 4, lo := max (-9000) (x.lo - by'), hi := min 9000 (x.hi + by') }
  else { x with lo := max (-9000) (x.lo - by'), hi := min 9000 (x.hi + by') }
theorem loose_err {iv np by' : Int} {x : Note} (hiv : 1 ≤ iv) (hnp : np ≤ 8) (h0 : 0 ≤ by') (h9 : by' ≤ 9000) (h : noteErr iv np x = 0) : noteErr iv np (looseN iv by' x) = 0 := by
  have ok := noteOk_of iv np x hiv hnp h
  obtain ⟨h1, h2, h3, h4, h5⟩ := err_parts h
  have c0 := ok.c0
  unfold looseN
  rcases ok.kind with e | e | e | e
  · rw [if_pos e]
    simp [withinB, endLo, endHi, e] at h4
    refine ne_0 _ _ _ h1 h2 h3 ?_ ?_
    · simp [withinB, endLo, endHi, e]; omega
    · simp only [e]; omega
  · obtain ⟨c1, c2, c3⟩ := c0 e
    rw [if_neg (by omega), if_pos e]
    refine ne_0 _ _ _ rfl h2 ?_ ?_ ?_
    · simp only [over, e, or_true, true_or, if_true] at h3 ⊢
      exact h3
    · simp [withinB, endLo, endHi]; omega
    · simp; omega
  · rw [if_neg (by omega), if_neg (by omega), if_pos e]
    simp [withinB, endLo, endHi, e] at h4
    refine ne_0 _ _ _ rfl h2 ?_ ?_ ?_
    · simp only [over, e] at h3 ⊢
      simpa using h3
    · simp [withinB, endLo, endHi]; omega
    · simp; omega
  · rw [if_neg (by omega), if_neg (by omega), if_neg (by omega)]
    simp [withinB, endLo, endHi, e] at h4
    refine ne_0 _ _ _ h1 h2 h3 ?_ ?_
    · simp [withinB, endLo, endHi, e]; omega
    · simp only [e]; omega
theorem loose_truth {iv np by' : Int} {x : Note} {h : Nat → Int} (hiv : 1 ≤ iv) (hnp : np ≤ 8) (hb0 : 0 ≤ by') (hb9 : by' ≤ 9000) (he : noteErr iv np x = 0) (hs : Sol 9 (ent unbFar) h) : NoteM iv 0 (looseN iv by' x) h ↔ NoteM iv by' x h := by
  have ok := noteOk_of iv np x hiv hnp he
  have e8 : ((fin9 8) : Nat) = 8 := rfl
  rw [NoteM_iff, NoteM_iff]
  have l0 := ok.l0
  have l9 := ok.l9
  have h0 := ok.h0
  have h9 := ok.h9
  have o0 := ok.o0
  have o8 := ok.o8
  have a0 := ok.a0
  have a8 := ok.a8
  have c0 := ok.c0
  have va := fin9_val x.a a0 (by omega)
  have vo := fin9_val (over x) o0 o8
  have s1 := hs (fin9 x.a) (fin9 (over x)) (by omega) (by omega)
  have s2 := hs (fin9 (over x)) (fin9 x.a) (by omega) (by omega)
  have u1 := unbFar_ent (fin9 x.a) (fin9 (over x))
  have u2 := unbFar_ent (fin9 (over x)) (fin9 x.a)
  rw [u1] at s1
  rw [u2] at s2
  clear u1 u2
  have t1 : h (fin9 x.a) - h (fin9 (over x)) ≤ 9000 := by split at s1 <;> omega
  have t2 : h (fin9 (over x)) - h (fin9 x.a) ≤ 9000 := by split at s2 <;> omega
  have t3 : over x = 8 → h (fin9 (over x)) - h (fin9 x.a) ≤ 0 := fun e => by rw [if_neg (by rw [e]; simp [e8])] at s2; omega
  clear s1 s2
  unfold looseN
  rcases ok.kind with e | e | e | e
  · rw [if_pos e]
    have ho : over x = 8 := by simp [over, e]
    have t3 := t3 ho
    simp only [over, hiOf, loOf, e, true_or, if_true, show ¬ ((1 : Int) = 2) by decide, if_false, e8] at *
    generalize h (fin9 x.a) = p at *
    generalize h 8 = q at *
    rw [cl_id _ (by omega) (by omega), cl_id _ (by omega) (by omega), cl_id _ (by omega) (by omega), cl_id _ (by omega) (by omega)]
    omega
  · obtain ⟨c1, c2, c3⟩ := c0 e
    rw [if_neg (by omega), if_pos e]
    have ho : over x = 8 := by simp [over, e]
    have t3 := t3 ho
    simp only [over, hiOf, loOf, e, true_or, or_true, if_true, show ¬ ((1 : Int) = 2) by decide, if_false, e8] at *
    generalize h (fin9 x.a) = p at *
    generalize h 8 = q at *
    generalize x.lo * iv = lo at *
    generalize x.hi * iv = hi at *
    rw [cl_id _ (by omega) (by omega), cl_id _ (by omega) (by omega), cl_id _ (by omega) (by omega), cl_id _ (by omega) (by omega)]
    omega
  · rw [if_neg (by omega), if_neg (by omega), if_pos e]
    clear t3
    simp only [over, hiOf, loOf, e, show ¬ ((3 : Int) = 1) by decide, show ¬ ((3 : Int) = 2) by decide, show ¬ ((4 : Int) = 1) by decide, show ¬ ((4 : Int) = 2) by decide, or_self, if_false, e8] at *
    generalize h (fin9 x.a) = p at *
    generalize h (fin9 x.b) = q at *
    rw [cl_id _ (by omega) (by omega), cl_id _ (by omega) (by omega), cl_id _ (by omega) (by omega), cl_id _ (by omega) (by omega)]
    omega
  · rw [if_neg (by omega), if_neg (by omega), if_neg (by omega)]
    clear t3
    simp only [over, hiOf, loOf, e, show ¬ ((4 : Int) = 1) by decide, show ¬ ((4 : Int) = 2) by decide, or_self, if_false, e8] at *
    generalize h (fin9 x.a) = p at *
    generalize h (fin9 x.b) = q at *
    rw [cl_id _ (by omega) (by omega), cl_id _ (by omega) (by omega), cl_id _ (by omega) (by omega), cl_id _ (by omega) (by omega)]
    omega
def looseL (iv by' : Int) (l : List Note) : List Note := l.map (looseN iv by')
theorem loose_valid {s : Sheet} (hv : ValidS s) {by' : Int} (h0 : 0 ≤ by') (h9 : by' ≤ 9000) : ValidS ⟨s.iv, s.pts, looseL s.iv by' s.notes⟩ := by
  refine hv.with_ _ (by rw [looseL, List.length_map]; exact hv.nn) fun z hz => ?_
  obtain ⟨x, hx, rfl⟩ := List.mem_map.1 hz
  exact loose_err hv.iv1 (by have := hv.np8; omega) h0 h9 (hv.err0 x hx)
theorem loose_fit {s : Sheet} (hv : ValidS s) {by' : Int} (h0 : 0 ≤ by') (h9 : by' ≤ 9000) : fitB s.iv 0 (looseL s.iv by' s.notes) = fitB s.iv by' s.notes := by
  refine fitB_ext fun h => ?_
  rw [TrB_notes, TrB_notes]
  refine and_congr_right fun hs => ?_
  have key : ∀ x, x ∈ s.notes → (NoteM s.iv 0 (looseN s.iv by' x) h ↔ NoteM s.iv by' x h) := fun x hx => loose_truth hv.iv1 (by have := hv.np8; omega) h0 h9 (hv.err0 x hx) hs
  unfold looseL
  exact ⟨fun q x hx => (key x hx).1 (q _ (List.mem_map.2 ⟨x, hx, rfl⟩)), fun q z hz => by
    obtain ⟨x, hx, rfl⟩ := List.mem_map.1 hz
    exact (key x hx).2 (q x hx)⟩
theorem fit_9000 {s : Sheet} (hv : ValidS s) : fitB s.iv 9000 s.notes = true := by
  rw [fitB_iff]
  refine ⟨fun _ => 0, ?_⟩
  rw [TrB_notes]
  refine ⟨fun a b ha hb => ?_, fun x hx => ?_⟩
  · have := unbFar_ent ⟨a, ha⟩ ⟨b, hb⟩
    simp only at this
    show (0 : Int) - 0 ≤ _
    rw [this]
    split <;> omega
  · have ok := hv.ok x hx
    rw [NoteM_iff]
    have l0 := ok.l0
    have l9 := ok.l9
    have h0 := ok.h0
    have h9 := ok.h9
    rw [cl_id _ (by omega) (by omega), cl_id _ (by omega) (by omega)]
    omega
theorem wid_fit {s : Sheet} (hv : ValidS s) {r : Nat} (h : WidIs s r) : fitB s.iv r s.notes = true := by
  obtain ⟨h1, _, h3⟩ := h
  rcases Nat.lt_or_ge r 9000 with q | q
  · exact h3 q
  · obtain rfl : r = 9000 := by omega
    exact fit_9000 hv
theorem wid_zero {s : Sheet} {r : Nat} (h : WidIs s r) : fitB s.iv 0 s.notes = decide (r = 0) := by
  obtain ⟨_, h2, h3⟩ := h
  by_cases e : r = 0
  · subst e
    rw [decide_eq_true rfl]
    exact h3 (by omega)
  · rw [decide_eq_false e]
    exact h2 0 (by omega)
theorem wid_le {s : Sheet} {r : Nat} (h : WidIs s r) {b : Nat} (hb : fitB s.iv b s.notes = true) : r ≤ b := by
  obtain ⟨_, h2, _⟩ := h
  rcases Nat.lt_or_ge b r with q | q
  · rw [h2 b q] at hb; cases hb
  · exact q
/-- Told notes that are moved by at most so much are mended by so much. -/
theorem moved_fit {s : Sheet} (hv : ValidS s) {h : List Int} (ok : HtsOk h) (off : List Nat) {by' : Nat} (hby : by' ≤ 100) (f : Nat → Int) (hf : ∀ i, -(by' : Int) ≤ f i ∧ f i ≤ by') :
    ValidS ⟨s.iv, s.pts, moveL (toldS s h off).notes f (toldS s h off).notes.length⟩ ∧ fitB s.iv by' (moveL (toldS s h off).notes f (toldS s h off).notes.length) = true := by
  have ht := told_tr hv ok off
  have hv' : ValidS (toldS s h off) := told_valid hv h off
  rw [TrB_notes] at ht
  generalize hN : (toldS s h off).notes = N at *
  have he : ∀ x, x ∈ N → noteErr s.iv s.pts.length x = 0 := fun x hx => hv'.err0 x (by rw [hN]; exact hx)
  refine ⟨hv.with_ _ ?_ fun z hz => ?_, ?_⟩
  · rw [moveL_len, ← hN]
    exact hv'.nn
  · obtain ⟨x, hx, rfl | ⟨i, rfl⟩⟩ := moveL_mem hz
    · exact he _ hx
    · exact move_err _ (he x hx)
  · rw [fitB_iff]
    refine ⟨hF h, ?_⟩
    rw [TrB_notes]
    refine ⟨ht.1, fun z hz => ?_⟩
    obtain ⟨i, hi, rfl⟩ := List.getElem_of_mem hz
    have hi' : i < N.length := by rw [moveL_len] at hi; exact hi
    rw [moveL_get _ _ _ i hi', if_pos hi']
    have hx := List.getElem_mem hi'
    exact move_keeps hv.iv1 (by have := hv.np8; omega) (he _ hx) ht.1 (ht.2 _ hx) _ (hf i).1 (hf i).2 (by omega)
end Go.Proofs.YtpmnnomeaaaenaaGreatDoor

namespace Go.Proofs.YtpmnnomeaaaenaaGreatDoor
open Go Go.RowKit Hs Fct

theorem looseL_succ (iv by' : Int) (notes : List Note) (k : Nat) (hk : k < notes.length) : looseL iv by' (notes.take (k + 1)) = looseL iv by' (notes.take k) ++ [looseN iv by' notes[k]] := by
  unfold looseL
  rw [List.take_succ_eq_append_getElem hk, List.map_append]
  rfl
theorem looseL_len (iv by' : Int) (l : List Note) : (looseL iv by' l).length = l.length := by simp [looseL]
theorem own_upto2 {w w' : World} {B C e size n : Nat} {v : Value} {xs : List Value} (h : w.ownsRow B e size v n xs) (hlt : ∀ k, v.ownBlock = some k → k < C) (hb : Below C w w') : w'.ownsRow B e size v n xs := by
  obtain ⟨h0, h⟩ := h
  refine ⟨h0, ?_⟩
  rcases h with h | ⟨g, cap, cur, rfl, r2, r3, r4⟩
  · exact .inl h
  · exact .inr ⟨g, cap, cur, rfl, r2, (hb.block g (hlt g rfl)).trans r3, r4⟩
def LooseP (s : Sheet) (pv : Value) (by' : Nat) (w : World) (e : Ending) (w' : World) : Prop :=
  ∃ nv, e = .returned (.agg #[.int .i64 s.iv, pv, nv]) ∧ w'.ownsRow w.heap.size 67 5 nv s.notes.length (notesC (looseL s.iv by' s.notes)) ∧ Below w.heap.size w w'

set_option maxRecDepth 100000 in
set_option maxHeartbeats 4000000 in
theorem loose_any (s : Sheet) (pv nv : Value) (by' : Nat) (w : World) (hS : SheetAt w.heap.size w pv nv s) (hval : ValidS s) (hby : by' ≤ 9000) :
    Calls Tryz.prog 53 #[.agg #[.int .i64 s.iv, pv, nv], .int .i64 by'] w (LooseP s pv by' w) := by
  obtain ⟨i0, hi⟩ := info_of_underlying Tryz.underlying67
  have HI : Hid (i0.zero = some (.agg #[.int .i64 0, .int .i64 0, .int .i64 0, .int .i64 0, .int .i64 0]) ∧ i0.size = 5 ∧ i0.bytes = 40) := by
    have h := noteInfo
    rw [hi] at h
    simp at h
    exact h
  obtain ⟨iv, pts, notes⟩ := s
  obtain ⟨ln, na, nc, rfl, hcN⟩ := id hS.notes
  obtain ⟨lp, pa, pc, rfl, _⟩ := id hS.pts
  simp only at hS hcN ln lp ⊢
  have iv1 : 1 ≤ iv := hval.iv1
  have iv2 : iv ≤ 1000 := hval.iv2
  have hn12 : notes.length ≤ 12 := hval.nn
  have HC := Lib.hid hcN
  have HV := Lib.hid hval
  have ln' : (notes.length : Int) ≤ 12 := by omega
  have byI : (by' : Int) ≤ 9000 := by omega
  have by0 : 0 ≤ (by' : Int) := by omega
  clear hcN hS hval
  go_enter Tryz.func53, Tryz.ntmps53
  go_wp2
  have hBW : Below w.heap.size w (((w.alloc (Obj.cells #[.int .i64 iv, .slice pa pts.length pc, .slice na notes.length nc] 25)).alloc (Obj.cells #[.int .i64 0, .slice none 0 0, .slice none 0 0] 25)).alloc (Obj.cells #[.int .i64 iv, .slice pa pts.length pc, .slice none 0 0] 25)) := by go_grown
  have hA : (((w.alloc (Obj.cells #[.int .i64 iv, .slice pa pts.length pc, .slice na notes.length nc] 25)).alloc (Obj.cells #[.int .i64 0, .slice none 0 0, .slice none 0 0] 25)).alloc (Obj.cells #[.int .i64 iv, .slice pa pts.length pc, .slice none 0 0] 25)).heap[w.heap.size]? = some (.cells #[.int .i64 iv, .slice pa pts.length pc, .slice na notes.length nc] 25 (0, 0)) := (Below.heap_alloc _ _ _ (by simp; omega)).trans (heap_alloc2_old w _ _)
  have hR : (((w.alloc (Obj.cells #[.int .i64 iv, .slice pa pts.length pc, .slice na notes.length nc] 25)).alloc (Obj.cells #[.int .i64 0, .slice none 0 0, .slice none 0 0] 25)).alloc (Obj.cells #[.int .i64 iv, .slice pa pts.length pc, .slice none 0 0] 25)).heap[w.heap.size + 1]? = some (.cells #[.int .i64 0, .slice none 0 0, .slice none 0 0] 25 (0, 0)) := (Below.heap_alloc _ _ _ (by simp)).trans (heap_alloc2_new w _ _)
  have hO : (((w.alloc (Obj.cells #[.int .i64 iv, .slice pa pts.length pc, .slice na notes.length nc] 25)).alloc (Obj.cells #[.int .i64 0, .slice none 0 0, .slice none 0 0] 25)).alloc (Obj.cells #[.int .i64 iv, .slice pa pts.length pc, .slice none 0 0] 25)).heap[w.heap.size + 1 + 1]? = some (.cells #[.int .i64 iv, .slice pa pts.length pc, .slice none 0 0] 25 (0, 0)) := by
    have := heap_alloc_new ((w.alloc (Obj.cells #[.int .i64 iv, .slice pa pts.length pc, .slice na notes.length nc] 25)).alloc (Obj.cells #[.int .i64 0, .slice none 0 0, .slice none 0 0] 25)) (Obj.cells #[.int .i64 iv, .slice pa pts.length pc, .slice none 0 0] 25)
    simpa using this
  have hsz : w.heap.size + 1 + 1 + 1 ≤ (((w.alloc (Obj.cells #[.int .i64 iv, .slice pa pts.length pc, .slice na notes.length nc] 25)).alloc (Obj.cells #[.int .i64 0, .slice none 0 0, .slice none 0 0] 25)).alloc (Obj.cells #[.int .i64 iv, .slice pa pts.length pc, .slice none 0 0] 25)).heap.size := by simp
  generalize (((w.alloc (Obj.cells #[.int .i64 iv, .slice pa pts.length pc, .slice na notes.length nc] 25)).alloc (Obj.cells #[.int .i64 0, .slice none 0 0, .slice none 0 0] 25)).alloc (Obj.cells #[.int .i64 iv, .slice pa pts.length pc, .slice none 0 0] 25)) = W at *
  have HA := Lib.hid hA
  have HR := Lib.hid hR
  have HOO := Lib.hid hO
  have HB := Lib.hid hBW
  clear hA hR hO hBW
  go_loopw [6] (fun i wr => ∃ (k : Nat) (sa : Option Addr) (sc : Nat), k ≤ notes.length ∧ i = .int .i64 k ∧ Hid (wr.heap[w.heap.size + 1 + 1]? = some (.cells #[.int .i64 iv, .slice pa pts.length pc, .slice sa k sc] 25 (0, 0))) ∧ wr.ownsRow W.heap.size 67 5 (.slice sa k sc) k (notesC (looseL iv by' (notes.take k))) ∧ Hid (Below (w.heap.size + 1 + 1) W wr)) (fun i _ => notes.length - (intOf i).toNat)
  case atStart => exact ⟨0, none, 0, Nat.zero_le _, rfl, HOO.out, World.ownsRow_nil _ _ _ _, Below.refl _ _⟩
  case round =>
    obtain ⟨k, sa, sc, hk, rfl, HOk, hown, HBk⟩ := hrel
    have hAk := (HBk.out.block w.heap.size (by omega)).trans HA.out
    have hsr := HBk.out.size
    have HAk := Lib.hid hAk
    clear hAk
    by_cases hlt : k < notes.length
    · obtain ⟨b, o, rfl, hb, hcc⟩ := HC.out (by intro e; simp [e] at hlt)
      obtain ⟨d0, d1, d2, d3, d4⟩ := hcc k hlt
      have r2 : Below w.heap.size w wr := HB.out.trans (HBk.out.mono (by omega))
      have e0 := (r2.cell (p := ⟨b, o + k * 5, none⟩) hb).trans d0
      have e1 := (r2.cell (p := ⟨b, o + k * 5 + 1, none⟩) hb).trans d1
      have e2 := (r2.cell (p := ⟨b, o + k * 5 + 2, none⟩) hb).trans d2
      have e3 := (r2.cell (p := ⟨b, o + k * 5 + 3, none⟩) hb).trans d3
      have e4 := (r2.cell (p := ⟨b, o + k * 5 + 4, none⟩) hb).trans d4
      have HT := Lib.hid (looseL_succ iv by' notes k hlt)
      have hx0 := HV.out.ok notes[k] (List.getElem_mem hlt)
      have hxe := (err_parts (HV.out.err0 notes[k] (List.getElem_mem hlt))).2.2.2.1
      have kl : (k : Int) < (notes.length : Int) := by omega
      have k12 : (k : Int) ≤ 11 := by omega
      have a2 := cellOf HAk.out 2 _ rfl
      clear hcc d0 d1 d2 d3 d4
      generalize notes[k] = x at *
      obtain ⟨kd, a, b', lo, hi'⟩ := x
      simp only at e0 e1 e2 e3 e4
      have hBx : Below wr.heap.size wr (wr.alloc (Obj.cells #[.int .i64 kd, .int .i64 a, .int .i64 b', .int .i64 lo, .int .i64 hi'] 67)) := (Below.refl _ _).alloc (Nat.le_refl _) _
      have HX1 := Lib.hid (heap_alloc_new wr (Obj.cells #[.int .i64 kd, .int .i64 a, .int .i64 b', .int .i64 lo, .int .i64 hi'] 67))
      have HA1 := Lib.hid ((hBx.block w.heap.size (by omega)).trans HAk.out)
      have HO1 := Lib.hid ((hBx.block (w.heap.size + 1 + 1) (by omega)).trans HOk.out)
      have hown1 := own_below hown hBx
      have HLT : Hid (∀ j, (Value.slice sa k sc).ownBlock = some j → j < wr.heap.size) := fun j hj => (hown.lt j hj).2
      have HB1 := Lib.hid (HBk.out.trans (hBx.mono (by omega)))
      have hs1 : wr.heap.size < (wr.alloc (Obj.cells #[.int .i64 kd, .int .i64 a, .int .i64 b', .int .i64 lo, .int .i64 hi'] 67)).heap.size := by simp
      go_upto_region 7 with fail
      clear hBx HAk HOk hown HBk r2 a2 e0 e1 e2 e3 e4
      have hsW : w.heap.size + 1 + 1 < wr.heap.size := by omega
      generalize wr.alloc (Obj.cells #[.int .i64 kd, .int .i64 a, .int .i64 b', .int .i64 lo, .int .i64 hi'] 67) = w1 at *
      generalize wr.heap.size = bx at *
      have x0 := cellOf HX1.out 0 _ rfl
      have x3 := cellOf HX1.out 3 _ rfl
      have x4 := cellOf HX1.out 4 _ rfl
      have f0 := frozen_of_row _ _ 0 _ _ HX1.out
      have f3 := frozen_of_row _ _ 3 _ _ HX1.out
      have f4 := frozen_of_row _ _ 4 _ _ HX1.out
      have p0 := cellOf HA1.out 0 _ rfl
      rcases hx0.kind with e | e | e | e
      · simp only at e
        subst e
        have hbd : (0 ≤ lo ∧ lo ≤ 9000) ∧ 0 ≤ hi' ∧ hi' ≤ 9000 := by
          simp [withinB, endLo, endHi] at hxe
          omega
        obtain ⟨⟨lo0, lo9⟩, hi0, hi9⟩ := hbd
        clear hxe
        have HX2 := HX1
        have HB2 : Hid (Below bx w1 w1) := Below.refl _ _
        go_wp2_with fail
        refine (lspan_any _ _ _).mono ?_
        rintro e w3 ⟨rfl, hb⟩
        have hX3 := (hb.block bx (lt_of_block HX2.out)).trans HX2.out
        have HB3 := Lib.hid (HB2.out.trans (hb.mono (Nat.le_of_lt (lt_of_block HX2.out))))
        have HX3 := Lib.hid hX3
        try clear x0 x3 x4 f0 f3 f4
        have x3 := cellOf hX3 3 _ rfl
        have x4 := cellOf hX3 4 _ rfl
        have f3 := frozen_of_row _ _ 3 _ _ hX3
        have f4 := frozen_of_row _ _ 4 _ _ hX3
        clear hX3 HB2 HX2 hb
        try clear p0
        go_upto_region 16 with fail
        have hX9 := heap_setCell_same _ bx 4 _ _ (.int .i64 (min 9000 (hi' + (by' : Int)))) (heap_setCell_same w3 bx 3 _ _ (.int .i64 (max 0 (lo - (by' : Int)))) HX3.out)
        have HX9 := Lib.hid hX9
        have HB9 := Lib.hid ((HB3.out.setCell (p := ⟨bx, 3, none⟩) (Nat.le_refl _) (.int .i64 (max 0 (lo - (by' : Int))))).setCell (p := ⟨bx, 4, none⟩) (Nat.le_refl _) (.int .i64 (min 9000 (hi' + (by' : Int)))))
        have HT2 : Hid (looseL iv by' (notes.take (k + 1)) = looseL iv by' (notes.take k) ++ [⟨1, a, b', max 0 (lo - (by' : Int)), min 9000 (hi' + (by' : Int))⟩]) := by show _ = _; exact HT.out
        clear hX9 HX3 HB3 x3 x4 f3 f4 HT
        generalize (w3.setCell ⟨bx, 3, none⟩ (.int .i64 (max 0 (lo - (by' : Int))))).setCell ⟨bx, 4, none⟩ (.int .i64 (min 9000 (hi' + (by' : Int)))) = w9 at *
        generalize max 0 (lo - (by' : Int)) = LO' at *
        generalize min 9000 (hi' + (by' : Int)) = HI' at *
        have HO9 := Lib.hid ((HB9.out.block (w.heap.size + 1 + 1) (by omega)).trans HO1.out)
        have hown9 := own_upto2 hown1 HLT.out HB9.out
        have HW9 := Lib.hid (HB1.out.trans (HB9.out.mono (by omega)))
        have hs9 : bx < w9.heap.size := lt_of_block HX9.out
        have hsW9 := HW9.out.size
        have x0 := cellOf HX9.out 0 _ rfl
        have x1 := cellOf HX9.out 1 _ rfl
        have x2 := cellOf HX9.out 2 _ rfl
        have x3 := cellOf HX9.out 3 _ rfl
        have x4 := cellOf HX9.out 4 _ rfl
        have c2 := cellOf HO9.out 2 _ rfl
        have f2 := frozen_of_row _ _ 2 _ _ HO9.out
        have hownA := hown9.alloc (Obj.cells #[.int .i64 1, .int .i64 a, .int .i64 b', .int .i64 LO', .int .i64 HI'] 67)
        have HBA : Hid (Below (w.heap.size + 1 + 1) W (w9.alloc (Obj.cells #[.int .i64 1, .int .i64 a, .int .i64 b', .int .i64 LO', .int .i64 HI'] 67))) := HW9.out.alloc (by omega) _
        have HO12 := Lib.hid ((Below.heap_alloc w9 (Obj.cells #[.int .i64 1, .int .i64 a, .int .i64 b', .int .i64 LO', .int .i64 HI'] 67) _ (lt_of_block HO9.out)).trans HO9.out)
        clear HA1 HO1 hown1 HB1 HX1
        go_wp2_with (first
          | (at_builtin; refine wpList_append_own _ rfl _ _ 23 rfl W.heap.size 67 i0 (.agg #[.int .i64 0, .int .i64 0, .int .i64 0, .int .i64 0, .int .i64 0]) 5 40 Tryz.underlying23 hi HI.out.1 HI.out.2.1 HI.out.2.2 rfl (by decide) _ _ _ rfl hownA ⟨w9.heap.size, 0, none⟩ 1 1 (noteC ⟨1, a, b', LO', HI'⟩) rfl rfl ?c1 ?c2 ?c3 ?c4 ?c5 ?_))
        case c1 =>
          intro j u hj
          match j, hj with
          | 0, hj => simp [noteC] at hj; subst hj; simp [Addr.add]
          | 1, hj => simp [noteC] at hj; subst hj; simp [Addr.add]
          | 2, hj => simp [noteC] at hj; subst hj; simp [Addr.add]
          | 3, hj => simp [noteC] at hj; subst hj; simp [Addr.add]
          | 4, hj => simp [noteC] at hj; subst hj; simp [Addr.add]
          | j + 5, hj => simp [noteC] at hj
        case c2 => intro u hu; simp [noteC] at hu; rcases hu with rfl | rfl | rfl | rfl | rfl <;> rfl
        case c3 => unfold maxLen; omega
        case c4 => omega
        case c5 => simp; omega
        intro v' w12 hown12 hgrow _
        have hO1 := (hgrow.block (w.heap.size + 1 + 1) (by simp; omega) (by intro e; have := (hownA.lt _ e.symm).1; omega)).trans HO12.out
        have hB1' : Below (w.heap.size + 1 + 1) W w12 := HBA.out.grown hgrow (by simp; omega) (fun j hj => by have := (hownA.lt j hj).1; omega)
        obtain ⟨sa1, sc1, rfl⟩ := own_slice hown12
        have hown4 := own_other hown12 ⟨w.heap.size + 1 + 1, 2, none⟩ (by simp only; omega) (.slice sa1 (k + 1) sc1)
        have HO2 := Lib.hid (heap_setCell_same w12 (w.heap.size + 1 + 1) 2 _ _ (.slice sa1 (k + 1) sc1) hO1)
        have HB4 := Lib.hid (hB1'.setCell (p := ⟨w.heap.size + 1 + 1, 2, none⟩) (Nat.le_refl _) (.slice sa1 (k + 1) sc1))
        have g2 := cellOf hO1 2 _ rfl
        have gf := frozen_of_row _ _ 2 _ _ hO1
        have HNC : Hid (notesC (looseL iv by' (notes.take k) ++ [(⟨1, a, b', LO', HI'⟩ : Note)]) = notesC (looseL iv by' (notes.take k)) ++ noteC ⟨1, a, b', LO', HI'⟩) := notesC_append _ _
        clear hgrow hownA hown12 hO1 hB1' HBA HO12 x0 x1 x2 x3 x4 c2 f2
        go_wp2
        go_roundw
        case rel => exact ⟨k + 1, sa1, sc1, by omega, by go_num, HO2.out, by rw [HT2.out, HNC.out]; exact hown4, HB4.out⟩
        case measure => simp [intOf]; omega
      · simp only at e
        subst e
        obtain ⟨m1, m2, m3⟩ := hx0.c0 rfl
        simp only at m1 m2 m3
        have m4 : lo * iv ≤ 9000 := by omega
        have m5 : 0 ≤ hi' * iv := by omega
        go_wp2_with fail
        refine (lspan_any _ _ _).mono ?_
        rintro e w2 ⟨rfl, hb⟩
        have hX2 := (hb.block bx (lt_of_block HX1.out)).trans HX1.out
        have HBa : Hid (Below bx w1 w2) := hb.mono (Nat.le_of_lt (lt_of_block HX1.out))
        clear x0 x3 x4 f0 f3 f4 p0 hb
        have x0 := cellOf hX2 0 _ rfl
        have x3 := cellOf hX2 3 _ rfl
        have x4 := cellOf hX2 4 _ rfl
        have f0 := frozen_of_row _ _ 0 _ _ hX2
        have f3 := frozen_of_row _ _ 3 _ _ hX2
        have f4 := frozen_of_row _ _ 4 _ _ hX2
        have HXa := Lib.hid hX2
        clear hX2
        go_upto_region 12 with fail
        have hX3 := heap_setCell_same _ bx 4 _ _ (.int .i64 (hi' * iv)) (heap_setCell_same _ bx 3 _ _ (.int .i64 (lo * iv)) (heap_setCell_same w2 bx 0 _ _ (.int .i64 1) HXa.out))
        have HX2 := Lib.hid hX3
        have HB2 := Lib.hid (((HBa.out.setCell (p := ⟨bx, 0, none⟩) (Nat.le_refl _) (.int .i64 1)).setCell (p := ⟨bx, 3, none⟩) (Nat.le_refl _) (.int .i64 (lo * iv))).setCell (p := ⟨bx, 4, none⟩) (Nat.le_refl _) (.int .i64 (hi' * iv)))
        clear x0 x3 x4 f0 f3 f4 hX3 HXa HBa
        generalize ((w2.setCell ⟨bx, 0, none⟩ (.int .i64 1)).setCell ⟨bx, 3, none⟩ (.int .i64 (lo * iv))).setCell ⟨bx, 4, none⟩ (.int .i64 (hi' * iv)) = w2b at *
        have HTT : Hid (looseL iv by' (notes.take (k + 1)) = looseL iv by' (notes.take k) ++ [⟨1, a, b', max 0 (lo * iv - (by' : Int)), min 9000 (hi' * iv + (by' : Int))⟩]) := by show _ = _; rw [HT.out]; rfl
        clear HT
        have HT := HTT
        generalize lo * iv = P at *
        generalize hi' * iv = Q at *
        have x0 := cellOf HX2.out 0 _ rfl
        have x3 := cellOf HX2.out 3 _ rfl
        have x4 := cellOf HX2.out 4 _ rfl
        go_wp2_with fail
        refine (lspan_any _ _ _).mono ?_
        rintro e w3 ⟨rfl, hb⟩
        have hX3 := (hb.block bx (lt_of_block HX2.out)).trans HX2.out
        have HB3 := Lib.hid (HB2.out.trans (hb.mono (Nat.le_of_lt (lt_of_block HX2.out))))
        have HX3 := Lib.hid hX3
        try clear x0 x3 x4 f0 f3 f4
        have x3 := cellOf hX3 3 _ rfl
        have x4 := cellOf hX3 4 _ rfl
        have f3 := frozen_of_row _ _ 3 _ _ hX3
        have f4 := frozen_of_row _ _ 4 _ _ hX3
        clear hX3 HB2 HX2 hb
        try clear p0
        go_upto_region 16 with fail
        have hX9 := heap_setCell_same _ bx 4 _ _ (.int .i64 (min 9000 (Q + (by' : Int)))) (heap_setCell_same w3 bx 3 _ _ (.int .i64 (max 0 (P - (by' : Int)))) HX3.out)
        have HX9 := Lib.hid hX9
        have HB9 := Lib.hid ((HB3.out.setCell (p := ⟨bx, 3, none⟩) (Nat.le_refl _) (.int .i64 (max 0 (P - (by' : Int))))).setCell (p := ⟨bx, 4, none⟩) (Nat.le_refl _) (.int .i64 (min 9000 (Q + (by' : Int)))))
        have HT2 : Hid (looseL iv by' (notes.take (k + 1)) = looseL iv by' (notes.take k) ++ [⟨1, a, b', max 0 (P - (by' : Int)), min 9000 (Q + (by' : Int))⟩]) := by show _ = _; exact HT.out
        clear hX9 HX3 HB3 x3 x4 f3 f4 HT
        generalize (w3.setCell ⟨bx, 3, none⟩ (.int .i64 (max 0 (P - (by' : Int))))).setCell ⟨bx, 4, none⟩ (.int .i64 (min 9000 (Q + (by' : Int)))) = w9 at *
        generalize max 0 (P - (by' : Int)) = LO' at *
        generalize min 9000 (Q + (by' : Int)) = HI' at *
        have HO9 := Lib.hid ((HB9.out.block (w.heap.size + 1 + 1) (by omega)).trans HO1.out)
        have hown9 := own_upto2 hown1 HLT.out HB9.out
        have HW9 := Lib.hid (HB1.out.trans (HB9.out.mono (by omega)))
        have hs9 : bx < w9.heap.size := lt_of_block HX9.out
        have hsW9 := HW9.out.size
        have x0 := cellOf HX9.out 0 _ rfl
        have x1 := cellOf HX9.out 1 _ rfl
        have x2 := cellOf HX9.out 2 _ rfl
        have x3 := cellOf HX9.out 3 _ rfl
        have x4 := cellOf HX9.out 4 _ rfl
        have c2 := cellOf HO9.out 2 _ rfl
        have f2 := frozen_of_row _ _ 2 _ _ HO9.out
        have hownA := hown9.alloc (Obj.cells #[.int .i64 1, .int .i64 a, .int .i64 b', .int .i64 LO', .int .i64 HI'] 67)
        have HBA : Hid (Below (w.heap.size + 1 + 1) W (w9.alloc (Obj.cells #[.int .i64 1, .int .i64 a, .int .i64 b', .int .i64 LO', .int .i64 HI'] 67))) := HW9.out.alloc (by omega) _
        have HO12 := Lib.hid ((Below.heap_alloc w9 (Obj.cells #[.int .i64 1, .int .i64 a, .int .i64 b', .int .i64 LO', .int .i64 HI'] 67) _ (lt_of_block HO9.out)).trans HO9.out)
        clear HA1 HO1 hown1 HB1 HX1
        go_wp2_with (first
          | (at_builtin; refine wpList_append_own _ rfl _ _ 23 rfl W.heap.size 67 i0 (.agg #[.int .i64 0, .int .i64 0, .int .i64 0, .int .i64 0, .int .i64 0]) 5 40 Tryz.underlying23 hi HI.out.1 HI.out.2.1 HI.out.2.2 rfl (by decide) _ _ _ rfl hownA ⟨w9.heap.size, 0, none⟩ 1 1 (noteC ⟨1, a, b', LO', HI'⟩) rfl rfl ?c1 ?c2 ?c3 ?c4 ?c5 ?_))
        case c1 =>
          intro j u hj
          match j, hj with
          | 0, hj => simp [noteC] at hj; subst hj; simp [Addr.add]
          | 1, hj => simp [noteC] at hj; subst hj; simp [Addr.add]
          | 2, hj => simp [noteC] at hj; subst hj; simp [Addr.add]
          | 3, hj => simp [noteC] at hj; subst hj; simp [Addr.add]
          | 4, hj => simp [noteC] at hj; subst hj; simp [Addr.add]
          | j + 5, hj => simp [noteC] at hj
        case c2 => intro u hu; simp [noteC] at hu; rcases hu with rfl | rfl | rfl | rfl | rfl <;> rfl
        case c3 => unfold maxLen; omega
        case c4 => omega
        case c5 => simp; omega
        intro v' w12 hown12 hgrow _
        have hO1 := (hgrow.block (w.heap.size + 1 + 1) (by simp; omega) (by intro e; have := (hownA.lt _ e.symm).1; omega)).trans HO12.out
        have hB1' : Below (w.heap.size + 1 + 1) W w12 := HBA.out.grown hgrow (by simp; omega) (fun j hj => by have := (hownA.lt j hj).1; omega)
        obtain ⟨sa1, sc1, rfl⟩ := own_slice hown12
        have hown4 := own_other hown12 ⟨w.heap.size + 1 + 1, 2, none⟩ (by simp only; omega) (.slice sa1 (k + 1) sc1)
        have HO2 := Lib.hid (heap_setCell_same w12 (w.heap.size + 1 + 1) 2 _ _ (.slice sa1 (k + 1) sc1) hO1)
        have HB4 := Lib.hid (hB1'.setCell (p := ⟨w.heap.size + 1 + 1, 2, none⟩) (Nat.le_refl _) (.slice sa1 (k + 1) sc1))
        have g2 := cellOf hO1 2 _ rfl
        have gf := frozen_of_row _ _ 2 _ _ hO1
        have HNC : Hid (notesC (looseL iv by' (notes.take k) ++ [(⟨1, a, b', LO', HI'⟩ : Note)]) = notesC (looseL iv by' (notes.take k)) ++ noteC ⟨1, a, b', LO', HI'⟩) := notesC_append _ _
        clear hgrow hownA hown12 hO1 hB1' HBA HO12 x0 x1 x2 x3 x4 c2 f2
        go_wp2
        go_roundw
        case rel => exact ⟨k + 1, sa1, sc1, by omega, by go_num, HO2.out, by rw [HT2.out, HNC.out]; exact hown4, HB4.out⟩
        case measure => simp [intOf]; omega
      · simp only at e
        subst e
        have hbd : (0 ≤ lo ∧ lo ≤ 0) ∧ 0 ≤ hi' ∧ hi' ≤ 0 := by
          simp [withinB, endLo, endHi] at hxe
          omega
        obtain ⟨⟨lo0, lo9⟩, hi0, hi9⟩ := hbd
        clear hxe
        go_upto_region 12 with fail
        have hX2 := heap_setCell_same w1 bx 0 _ _ (.int .i64 4) HX1.out
        have HX2 := Lib.hid hX2
        have HB2 : Hid (Below bx w1 (w1.setCell ⟨bx, 0, none⟩ (.int .i64 4))) := (Below.refl bx w1).setCell (p := ⟨bx, 0, none⟩) (Nat.le_refl _) (.int .i64 4)
        clear x0 x3 x4 f0 f3 f4 hX2 p0
        generalize w1.setCell ⟨bx, 0, none⟩ (.int .i64 4) = w2 at *
        have x0 := cellOf HX2.out 0 _ rfl
        have x3 := cellOf HX2.out 3 _ rfl
        have x4 := cellOf HX2.out 4 _ rfl
        go_wp2_with fail
        refine (lspan_any _ _ _).mono ?_
        rintro e w3 ⟨rfl, hb⟩
        have hX3 := (hb.block bx (lt_of_block HX2.out)).trans HX2.out
        have HB3 := Lib.hid (HB2.out.trans (hb.mono (Nat.le_of_lt (lt_of_block HX2.out))))
        have HX3 := Lib.hid hX3
        try clear x0 x3 x4 f0 f3 f4
        have x3 := cellOf hX3 3 _ rfl
        have x4 := cellOf hX3 4 _ rfl
        have f3 := frozen_of_row _ _ 3 _ _ hX3
        have f4 := frozen_of_row _ _ 4 _ _ hX3
        clear hX3 HB2 HX2 hb
        try clear p0
        go_upto_region 16 with fail
        have hX9 := heap_setCell_same _ bx 4 _ _ (.int .i64 (min 9000 (hi' + (by' : Int)))) (heap_setCell_same w3 bx 3 _ _ (.int .i64 (max (-9000) (lo - (by' : Int)))) HX3.out)
        have HX9 := Lib.hid hX9
        have HB9 := Lib.hid ((HB3.out.setCell (p := ⟨bx, 3, none⟩) (Nat.le_refl _) (.int .i64 (max (-9000) (lo - (by' : Int))))).setCell (p := ⟨bx, 4, none⟩) (Nat.le_refl _) (.int .i64 (min 9000 (hi' + (by' : Int)))))
        have HT2 : Hid (looseL iv by' (notes.take (k + 1)) = looseL iv by' (notes.take k) ++ [⟨4, a, b', max (-9000) (lo - (by' : Int)), min 9000 (hi' + (by' : Int))⟩]) := by show _ = _; exact HT.out
        clear hX9 HX3 HB3 x3 x4 f3 f4 HT
        generalize (w3.setCell ⟨bx, 3, none⟩ (.int .i64 (max (-9000) (lo - (by' : Int))))).setCell ⟨bx, 4, none⟩ (.int .i64 (min 9000 (hi' + (by' : Int)))) = w9 at *
        generalize max (-9000) (lo - (by' : Int)) = LO' at *
        generalize min 9000 (hi' + (by' : Int)) = HI' at *
        have HO9 := Lib.hid ((HB9.out.block (w.heap.size + 1 + 1) (by omega)).trans HO1.out)
        have hown9 := own_upto2 hown1 HLT.out HB9.out
        have HW9 := Lib.hid (HB1.out.trans (HB9.out.mono (by omega)))
        have hs9 : bx < w9.heap.size := lt_of_block HX9.out
        have hsW9 := HW9.out.size
        have x0 := cellOf HX9.out 0 _ rfl
        have x1 := cellOf HX9.out 1 _ rfl
        have x2 := cellOf HX9.out 2 _ rfl
        have x3 := cellOf HX9.out 3 _ rfl
        have x4 := cellOf HX9.out 4 _ rfl
        have c2 := cellOf HO9.out 2 _ rfl
        have f2 := frozen_of_row _ _ 2 _ _ HO9.out
        have hownA := hown9.alloc (Obj.cells #[.int .i64 4, .int .i64 a, .int .i64 b', .int .i64 LO', .int .i64 HI'] 67)
        have HBA : Hid (Below (w.heap.size + 1 + 1) W (w9.alloc (Obj.cells #[.int .i64 4, .int .i64 a, .int .i64 b', .int .i64 LO', .int .i64 HI'] 67))) := HW9.out.alloc (by omega) _
        have HO12 := Lib.hid ((Below.heap_alloc w9 (Obj.cells #[.int .i64 4, .int .i64 a, .int .i64 b', .int .i64 LO', .int .i64 HI'] 67) _ (lt_of_block HO9.out)).trans HO9.out)
        clear HA1 HO1 hown1 HB1 HX1
        go_wp2_with (first
          | (at_builtin; refine wpList_append_own _ rfl _ _ 23 rfl W.heap.size 67 i0 (.agg #[.int .i64 0, .int .i64 0, .int .i64 0, .int .i64 0, .int .i64 0]) 5 40 Tryz.underlying23 hi HI.out.1 HI.out.2.1 HI.out.2.2 rfl (by decide) _ _ _ rfl hownA ⟨w9.heap.size, 0, none⟩ 1 1 (noteC ⟨4, a, b', LO', HI'⟩) rfl rfl ?c1 ?c2 ?c3 ?c4 ?c5 ?_))
        case c1 =>
          intro j u hj
          match j, hj with
          | 0, hj => simp [noteC] at hj; subst hj; simp [Addr.add]
          | 1, hj => simp [noteC] at hj; subst hj; simp [Addr.add]
          | 2, hj => simp [noteC] at hj; subst hj; simp [Addr.add]
          | 3, hj => simp [noteC] at hj; subst hj; simp [Addr.add]
          | 4, hj => simp [noteC] at hj; subst hj; simp [Addr.add]
          | j + 5, hj => simp [noteC] at hj
        case c2 => intro u hu; simp [noteC] at hu; rcases hu with rfl | rfl | rfl | rfl | rfl <;> rfl
        case c3 => unfold maxLen; omega
        case c4 => omega
        case c5 => simp; omega
        intro v' w12 hown12 hgrow _
        have hO1 := (hgrow.block (w.heap.size + 1 + 1) (by simp; omega) (by intro e; have := (hownA.lt _ e.symm).1; omega)).trans HO12.out
        have hB1' : Below (w.heap.size + 1 + 1) W w12 := HBA.out.grown hgrow (by simp; omega) (fun j hj => by have := (hownA.lt j hj).1; omega)
        obtain ⟨sa1, sc1, rfl⟩ := own_slice hown12
        have hown4 := own_other hown12 ⟨w.heap.size + 1 + 1, 2, none⟩ (by simp only; omega) (.slice sa1 (k + 1) sc1)
        have HO2 := Lib.hid (heap_setCell_same w12 (w.heap.size + 1 + 1) 2 _ _ (.slice sa1 (k + 1) sc1) hO1)
        have HB4 := Lib.hid (hB1'.setCell (p := ⟨w.heap.size + 1 + 1, 2, none⟩) (Nat.le_refl _) (.slice sa1 (k + 1) sc1))
        have g2 := cellOf hO1 2 _ rfl
        have gf := frozen_of_row _ _ 2 _ _ hO1
        have HNC : Hid (notesC (looseL iv by' (notes.take k) ++ [(⟨4, a, b', LO', HI'⟩ : Note)]) = notesC (looseL iv by' (notes.take k)) ++ noteC ⟨4, a, b', LO', HI'⟩) := notesC_append _ _
        clear hgrow hownA hown12 hO1 hB1' HBA HO12 x0 x1 x2 x3 x4 c2 f2
        go_wp2
        go_roundw
        case rel => exact ⟨k + 1, sa1, sc1, by omega, by go_num, HO2.out, by rw [HT2.out, HNC.out]; exact hown4, HB4.out⟩
        case measure => simp [intOf]; omega
      · simp only at e
        subst e
        have hbd : (-9000 ≤ lo ∧ lo ≤ 9000) ∧ -9000 ≤ hi' ∧ hi' ≤ 9000 := by
          simp [withinB, endLo, endHi] at hxe
          omega
        obtain ⟨⟨lo0, lo9⟩, hi0, hi9⟩ := hbd
        clear hxe
        have HX2 := HX1
        have HB2 : Hid (Below bx w1 w1) := Below.refl _ _
        go_wp2_with fail
        refine (lspan_any _ _ _).mono ?_
        rintro e w3 ⟨rfl, hb⟩
        have hX3 := (hb.block bx (lt_of_block HX2.out)).trans HX2.out
        have HB3 := Lib.hid (HB2.out.trans (hb.mono (Nat.le_of_lt (lt_of_block HX2.out))))
        have HX3 := Lib.hid hX3
        try clear x0 x3 x4 f0 f3 f4
        have x3 := cellOf hX3 3 _ rfl
        have x4 := cellOf hX3 4 _ rfl
        have f3 := frozen_of_row _ _ 3 _ _ hX3
        have f4 := frozen_of_row _ _ 4 _ _ hX3
        clear hX3 HB2 HX2 hb
        try clear p0
        go_upto_region 16 with fail
        have hX9 := heap_setCell_same _ bx 4 _ _ (.int .i64 (min 9000 (hi' + (by' : Int)))) (heap_setCell_same w3 bx 3 _ _ (.int .i64 (max (-9000) (lo - (by' : Int)))) HX3.out)
        have HX9 := Lib.hid hX9
        have HB9 := Lib.hid ((HB3.out.setCell (p := ⟨bx, 3, none⟩) (Nat.le_refl _) (.int .i64 (max (-9000) (lo - (by' : Int))))).setCell (p := ⟨bx, 4, none⟩) (Nat.le_refl _) (.int .i64 (min 9000 (hi' + (by' : Int)))))
        have HT2 : Hid (looseL iv by' (notes.take (k + 1)) = looseL iv by' (notes.take k) ++ [⟨4, a, b', max (-9000) (lo - (by' : Int)), min 9000 (hi' + (by' : Int))⟩]) := by show _ = _; exact HT.out
        clear hX9 HX3 HB3 x3 x4 f3 f4 HT
        generalize (w3.setCell ⟨bx, 3, none⟩ (.int .i64 (max (-9000) (lo - (by' : Int))))).setCell ⟨bx, 4, none⟩ (.int .i64 (min 9000 (hi' + (by' : Int)))) = w9 at *
        generalize max (-9000) (lo - (by' : Int)) = LO' at *
        generalize min 9000 (hi' + (by' : Int)) = HI' at *
        have HO9 := Lib.hid ((HB9.out.block (w.heap.size + 1 + 1) (by omega)).trans HO1.out)
        have hown9 := own_upto2 hown1 HLT.out HB9.out
        have HW9 := Lib.hid (HB1.out.trans (HB9.out.mono (by omega)))
        have hs9 : bx < w9.heap.size := lt_of_block HX9.out
        have hsW9 := HW9.out.size
        have x0 := cellOf HX9.out 0 _ rfl
        have x1 := cellOf HX9.out 1 _ rfl
        have x2 := cellOf HX9.out 2 _ rfl
        have x3 := cellOf HX9.out 3 _ rfl
        have x4 := cellOf HX9.out 4 _ rfl
        have c2 := cellOf HO9.out 2 _ rfl
        have f2 := frozen_of_row _ _ 2 _ _ HO9.out
        have hownA := hown9.alloc (Obj.cells #[.int .i64 4, .int .i64 a, .int .i64 b', .int .i64 LO', .int .i64 HI'] 67)
        have HBA : Hid (Below (w.heap.size + 1 + 1) W (w9.alloc (Obj.cells #[.int .i64 4, .int .i64 a, .int .i64 b', .int .i64 LO', .int .i64 HI'] 67))) := HW9.out.alloc (by omega) _
        have HO12 := Lib.hid ((Below.heap_alloc w9 (Obj.cells #[.int .i64 4, .int .i64 a, .int .i64 b', .int .i64 LO', .int .i64 HI'] 67) _ (lt_of_block HO9.out)).trans HO9.out)
        clear HA1 HO1 hown1 HB1 HX1
        go_wp2_with (first
          | (at_builtin; refine wpList_append_own _ rfl _ _ 23 rfl W.heap.size 67 i0 (.agg #[.int .i64 0, .int .i64 0, .int .i64 0, .int .i64 0, .int .i64 0]) 5 40 Tryz.underlying23 hi HI.out.1 HI.out.2.1 HI.out.2.2 rfl (by decide) _ _ _ rfl hownA ⟨w9.heap.size, 0, none⟩ 1 1 (noteC ⟨4, a, b', LO', HI'⟩) rfl rfl ?c1 ?c2 ?c3 ?c4 ?c5 ?_))
        case c1 =>
          intro j u hj
          match j, hj with
          | 0, hj => simp [noteC] at hj; subst hj; simp [Addr.add]
          | 1, hj => simp [noteC] at hj; subst hj; simp [Addr.add]
          | 2, hj => simp [noteC] at hj; subst hj; simp [Addr.add]
          | 3, hj => simp [noteC] at hj; subst hj; simp [Addr.add]
          | 4, hj => simp [noteC] at hj; subst hj; simp [Addr.add]
          | j + 5, hj => simp [noteC] at hj
        case c2 => intro u hu; simp [noteC] at hu; rcases hu with rfl | rfl | rfl | rfl | rfl <;> rfl
        case c3 => unfold maxLen; omega
        case c4 => omega
        case c5 => simp; omega
        intro v' w12 hown12 hgrow _
        have hO1 := (hgrow.block (w.heap.size + 1 + 1) (by simp; omega) (by intro e; have := (hownA.lt _ e.symm).1; omega)).trans HO12.out
        have hB1' : Below (w.heap.size + 1 + 1) W w12 := HBA.out.grown hgrow (by simp; omega) (fun j hj => by have := (hownA.lt j hj).1; omega)
        obtain ⟨sa1, sc1, rfl⟩ := own_slice hown12
        have hown4 := own_other hown12 ⟨w.heap.size + 1 + 1, 2, none⟩ (by simp only; omega) (.slice sa1 (k + 1) sc1)
        have HO2 := Lib.hid (heap_setCell_same w12 (w.heap.size + 1 + 1) 2 _ _ (.slice sa1 (k + 1) sc1) hO1)
        have HB4 := Lib.hid (hB1'.setCell (p := ⟨w.heap.size + 1 + 1, 2, none⟩) (Nat.le_refl _) (.slice sa1 (k + 1) sc1))
        have g2 := cellOf hO1 2 _ rfl
        have gf := frozen_of_row _ _ 2 _ _ hO1
        have HNC : Hid (notesC (looseL iv by' (notes.take k) ++ [(⟨4, a, b', LO', HI'⟩ : Note)]) = notesC (looseL iv by' (notes.take k)) ++ noteC ⟨4, a, b', LO', HI'⟩) := notesC_append _ _
        clear hgrow hownA hown12 hO1 hB1' HBA HO12 x0 x1 x2 x3 x4 c2 f2
        go_wp2
        go_roundw
        case rel => exact ⟨k + 1, sa1, sc1, by omega, by go_num, HO2.out, by rw [HT2.out, HNC.out]; exact hown4, HB4.out⟩
        case measure => simp [intOf]; omega
    · have e : k = notes.length := by omega
      subst e
      have r0 := cellOf HOk.out 0 _ rfl
      have r1 := cellOf HOk.out 1 _ rfl
      have r2 := cellOf HOk.out 2 _ rfl
      have hRk := (HBk.out.block (w.heap.size + 1) (by omega)).trans HR.out
      have q0 := cellOf hRk 0 _ rfl
      have q1 := cellOf hRk 1 _ rfl
      have q2 := cellOf hRk 2 _ rfl
      have f0 := frozen_of_row _ _ 0 _ _ hRk
      have f1 := frozen_of_row _ _ 1 _ _ hRk
      have f2 := frozen_of_row _ _ 2 _ _ hRk
      have a2 := cellOf HAk.out 2 _ rfl
      have HRk := Lib.hid hRk
      have hBB := Lib.hid (HB.out.trans (HBk.out.mono (by omega)))
      rw [List.take_length] at hown
      clear hRk
      go_wp2_with fail
      have hC := heap_setCell_same _ (w.heap.size + 1) 2 _ _ (.slice sa notes.length sc) (heap_setCell_same _ (w.heap.size + 1) 1 _ _ (.slice pa pts.length pc) (heap_setCell_same _ (w.heap.size + 1) 0 _ _ (.int .i64 iv) HRk.out))
      have hO := own_other (own_other (own_other hown ⟨w.heap.size + 1, 0, none⟩ (by simp only; omega) (.int .i64 iv)) ⟨w.heap.size + 1, 1, none⟩ (by simp only; omega) (.slice pa pts.length pc)) ⟨w.heap.size + 1, 2, none⟩ (by simp only; omega) (.slice sa notes.length sc)
      have hBZ := ((hBB.out.setCell (p := ⟨w.heap.size + 1, 0, none⟩) (by simp) (.int .i64 iv)).setCell (p := ⟨w.heap.size + 1, 1, none⟩) (by simp) (.slice pa pts.length pc)).setCell (p := ⟨w.heap.size + 1, 2, none⟩) (by simp) (.slice sa notes.length sc)
      refine bodyPost_ret (results_cell_row rfl _ _ (w.heap.size + 1) 25 _ (0, 0) _ rfl hC Tryz.underlying25 rfl (by kernel_rfl)) rfl ⟨_, rfl, own_base hO (by omega), hBZ⟩
end Go.Proofs.YtpmnnomeaaaenaaGreatDoor

namespace Go.Proofs.YtpmnnomeaaaenaaGreatDoor
open Go Go.RowKit Hs Fct

theorem notesC_len (l : List Note) : (notesC l).length = l.length * 5 := by
  unfold notesC
  induction l with
  | nil => rfl
  | cons x l ih => rw [List.flatMap_cons, List.length_append, ih]; simp [noteC]; omega
theorem notesC_set (l : List Note) (k : Nat) (hk : k < l.length) (lo hi : Int) : ((notesC l).set (k * 5 + 3) (.int .i64 lo)).set (k * 5 + 4) (.int .i64 hi) = notesC (l.set k { l[k] with lo := lo, hi := hi }) := by
  apply List.ext_getElem?
  intro j
  by_cases hj : j < l.length * 5
  · have hq : j / 5 < l.length := by omega
    have e : j / 5 * 5 + j % 5 = j := by omega
    have g1 := notesC_get l (j / 5) hq (j % 5) (Nat.mod_lt _ (by omega))
    have g2 := notesC_get (l.set k { l[k] with lo := lo, hi := hi }) (j / 5) (by simpa using hq) (j % 5) (Nat.mod_lt _ (by omega))
    rw [e] at g1 g2
    have hl := notesC_len l
    rw [g2, List.getElem?_set, List.getElem?_set, g1]
    by_cases hk' : j / 5 = k
    · subst hk'
      have h5 : j % 5 = 0 ∨ j % 5 = 1 ∨ j % 5 = 2 ∨ j % 5 = 3 ∨ j % 5 = 4 := by omega
      simp only [List.length_set, hl, List.getElem_set_self]
      rcases h5 with h | h | h | h | h
      · rw [if_neg (by omega), if_neg (by omega), h]; rfl
      · rw [if_neg (by omega), if_neg (by omega), h]; rfl
      · rw [if_neg (by omega), if_neg (by omega), h]; rfl
      · rw [if_neg (by omega), if_pos (by omega), if_pos (by omega), h]; rfl
      · rw [if_pos (by omega), if_pos (by omega), h]; rfl
    · rw [if_neg (by omega), if_neg (by omega)]
      rw [List.getElem_set_ne (by omega)]
  · have hl := notesC_len l
    have hl2 := notesC_len (l.set k { l[k] with lo := lo, hi := hi })
    rw [List.getElem?_eq_none (by simp; omega), List.getElem?_eq_none (by simp at hl2 ⊢; omega)]
theorem moveL_set (l : List Note) (f : Nat → Int) (k : Nat) (hk : k < l.length) : (moveL l f k).set k (moveN (f k) l[k]) = moveL l f (k + 1) := by
  apply List.ext_getElem (by simp [moveL_len])
  intro i h1 h2
  have hi : i < l.length := by simpa [moveL_len] using h2
  rw [moveL_get l f (k + 1) i hi]
  by_cases e : i = k
  · subst e
    rw [List.getElem_set_self, if_pos (by omega)]
  · rw [List.getElem_set_ne (by omega), moveL_get l f k i hi]
    by_cases h : i < k
    · rw [if_pos h, if_pos (by omega)]
    · rw [if_neg h, if_neg (by omega)]
theorem moveL_same (l : List Note) (f : Nat → Int) (k : Nat) (hk : k < l.length) (h : moveN (f k) l[k] = l[k]) : moveL l f (k + 1) = moveL l f k := by
  rw [← moveL_set l f k hk, h]
  apply List.ext_getElem (by simp)
  intro i h1 h2
  have hi : i < l.length := by simpa [moveL_len] using h2
  by_cases e : i = k
  · subst e
    rw [List.getElem_set_self, moveL_get l f i i hi, if_neg (by omega)]
  · rw [List.getElem_set_ne (by omega)]
theorem own_ptr {w : World} {base e size n m sc : Nat} {sa : Option Addr} {xs : List Value} (h : w.ownsRow base e size (.slice sa m sc) n xs) (hn : 0 < n) : ∃ g, sa = some ⟨g, 0, none⟩ ∧ base ≤ g := by
  rcases h.2 with ⟨_, e⟩ | ⟨g, cap, cur, e, r2, _⟩
  · omega
  · simp only [Value.slice.injEq] at e
    exact ⟨g, e.1, r2⟩
/-- The cells of a note that is not moved yet. -/
theorem move_cells {w : World} {base g sc : Nat} {N : List Note} {f : Nat → Int} {k : Nat} (h : w.ownsRow base 67 5 (.slice (some ⟨g, 0, none⟩) N.length sc) N.length (notesC (moveL N f k))) (hk : k < N.length) :
    w.cell? ⟨g, k * 5, none⟩ = some (.int .i64 N[k].k) ∧ w.cell? ⟨g, k * 5 + 3, none⟩ = some (.int .i64 N[k].lo) ∧ w.cell? ⟨g, k * 5 + 4, none⟩ = some (.int .i64 N[k].hi) ∧ w.frozen? ⟨g, k * 5 + 3, none⟩ = false ∧ w.frozen? ⟨g, k * 5 + 4, none⟩ = false := by
  have hl := moveL_len N f k
  have hg := moveL_get N f k k hk
  rw [if_neg (by omega)] at hg
  have get : ∀ j, j < 5 → (notesC (moveL N f k))[k * 5 + j]? = (noteC N[k])[j]? := fun j hj => by
    rw [notesC_get (moveL N f k) k (by omega) j hj, hg]
  refine ⟨?_, ?_, ?_, h.frozenAt _, h.frozenAt _⟩
  · exact (h.cellAt (k * 5 + 0) (by omega)).trans (get 0 (by omega))
  · exact (h.cellAt (k * 5 + 3) (by omega)).trans (get 3 (by omega))
  · exact (h.cellAt (k * 5 + 4) (by omega)).trans (get 4 (by omega))
/-- A note is moved by two stores. -/
theorem move_store {w : World} {base g sc : Nat} {N : List Note} {f : Nat → Int} {k : Nat} (h : w.ownsRow base 67 5 (.slice (some ⟨g, 0, none⟩) N.length sc) N.length (notesC (moveL N f k))) (hk : k < N.length) {lo hi : Int} (hm : moveN (f k) N[k] = { N[k] with lo := lo, hi := hi }) :
    ((w.setCell ⟨g, k * 5 + 3, none⟩ (.int .i64 lo)).setCell ⟨g, k * 5 + 4, none⟩ (.int .i64 hi)).ownsRow base 67 5 (.slice (some ⟨g, 0, none⟩) N.length sc) N.length (notesC (moveL N f (k + 1))) := by
  have s2 := ((h.stored (k * 5 + 3) (.int .i64 lo)).1.stored (k * 5 + 4) (.int .i64 hi)).1
  rw [notesC_set (moveL N f k) k (by rw [moveL_len]; exact hk)] at s2
  have hg := moveL_get N f k k hk
  rw [if_neg (by omega)] at hg
  rw [hg, ← hm, moveL_set N f k hk] at s2
  exact s2
end Go.Proofs.YtpmnnomeaaaenaaGreatDoor

namespace Go.Proofs.YtpmnnomeaaaenaaGreatDoor
open Go Go.RowKit Hs Fct

/-- What stands through the calls. -/
structure WidA (w0 : World) (bA : Nat) (oA oX : Obj) (pv nv xv yv : Value) (s : Sheet) (l1 l2 : List Nat) (w : World) : Prop where
  a : w.heap[bA]? = some oA
  x : w.heap[bA + 1]? = some oX
  s : SheetAt w.heap.size w pv nv s
  u1 : U16At w xv l1
  u2 : U16At w yv l2
  T : Tabs w
  B : Below w0.heap.size w0 w
theorem WidA.up {w0 : World} {bA : Nat} {oA oX : Obj} {pv nv xv yv : Value} {s : Sheet} {l1 l2 : List Nat} {w w' : World} (h : WidA w0 bA oA oX pv nv xv yv s l1 l2 w) (hb : Below w.heap.size w w') : WidA w0 bA oA oX pv nv xv yv s l1 l2 w' :=
  ⟨(hb.block _ (lt_of_block h.a)).trans h.a, (hb.block _ (lt_of_block h.x)).trans h.x, h.s.up hb, h.u1.below hb, h.u2.below hb, h.T.below hb, h.B.trans (hb.mono h.B.size)⟩
/-- What stands when the told sheet lies in a block of its own. -/
structure WidC (w0 : World) (bA : Nat) (oA oX : Obj) (iv : Int) (pv nv xv yv : Value) (s : Sheet) (l1 l2 : List Nat) (w3 : World) (bT : Nat) (sa : Option Addr) (sc : Nat) (N : List Note) (w : World) : Prop where
  A : WidA w0 bA oA oX pv nv xv yv s l1 l2 w
  o : w.heap[bT]? = some (.cells #[.int .i64 iv, pv, .slice sa N.length sc] 25 (0, 0))
  b : w3.heap.size ≤ bT
  Bw : Below w3.heap.size w3 w
  own : w.ownsRow w3.heap.size 67 5 (.slice sa N.length sc) N.length (notesC N)
  ne : (Value.slice sa N.length sc).ownBlock ≠ some bT
theorem own_new2 {w : World} {base e size n : Nat} {v : Value} {xs : List Value} (h : w.ownsRow base e size v n xs) : v.ownBlock ≠ some w.heap.size := by
  intro hv
  have := (h.lt _ hv).2
  omega
section
variable {w0 : World} {bA : Nat} {oA oX : Obj} {iv : Int} {pv nv xv yv : Value} {s : Sheet} {l1 l2 : List Nat} {w3 w5 : World} {base : Nat} {sa : Option Addr} {sc : Nat} {N : List Note}
theorem widC_put (h : WidA w0 bA oA oX pv nv xv yv s l1 l2 w3) (hB5 : Below w3.heap.size w3 w5) {bT : Nat} (z : w5.heap[bT]? = some (.cells #[.int .i64 0, .slice none 0 0, .slice none 0 0] 25 (0, 0))) (hb : w3.heap.size ≤ bT) (hlt : bT < base) (hown : w5.ownsRow base 67 5 (.slice sa N.length sc) N.length (notesC N)) :
    WidC w0 bA oA oX iv pv nv xv yv s l1 l2 w3 bT sa sc N (((w5.setCell ⟨bT, 0, none⟩ (.int .i64 iv)).setCell ⟨bT, 1, none⟩ pv).setCell ⟨bT, 2, none⟩ (.slice sa N.length sc)) := by
  refine ⟨h.up (((hB5.setCell hb _).setCell hb _).setCell hb _), ?_, hb, ((hB5.setCell hb _).setCell hb _).setCell hb _, own_base (own_other (own_other (own_other hown ⟨bT, 0, none⟩ hlt _) ⟨bT, 1, none⟩ hlt _) ⟨bT, 2, none⟩ hlt _) (by omega), fun e => ?_⟩
  · exact heap_setCell_same _ bT 2 _ _ (.slice sa N.length sc) (heap_setCell_same _ bT 1 _ _ pv (heap_setCell_same w5 bT 0 _ _ (.int .i64 iv) z))
  · have := (hown.lt _ e).1
    omega
theorem widC_new (h : WidA w0 bA oA oX pv nv xv yv s l1 l2 w3) (hB5 : Below w3.heap.size w3 w5) (hown : w5.ownsRow base 67 5 (.slice sa N.length sc) N.length (notesC N)) (hbase : w3.heap.size ≤ base) :
    WidC w0 bA oA oX iv pv nv xv yv s l1 l2 w3 w5.heap.size sa sc N (w5.alloc (Obj.cells #[.int .i64 iv, pv, .slice sa N.length sc] 25)) :=
  ⟨h.up (hB5.alloc hB5.size _), heap_alloc_new _ _, hB5.size, hB5.alloc hB5.size _, own_base (hown.alloc _) hbase, own_new2 hown⟩
end
theorem truth_ok2 (l : List Nat) (n : Nat) (hn : n ≤ 8) : HtsOk (truthS l n) := by
  refine ⟨by rw [truthS_len]; exact hn, fun z hz => ?_⟩
  unfold truthS at hz
  obtain ⟨i, _, rfl⟩ := List.mem_map.1 hz
  omega
theorem below_then {B : Nat} {a b c : World} (h : Below B a b) (k : Below b.heap.size b c) (hB : B ≤ b.heap.size) : Below B a c := h.trans (k.mono hB)
theorem truth_from {w0 : World} {bA : Nat} {oA oX : Obj} {pv nv xv yv : Value} {s : Sheet} {l1 l2 : List Nat} {w w' : World} (h : WidA w0 bA oA oX pv nv xv yv s l1 l2 w) (np : s.pts.length ≤ 8) (hb : Below w.heap.size w w') :
    Calls Tryz.prog 42 #[.agg #[.int .i64 s.iv, pv, nv], xv] w' (TruthP l1 s.pts.length w') := truth_any s pv nv xv l1 w' (h.up hb).s (h.up hb).u1 np
theorem keep6w {W w w' : World} {p1 p2 p3 p4 p5 p6 : Addr} {v1 v2 v3 v4 v5 v6 : Value}
    (h : w.cell? p1 = some v1 ∧ w.cell? p2 = some v2 ∧ w.cell? p3 = some v3 ∧ w.cell? p4 = some v4 ∧ w.cell? p5 = some v5 ∧ w.cell? p6 = some v6 ∧ Hid (Below W.heap.size W w)) (hb : Below w.heap.size w w') :
    w'.cell? p1 = some v1 ∧ w'.cell? p2 = some v2 ∧ w'.cell? p3 = some v3 ∧ w'.cell? p4 = some v4 ∧ w'.cell? p5 = some v5 ∧ w'.cell? p6 = some v6 ∧ Hid (Below W.heap.size W w') := by
  obtain ⟨c1, c2, c3, c4, c5, c6, c7⟩ := h
  have g : ∀ {p : Addr} {v : Value}, w.cell? p = some v → w'.cell? p = some v := fun {p v} h => (hb.cell (World.block_lt_of_cell? w p h)).trans h
  exact ⟨g c1, g c2, g c3, g c4, g c5, g c6, c7.out.trans (hb.mono c7.out.size)⟩
theorem keep6ad {W w : World} {p1 p2 p3 p4 p5 p6 : Addr} {v1 v2 v3 v4 v5 v6 : Value}
    (h : w.drew.cell? p1 = some v1 ∧ w.drew.cell? p2 = some v2 ∧ w.drew.cell? p3 = some v3 ∧ w.drew.cell? p4 = some v4 ∧ w.drew.cell? p5 = some v5 ∧ w.drew.cell? p6 = some v6 ∧ Hid (Below W.heap.size W w.drew)) (o : Obj) :
    (w.alloc o).drew.cell? p1 = some v1 ∧ (w.alloc o).drew.cell? p2 = some v2 ∧ (w.alloc o).drew.cell? p3 = some v3 ∧ (w.alloc o).drew.cell? p4 = some v4 ∧ (w.alloc o).drew.cell? p5 = some v5 ∧ (w.alloc o).drew.cell? p6 = some v6 ∧ Hid (Below W.heap.size W (w.alloc o).drew) := keep6w h (by
  have b := (Below.refl w.drew.heap.size w).alloc (Nat.le_refl _) o
  exact ⟨b.os, b.tape, b.output, b.size, b.block⟩)
theorem keep6s {W w : World} {b1 b2 b3 b4 b5 b6 o1 o2 o3 o4 o5 o6 : Nat} {v1 v2 v3 v4 v5 v6 : Value}
    (h : w.cell? ⟨b1, o1, none⟩ = some v1 ∧ w.cell? ⟨b2, o2, none⟩ = some v2 ∧ w.cell? ⟨b3, o3, none⟩ = some v3 ∧ w.cell? ⟨b4, o4, none⟩ = some v4 ∧ w.cell? ⟨b5, o5, none⟩ = some v5 ∧ w.cell? ⟨b6, o6, none⟩ = some v6 ∧ Hid (Below W.heap.size W w)) (hl : b1 < W.heap.size ∧ b2 < W.heap.size ∧ b3 < W.heap.size ∧ b4 < W.heap.size ∧ b5 < W.heap.size ∧ b6 < W.heap.size) {p : Addr} (hp : W.heap.size ≤ p.block) (u : Value) :
    (w.setCell p u).cell? ⟨b1, o1, none⟩ = some v1 ∧ (w.setCell p u).cell? ⟨b2, o2, none⟩ = some v2 ∧ (w.setCell p u).cell? ⟨b3, o3, none⟩ = some v3 ∧ (w.setCell p u).cell? ⟨b4, o4, none⟩ = some v4 ∧ (w.setCell p u).cell? ⟨b5, o5, none⟩ = some v5 ∧ (w.setCell p u).cell? ⟨b6, o6, none⟩ = some v6 ∧ Hid (Below W.heap.size W (w.setCell p u)) := by
  obtain ⟨c1, c2, c3, c4, c5, c6, c7⟩ := h
  have hb : Below W.heap.size w (w.setCell p u) := (Below.refl _ _).setCell hp u
  exact ⟨(hb.cell (p := ⟨b1, o1, none⟩) hl.1).trans c1, (hb.cell (p := ⟨b2, o2, none⟩) hl.2.1).trans c2, (hb.cell (p := ⟨b3, o3, none⟩) hl.2.2.1).trans c3, (hb.cell (p := ⟨b4, o4, none⟩) hl.2.2.2.1).trans c4, (hb.cell (p := ⟨b5, o5, none⟩) hl.2.2.2.2.1).trans c5, (hb.cell (p := ⟨b6, o6, none⟩) hl.2.2.2.2.2).trans c6, c7.out.trans hb⟩
theorem u16_nil (w : World) : U16At w (.slice none 0 0) [] := ⟨by simp, none, 0, rfl, fun h => absurd rfl h⟩

theorem told_from {w0 : World} {bA : Nat} {oA oX : Obj} {pv nv xv yv : Value} {s : Sheet} {l1 l2 : List Nat} {w w1 w' : World} {hv : Value} (h : WidA w0 bA oA oX pv nv xv yv s l1 l2 w) (hcap : CapOk pv) (hval : ValidS s) (hH : IntsAt w1 hv (truthS l1 s.pts.length)) (hb : Below w.heap.size w w') (hb1 : Below w1.heap.size w1 w') :
    Calls Tryz.prog 43 #[.agg #[.int .i64 s.iv, pv, nv], hv, .slice none 0 0] w' (ToldP s pv (truthS l1 s.pts.length) [] w') :=
  told_any s pv nv hv (.slice none 0 0) (truthS l1 s.pts.length) [] w' (h.up hb).s hcap hval (hH.below hb1) (u16_nil w') (truthS_len _ _) (truth_ok2 l1 _ hval.np8)

theorem loose_from {w0 : World} {bA : Nat} {oA oX : Obj} {pv nv xv yv : Value} {s : Sheet} {l1 l2 : List Nat} {w w' : World} {n : Nat} (h : WidA w0 bA oA oX pv nv xv yv s l1 l2 w) (hb : Below w.heap.size w w') (hval : ValidS s) (hn : n ≤ 9000) :
    Calls Tryz.prog 53 #[.agg #[.int .i64 s.iv, pv, nv], .int .i64 n] w' (LooseP s pv n w') := loose_any s pv nv n w' (h.up hb).s hval hn
theorem fits_from {w0 : World} {bA : Nat} {oA oX : Obj} {pv nv xv yv nv8 : Value} {s : Sheet} {l1 l2 : List Nat} {w : World} {B n : Nat} (hval : ValidS s) (h : WidA w0 bA oA oX pv nv xv yv s l1 l2 w) (hn : n ≤ 9000)
    (hown : w.ownsRow B 67 5 nv8 s.notes.length (notesC (looseL s.iv n s.notes))) (hbad : fitB s.iv n s.notes = false) :
    Calls Tryz.prog 20 #[.agg #[.int .i64 s.iv, pv, nv8]] w fun e w' => e = .returned (.tuple #[.bool false, .int .i64 0]) ∧ Below w.heap.size w w' := by
  have hLv := loose_valid hval (by' := (n : Int)) (by omega) (by omega)
  have hLf := loose_fit hval (by' := (n : Int)) (by omega) (by omega)
  have hN := notesAt_own (l := looseL s.iv (n : Int) s.notes) (by rw [looseL_len]; exact hown) (by rw [looseL_len]; have := hval.nn; omega)
  have hft := Fits_any ⟨s.iv, s.pts, looseL s.iv (n : Int) s.notes⟩ pv nv8 w ⟨h.s.pts, hN, h.s.sz⟩
  rw [errS_zero hLv, fitsS_of hLv] at hft
  simp only [hLf, hbad] at hft
  exact hft

theorem fits_good {w0 : World} {bA : Nat} {oA oX : Obj} {pv nv xv yv nv8 : Value} {s : Sheet} {l1 l2 : List Nat} {w : World} {B n : Nat} (hval : ValidS s) (h : WidA w0 bA oA oX pv nv xv yv s l1 l2 w) (hn : n ≤ 9000)
    (hown : w.ownsRow B 67 5 nv8 s.notes.length (notesC (looseL s.iv n s.notes))) (hgood : fitB s.iv n s.notes = true) :
    Calls Tryz.prog 20 #[.agg #[.int .i64 s.iv, pv, nv8]] w fun e w' => e = .returned (.tuple #[.bool true, .int .i64 0]) ∧ Below w.heap.size w w' := by
  have hLv := loose_valid hval (by' := (n : Int)) (by omega) (by omega)
  have hLf := loose_fit hval (by' := (n : Int)) (by omega) (by omega)
  have hN := notesAt_own (l := looseL s.iv (n : Int) s.notes) (by rw [looseL_len]; exact hown) (by rw [looseL_len]; have := hval.nn; omega)
  have hft := Fits_any ⟨s.iv, s.pts, looseL s.iv (n : Int) s.notes⟩ pv nv8 w ⟨h.s.pts, hN, h.s.sz⟩
  rw [errS_zero hLv, fitsS_of hLv] at hft
  simp only [hLf, hgood] at hft
  exact hft
theorem wid_ends (iv : Int) (pts : List ByteArray) (notes : List Note) (r less : Nat) (hv : ValidS ⟨iv, pts, notes⟩) (hw : WidIs ⟨iv, pts, notes⟩ r) (h0 : ¬ r = 0) :
    Hid (fitB iv ((less % r : Nat) : Int) notes = false) ∧ Hid (fitB iv (r : Int) notes = true) ∧ less % r ≤ 9000 ∧ Hid (((less : Int)).tmod (r : Int) = ((less % r : Nat) : Int)) := by
  have hml : less % r < r := Nat.mod_lt _ (by omega)
  have h1 : fitB iv ((less % r : Nat) : Int) notes = false := hw.2.1 (less % r) hml
  have h2 : fitB iv (r : Int) notes = true := wid_fit (s := ⟨iv, pts, notes⟩) hv hw
  have h3 := hw.1
  exact ⟨h1, h2, by omega, Fct.mod_nat less r⟩

set_option maxRecDepth 100000 in
set_option maxHeartbeats 8000000 in
theorem lwider_any (s : Sheet) (pv nv xv yv : Value) (l1 l2 : List Nat) (less : Nat) (w : World) (hS : SheetAt w.heap.size w pv nv s) (hcap : CapOk pv) (h1 : U16At w xv l1) (h2 : U16At w yv l2) (hless : less ≤ 65535) (hT : Tabs w) :
    Calls Tryz.prog 12 #[.agg #[.int .i64 s.iv, pv, nv], .agg #[xv, yv], .int .u16 less] w fun e w' => e = .returned (.bool true) ∧ Below w.heap.size w w' := by
  obtain ⟨iv, pts, notes⟩ := s
  obtain ⟨ln, na, nc, rfl, _⟩ := id hS.notes
  obtain ⟨lp, pa, pc, rfl, _⟩ := id hS.pts
  obtain ⟨lx, xa, xc, rfl, _⟩ := id h1
  obtain ⟨ly, ya, yc, rfl, _⟩ := id h2
  simp only at hS ln lp ⊢
  have B0 : Below w.heap.size w ((w.alloc (Obj.cells #[.int .i64 iv, .slice pa pts.length pc, .slice na notes.length nc] 25)).alloc (Obj.cells #[.slice xa l1.length xc, .slice ya l2.length yc] 57)) := by go_grown
  have HS0 : Hid (WidA w w.heap.size (Obj.cells #[.int .i64 iv, .slice pa pts.length pc, .slice na notes.length nc] 25 (0, 0)) (Obj.cells #[.slice xa l1.length xc, .slice ya l2.length yc] 57 (0, 0)) (.slice pa pts.length pc) (.slice na notes.length nc) (.slice xa l1.length xc) (.slice ya l2.length yc) ⟨iv, pts, notes⟩ l1 l2 ((w.alloc (Obj.cells #[.int .i64 iv, .slice pa pts.length pc, .slice na notes.length nc] 25)).alloc (Obj.cells #[.slice xa l1.length xc, .slice ya l2.length yc] 57))) :=
    ⟨heap_alloc2_old w _ _, heap_alloc2_new w _ _, hS.up B0, h1.below B0, h2.below B0, hT.below B0, B0⟩
  have lessI : (less : Int) ≤ 65535 := by omega
  clear B0 hS h1 h2 hT
  go_enter Tryz.func12, Tryz.ntmps12
  go_wp2_with fail
  generalize (w.alloc (Obj.cells #[.int .i64 iv, .slice pa pts.length pc, .slice na notes.length nc] 25)).alloc (Obj.cells #[.slice xa l1.length xc, .slice ya l2.length yc] 57) = w0 at *
  refine (Wider_any ⟨iv, pts, notes⟩ (.slice pa pts.length pc) (.slice na notes.length nc) w0 HS0.out.s).mono ?_
  rintro e w1 ⟨r, rfl, hwp, hb⟩
  have HS1 := Lib.hid (HS0.out.up hb)
  clear hb HS0
  clear w0
  have a0 := cellOf HS1.out.a 0 _ rfl
  have a1 := cellOf HS1.out.a 1 _ rfl
  have a2 := cellOf HS1.out.a 2 _ rfl
  by_cases hv : errS ⟨iv, pts, notes⟩ = 0
  · have HV := Lib.hid ((check_valid _).1 hv)
    have hwi : WidIs ⟨iv, pts, notes⟩ r := by unfold WidPost at hwp; rw [if_pos hv] at hwp; exact hwp
    have HW := Lib.hid hwi
    have hvl := valid_any ⟨iv, pts, notes⟩ (.slice pa pts.length pc) (.slice na notes.length nc) w1 HS1.out.s hcap
    rw [hv] at hvl ⊢
    have HVL := Lib.hid hvl
    have r9 : r ≤ 9000 := hwi.1
    have rI : (r : Int) ≤ 9000 := by omega
    have np8 : pts.length ≤ 8 := HV.out.np8
    clear hwi hwp hvl
    go_wp2_with fail
    refine HVL.out.mono ?_
    rintro e w2 ⟨rfl, hb⟩
    have HS2 := Lib.hid (HS1.out.up hb)
    clear hb HS1 HVL a0 a1 a2
    have a0 := cellOf HS2.out.a 0 _ rfl
    have a1 := cellOf HS2.out.a 1 _ rfl
    have a2 := cellOf HS2.out.a 2 _ rfl
    have hfit := Fits_any ⟨iv, pts, notes⟩ (.slice pa pts.length pc) (.slice na notes.length nc) w2 HS2.out.s
    rw [errS_zero HV.out, fitsS_of HV.out, wid_zero HW.out] at hfit
    have hrb : decide (r = 0) = ((r : Int) == 0) := by by_cases e : r = 0 <;> simp [e]
    rw [hrb] at hfit
    have HC := Lib.hid hfit
    clear hfit hrb
    simp only [show ((0 : Int) == 0) = true from rfl]
    go_wp2_with fail
    refine HC.out.mono ?_
    rintro e w3 ⟨rfl, hb⟩
    have HS3 := Lib.hid (HS2.out.up hb)
    clear hb HC HS2 a0 a1 a2
    have n9 : decide ((9000 : Int) < (r : Int)) = false := by simp; omega
    have a0 := cellOf HS3.out.a 0 _ rfl
    have a1 := cellOf HS3.out.a 1 _ rfl
    have a2 := cellOf HS3.out.a 2 _ rfl
    have b0 := cellOf HS3.out.x 0 _ rfl
    have b1 := cellOf HS3.out.x 1 _ rfl
    go_upto_region 7 with fail
    obtain ⟨N, hN⟩ : ∃ N, Hid (N = toldL iv pts notes (truthS l1 pts.length) [] notes.length) := ⟨_, rfl⟩
    have HOK := Lib.hid (truth_ok2 l1 pts.length np8)
    have HTL := Lib.hid (truthS_len l1 pts.length)
    have HTE : Hid (toldS ⟨iv, pts, notes⟩ (truthS l1 pts.length) [] = ⟨iv, pts, N⟩) := by show _ = _; rw [hN.out]; rfl
    go_cut [11] from 65 to 70 (fun p wx => ∃ (bT : Nat) (sa : Option Addr) (sc : Nat), p = .pointer (some ⟨bT, 0, none⟩) ∧ Hid (WidC w w.heap.size (Obj.cells #[.int .i64 iv, .slice pa pts.length pc, .slice na notes.length nc] 25 (0, 0)) (Obj.cells #[.slice xa l1.length xc, .slice ya l2.length yc] 57 (0, 0)) iv (.slice pa pts.length pc) (.slice na notes.length nc) (.slice xa l1.length xc) (.slice ya l2.length yc) ⟨iv, pts, notes⟩ l1 l2 w3 bT sa sc N wx))
    case first =>
      have hA3 := lt_of_block HS3.out.a
      have hX3 := lt_of_block HS3.out.x
      go_region_held3 (fun W' => W'.cell? ⟨w.heap.size, 0, none⟩ = some (.int .i64 iv) ∧ W'.cell? ⟨w.heap.size, 1, none⟩ = some (.slice pa pts.length pc) ∧ W'.cell? ⟨w.heap.size, 2, none⟩ = some (.slice na notes.length nc) ∧ W'.cell? ⟨w.heap.size + 1, 0, none⟩ = some (.slice xa l1.length xc) ∧ W'.cell? ⟨w.heap.size + 1, 1, none⟩ = some (.slice ya l2.length yc) ∧ W'.cell? ⟨w.heap.size + 1, 1, none⟩ = some (.slice ya l2.length yc) ∧ Hid (Below w3.heap.size w3 W'))
        (first | exact ⟨a0, a1, a2, b0, b1, b1, (Below.refl _ _).drew⟩ | (refine keep6ad ?_ _; assumption) | exact keep6w ⟨a0, a1, a2, b0, b1, b1, Below.refl _ _⟩ hB5 | exact keep6w ⟨a0, a1, a2, b0, b1, b1, Below.refl _ _⟩ hB4 | exact keep6w ⟨a0, a1, a2, b0, b1, b1, Below.refl _ _⟩ (hB5.alloc hB5.size _) | exact keep6w ⟨a0, a1, a2, b0, b1, b1, Below.refl _ _⟩ (hB4.alloc hB4.size _) | exact keep6w ⟨a0, a1, a2, b0, b1, b1, Below.refl _ _⟩ (((hB5.setCell (Nat.le_refl _) _).setCell (Nat.le_refl _) _).setCell (Nat.le_refl _) _) | exact keep6w ⟨a0, a1, a2, b0, b1, b1, Below.refl _ _⟩ (((hB5.setCell hs4 _).setCell hs4 _).setCell hs4 _))
        (first
          | (go_at_call 42; refine (truth_from HS3.out np8 (by go_grown)).mono ?_; rintro e w4 ⟨hvl, rfl, hH, hb⟩; have hB4 := below_then (B := w3.heap.size) (a := w3) (by go_grown) hb (by simp); have hs4 := hB4.size; have z1 := (hb.block w3.heap.size (by simp)).trans (heap_alloc_new w3 (Obj.cells #[.int .i64 0, .slice none 0 0, .slice none 0 0] 25)))
          | (go_at_call 42; refine (truth_from HS3.out np8 (by go_grown)).mono ?_; rintro e w4 ⟨hvl, rfl, hH, hb⟩; have hB4 := below_then (B := w3.heap.size) (a := w3) (by go_grown) hb (by simp); have hs4 := hB4.size)
          | (go_at_call 43; refine (told_from HS3.out hcap HV.out hH (Below.trans hB4 (by go_grown)) (by go_grown)).mono ?_; rintro e w5 ⟨nt, rfl, hown, hb5⟩; have hB5 := below_then (B := w3.heap.size) (a := w3) (Below.trans hB4 (by go_grown)) hb5 (Nat.le_trans hs4 (by simp)); rw [HTE.out] at hown; simp only at hown; obtain ⟨sa, sc, rfl⟩ := own_slice hown; have z2 := (hb5.block w4.heap.size (by simp)).trans (heap_alloc_new w4 (Obj.cells #[.int .i64 0, .slice none 0 0, .slice none 0 0] 25)); have q0 := cellOf z2 0 _ rfl; have q1 := cellOf z2 1 _ rfl; have q2 := cellOf z2 2 _ rfl; have qf0 := frozen_of_row _ _ 0 _ _ z2; have qf1 := frozen_of_row _ _ 1 _ _ z2; have qf2 := frozen_of_row _ _ 2 _ _ z2)
          | (go_at_call 43; refine (told_from HS3.out hcap HV.out hH (Below.trans hB4 (by go_grown)) (by go_grown)).mono ?_; rintro e w5 ⟨nt, rfl, hown, hb5⟩; have hB5 := below_then (B := w3.heap.size) (a := w3) (Below.trans hB4 (by go_grown)) hb5 (Nat.le_trans hs4 (by simp)); rw [HTE.out] at hown; simp only at hown; obtain ⟨sa, sc, rfl⟩ := own_slice hown; have z2 := (hb5.block w3.heap.size (lt_of_block z1)).trans z1; have q0 := cellOf z2 0 _ rfl; have q1 := cellOf z2 1 _ rfl; have q2 := cellOf z2 2 _ rfl; have qf0 := frozen_of_row _ _ 0 _ _ z2; have qf1 := frozen_of_row _ _ 1 _ _ z2; have qf2 := frozen_of_row _ _ 2 _ _ z2)
          | (go_at_call 43; refine (told_from HS3.out hcap HV.out hH (Below.trans hB4 (by go_grown)) (by go_grown)).mono ?_; rintro e w5 ⟨nt, rfl, hown, hb5⟩; have hB5 := below_then (B := w3.heap.size) (a := w3) (Below.trans hB4 (by go_grown)) hb5 (Nat.le_trans hs4 (by simp)); rw [HTE.out] at hown; simp only at hown; obtain ⟨sa, sc, rfl⟩ := own_slice hown))
      all_goals
        go_wp2_with fail
        go_meet
        case rel =>
          first
            | exact ⟨w5.heap.size, sa, sc, rfl, widC_new HS3.out hB5 hown hs4⟩
            | exact ⟨w4.heap.size, sa, sc, rfl, widC_put HS3.out hB5 z2 hs4 (by simp) hown⟩
            | exact ⟨w3.heap.size, sa, sc, rfl, widC_put HS3.out hB5 z2 (Nat.le_refl _) (lt_of_block z1) hown⟩
    case rest =>
      obtain ⟨bT, sa, sc, rfl, HC4⟩ := hcut
      have hTV := told_valid HV.out (truthS l1 pts.length) []
      have hTV2 : ValidS ⟨iv, pts, N⟩ := by have := hTV; rw [show (⟨iv, pts, toldL iv pts notes (truthS l1 pts.length) [] notes.length⟩ : Sheet) = ⟨iv, pts, N⟩ from HTE.out] at this; exact this
      have n12 : N.length ≤ 12 := hTV2.nn
      have n12I : (N.length : Int) ≤ 12 := by omega
      have HTV := Lib.hid hTV2
      have o2 := cellOf HC4.out.o 2 _ rfl
      have hb0 : 0 ≤ (less : Int) % 40 := by omega
      have hb9 : (less : Int) % 40 ≤ 39 := by omega
      clear hTV hTV2 a0 a1 a2 b0 b1
      go_upto_region 9 with fail
      obtain ⟨bn, hbn⟩ : ∃ bn : Nat, (less : Int) % 40 = (bn : Int) := ⟨((less : Int) % 40).toNat, by omega⟩
      rw [hbn] at hb0 hb9
      simp only [hbn]
      have bn9 : bn ≤ 39 := by omega
      clear hbn
      obtain ⟨f, hf⟩ : ∃ f : Nat → Int, Hid (f = fun i => ((turnS l2 i % (2 * bn + 1) : Nat) : Int) - (bn : Int)) := ⟨_, rfl⟩
      have hown0 : wc.ownsRow w3.heap.size 67 5 (.slice sa N.length sc) N.length (notesC (moveL N f 0)) := by rw [moveL_zero]; exact HC4.out.own
      have HL0 := Lib.hid (And.intro HC4.out.o HC4.out.Bw)
      have hbT := HC4.out.b
      have hneT := HC4.out.ne
      clear HC4
      go_wp2_with fail
      go_loopw [13] (fun kv wr => ∃ k : Nat, k ≤ N.length ∧ kv = .int .i64 k ∧ wr.ownsRow w3.heap.size 67 5 (.slice sa N.length sc) N.length (notesC (moveL N f k)) ∧ Hid (wr.heap[bT]? = some (.cells #[.int .i64 iv, .slice pa pts.length pc, .slice sa N.length sc] 25 (0, 0)) ∧ Below w3.heap.size w3 wr)) (fun kv _ => N.length - (intOf kv).toNat)
      case atStart => exact ⟨0, Nat.zero_le _, rfl, hown0, HL0.out⟩
      case round =>
        obtain ⟨k, hk, rfl, hown, HL⟩ := hrel
        by_cases hlt : k < N.length
        · obtain ⟨gr, rfl, hgr⟩ := own_ptr hown (by omega)
          obtain ⟨r0, r3, r4, f3, f4⟩ := move_cells hown hlt
          have o2 := cellOf HL.out.1 2 _ rfl
          have HA := Lib.hid (HS3.out.up HL.out.2)
          have b1 := cellOf HA.out.x 1 _ rfl
          have hxk := HTV.out.ok N[k] (List.getElem_mem hlt)
          have hxe := (err_parts (HTV.out.err0 N[k] (List.getElem_mem hlt))).2.2.2.1
          have kl : (k : Int) < (N.length : Int) := by omega
          have hMS : ∀ (w' : World) (lo hi : Int), w'.ownsRow w3.heap.size 67 5 (.slice (some ⟨gr, 0, none⟩) N.length sc) N.length (notesC (moveL N f k)) → moveN (f k) N[k] = { N[k] with lo := lo, hi := hi } → ((w'.setCell ⟨gr, k * 5 + 3, none⟩ (.int .i64 lo)).setCell ⟨gr, k * 5 + 4, none⟩ (.int .i64 hi)).ownsRow w3.heap.size 67 5 (.slice (some ⟨gr, 0, none⟩) N.length sc) N.length (notesC (moveL N f (k + 1))) := fun _ _ _ h e => move_store h hlt e
          have HMS := Lib.hid hMS
          have HSM := Lib.hid (moveL_same N f k hlt)
          clear hMS
          generalize N[k] = x at *
          obtain ⟨kd, a, b', lo, hi⟩ := x
          simp only at r0 r3 r4
          have HTU := Lib.hid (turn_any (.slice ya l2.length yc) l2 k wr HA.out.u2 (by omega))
          have hz9 := turnS_le HA.out.u2 k
          have HFK : Hid (f k = ((turnS l2 k % (2 * bn + 1) : Nat) : Int) - (bn : Int)) := by show _ = _; rw [hf.out]
          generalize turnS l2 k = z at *
          rcases hxk.kind with e | e | e | e
          · simp only at e
            subst e
            have hbd : (0 ≤ lo ∧ lo ≤ 9000) ∧ 0 ≤ hi ∧ hi ≤ 9000 := by
              simp [withinB, endLo, endHi] at hxe
              omega
            obtain ⟨⟨lo0, lo9⟩, hi0, hi9⟩ := hbd
            obtain ⟨D, hD⟩ : ∃ D : Nat, Hid (z % (2 * bn + 1) = D) := ⟨_, rfl⟩
            have hDl : z % (2 * bn + 1) < 2 * bn + 1 := Nat.mod_lt _ (by omega)
            have et : ((z : Int)).tmod (2 * (bn : Int) + 1) = (D : Int) := by
              have := mod_nat z (2 * bn + 1)
              rw [hD.out] at this
              rw [← this]
              norm_cast
            rw [hD.out] at hDl
            have D9 : (D : Int) ≤ 78 := by omega
            have D0 : 0 ≤ (D : Int) := by omega
            have HMV : Hid (moveN (f k) ⟨1, a, b', lo, hi⟩ = { (⟨1, a, b', lo, hi⟩ : Note) with lo := (max 0 (min 9000 (lo + ((D : Int) - (bn : Int))))), hi := (max 0 (min 9000 (hi + ((D : Int) - (bn : Int))))) }) := by
              show _ = _
              unfold moveN
              rw [HFK.out, hD.out]
              rfl
            have zI : (z : Int) ≤ 65535 := by omega
            have m0 : 0 ≤ 2 * (bn : Int) := by omega
            have m1 : 2 * (bn : Int) ≤ 78 := by omega
            have nz : ¬ (2 * (bn : Int) + 1 = 0) := by omega
            have nm : ¬ (2 * (bn : Int) + 1 = -1) := by omega
            have nzb : (2 * (bn : Int) + 1 == 0) = false := by rw [beq_eq_false_iff_ne]; omega
            clear hxe hDl
            go_wp2_with fail
            refine HTU.out.mono ?_
            rintro e w' ⟨rfl, rfl⟩
            go_upto_region 18 with fail
            have hB1 : Below wr.heap.size wr (wr.alloc (Obj.cells #[.int .i64 lo, .int .i64 hi] 40)) := (Below.refl _ _).alloc (Nat.le_refl _) _
            have hown1 := own_below hown hB1
            have HAT := Lib.hid (heap_alloc_new wr (Obj.cells #[.int .i64 lo, .int .i64 hi] 40))
            have hgl := World.block_lt_of_cell? wr _ r3
            simp only at hgl
            have r31 := (hB1.cell (p := ⟨gr, k * 5 + 3, none⟩) hgl).trans r3
            have r41 := (hB1.cell (p := ⟨gr, k * 5 + 4, none⟩) hgl).trans r4
            have HL1 := Lib.hid (And.intro ((hB1.block _ (lt_of_block HL.out.1)).trans HL.out.1) (HL.out.2.trans (hB1.mono HL.out.2.size)))
            have hgs : gr < (wr.alloc (Obj.cells #[.int .i64 lo, .int .i64 hi] 40)).heap.size := Nat.lt_of_lt_of_le hgl hB1.size
            have hgA0 : gr ≠ wr.heap.size := by omega
            clear hown hB1 r0 r3 r4 f3 f4 o2 b1 HA HTU HSM HL hgl
            generalize wr.alloc (Obj.cells #[.int .i64 lo, .int .i64 hi] 40) = w7 at *
            generalize wr.heap.size = bA at *
            have o2 := cellOf HL1.out.1 2 _ rfl
            have t0 := cellOf HAT.out 0 _ rfl
            have t1 := cellOf HAT.out 1 _ rfl
            have hgT : bT ≠ gr := fun e => hneT (by rw [e]; rfl)
            have hgA : bA ≠ gr := fun e => hgA0 e.symm
            have ltT := lt_of_block HL1.out.1
            have ltA := lt_of_block HAT.out
            go_region_held3 (fun W' => W'.cell? ⟨bT, 2, none⟩ = some (.slice (some ⟨gr, 0, none⟩) N.length sc) ∧ W'.cell? ⟨bA, 0, none⟩ = some (.int .i64 lo) ∧ W'.cell? ⟨bA, 1, none⟩ = some (.int .i64 hi))
              (first | exact ⟨o2, t0, t1⟩ | exact ⟨p1, p2, p3⟩ | exact ⟨set_cell_other _ ⟨gr, k * 5 + 3 + 1, none⟩ _ hgT (set_cell_other _ ⟨gr, k * 5 + 3, none⟩ _ hgT p1), set_cell_other _ ⟨gr, k * 5 + 3 + 1, none⟩ _ hgA (set_cell_other _ ⟨gr, k * 5 + 3, none⟩ _ hgA p2), set_cell_other _ ⟨gr, k * 5 + 3 + 1, none⟩ _ hgA (set_cell_other _ ⟨gr, k * 5 + 3, none⟩ _ hgA p3)⟩)
              (first
                | (go_at_call 52; refine (lspan_any _ _ _).mono ?_; rintro e w9 ⟨rfl, hb⟩; have hbb := below_then (B := w7.heap.size) (a := w7) (by go_grown) hb (by simp); have p1 := (hbb.cell (p := ⟨bT, 2, none⟩) ltT).trans o2; have p2 := (hbb.cell (p := ⟨bA, 0, none⟩) ltA).trans t0; have p3 := (hbb.cell (p := ⟨bA, 1, none⟩) ltA).trans t1; have hown3 := own_below hown1 hbb; have r33 := (hbb.cell (p := ⟨gr, k * 5 + 3, none⟩) hgs).trans r31; have r43 := (hbb.cell (p := ⟨gr, k * 5 + 3 + 1, none⟩) hgs).trans r41; have f3 := hown3.frozenAt (k * 5 + 3); have f4 := hown3.frozenAt (k * 5 + 3 + 1)))
            all_goals
              have HL3 := Lib.hid (And.intro ((hbb.block _ (lt_of_block HL1.out.1)).trans HL1.out.1) (HL1.out.2.trans (hbb.mono HL1.out.2.size)))
              have HO4 : Hid (((w9.setCell ⟨gr, k * 5 + 3, none⟩ (.int .i64 (max 0 (min 9000 (lo + ((D : Int) - (bn : Int))))))).setCell ⟨gr, k * 5 + 3 + 1, none⟩ (.int .i64 (max 0 (min 9000 (hi + ((D : Int) - (bn : Int))))))).ownsRow w3.heap.size 67 5 (.slice (some ⟨gr, 0, none⟩) N.length sc) N.length (notesC (moveL N f (k + 1)))) := HMS.out w9 (max 0 (min 9000 (lo + ((D : Int) - (bn : Int))))) (max 0 (min 9000 (hi + ((D : Int) - (bn : Int))))) hown3 HMV.out
              have HL4 := Lib.hid (And.intro ((heap_setCell_other (w9.setCell ⟨gr, k * 5 + 3, none⟩ (.int .i64 (max 0 (min 9000 (lo + ((D : Int) - (bn : Int))))))) ⟨gr, k * 5 + 3 + 1, none⟩ bT (.int .i64 (max 0 (min 9000 (hi + ((D : Int) - (bn : Int)))))) (by simpa using hgT)).trans ((heap_setCell_other w9 ⟨gr, k * 5 + 3, none⟩ bT (.int .i64 (max 0 (min 9000 (lo + ((D : Int) - (bn : Int)))))) (by simpa using hgT)).trans HL3.out.1)) ((HL3.out.2.setCell (p := ⟨gr, k * 5 + 3, none⟩) hgr (.int .i64 (max 0 (min 9000 (lo + ((D : Int) - (bn : Int))))))).setCell (p := ⟨gr, k * 5 + 3 + 1, none⟩) hgr (.int .i64 (max 0 (min 9000 (hi + ((D : Int) - (bn : Int))))))))
              clear hb hbb hown1 r31 r41 HL1 hown3 HL3 HMS HMV hgs o2 t0 t1 p1 p2 p3 HAT
              go_upto_region 11 with fail
              go_wp2
              go_roundw
              case rel => exact ⟨k + 1, by omega, by go_num, HO4.out, HL4.out⟩
              case measure => simp [intOf]; omega
          · simp only at e
            subst e
            have HS := Lib.hid (HSM.out rfl)
            clear HSM HMS r3 r4 f3 f4 HTU b1
            go_wp2
            go_roundw
            case rel => exact ⟨k + 1, by omega, by go_num, by rw [HS.out]; exact hown, HL.out⟩
            case measure => simp [intOf]; omega
          · simp only at e
            subst e
            have HS := Lib.hid (HSM.out rfl)
            clear HSM HMS r3 r4 f3 f4 HTU b1
            go_wp2
            go_roundw
            case rel => exact ⟨k + 1, by omega, by go_num, by rw [HS.out]; exact hown, HL.out⟩
            case measure => simp [intOf]; omega
          · simp only at e
            subst e
            have hbd : (-9000 ≤ lo ∧ lo ≤ 9000) ∧ -9000 ≤ hi ∧ hi ≤ 9000 := by
              simp [withinB, endLo, endHi] at hxe
              omega
            obtain ⟨⟨lo0, lo9⟩, hi0, hi9⟩ := hbd
            obtain ⟨D, hD⟩ : ∃ D : Nat, Hid (z % (2 * bn + 1) = D) := ⟨_, rfl⟩
            have hDl : z % (2 * bn + 1) < 2 * bn + 1 := Nat.mod_lt _ (by omega)
            have et : ((z : Int)).tmod (2 * (bn : Int) + 1) = (D : Int) := by
              have := mod_nat z (2 * bn + 1)
              rw [hD.out] at this
              rw [← this]
              norm_cast
            rw [hD.out] at hDl
            have D9 : (D : Int) ≤ 78 := by omega
            have D0 : 0 ≤ (D : Int) := by omega
            have HMV : Hid (moveN (f k) ⟨4, a, b', lo, hi⟩ = { (⟨4, a, b', lo, hi⟩ : Note) with lo := (max (-9000) (min 9000 (lo + ((D : Int) - (bn : Int))))), hi := (max (-9000) (min 9000 (hi + ((D : Int) - (bn : Int))))) }) := by
              show _ = _
              unfold moveN
              rw [HFK.out, hD.out]
              rfl
            have zI : (z : Int) ≤ 65535 := by omega
            have m0 : 0 ≤ 2 * (bn : Int) := by omega
            have m1 : 2 * (bn : Int) ≤ 78 := by omega
            have nz : ¬ (2 * (bn : Int) + 1 = 0) := by omega
            have nm : ¬ (2 * (bn : Int) + 1 = -1) := by omega
            have nzb : (2 * (bn : Int) + 1 == 0) = false := by rw [beq_eq_false_iff_ne]; omega
            clear hxe hDl
            go_wp2_with fail
            refine HTU.out.mono ?_
            rintro e w' ⟨rfl, rfl⟩
            go_upto_region 18 with fail
            have hB1 : Below wr.heap.size wr (wr.alloc (Obj.cells #[.int .i64 lo, .int .i64 hi] 40)) := (Below.refl _ _).alloc (Nat.le_refl _) _
            have hown1 := own_below hown hB1
            have HAT := Lib.hid (heap_alloc_new wr (Obj.cells #[.int .i64 lo, .int .i64 hi] 40))
            have hgl := World.block_lt_of_cell? wr _ r3
            simp only at hgl
            have r31 := (hB1.cell (p := ⟨gr, k * 5 + 3, none⟩) hgl).trans r3
            have r41 := (hB1.cell (p := ⟨gr, k * 5 + 4, none⟩) hgl).trans r4
            have HL1 := Lib.hid (And.intro ((hB1.block _ (lt_of_block HL.out.1)).trans HL.out.1) (HL.out.2.trans (hB1.mono HL.out.2.size)))
            have hgs : gr < (wr.alloc (Obj.cells #[.int .i64 lo, .int .i64 hi] 40)).heap.size := Nat.lt_of_lt_of_le hgl hB1.size
            have hgA0 : gr ≠ wr.heap.size := by omega
            clear hown hB1 r0 r3 r4 f3 f4 o2 b1 HA HTU HSM HL hgl
            generalize wr.alloc (Obj.cells #[.int .i64 lo, .int .i64 hi] 40) = w7 at *
            generalize wr.heap.size = bA at *
            have o2 := cellOf HL1.out.1 2 _ rfl
            have t0 := cellOf HAT.out 0 _ rfl
            have t1 := cellOf HAT.out 1 _ rfl
            have hgT : bT ≠ gr := fun e => hneT (by rw [e]; rfl)
            have hgA : bA ≠ gr := fun e => hgA0 e.symm
            have ltT := lt_of_block HL1.out.1
            have ltA := lt_of_block HAT.out
            go_region_held3 (fun W' => W'.cell? ⟨bT, 2, none⟩ = some (.slice (some ⟨gr, 0, none⟩) N.length sc) ∧ W'.cell? ⟨bA, 0, none⟩ = some (.int .i64 lo) ∧ W'.cell? ⟨bA, 1, none⟩ = some (.int .i64 hi))
              (first | exact ⟨o2, t0, t1⟩ | exact ⟨p1, p2, p3⟩ | exact ⟨set_cell_other _ ⟨gr, k * 5 + 3 + 1, none⟩ _ hgT (set_cell_other _ ⟨gr, k * 5 + 3, none⟩ _ hgT p1), set_cell_other _ ⟨gr, k * 5 + 3 + 1, none⟩ _ hgA (set_cell_other _ ⟨gr, k * 5 + 3, none⟩ _ hgA p2), set_cell_other _ ⟨gr, k * 5 + 3 + 1, none⟩ _ hgA (set_cell_other _ ⟨gr, k * 5 + 3, none⟩ _ hgA p3)⟩)
              (first
                | (go_at_call 52; refine (lspan_any _ _ _).mono ?_; rintro e w9 ⟨rfl, hb⟩; have hbb := below_then (B := w7.heap.size) (a := w7) (by go_grown) hb (by simp); have p1 := (hbb.cell (p := ⟨bT, 2, none⟩) ltT).trans o2; have p2 := (hbb.cell (p := ⟨bA, 0, none⟩) ltA).trans t0; have p3 := (hbb.cell (p := ⟨bA, 1, none⟩) ltA).trans t1; have hown3 := own_below hown1 hbb; have r33 := (hbb.cell (p := ⟨gr, k * 5 + 3, none⟩) hgs).trans r31; have r43 := (hbb.cell (p := ⟨gr, k * 5 + 3 + 1, none⟩) hgs).trans r41; have f3 := hown3.frozenAt (k * 5 + 3); have f4 := hown3.frozenAt (k * 5 + 3 + 1)))
            all_goals
              have HL3 := Lib.hid (And.intro ((hbb.block _ (lt_of_block HL1.out.1)).trans HL1.out.1) (HL1.out.2.trans (hbb.mono HL1.out.2.size)))
              have HO4 : Hid (((w9.setCell ⟨gr, k * 5 + 3, none⟩ (.int .i64 (max (-9000) (min 9000 (lo + ((D : Int) - (bn : Int))))))).setCell ⟨gr, k * 5 + 3 + 1, none⟩ (.int .i64 (max (-9000) (min 9000 (hi + ((D : Int) - (bn : Int))))))).ownsRow w3.heap.size 67 5 (.slice (some ⟨gr, 0, none⟩) N.length sc) N.length (notesC (moveL N f (k + 1)))) := HMS.out w9 (max (-9000) (min 9000 (lo + ((D : Int) - (bn : Int))))) (max (-9000) (min 9000 (hi + ((D : Int) - (bn : Int))))) hown3 HMV.out
              have HL4 := Lib.hid (And.intro ((heap_setCell_other (w9.setCell ⟨gr, k * 5 + 3, none⟩ (.int .i64 (max (-9000) (min 9000 (lo + ((D : Int) - (bn : Int))))))) ⟨gr, k * 5 + 3 + 1, none⟩ bT (.int .i64 (max (-9000) (min 9000 (hi + ((D : Int) - (bn : Int)))))) (by simpa using hgT)).trans ((heap_setCell_other w9 ⟨gr, k * 5 + 3, none⟩ bT (.int .i64 (max (-9000) (min 9000 (lo + ((D : Int) - (bn : Int)))))) (by simpa using hgT)).trans HL3.out.1)) ((HL3.out.2.setCell (p := ⟨gr, k * 5 + 3, none⟩) hgr (.int .i64 (max (-9000) (min 9000 (lo + ((D : Int) - (bn : Int))))))).setCell (p := ⟨gr, k * 5 + 3 + 1, none⟩) hgr (.int .i64 (max (-9000) (min 9000 (hi + ((D : Int) - (bn : Int))))))))
              clear hb hbb hown1 r31 r41 HL1 hown3 HL3 HMS HMV hgs o2 t0 t1 p1 p2 p3 HAT
              go_upto_region 11 with fail
              go_wp2
              go_roundw
              case rel => exact ⟨k + 1, by omega, by go_num, HO4.out, HL4.out⟩
              case measure => simp [intOf]; omega
        · have hkn : k = N.length := by omega
          subst hkn
          have hfb : ∀ i, -(bn : Int) ≤ f i ∧ f i ≤ (bn : Int) := fun i => by
            rw [hf.out]
            have := Nat.mod_lt (turnS l2 i) (show 0 < 2 * bn + 1 by omega)
            simp only
            omega
          have hmv := moved_fit HV.out HOK.out [] (by' := bn) (by omega) f hfb
          rw [HTE.out] at hmv
          simp only at hmv
          obtain ⟨hMv, hMf⟩ := hmv
          have HA := Lib.hid (HS3.out.up HL.out.2)
          have hown' : wr.ownsRow w3.heap.size 67 5 (.slice sa N.length sc) (moveL N f N.length).length (notesC (moveL N f N.length)) := by rw [moveL_len]; exact hown
          have hNT := notesAt_own hown' (by rw [moveL_len]; omega)
          have hWT : SheetAt wr.heap.size wr (.slice pa pts.length pc) (.slice sa N.length sc) ⟨iv, pts, moveL N f N.length⟩ := ⟨HA.out.s.pts, hNT, HA.out.s.sz⟩
          have hwd := Wider_any ⟨iv, pts, moveL N f N.length⟩ (.slice pa pts.length pc) (.slice sa N.length sc) wr hWT
          rw [errS_zero hMv] at hwd
          have HWD := Lib.hid hwd
          have HMV := Lib.hid hMv
          have HMF := Lib.hid hMf
          have o0 := cellOf HL.out.1 0 _ rfl
          have o1 := cellOf HL.out.1 1 _ rfl
          have o2 := cellOf HL.out.1 2 _ rfl
          clear hMv hMf hown' hNT hWT hwd hfb
          go_wp2_with fail
          refine HWD.out.mono ?_
          rintro e w5 ⟨m, rfl, hmp, hb⟩
          have hmle : m ≤ bn := wid_le (s := ⟨iv, pts, moveL N f N.length⟩) (by unfold WidPost at hmp; rw [if_pos (errS_zero HMV.out)] at hmp; exact hmp) HMF.out
          have HA5 := Lib.hid (HA.out.up hb)
          have dm : decide ((bn : Int) < (m : Int)) = false := by simp; omega
          clear hb HA HWD hmp o0 o1 o2
          clear hlt hk hown hown0 hneT hbT hf hN HOK HTL n12 n12I HMV HMF
          by_cases hr0 : r = 0
          · have t0 : ((r : Int) == 0) = true := by simp [hr0]
            clear hr0
            go_wp2_with fail
            refine (awake_any _ HA5.out.T).mono ?_
            rintro e wA ⟨rfl, hb⟩
            have HBA := Lib.hid (HA5.out.B.trans (hb.mono HA5.out.B.size))
            clear hb
            go_wp2
            go_ret
            exact ⟨rfl, HBA.out⟩
          · have t0 : ((r : Int) == 0) = false := by simp [hr0]
            have rp : (1 : Int) ≤ (r : Int) := by omega
            have HR0 := Lib.hid hr0
            clear hr0
            have a0 := cellOf HA5.out.a 0 _ rfl
            have a1 := cellOf HA5.out.a 1 _ rfl
            have a2 := cellOf HA5.out.a 2 _ rfl
            go_wp2_with fail
            refine (loose_from HA5.out (Below.refl _ _) HV.out r9).mono ?_
            rintro e w6 ⟨nv6, rfl, hown6, hb⟩
            have HA6 := Lib.hid (HA5.out.up hb)
            have HFT := Lib.hid (fits_good HV.out HA6.out r9 hown6 (wid_ends iv pts notes r less HV.out HW.out HR0.out).2.1.out)
            clear hb HA5 a0 a1 a2 hown6
            go_wp2_with fail
            refine HFT.out.mono ?_
            rintro e w7 ⟨rfl, hb⟩
            have HA7 := Lib.hid (HA6.out.up hb)
            clear hb HA6 HFT
            have a0 := cellOf HA7.out.a 0 _ rfl
            have a1 := cellOf HA7.out.a 1 _ rfl
            have a2 := cellOf HA7.out.a 2 _ rfl
            obtain ⟨HBAD, _, hm9, HET⟩ := wid_ends iv pts notes r less HV.out HW.out HR0.out
            have hml : less % r < r := Nat.mod_lt _ (by omega)
            have et := HET.out
            have hrn : ¬ r = 0 := HR0.out
            have hwl : IntKind.i64.wrap (less : Int) = (less : Int) := by rw [IntKind.wrap_i64]; omega
            clear HET HR0
            generalize less % r = lr at *
            go_wp2_with fail
            have hs7 := lt_of_block HA7.out.a
            go_region_held3 (fun W' => W'.cell? ⟨w.heap.size, 0, none⟩ = some (.int .i64 iv) ∧ W'.cell? ⟨w.heap.size, 1, none⟩ = some (.slice pa pts.length pc) ∧ W'.cell? ⟨w.heap.size, 2, none⟩ = some (.slice na notes.length nc))
              (first | exact ⟨a0, a1, a2⟩ | exact ⟨c0, c1, c2⟩ | exact ⟨d0, d1, d2⟩)
              (first
                | (go_at_call 53; refine (loose_from HA7.out (by go_grown) HV.out hm9).mono ?_; rintro e w8 ⟨nv8, rfl, hown8, hb8⟩; have hB8 := below_then (B := w7.heap.size) (a := w7) (by go_grown) hb8 (by simp); have hA8 := HA7.out.up hB8; have c0 := (hB8.cell (p := ⟨w.heap.size, 0, none⟩) hs7).trans a0; have c1 := (hB8.cell (p := ⟨w.heap.size, 1, none⟩) hs7).trans a1; have c2 := (hB8.cell (p := ⟨w.heap.size, 2, none⟩) hs7).trans a2)
                | (go_at_call 20; refine (fits_from HV.out hA8 hm9 hown8 HBAD.out).mono ?_; rintro e w9 ⟨rfl, hb9⟩; have hA9 := hA8.up hb9; have hB9 := hB8.trans (hb9.mono hB8.size); have d0 := (hB9.cell (p := ⟨w.heap.size, 0, none⟩) hs7).trans a0; have d1 := (hB9.cell (p := ⟨w.heap.size, 1, none⟩) hs7).trans a1; have d2 := (hB9.cell (p := ⟨w.heap.size, 2, none⟩) hs7).trans a2))
            all_goals
              have HT9 := Lib.hid hA9.T
              have HB9 := Lib.hid hA9.B
              clear hown8 hb8 hA8 hA9 hb9 hB8 hB9 a0 a1 a2 c0 c1 c2 d0 d1 d2
              go_wp2_with fail
              refine (awake_any _ HT9.out).mono ?_
              rintro e wA ⟨rfl, hb⟩
              have HBA := Lib.hid (HB9.out.trans (hb.mono HB9.out.size))
              clear hb
              go_wp2
              go_ret
              exact ⟨rfl, HBA.out⟩
  · have tv : (errS ⟨iv, pts, notes⟩ == 0) = false := by simp [hv]
    have tn : (errS ⟨iv, pts, notes⟩ != 0) = true := by simp [hv]
    have hr0 : r = 0 := by unfold WidPost at hwp; rw [if_neg hv] at hwp; exact hwp
    subst hr0
    have hvl := valid_any ⟨iv, pts, notes⟩ (.slice pa pts.length pc) (.slice na notes.length nc) w1 HS1.out.s hcap
    rw [tv] at hvl
    have HVL := Lib.hid hvl
    clear hvl hwp tv hv
    generalize errS ⟨iv, pts, notes⟩ = r at *
    go_wp2_with fail
    refine HVL.out.mono ?_
    rintro e w2 ⟨rfl, hb⟩
    have HS2 := Lib.hid (HS1.out.up hb)
    clear hb HVL HS1 a0 a1 a2
    go_wp2_with fail
    refine (awake_any _ HS2.out.T).mono ?_
    rintro e wA ⟨rfl, hb⟩
    have HBA := Lib.hid (HS2.out.B.trans (hb.mono HS2.out.B.size))
    clear hb
    go_wp2
    go_ret
    exact ⟨rfl, HBA.out⟩
end Go.Proofs.YtpmnnomeaaaenaaGreatDoor
