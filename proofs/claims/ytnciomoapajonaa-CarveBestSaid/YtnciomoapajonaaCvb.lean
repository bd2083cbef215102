/- Package carve: how lists lie in memory; within, pointFault. -/
import Derived.WalkKit
import Derived.WalkSpells
import Derived.WalkLawsBesides
import Derived.Lib.Hide
import Derived.OneCell
import Derived.Laws.Rows
import Derived.Handy
import Derived.Test.YtnciomoapajonaaProg
import Derived.Test.YtnciomoapajonaaChecked
import Derived.Test.YtnciomoapajonaaCvd
set_option linter.unusedSimpArgs false
set_option linter.unusedVariables false
namespace Go.Proofs.Ytnciomoapajonaa
open Go Go.RowKit Cv

theorem cellOf {w : World} {b : Nat} {C : Array Value} {t : TypeId} {fr : Nat × Nat} (h : w.heap[b]? = some (.cells C t fr)) (i : Nat) (v : Value) (hv : C[i]? = some v) : w.cell? ⟨b, i, none⟩ = some v := by
  unfold World.cell?
  rw [h]
  exact hv
/-- A value reads as a list of integers. -/
def IntsAt (w : World) (v : Value) (l : List Int) : Prop :=
  l.length ≤ 4611686018427387904 ∧ ∃ a cap, v = .slice a l.length cap ∧ l.length ≤ cap ∧ (l ≠ [] → ∃ b o, a = some ⟨b, o, none⟩ ∧ ∀ k (h : k < l.length), w.cell? ⟨b, o + k, none⟩ = some (.int .i64 l[k]))
theorem IntsAt.below {w w' : World} {v : Value} {l : List Int} (h : IntsAt w v l) (hb : Below w.heap.size w w') : IntsAt w' v l := by
  obtain ⟨h1, a, cap, rfl, hc, h2⟩ := h
  refine ⟨h1, a, cap, rfl, hc, fun hne => ?_⟩
  obtain ⟨b, o, rfl, hk⟩ := h2 hne
  exact ⟨b, o, rfl, fun k h => (hb.cell (p := ⟨b, o + k, none⟩) (World.block_lt_of_cell? w ⟨b, o + k, none⟩ (hk k h))).trans (hk k h)⟩
/-- A value reads as a list of points. -/
def PtsAt (w : World) (v : Value) (l : List Pt) : Prop :=
  l.length ≤ 4611686018427387904 ∧ ∃ a cap, v = .slice a l.length cap ∧ l.length ≤ cap ∧ (l ≠ [] → ∃ b o, a = some ⟨b, o, none⟩ ∧ ∀ k (h : k < l.length),
    w.cell? ⟨b, o + k * 3, none⟩ = some (.int .i64 l[k].bd) ∧ w.cell? ⟨b, o + k * 3 + 1, none⟩ = some (.int .i64 l[k].lo) ∧ w.cell? ⟨b, o + k * 3 + 2, none⟩ = some (.int .i64 l[k].hi))
theorem PtsAt.below {w w' : World} {v : Value} {l : List Pt} (h : PtsAt w v l) (hb : Below w.heap.size w w') : PtsAt w' v l := by
  obtain ⟨h1, a, cap, rfl, hc, h2⟩ := h
  refine ⟨h1, a, cap, rfl, hc, fun hne => ?_⟩
  obtain ⟨b, o, rfl, hk⟩ := h2 hne
  refine ⟨b, o, rfl, fun k h => ?_⟩
  obtain ⟨c0, c1, c2⟩ := hk k h
  have lt := World.block_lt_of_cell? w ⟨b, o + k * 3, none⟩ c0
  exact ⟨(hb.cell (p := ⟨b, o + k * 3, none⟩) lt).trans c0, (hb.cell (p := ⟨b, o + k * 3 + 1, none⟩) lt).trans c1, (hb.cell (p := ⟨b, o + k * 3 + 2, none⟩) lt).trans c2⟩
theorem PtsAt.get {w : World} {a : Option Addr} {n cap : Nat} {l : List Pt} (h : PtsAt w (.slice a n cap) l) {k : Nat} (hk : k < l.length) :
    ∃ b o, a = some ⟨b, o, none⟩ ∧ w.cell? ⟨b, o + k * 3, none⟩ = some (.int .i64 l[k].bd) ∧ w.cell? ⟨b, o + k * 3 + 1, none⟩ = some (.int .i64 l[k].lo) ∧ w.cell? ⟨b, o + k * 3 + 2, none⟩ = some (.int .i64 l[k].hi) := by
  obtain ⟨_, a', cap', e, _, h2⟩ := h
  simp only [Value.slice.injEq] at e
  obtain ⟨rfl, _, _⟩ := e
  obtain ⟨b, o, rfl, hc⟩ := h2 (by rintro rfl; simp at hk)
  exact ⟨b, o, rfl, hc k hk⟩
theorem IntsAt.get {w : World} {a : Option Addr} {n cap : Nat} {l : List Int} (h : IntsAt w (.slice a n cap) l) {k : Nat} (hk : k < l.length) :
    ∃ b o, a = some ⟨b, o, none⟩ ∧ w.cell? ⟨b, o + k, none⟩ = some (.int .i64 l[k]) := by
  obtain ⟨_, a', cap', e, _, h2⟩ := h
  simp only [Value.slice.injEq] at e
  obtain ⟨rfl, _, _⟩ := e
  obtain ⟨b, o, rfl, hc⟩ := h2 (by rintro rfl; simp at hk)
  exact ⟨b, o, rfl, hc k hk⟩
theorem ints1 (W : World) (n : Nat) (hn : n = W.heap.size) (x : Int) (t : TypeId) : IntsAt (W.alloc (.cells #[.int .i64 x] t)) (.slice (some ⟨n, 0, none⟩) 1 1) [x] := by
  subst hn
  refine ⟨by simp, some ⟨W.heap.size, 0, none⟩, 1, rfl, by simp, fun _ => ⟨W.heap.size, 0, rfl, fun k hk => ?_⟩⟩
  obtain rfl : k = 0 := by simpa using hk
  exact cellOf (heap_alloc_new W _) 0 _ rfl
theorem ints2 (W : World) (n : Nat) (hn : n = W.heap.size) (x y : Int) (t : TypeId) : IntsAt (W.alloc (.cells #[.int .i64 x, .int .i64 y] t)) (.slice (some ⟨n, 0, none⟩) 2 2) [x, y] := by
  subst hn
  refine ⟨by simp, some ⟨W.heap.size, 0, none⟩, 2, rfl, by simp, fun _ => ⟨W.heap.size, 0, rfl, fun k hk => ?_⟩⟩
  have h : k = 0 ∨ k = 1 := by simp at hk; omega
  rcases h with rfl | rfl
  · exact cellOf (heap_alloc_new W _) 0 _ rfl
  · exact cellOf (heap_alloc_new W _) 1 _ rfl
theorem ints3 (W : World) (n : Nat) (hn : n = W.heap.size) (x y z : Int) (t : TypeId) : IntsAt (W.alloc (.cells #[.int .i64 x, .int .i64 y, .int .i64 z] t)) (.slice (some ⟨n, 0, none⟩) 3 3) [x, y, z] := by
  subst hn
  refine ⟨by simp, some ⟨W.heap.size, 0, none⟩, 3, rfl, by simp, fun _ => ⟨W.heap.size, 0, rfl, fun k hk => ?_⟩⟩
  have h : k = 0 ∨ k = 1 ∨ k = 2 := by simp at hk; omega
  rcases h with rfl | rfl | rfl
  · exact cellOf (heap_alloc_new W _) 0 _ rfl
  · exact cellOf (heap_alloc_new W _) 1 _ rfl
  · exact cellOf (heap_alloc_new W _) 2 _ rfl
def allIn (lo hi : Int) (l : List Int) : Bool := l.all fun n => okIn lo hi n
theorem allIn_not (lo hi : Int) (l : List Int) (k : Nat) (h : k < l.length) (hb : l[k] < lo ∨ hi < l[k]) : allIn lo hi l = false := by
  unfold allIn okIn
  rw [List.all_eq_false]
  exact ⟨l[k], List.getElem_mem h, by simp; omega⟩
theorem allIn_more (lo hi : Int) (l : List Int) (k : Nat) (h : k < l.length) (hw : allIn lo hi (l.take k) = true) (h1 : lo ≤ l[k]) (h2 : l[k] ≤ hi) : allIn lo hi (l.take (k + 1)) = true := by
  unfold allIn okIn at *
  rw [List.take_succ_eq_append_getElem h, List.all_append, hw]
  simp [h1, h2]
set_option maxHeartbeats 400000 in
theorem within_any (lo hi : Int) (v : Value) (l : List Int) (w : World) (hv : IntsAt w v l) :
    Calls Try.prog 49 #[.int .i64 lo, .int .i64 hi, v] w fun e w' => e = .returned (.bool (allIn lo hi l)) ∧ w = w' := by
  obtain ⟨hm, a, cap, rfl, _, hc⟩ := hv
  go_enter Try.func49, Try.ntmps49
  go_wp2
  go_loop [11] (fun i => ∃ k : Nat, k ≤ l.length ∧ i = .int .i64 k ∧ allIn lo hi (l.take k) = true) (fun i => l.length - (intOf i).toNat)
  case atStart => exact ⟨0, Nat.zero_le _, rfl, rfl⟩
  case round =>
    obtain ⟨k, hk, rfl, hw⟩ := hrel
    have HW := Lib.hid hw
    clear hw
    by_cases hlt : k < l.length
    · obtain ⟨b, o, rfl, hd⟩ := hc (by intro e; simp [e] at hlt)
      have hck := hd k hlt
      clear hc hd
      go_wp2
      all_goals first
        | (go_ret; exact ⟨by rw [allIn_not lo hi l k hlt (by omega)]; rfl, rfl⟩)
        | (go_round
           case rel => exact ⟨k + 1, by omega, by go_num, allIn_more lo hi l k hlt HW.out (by omega) (by omega)⟩
           case measure => simp [intOf]; omega)
    · go_wp2
      go_ret
      have e : l.take k = l := List.take_of_length_le (by omega)
      rw [e] at HW
      exact ⟨by rw [HW.out]; rfl, rfl⟩
theorem within_1 (lo hi x : Int) (W : World) (n : Nat) (t : TypeId) (hn : n = W.heap.size) :
    Calls Try.prog 49 #[.int .i64 lo, .int .i64 hi, .slice (some ⟨n, 0, none⟩) 1 1] (W.alloc (.cells #[.int .i64 x] t)) fun e w' => e = .returned (.bool (okIn lo hi x)) ∧ W.alloc (.cells #[.int .i64 x] t) = w' := by
  have := within_any lo hi _ [x] _ (ints1 W n hn x t)
  simpa [allIn] using this
theorem within_2 (lo hi x y : Int) (W : World) (n : Nat) (t : TypeId) (hn : n = W.heap.size) :
    Calls Try.prog 49 #[.int .i64 lo, .int .i64 hi, .slice (some ⟨n, 0, none⟩) 2 2] (W.alloc (.cells #[.int .i64 x, .int .i64 y] t)) fun e w' => e = .returned (.bool (okIn lo hi x && okIn lo hi y)) ∧ W.alloc (.cells #[.int .i64 x, .int .i64 y] t) = w' := by
  have := within_any lo hi _ [x, y] _ (ints2 W n hn x y t)
  simpa [allIn] using this
theorem within_3 (lo hi x y z : Int) (W : World) (n : Nat) (t : TypeId) (hn : n = W.heap.size) :
    Calls Try.prog 49 #[.int .i64 lo, .int .i64 hi, .slice (some ⟨n, 0, none⟩) 3 3] (W.alloc (.cells #[.int .i64 x, .int .i64 y, .int .i64 z] t)) fun e w' => e = .returned (.bool (okIn lo hi x && okIn lo hi y && okIn lo hi z)) ∧ W.alloc (.cells #[.int .i64 x, .int .i64 y, .int .i64 z] t) = w' := by
  have := within_any lo hi _ [x, y, z] _ (ints3 W n hn x y z t)
  simpa [allIn, Bool.and_assoc] using this

set_option maxRecDepth 100000 in
set_option maxHeartbeats 1000000 in
theorem pointFault_any (p : Pt) (w : World) :
    Calls Try.prog 50 #[.agg #[.int .i64 p.bd, .int .i64 p.lo, .int .i64 p.hi]] w fun e w' => e = .returned (.int .i64 (ptErr p)) ∧ Below w.heap.size w w' := by
  obtain ⟨bd, lo, hi⟩ := p
  simp only
  obtain ⟨B, HB⟩ : ∃ B, Hid ((okIn 0 9000 bd && okIn 0 9000 lo && okIn 0 9000 hi) = B) := ⟨_, rfl⟩
  cases B
  · have HF : Hid (ptErr ⟨bd, lo, hi⟩ = 7) := by show _ = _; unfold ptErr; rw [if_pos HB.out]
    go_enter Try.func50, Try.ntmps50
    go_wp2_with fail
    refine (within_3 _ _ _ _ _ _ _ _ (by simp)).mono ?_
    rintro e w' ⟨rfl, rfl⟩
    rw [HB.out]
    go_wp2
    go_ret
    exact ⟨by rw [HF.out]; rfl, by go_grown⟩
  · have h1 := HB.out
    unfold okIn at h1
    simp at h1
    have b0 : 0 ≤ lo := by omega
    have b9 : lo ≤ 9000 := by omega
    clear h1
    obtain ⟨C, HC⟩ : ∃ C, Hid (okIn lo (lo + 30) hi = C) := ⟨_, rfl⟩
    cases C
    · have HF : Hid (ptErr ⟨bd, lo, hi⟩ = 2) := by show _ = _; unfold ptErr; rw [if_neg (by simp [HB.out]), if_pos HC.out]
      go_enter Try.func50, Try.ntmps50
      go_wp2_with fail
      refine (within_3 _ _ _ _ _ _ _ _ (by simp)).mono ?_
      rintro e w' ⟨rfl, rfl⟩
      rw [HB.out]
      go_wp2_with fail
      refine (within_1 _ _ _ _ _ _ (by simp)).mono ?_
      rintro e w' ⟨rfl, rfl⟩
      rw [HC.out]
      go_wp2
      go_ret
      exact ⟨by rw [HF.out]; rfl, by go_grown⟩
    · have HF : Hid (ptErr ⟨bd, lo, hi⟩ = 0) := by show _ = _; unfold ptErr; rw [if_neg (by simp [HB.out]), if_neg (by simp [HC.out])]
      go_enter Try.func50, Try.ntmps50
      go_wp2_with fail
      refine (within_3 _ _ _ _ _ _ _ _ (by simp)).mono ?_
      rintro e w' ⟨rfl, rfl⟩
      rw [HB.out]
      go_wp2_with fail
      refine (within_1 _ _ _ _ _ _ (by simp)).mono ?_
      rintro e w' ⟨rfl, rfl⟩
      rw [HC.out]
      go_wp2
      go_ret
      exact ⟨by rw [HF.out]; rfl, by go_grown⟩
end Go.Proofs.Ytnciomoapajonaa
