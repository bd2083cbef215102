/- What a note says: saying and its methods in package sheet; the error of a note. -/
import Derived.Test.YtacmaddjpaebfaaGreatDoorBase
import Derived.Test.YtacmaddjpaebfaaGreatDoorData
import Derived.Handy
set_option linter.unusedSimpArgs false
set_option linter.unusedVariables false
namespace Go.Proofs.YtacmaddjpaebfaaGreatDoor
open Go Go.RowKit Hs

abbrev noteV (n : Note) : Value := .agg #[.int .i64 n.k, .int .i64 n.a, .int .i64 n.b, .int .i64 n.lo, .int .i64 n.hi]
abbrev lookedV (iv : Int) (p q : Value) (wd : Int) : Value := .agg #[.int .i64 iv, p, q, .int .i64 wd]

def sayV (iv : Int) (n : Note) : Value :=
  if n.k = 1 then .iface 145 (noteV n)
  else if n.k = 2 then .iface 147 (.agg #[.int .i64 n.k, .int .i64 n.a, .int .i64 n.b, .int .i64 n.lo, .int .i64 n.hi, .int .i64 iv])
  else if n.k = 3 then .iface 150 (noteV n)
  else if n.k = 4 then .iface 148 (noteV n)
  else .nilIface

set_option maxHeartbeats 400000 in
theorem saying_any (iv : Int) (pa qa : Option Addr) (pn pc qn qc : Nat) (wd : Int) (n : Note) (w : World) :
    Calls Tryz.prog 95 #[lookedV iv (.slice pa pn pc) (.slice qa qn qc) wd, noteV n] w fun e w' => e = .returned (sayV iv n) ∧ Below w.heap.size w w' := by
  obtain ⟨k, a, b, lo, hi⟩ := n
  go_enter Tryz.func95, Tryz.ntmps95
  go_wp2
  all_goals (go_ret; refine ⟨?_, by go_grown⟩)
  all_goals simp only [beq_iff_eq, beq_eq_false_iff_ne, ne_eq] at *
  all_goals simp [sayV, *]

theorem cellOf {w : World} {b : Nat} {C : Array Value} {t : TypeId} {fr : Nat × Nat} (h : w.heap[b]? = some (.cells C t fr)) (i : Nat) (v : Value) (hv : C[i]? = some v) : w.cell? ⟨b, i, none⟩ = some v := by
  rw [cell_of_row w b i C t fr h, hv]
theorem ints2 (W : World) (n : Nat) (hn : n = W.heap.size) (x y : Int) (t : TypeId) : IntsAt (W.alloc (.cells #[.int .i64 x, .int .i64 y] t)) (.slice (some ⟨n, 0, none⟩) 2 2) [x, y] :=
  ⟨by simp, _, _, rfl, fun _ => ⟨n, 0, rfl, fun k hk => by
    rw [World.cell?_alloc_at _ _ _ _ hn]
    match k, hk with
    | 0, _ => rfl
    | 1, _ => rfl⟩⟩
theorem within_2 (lo hi x y : Int) (W : World) (n : Nat) (t : TypeId) (hn : n = W.heap.size) :
    Calls Tryz.prog 54 #[.int .i64 lo, .int .i64 hi, .slice (some ⟨n, 0, none⟩) 2 2] (W.alloc (.cells #[.int .i64 x, .int .i64 y] t)) fun e w' => e = .returned (.bool (withinB lo hi [x, y])) ∧ W.alloc (.cells #[.int .i64 x, .int .i64 y] t) = w' :=
  within_any lo hi _ [x, y] _ (ints2 W n hn x y t)
theorem within2 (lo hi x y : Int) : withinB lo hi [x, y] = true ↔ (lo ≤ x ∧ x ≤ hi) ∧ lo ≤ y ∧ y ≤ hi := by simp [withinB]

theorem sayV_1 (iv a b lo hi : Int) : sayV iv ⟨1, a, b, lo, hi⟩ = .iface 145 (.agg #[.int .i64 1, .int .i64 a, .int .i64 b, .int .i64 lo, .int .i64 hi]) := rfl
theorem sayV_2 (iv a b lo hi : Int) : sayV iv ⟨2, a, b, lo, hi⟩ = .iface 147 (.agg #[.int .i64 2, .int .i64 a, .int .i64 b, .int .i64 lo, .int .i64 hi, .int .i64 iv]) := rfl
theorem sayV_3 (iv a b lo hi : Int) : sayV iv ⟨3, a, b, lo, hi⟩ = .iface 150 (.agg #[.int .i64 3, .int .i64 a, .int .i64 b, .int .i64 lo, .int .i64 hi]) := rfl
theorem sayV_4 (iv a b lo hi : Int) : sayV iv ⟨4, a, b, lo, hi⟩ = .iface 148 (.agg #[.int .i64 4, .int .i64 a, .int .i64 b, .int .i64 lo, .int .i64 hi]) := rfl


set_option maxHeartbeats 400000 in
theorem spotOver (k a b lo hi : Int) (w : World) : Calls Tryz.prog 188 #[.agg #[.int .i64 k, .int .i64 a, .int .i64 b, .int .i64 lo, .int .i64 hi]] w fun e w' => e = .returned (.int .i64 8) ∧ w.alloc (.cells #[.int .i64 k, .int .i64 a, .int .i64 b, .int .i64 lo, .int .i64 hi] 145) = w' := by
  go_enter Tryz.func188, Tryz.ntmps188
  go_wp2
  go_ret
  exact ⟨rfl, rfl⟩
set_option maxHeartbeats 400000 in
theorem slopeOver (k a b lo hi : Int) (w : World) : Calls Tryz.prog 193 #[.agg #[.int .i64 k, .int .i64 a, .int .i64 b, .int .i64 lo, .int .i64 hi]] w fun e w' => e = .returned (.int .i64 b) ∧ w.alloc (.cells #[.int .i64 k, .int .i64 a, .int .i64 b, .int .i64 lo, .int .i64 hi] 148) = w' := by
  go_enter Tryz.func193, Tryz.ntmps193
  go_wp2
  go_ret
  exact ⟨rfl, rfl⟩
set_option maxHeartbeats 400000 in
theorem spotSpan (k a b lo hi : Int) (w : World) : Calls Tryz.prog 189 #[.agg #[.int .i64 k, .int .i64 a, .int .i64 b, .int .i64 lo, .int .i64 hi]] w fun e w' => e = .returned (.agg #[.int .i64 lo, .int .i64 hi]) ∧ (w.alloc (.cells #[.int .i64 k, .int .i64 a, .int .i64 b, .int .i64 lo, .int .i64 hi] 145)).alloc (.cells #[.int .i64 lo, .int .i64 hi] 40) = w' := by
  go_enter Tryz.func189, Tryz.ntmps189
  go_wp2
  go_returns
  exact ⟨rfl, rfl⟩
set_option maxHeartbeats 400000 in
theorem slopeSpan (k a b lo hi : Int) (w : World) : Calls Tryz.prog 194 #[.agg #[.int .i64 k, .int .i64 a, .int .i64 b, .int .i64 lo, .int .i64 hi]] w fun e w' => e = .returned (.agg #[.int .i64 lo, .int .i64 hi]) ∧ (w.alloc (.cells #[.int .i64 k, .int .i64 a, .int .i64 b, .int .i64 lo, .int .i64 hi] 148)).alloc (.cells #[.int .i64 lo, .int .i64 hi] 40) = w' := by
  go_enter Tryz.func194, Tryz.ntmps194
  go_wp2
  go_returns
  exact ⟨rfl, rfl⟩
set_option maxHeartbeats 400000 in
theorem spotEnds (k a b lo hi : Int) (w : World) : Calls Tryz.prog 187 #[.agg #[.int .i64 k, .int .i64 a, .int .i64 b, .int .i64 lo, .int .i64 hi]] w fun e w' => e = .returned (.agg #[.int .i64 0, .int .i64 9000]) ∧ (w.alloc (.cells #[.int .i64 k, .int .i64 a, .int .i64 b, .int .i64 lo, .int .i64 hi] 145)).alloc (.cells #[.int .i64 0, .int .i64 9000] 40) = w' := by
  go_enter Tryz.func187, Tryz.ntmps187
  go_wp2
  go_returns
  exact ⟨rfl, rfl⟩
set_option maxHeartbeats 400000 in
theorem slopeEnds (k a b lo hi : Int) (w : World) : Calls Tryz.prog 192 #[.agg #[.int .i64 k, .int .i64 a, .int .i64 b, .int .i64 lo, .int .i64 hi]] w fun e w' => e = .returned (.agg #[.int .i64 (-9000), .int .i64 9000]) ∧ (w.alloc (.cells #[.int .i64 k, .int .i64 a, .int .i64 b, .int .i64 lo, .int .i64 hi] 148)).alloc (.cells #[.int .i64 (-9000), .int .i64 9000] 40) = w' := by
  go_enter Tryz.func192, Tryz.ntmps192
  go_wp2
  go_returns
  exact ⟨rfl, rfl⟩
set_option maxHeartbeats 400000 in
theorem lakeEnds (k a b lo hi : Int) (w : World) : Calls Tryz.prog 195 #[.agg #[.int .i64 k, .int .i64 a, .int .i64 b, .int .i64 lo, .int .i64 hi]] w fun e w' => e = .returned (.agg #[.int .i64 0, .int .i64 0]) ∧ (w.alloc (.cells #[.int .i64 k, .int .i64 a, .int .i64 b, .int .i64 lo, .int .i64 hi] 150)).alloc (.cells #[.int .i64 0, .int .i64 0] 40) = w' := by
  go_enter Tryz.func195, Tryz.ntmps195
  go_wp2
  go_returns
  exact ⟨rfl, rfl⟩
set_option maxHeartbeats 400000 in
theorem contourEnds (k a b lo hi iv : Int) (w : World) (h1 : 1 ≤ iv) (h2 : iv ≤ 1000) : Calls Tryz.prog 190 #[.agg #[.int .i64 k, .int .i64 a, .int .i64 b, .int .i64 lo, .int .i64 hi, .int .i64 iv]] w fun e w' => e = .returned (.agg #[.int .i64 0, .int .i64 (9000 / iv)]) ∧ (w.alloc (.cells #[.int .i64 k, .int .i64 a, .int .i64 b, .int .i64 lo, .int .i64 hi, .int .i64 iv] 147)).alloc (.cells #[.int .i64 0, .int .i64 (9000 / iv)] 40) = w' := by
  go_enter Tryz.func190, Tryz.ntmps190
  go_wp2
  go_returns
  exact ⟨rfl, rfl⟩
set_option maxHeartbeats 400000 in
theorem contourSpan (k a b lo hi iv : Int) (w : World) (h1 : 1 ≤ iv) (h2 : iv ≤ 1000) (hl : 0 ≤ lo * iv) (hl' : lo * iv ≤ 9000) (hh : 0 ≤ hi * iv) (hh' : hi * iv ≤ 9000) : Calls Tryz.prog 191 #[.agg #[.int .i64 k, .int .i64 a, .int .i64 b, .int .i64 lo, .int .i64 hi, .int .i64 iv]] w fun e w' => e = .returned (.agg #[.int .i64 (lo * iv), .int .i64 (hi * iv)]) ∧ (w.alloc (.cells #[.int .i64 k, .int .i64 a, .int .i64 b, .int .i64 lo, .int .i64 hi, .int .i64 iv] 147)).alloc (.cells #[.int .i64 (lo * iv), .int .i64 (hi * iv)] 40) = w' := by
  go_enter Tryz.func191, Tryz.ntmps191
  go_wp2
  go_returns
  exact ⟨rfl, rfl⟩
end Go.Proofs.YtacmaddjpaebfaaGreatDoor
