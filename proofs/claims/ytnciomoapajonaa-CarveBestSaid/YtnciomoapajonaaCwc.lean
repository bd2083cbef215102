/- Package carve: each two neighbours, one after the other; each two points. -/
import Derived.Test.YtnciomoapajonaaCvu
import Derived.RangeFuncNested
import Derived.RangeFuncBound
import Derived.RangeFuncCalls
import Derived.RangeFuncLeaves
import Derived.Shelf.Abstract
import Derived.OwnWalkIn
import Derived.TacticsInMore
import Derived.LoopNIn
import Derived.LoopIn
import Derived.Shelf.RegionOpen
set_option linter.unusedSimpArgs false
set_option linter.unusedVariables false
namespace Go.Proofs.Ytnciomoapajonaa
open Go Go.RowKit Go.Shelf Cv
attribute [local go_sem] Oper.semAt_some

/-- Some block stays as it is. -/
def KB (b : Nat) (W W' : World) : Prop := ∀ o, W.heap[b]? = some o → W'.heap[b]? = some o
theorem KB.trans {b : Nat} {A B C : World} (h : KB b A B) (k : KB b B C) : KB b A C := fun o ho => k o (h o ho)
theorem KB.refl (b : Nat) (A : World) : KB b A A := fun _ h => h
theorem KB.below {b : Nat} {A B : World} (h : Below A.heap.size A B) : KB b A B := fun _ ho => (h.block b (lt_of_block ho)).trans ho
theorem KB.putObj {b : Nat} (W : World) (l : Nat) (o' : Obj) (hne : b ≠ l) : KB b W (W.putObj l o') := fun o ho => by
  simp only [World.putObj]
  rw [Array.getElem?_setIfInBounds_ne (Ne.symm hne)]
  exact ho
theorem KB.setCell {b : Nat} (W : World) (p : Addr) (u : Value) (hne : b ≠ p.block) : KB b W (W.setCell p u) := fun _ ho => (Below.heap_setCell W p u b hne).trans ho
theorem KB.drew {b : Nat} (W : World) : KB b W W.drew := fun _ h => h

/-- The left one of two neighbours. -/
abbrev Nb (n : Nat) := { k : Nat // k + 1 < n }
def encN {n : Nat} (x : Nb n) : Array Value := #[.int .i64 (x.1 : Int), .int .i64 ((x.1 : Int) + 1)]
theorem neighbours_in (m : Nat) (st : Int) (pv : Value) (w : World) :
    CallsIn Fence.wide m Try.prog 81 #[.agg #[.int .i64 st, pv]] w fun e w' => e = .returned (.func (.func 88) #[] #[.pointer (some ⟨w.heap.size, 0, none⟩)]) ∧ w.alloc (.cells #[.int .i64 st, pv] 76) = w' := by
  refine callsIn_of_wp Try.func81 rfl trivial ?_ rfl
  simp only [Try.ntmps81, List.size_toArray, List.length_cons, List.length_nil, Nat.reduceAdd, Nat.reduceSub, Array.replicate_succ, Array.replicate_zero, List.push_toArray, List.append_toArray, List.nil_append, List.cons_append]
  gi_wp2
  go_ret
  exact ⟨rfl, rfl⟩
theorem map_range_snoc {n : Nat} {pre : List (Nb n)} {k : Nat} (h : pre.map (·.1) = List.range k) (hk : k + 1 < n) : (pre ++ [(⟨k, hk⟩ : Nb n)]).map (·.1) = List.range (k + 1) := by
  rw [List.map_append, h, List.range_succ]
  rfl
set_option maxRecDepth 100000 in
set_option maxHeartbeats 2000000 in
theorem nbr1_in (m : Nat) (hm : 1 ≤ m) (l Bl : Nat) (st : Int) (pa : Option Addr) (n pc : Nat) (n1 : 1 ≤ n) (n10 : n ≤ 10) (J Jx : List (Nb n) → World → Prop) (W : World)
    (hY : ∀ pre x W1, J pre W1 → pre.length < n - 1 → YieldAt Fence.wide (m - 1) Try.prog l (encN x) W1 fun e W' =>
      (e = .returned (.bool true) ∧ J (pre ++ [x]) W' ∧ KB Bl W1 W') ∨ (e = .returned (.bool false) ∧ Jx (pre ++ [x]) W'))
    (hL : W.heap[Bl]? = some (.cells #[.int .i64 st, .slice pa n pc] 76 (0, 0))) (h0 : J [] W) :
    CallsIn Fence.wide m Try.prog 88 #[.func (.yield l) #[] #[], .pointer (some ⟨Bl, 0, none⟩)] W fun e W' => (∃ v, e = .returned v) ∧
      ((∃ ys : List (Nb n), ys.map (·.1) = List.range (n - 1) ∧ J ys W') ∨ (∃ pre, True ∧ Jx pre W')) := by
  have HY := Lib.hid hY
  clear hY
  refine callsIn_of_wp Try.func88 rfl trivial ?_ rfl
  simp only [Try.ntmps88, List.size_toArray, List.length_cons, List.length_nil, Nat.reduceAdd, Nat.reduceSub, Array.replicate_succ, Array.replicate_zero, List.push_toArray, List.append_toArray, List.nil_append, List.cons_append]
  gi_wp2
  gi_loopw [3] (fun i wr => ∃ (k : Nat) (pre : List (Nb n)), k + 1 ≤ n ∧ i = .int .i64 ((k : Int) + 1) ∧ Hid (pre.map (·.1) = List.range k) ∧ Hid (J pre wr) ∧ Hid (wr.heap[Bl]? = some (.cells #[.int .i64 st, .slice pa n pc] 76 (0, 0)))) (fun i _ => n - (intOf i).toNat)
  case atStart => exact ⟨0, [], by omega, rfl, rfl, h0, hL⟩
  case round =>
    obtain ⟨k, pre, hk, rfl, HM, HJ, HL⟩ := hrel
    clear h0 hL
    have l1 := cellOf HL.out 1 _ rfl
    have nI : (n : Int) ≤ 10 := by omega
    by_cases hlt : k + 1 < n
    · have kI : (k : Int) + 1 < (n : Int) := by omega
      obtain ⟨fn, tmps, assign, body, hy, hR⟩ := HY.out pre ⟨k, hlt⟩ wr HJ.out (by have := congrArg List.length HM.out; simp at this; omega)
      unfold encN at hy
      dsimp only at hy
      have HR := Lib.hid hR
      clear hR
      gi_wp2
      refine HR.out.mono ?_
      rintro e W5 (⟨rfl, hJ5, hk5⟩ | ⟨rfl, hJx5⟩)
      · have HJ5 := Lib.hid hJ5
        have HL5 : Hid (W5.heap[Bl]? = some (.cells #[.int .i64 st, .slice pa n pc] 76 (0, 0))) := hk5 _ HL.out
        have HM5 := Lib.hid (map_range_snoc HM.out hlt)
        clear hJ5 hk5 hy HR
        gi_wp2
        go_roundw
        case rel => exact ⟨k + 1, _, by omega, by go_num, HM5, HJ5, HL5⟩
        case measure => simp [intOf]; omega
      · have JX : Hid (∃ pre, True ∧ Jx pre W5) := ⟨_, trivial, hJx5⟩
        clear hJx5 hy HR
        gi_wp2
        refine bodyPost_ret (results_none rfl _ _ _) rfl ?_
        exact ⟨⟨_, rfl⟩, .inr JX.out⟩
    · obtain rfl : n = k + 1 := by omega
      gi_wp2
      go_end0
      exact ⟨⟨_, rfl⟩, .inl ⟨pre, HM.out, HJ.out⟩⟩
end Go.Proofs.Ytnciomoapajonaa
