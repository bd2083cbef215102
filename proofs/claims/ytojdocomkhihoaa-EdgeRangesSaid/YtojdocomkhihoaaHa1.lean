/- Package edge: sets of small numbers, as a function that is ranged over. -/
import Derived.Test.YtojdocomkhihoaaPb
import Derived.RangeFuncNested
import Derived.RangeFuncBound
import Derived.RangeFuncCalls
import Derived.RangeFuncLeaves
import Derived.RangeFuncBox
import Derived.Shelf.Abstract
import Derived.Shelf.RegionOpen
import Derived.OwnWalkIn
import Derived.TacticsInMore
import Derived.LoopNIn
import Derived.LoopIn
set_option linter.unusedSimpArgs false
set_option linter.unusedVariables false
namespace Go.Proofs.Ytojdocomkhihoaa
open Go Go.RowKit Go.Shelf Ed
attribute [local go_sem] Oper.semAt_some

/-- A block stays as it is. -/
def KB (b : Nat) (W W' : World) : Prop := ∀ o, W.heap[b]? = some o → W'.heap[b]? = some o
theorem KB.refl (b : Nat) (W : World) : KB b W W := fun _ h => h
theorem KB.trans {b : Nat} {X Y Z : World} (h : KB b X Y) (k : KB b Y Z) : KB b X Z := fun o ho => k o (h o ho)
theorem KB.putObj {b : Nat} (W : World) (l : Nat) (o : Obj) (h : b ≠ l) : KB b W (W.putObj l o) := fun _ hb => (World.putObj_heap_other h).trans hb
/-- A set of the numbers below n. -/
abbrev Sb (n : Nat) := { s : Nat // s < 2 ^ n }
def encS {n : Nat} (x : Sb n) : Array Value := #[.int .u64 (x.1 : Int)]
set_option maxRecDepth 100000 in
theorem sets_in (m : Nat) (n : Nat) (w : World) :
    CallsIn Fence.wide m Try.prog 94 #[.int .i64 n] w fun e w' => e = .returned (.func (.func 108) #[] #[.pointer (some ⟨w.heap.size, 0, none⟩)]) ∧ w.alloc (.cells #[.int .i64 n] 3) = w' := by
  refine callsIn_of_wp Try.func94 rfl trivial ?_ rfl
  simp only [Try.ntmps94, List.size_toArray, List.length_cons, List.length_nil, Nat.reduceAdd, Nat.reduceSub, Array.replicate_succ, Array.replicate_zero, List.push_toArray, List.append_toArray, List.nil_append, List.cons_append]
  gi_wp2
  go_ret
  exact ⟨rfl, rfl⟩
theorem pow_le8 {n : Nat} (h : n ≤ 8) : 1 ≤ 2 ^ n ∧ 2 ^ n ≤ 256 := by
  have h1 : 2 ^ n ≤ 2 ^ 8 := Nat.pow_le_pow_right (by omega) h
  have h2 : 0 < 2 ^ n := Nat.pow_pos (by omega)
  omega
/-- The sets that come first. -/
def setTo (n k : Nat) : List Nat := (List.range k).map fun less => 2 ^ n - 1 - less
theorem setTo_all (n : Nat) : setTo n (2 ^ n) = setsL n := rfl
theorem setTo_succ (n k : Nat) : setTo n (k + 1) = setTo n k ++ [2 ^ n - 1 - k] := by
  unfold setTo
  rw [List.range_succ, List.map_append]
  rfl
theorem sb_snoc {n k s : Nat} {pre : List (Sb n)} (h : pre.map (·.1) = setTo n k) (hs : s < 2 ^ n) (e : s = 2 ^ n - 1 - k) : (pre ++ [(⟨s, hs⟩ : Sb n)]).map (·.1) = setTo n (k + 1) := by
  rw [List.map_append, h, setTo_succ]
  simp [e]
set_option maxRecDepth 100000 in
set_option maxHeartbeats 4000000 in
theorem sets1_in (m : Nat) (hm : 1 ≤ m) (l Bn n : Nat) (n8 : n ≤ 8) (J Jx : List (Sb n) → World → Prop) (W : World)
    (hY : ∀ pre x W1, J pre W1 → pre.length < 257 → YieldAt Fence.wide (m - 1) Try.prog l (encS x) W1 fun e W' =>
      (e = .returned (.bool true) ∧ J (pre ++ [x]) W' ∧ KB Bn W1 W') ∨ (e = .returned (.bool false) ∧ Jx (pre ++ [x]) W'))
    (hN : W.heap[Bn]? = some (.cells #[.int .i64 n] 3 (0, 0))) (h0 : J [] W) :
    CallsIn Fence.wide m Try.prog 108 #[.func (.yield l) #[] #[], .pointer (some ⟨Bn, 0, none⟩)] W fun e W' => (∃ v, e = .returned v) ∧
      ((∃ ys : List (Sb n), ys.map (·.1) = setsL n ∧ J ys W') ∨ (∃ pre, True ∧ Jx pre W')) := by
  have HY := Lib.hid hY
  have q0 : W.cell? ⟨Bn, 0, none⟩ = some (.int .i64 n) := cellOf hN 0 _ rfl
  have HN := Lib.hid hN
  obtain ⟨p1, p256⟩ := pow_le8 n8
  obtain ⟨N, hNN⟩ : ∃ N, 2 ^ n = N := ⟨_, rfl⟩
  have HP := Lib.hid hNN
  rw [hNN] at p1 p256
  have nI : (n : Int) ≤ 8 := by omega
  have hw : wrap64 ((2 : Int) ^ n) = (N : Int) := by
    have e : ((2 : Int) ^ n) = ((2 ^ n : Nat) : Int) := by push_cast; rfl
    rw [e, hNN]
    unfold wrap64
    omega
  have HW := Lib.hid hw
  clear hY hN hNN
  refine callsIn_of_wp Try.func108 rfl trivial ?_ rfl
  simp only [Try.ntmps108, List.size_toArray, List.length_cons, List.length_nil, Nat.reduceAdd, Nat.reduceSub, Array.replicate_succ, Array.replicate_zero, List.push_toArray, List.append_toArray, List.nil_append, List.cons_append]
  gi_wp2_with fail
  rw [hw]
  clear hw
  gi_loopw [6] (fun i wr => ∃ (k : Nat) (pre : List (Sb n)), k ≤ N ∧ i = .int .i64 (k : Int) ∧ Hid (pre.map (·.1) = setTo n k) ∧ Hid (J pre wr) ∧ Hid (wr.heap[Bn]? = some (.cells #[.int .i64 n] 3 (0, 0)))) (fun i _ => N - (intOf i).toNat)
  case atStart => exact ⟨0, [], by omega, rfl, rfl, h0, HN⟩
  case round =>
    obtain ⟨k, pre, hk, rfl, HM, HJ, HB⟩ := hrel
    clear h0 HN q0
    have q0 : wr.cell? ⟨Bn, 0, none⟩ = some (.int .i64 n) := cellOf HB.out 0 _ rfl
    by_cases hlt : k < N
    · have kI : (k : Int) < (N : Int) := by omega
      obtain ⟨s, hs⟩ : ∃ s : Nat, N - 1 - k = s := ⟨_, rfl⟩
      have hsI : (N : Int) - 1 - k = (s : Int) := by omega
      have hsn : s < 2 ^ n := by rw [HP.out]; omega
      have he : s = 2 ^ n - 1 - k := by rw [HP.out]; omega
      have s256 : (s : Int) < 256 := by omega
      have hlen : pre.length = k := by have := congrArg List.length HM.out; simpa [setTo] using this
      obtain ⟨fn, tmps, assign, body, hy, hR⟩ := HY.out pre ⟨s, hsn⟩ wr HJ.out (by omega)
      unfold encS at hy
      dsimp only at hy
      have HR := Lib.hid hR
      have HLT := Lib.hid hlt
      have HE := Lib.hid he
      have HSN := Lib.hid hsn
      have hw := HW.out
      clear hR hlt he hs hlen
      gi_wp2_with fail
      refine HR.out.mono ?_
      rintro e W5 (⟨rfl, hJ5, hk5⟩ | ⟨rfl, hJx5⟩)
      · have HJ5 := Lib.hid hJ5
        have HB5 := Lib.hid (hk5 _ HB.out)
        have HM5 := Lib.hid (sb_snoc HM.out HSN.out HE.out)
        clear hJ5 hk5 hy HR
        gi_wp2_with fail
        go_roundw
        case rel => exact ⟨k + 1, _, by have := HLT.out; omega, by go_num, HM5, HJ5, HB5⟩
        case measure => simp [intOf]; have := HLT.out; omega
      · have JX : Hid (∃ pre, True ∧ Jx pre W5) := ⟨_, trivial, hJx5⟩
        clear hJx5 hy HR
        gi_wp2_with fail
        try rw [Exit.noGoto_ret]
        refine bodyPost_ret (results_none rfl _ _ _) rfl ?_
        exact ⟨⟨_, rfl⟩, .inr JX.out⟩
    · obtain rfl : k = N := by omega
      have kI : ¬ (k : Int) < (k : Int) := by omega
      clear hlt hk
      gi_wp2_with fail
      go_end0
      exact ⟨⟨_, rfl⟩, .inl ⟨pre, by have h := HM.out; rw [← HP.out, setTo_all] at h; exact h, HJ.out⟩⟩
theorem sets_stops (m : Nat) (hm : 1 ≤ m) (Bn n : Nat) (n8 : n ≤ 8) (w : World) (hN : w.heap[Bn]? = some (.cells #[.int .i64 n] 3 (0, 0))) :
    SeqStopsK Fence.wide m Try.prog 108 #[.pointer (some ⟨Bn, 0, none⟩)] (encS (n := n)) (KB Bn) (fun ys => ys.map (·.1) = setsL n) (fun _ => True) 257 w := fun l J Jx W hW hJ _ hY h0 =>
  sets1_in m hm l Bn n n8 J Jx W hY ((hW.block Bn (lt_of_block hN)).trans hN) h0
end Go.Proofs.Ytojdocomkhihoaa
