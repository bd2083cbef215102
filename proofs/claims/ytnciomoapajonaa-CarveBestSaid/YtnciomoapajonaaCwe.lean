/- Package carve: each two points, the nearer ones first. -/
import Derived.Test.YtnciomoapajonaaCwd
set_option linter.unusedSimpArgs false
set_option linter.unusedVariables false
namespace Go.Proofs.Ytnciomoapajonaa
open Go Go.RowKit Go.Shelf Cv
attribute [local go_sem] Oper.semAt_some

/-- Two points, the left one first. -/
abbrev Pr (n : Nat) := { p : Nat × Nat // p.1 < p.2 ∧ p.2 < n }
def encP {n : Nat} (x : Pr n) : Array Value := #[.int .i64 (x.1.1 : Int), .int .i64 (x.1.2 : Int)]
/-- The first j pairs of a point. -/
def pTo (b j : Nat) : List (Nat × Nat) := (List.range j).map fun t => (b - 1 - t, b)
def pairsL : Nat → List (Nat × Nat)
  | 0 => []
  | b + 1 => pairsL b ++ pTo b b
theorem pairsL_length : ∀ b, b ≤ 10 → (pairsL b).length ≤ 10 * b := by
  intro b
  induction b with
  | zero => intro _; simp [pairsL]
  | succ b ih =>
    intro h
    have := ih (by omega)
    unfold pairsL
    simp only [List.length_append, pTo, List.length_map, List.length_range]
    omega
theorem pTo_succ (b j : Nat) : pTo b (j + 1) = pTo b j ++ [(b - 1 - j, b)] := by
  unfold pTo
  rw [List.range_succ, List.map_append]
  rfl
theorem pTo_pre (b j k : Nat) : pTo b j <+: pTo b (j + k) := by
  induction k with
  | zero => exact List.prefix_refl _
  | succ k ih => rw [← Nat.add_assoc, pTo_succ]; exact ih.trans (List.prefix_append _ _)
theorem pairsL_pre (b k : Nat) : pairsL b <+: pairsL (b + k) := by
  induction k with
  | zero => exact List.prefix_refl _
  | succ k ih => exact ih.trans (List.prefix_append _ _)
theorem part_pre (n b j : Nat) (h1 : j ≤ b) (h2 : b < n) : pairsL b ++ pTo b j <+: pairsL n := by
  have a : pairsL b ++ pTo b j <+: pairsL (b + 1) := by
    show _ <+: pairsL b ++ pTo b b
    have := pTo_pre b j (b - j)
    rw [show j + (b - j) = b by omega] at this
    exact (List.prefix_append_right_inj (pairsL b)).2 this
  have c := pairsL_pre (b + 1) (n - (b + 1))
  rw [show b + 1 + (n - (b + 1)) = n by omega] at c
  exact a.trans c
theorem pairs_in (m : Nat) (st : Int) (pv : Value) (w : World) :
    CallsIn Fence.wide m Try.prog 56 #[.agg #[.int .i64 st, pv]] w fun e w' => e = .returned (.func (.func 76) #[] #[.pointer (some ⟨w.heap.size, 0, none⟩)]) ∧ w.alloc (.cells #[.int .i64 st, pv] 76) = w' := by
  refine callsIn_of_wp Try.func56 rfl trivial ?_ rfl
  simp only [Try.ntmps56, List.size_toArray, List.length_cons, List.length_nil, Nat.reduceAdd, Nat.reduceSub, Array.replicate_succ, Array.replicate_zero, List.push_toArray, List.append_toArray, List.nil_append, List.cons_append]
  gi_wp2
  go_ret
  exact ⟨rfl, rfl⟩
theorem prs_snoc {n : Nat} {pre : List (Pr n)} {b j : Nat} (h : pre.map (·.1) = pairsL b ++ pTo b j) (hk : b - 1 - j < b ∧ b < n) : (pre ++ [(⟨(b - 1 - j, b), hk⟩ : Pr n)]).map (·.1) = pairsL b ++ pTo b (j + 1) := by
  rw [List.map_append, h, pTo_succ, List.append_assoc]
  rfl
set_option maxRecDepth 100000 in
set_option maxHeartbeats 2000000 in
theorem prs1_in (m : Nat) (hm : 1 ≤ m) (l Bl : Nat) (st : Int) (pa : Option Addr) (n pc : Nat) (n10 : n ≤ 10) (J Jx : List (Pr n) → World → Prop) (W : World)
    (hY : ∀ pre x W1, J pre W1 → pre.length < 100 → YieldAt Fence.wide (m - 1) Try.prog l (encP x) W1 fun e W' =>
      (e = .returned (.bool true) ∧ J (pre ++ [x]) W' ∧ KB Bl W1 W') ∨ (e = .returned (.bool false) ∧ Jx (pre ++ [x]) W'))
    (hL : W.heap[Bl]? = some (.cells #[.int .i64 st, .slice pa n pc] 76 (0, 0))) (h0 : J [] W) :
    CallsIn Fence.wide m Try.prog 76 #[.func (.yield l) #[] #[], .pointer (some ⟨Bl, 0, none⟩)] W fun e W' => (∃ v, e = .returned v) ∧
      ((∃ ys : List (Pr n), ys.map (·.1) = pairsL n ∧ J ys W') ∨ (∃ pre : List (Pr n), pre.map (·.1) <+: pairsL n ∧ Jx pre W')) := by
  have HY := Lib.hid hY
  have HL := Lib.hid hL
  clear hY hL
  have l1 : W.cell? ⟨Bl, 1, none⟩ = some (.slice pa n pc) := cellOf HL.out 1 _ rfl
  have nI : (n : Int) ≤ 10 := by omega
  refine callsIn_of_wp Try.func76 rfl trivial ?_ rfl
  simp only [Try.ntmps76, List.size_toArray, List.length_cons, List.length_nil, Nat.reduceAdd, Nat.reduceSub, Array.replicate_succ, Array.replicate_zero, List.push_toArray, List.append_toArray, List.nil_append, List.cons_append]
  gi_wp2
  gi_loopw [9] (fun i wr => ∃ (b : Nat) (pre : List (Pr n)), b ≤ n ∧ i = .int .i64 (b : Int) ∧ Hid (pre.map (·.1) = pairsL b) ∧ Hid (J pre wr) ∧ Hid (wr.heap[Bl]? = some (.cells #[.int .i64 st, .slice pa n pc] 76 (0, 0)))) (fun i _ => n - (intOf i).toNat)
  case atStart => exact ⟨0, [], by omega, rfl, rfl, h0, HL.out⟩
  case round =>
    obtain ⟨b, pre, hb, rfl, HM, HJ, HL2⟩ := hrel
    clear h0 HL l1
    by_cases hlt : b < n
    · have bI : (b : Int) < (n : Int) := by omega
      gi_wp2
      gi_loopw [4] (fun i wr => ∃ (j : Nat) (a : Int) (pre : List (Pr n)), j ≤ b ∧ a = (b : Int) - 1 - j ∧ i = .int .i64 a ∧ Hid (pre.map (·.1) = pairsL b ++ pTo b j) ∧ Hid (J pre wr) ∧ Hid (wr.heap[Bl]? = some (.cells #[.int .i64 st, .slice pa n pc] 76 (0, 0)))) (fun i _ => (intOf i + 1).toNat)
      case atStart => exact ⟨0, _, pre, by omega, rfl, by go_num, by show _ = _; rw [HM.out]; simp [pTo], HJ, HL2⟩
      case round =>
        obtain ⟨j, a, pre2, hj, ha, rfl, HM2, HJ2, HL3⟩ := hrel
        clear HM HJ HL2
        have HA := Lib.hid ha
        by_cases hja : j < b
        · have a0 : 0 ≤ a := by omega
          have a9 : a ≤ 9 := by omega
          have hidx : b - 1 - j < b ∧ b < n := by omega
          have eI : ((b - 1 - j : Nat) : Int) = a := by omega
          have hlen : pre2.length < 100 := by
            have := congrArg List.length HM2.out
            simp only [List.length_map, List.length_append, pTo, List.length_range] at this
            have := pairsL_length b (by omega)
            omega
          obtain ⟨fn, tmps, assign, body, hy, hR⟩ := HY.out pre2 ⟨(b - 1 - j, b), hidx⟩ wr HJ2.out hlen
          unfold encP at hy
          dsimp only at hy
          rw [eI] at hy
          have HR := Lib.hid hR
          have HLT := Lib.hid hja
          clear hR ha eI hja hj hlen
          gi_wp2
          refine HR.out.mono ?_
          rintro e W5 (⟨rfl, hJ5, hk5⟩ | ⟨rfl, hJx5⟩)
          · have HJ5 := Lib.hid hJ5
            have HL5 : Hid (W5.heap[Bl]? = some (.cells #[.int .i64 st, .slice pa n pc] 76 (0, 0))) := hk5 _ HL3.out
            have HM5 := Lib.hid (prs_snoc HM2.out hidx)
            clear hJ5 hk5 hy HR
            gi_wp2
            go_roundw
            case rel => exact ⟨j + 1, a - 1, _, by have := HLT.out; omega, by have := HA.out; push_cast; omega, by go_num, HM5, HJ5, HL5⟩
            case measure => simp [intOf]; omega
          · have JX : Hid (∃ pre : List (Pr n), pre.map (·.1) <+: pairsL n ∧ Jx pre W5) := ⟨_, by rw [prs_snoc HM2.out hidx]; exact part_pre n b (j + 1) (by have := HLT.out; omega) hidx.2, hJx5⟩
            clear hJx5 hy HR
            gi_wp2
            refine bodyPost_ret (results_none rfl _ _ _) rfl ?_
            exact ⟨⟨_, rfl⟩, .inr JX.out⟩
        · obtain rfl : j = b := by omega
          have a0 : a < 0 := by omega
          clear ha hja hj
          gi_wp2
          go_roundw
          case rel => exact ⟨j + 1, pre2, by omega, by go_num, HM2, HJ2, HL3⟩
          case measure => simp [intOf]; omega
    · obtain rfl : b = n := by omega
      clear hlt hb
      gi_wp2
      go_end0
      exact ⟨⟨_, rfl⟩, .inl ⟨pre, HM.out, HJ.out⟩⟩
theorem prs_stops (m : Nat) (hm : 1 ≤ m) (Bl : Nat) (st : Int) (pa : Option Addr) (n pc : Nat) (n10 : n ≤ 10) (w : World) (hL : w.heap[Bl]? = some (.cells #[.int .i64 st, .slice pa n pc] 76 (0, 0))) :
    SeqStopsK Fence.wide m Try.prog 76 #[.pointer (some ⟨Bl, 0, none⟩)] (encP (n := n)) (KB Bl) (fun ys => ys.map (·.1) = pairsL n) (fun pre => pre.map (·.1) <+: pairsL n) 100 w := fun l J Jx W hW hJ _ hY h0 =>
  prs1_in m hm l Bl st pa n pc n10 J Jx W hY ((hW.block Bl (lt_of_block hL)).trans hL) h0
end Go.Proofs.Ytnciomoapajonaa
