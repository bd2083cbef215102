/- Lists of bytes in memory; the statements' turn, the n-th number of a list, by turns. -/
import Derived.Test.YtnciomoapajonaaCvb
set_option linter.unusedSimpArgs false
set_option linter.unusedVariables false
namespace Go.Proofs.Ytnciomoapajonaa
open Go Go.RowKit Cv

/-- A value reads as a list of bytes. -/
def U8At (w : World) (v : Value) (l : List Nat) : Prop :=
  l.length ≤ 4611686018427387904 ∧ ∃ a cap, v = .slice a l.length cap ∧ (l ≠ [] → ∃ b o, a = some ⟨b, o, none⟩ ∧ ∀ k, k < l.length → w.cell? ⟨b, o + k, none⟩ = some (.int .u8 (l.getD k 0)) ∧ l.getD k 0 ≤ 255)
theorem U8At.below {w w' : World} {v : Value} {l : List Nat} (h : U8At w v l) (hb : Below w.heap.size w w') : U8At w' v l := by
  obtain ⟨h1, a, cap, rfl, h2⟩ := h
  refine ⟨h1, a, cap, rfl, fun hne => ?_⟩
  obtain ⟨b, o, rfl, hc⟩ := h2 hne
  exact ⟨b, o, rfl, fun k hk => ⟨(hb.cell (p := ⟨b, o + k, none⟩) (World.block_lt_of_cell? w _ (hc k hk).1)).trans (hc k hk).1, (hc k hk).2⟩⟩
def turnS (l : List Nat) (n : Nat) : Nat := if l = [] then 0 else l.getD (n % l.length) 0
theorem turnS_le {w : World} {v : Value} {l : List Nat} (h : U8At w v l) (n : Nat) : turnS l n ≤ 255 := by
  unfold turnS
  split
  · omega
  · rename_i hne
    obtain ⟨_, a, cap, rfl, h2⟩ := h
    obtain ⟨b, o, _, hc⟩ := h2 hne
    exact (hc _ (Nat.mod_lt _ (List.length_pos_iff.2 hne))).2
theorem tmod_nat (x n : Nat) : ((x : Int)).tmod (n : Int) = ((x % n : Nat) : Int) := by
  rw [Int.tmod_eq_emod_of_nonneg (by omega)]
  exact (Int.natCast_emod x n).symm
set_option maxRecDepth 100000 in
set_option maxHeartbeats 1000000 in
theorem turn_any (v : Value) (l : List Nat) (n : Nat) (w : World) (hv : U8At w v l) (hn : n ≤ 1000) :
    Calls Try.prog 74 #[v, .int .i64 n] w fun e w' => e = .returned (.int .i64 (turnS l n)) ∧ w = w' := by
  obtain ⟨hm, a, cap, rfl, hc⟩ := hv
  have hm' : (l.length : Int) ≤ 4611686018427387904 := by omega
  by_cases hl : l = []
  · subst hl
    go_enter Try.func74, Try.ntmps74
    go_wp2
    go_ret
    exact ⟨rfl, rfl⟩
  · obtain ⟨b, o, rfl, hd⟩ := hc hl
    have hp := List.length_pos_iff.2 hl
    have hlt : n % l.length < l.length := Nat.mod_lt _ hp
    obtain ⟨hck, hle⟩ := hd _ hlt
    have HE : Hid (turnS l n = l.getD (n % l.length) 0) := by show _ = _; unfold turnS; rw [if_neg hl]
    have e1 := tmod_nat n l.length
    generalize n % l.length = k at *
    generalize l.getD k 0 = z at *
    have z0 : ((l.length : Int) == 0) = false := by rw [beq_eq_false_iff_ne]; omega
    have p1 : (1 : Int) ≤ (l.length : Int) := by omega
    have kl : (k : Int) < (l.length : Int) := by omega
    have zl : (z : Int) ≤ 255 := by omega
    clear hc hd hl
    go_enter Try.func74, Try.ntmps74
    go_wp2
    go_ret
    exact ⟨by rw [HE.out]; rfl, rfl⟩
end Go.Proofs.Ytnciomoapajonaa
