/- Package scale: how heights are rounded. -/
import Derived.Test.YthflbbjilebhlaaUf
set_option linter.unusedSimpArgs false
set_option linter.unusedVariables false
namespace Go.Proofs.Ythflbbjilebhlaa
open Go Go.RowKit Go.Shelf Sc
attribute [local go_sem] Oper.semAt_some

/-- The function that rounds. -/
def rnF (kind : Int) : Nat := if kind = 1 then 112 else if kind = 2 then 113 else 114
/-- What is known of a function that rounds. -/
structure RoundOk (F : Nat) (kind : Int) : Prop where
  eg : ∀ args w, (callFunc F args).run Try.prog w = .ok (.enter F args) w
  ok : ∀ (n d : Int) (w : World), 0 ≤ n → n ≤ 10000000000 → 1 ≤ d → d ≤ 1000000 → Calls Try.prog F #[.int .i64 n, .int .i64 d] w fun e w' => e = .returned (.int .i64 (rndK kind n d)) ∧ w = w'
set_option maxRecDepth 100000 in
theorem round1 : RoundOk 112 1 where
  eg := fun _ _ => by rfl
  ok := by
    intro n d w h1 h2 h3 h4
    obtain ⟨x, hx⟩ : ∃ x, rndK 1 n d = x := ⟨_, rfl⟩
    have e : n / d = x := by rw [← hx]; unfold rndK; rw [if_pos rfl]
    have t : n.tdiv d = x := by rw [Int.tdiv_eq_ediv_of_nonneg h1]; exact e
    have x0 : 0 ≤ x := by rw [← e]; exact Int.ediv_nonneg h1 (by omega)
    have xn : x ≤ n := by rw [← e]; exact Int.ediv_le_self _ h1
    have d0 : ¬ d = 0 := by omega
    have d1 : ¬ d = -1 := by omega
    rw [hx]
    clear hx e
    go_enter Try.func112, Try.ntmps112
    go_wp2_with fail
    go_ret
    exact ⟨rfl, rfl⟩
set_option maxRecDepth 100000 in
theorem round2 : RoundOk 113 2 where
  eg := fun _ _ => by rfl
  ok := by
    intro n d w h1 h2 h3 h4
    obtain ⟨x, hx⟩ : ∃ x, rndK 2 n d = x := ⟨_, rfl⟩
    obtain ⟨p, hp⟩ : ∃ p, 2 * n + d = p := ⟨_, rfl⟩
    obtain ⟨q, hq⟩ : ∃ q, 2 * d = q := ⟨_, rfl⟩
    have e : p / q = x := by rw [← hx, ← hp, ← hq]; unfold rndK; rw [if_neg (by omega), if_pos rfl]
    have t : p.tdiv q = x := by rw [Int.tdiv_eq_ediv_of_nonneg (by omega)]; exact e
    have x0 : 0 ≤ x := by rw [← e]; exact Int.ediv_nonneg (by omega) (by omega)
    have xn : x ≤ p := by rw [← e]; exact Int.ediv_le_self _ (by omega)
    have d0 : ¬ q = 0 := by omega
    have d1 : ¬ q = -1 := by omega
    have p0 : p ≤ 30000000000 := by omega
    have w1 : IntKind.i64.wrap (2 * n) = 2 * n := by rw [IntKind.wrap_i64] <;> omega
    have w2 : IntKind.i64.wrap (2 * n + d) = p := by rw [hp, IntKind.wrap_i64] <;> omega
    have w3 : IntKind.i64.wrap (2 * d) = q := by rw [hq, IntKind.wrap_i64] <;> omega
    rw [hx]
    clear hx e
    go_enter Try.func113, Try.ntmps113
    go_wp2_with fail
    go_ret
    exact ⟨rfl, rfl⟩
set_option maxRecDepth 100000 in
theorem round3 : RoundOk 114 3 where
  eg := fun _ _ => by rfl
  ok := by
    intro n d w h1 h2 h3 h4
    obtain ⟨x, hx⟩ : ∃ x, rndK 3 n d = x := ⟨_, rfl⟩
    obtain ⟨p, hp⟩ : ∃ p, n + d - 1 = p := ⟨_, rfl⟩
    have e : p / d = x := by rw [← hx, ← hp]; unfold rndK; rw [if_neg (by omega), if_neg (by omega)]
    have t : p.tdiv d = x := by rw [Int.tdiv_eq_ediv_of_nonneg (by omega)]; exact e
    have x0 : 0 ≤ x := by rw [← e]; exact Int.ediv_nonneg (by omega) (by omega)
    have xn : x ≤ p := by rw [← e]; exact Int.ediv_le_self _ (by omega)
    have d0 : ¬ d = 0 := by omega
    have d1 : ¬ d = -1 := by omega
    have p0 : p ≤ 30000000000 := by omega
    have w1 : IntKind.i64.wrap (n + d) = n + d := by rw [IntKind.wrap_i64] <;> omega
    have w2 : IntKind.i64.wrap (n + d - 1) = p := by rw [hp, IntKind.wrap_i64] <;> omega
    rw [hx]
    clear hx e
    go_enter Try.func114, Try.ntmps114
    go_wp2_with fail
    go_ret
    exact ⟨rfl, rfl⟩
theorem round_ok (kind : Int) (h1 : 1 ≤ kind) (h3 : kind ≤ 3) : RoundOk (rnF kind) kind := by
  unfold rnF
  by_cases k1 : kind = 1
  · rw [if_pos k1, k1]; exact round1
  · rw [if_neg k1]
    by_cases k2 : kind = 2
    · rw [if_pos k2, k2]; exact round2
    · rw [if_neg k2, show kind = 3 by omega]; exact round3
/-- All roundings in memory. -/
def rnC : Array Value := #[.int .i64 1, .func (.func 112) #[] #[], .int .i64 2, .func (.func 113) #[] #[], .int .i64 3, .func (.func 114) #[] #[]]
set_option maxRecDepth 100000 in
theorem roundings_any (w : World) :
    Calls Try.prog 91 #[] w fun e w' => e = .returned (.slice (some ⟨w.heap.size, 0, none⟩) 3 3) ∧ w.alloc (.cells rnC 88) = w' := by
  go_enter Try.func91, Try.ntmps91
  go_wp2_with fail
  go_ret
  exact ⟨rfl, rfl⟩
end Go.Proofs.Ythflbbjilebhlaa
