/- By how much a road can be false. No program is named here. -/
import Derived.Test.YthflbbjilebhlaaXl
set_option linter.unusedSimpArgs false
set_option linter.unusedVariables false
namespace Go.Proofs.Ythflbbjilebhlaa
open Go Sc

theorem rnd_err {kind n d : Int} (hk : 1 ≤ kind ∧ kind ≤ 3) (hd : 1 ≤ d) :
    (kind = 1 → -(d - 1) ≤ d * rndK kind n d - n ∧ d * rndK kind n d - n ≤ 0) ∧ (kind = 2 → -d < 2 * (d * rndK kind n d - n) ∧ 2 * (d * rndK kind n d - n) ≤ d) ∧ (kind = 3 → 0 ≤ d * rndK kind n d - n ∧ d * rndK kind n d - n ≤ d - 1) := by
  unfold rndK
  rcases (by omega : kind = 1 ∨ kind = 2 ∨ kind = 3) with rfl | rfl | rfl
  · refine ⟨fun _ => ?_, fun h => by omega, fun h => by omega⟩
    rw [if_pos rfl]
    have h1 := Int.mul_ediv_add_emod n d
    have h2 := Int.emod_nonneg n (show d ≠ 0 by omega)
    have h3 := Int.emod_lt_of_pos n (show 0 < d by omega)
    generalize d * (n / d) = p at *
    omega
  · refine ⟨fun h => by omega, fun _ => ?_, fun h => by omega⟩
    rw [if_neg (by omega), if_pos rfl]
    have h1 := Int.mul_ediv_add_emod (2 * n + d) (2 * d)
    have h2 := Int.emod_nonneg (2 * n + d) (show 2 * d ≠ 0 by omega)
    have h3 := Int.emod_lt_of_pos (2 * n + d) (show 0 < 2 * d by omega)
    rw [Int.mul_assoc] at h1
    generalize d * ((2 * n + d) / (2 * d)) = p at *
    omega
  · refine ⟨fun h => by omega, fun h => by omega, fun _ => ?_⟩
    rw [if_neg (by omega), if_neg (by omega)]
    have h1 := Int.mul_ediv_add_emod (n + d - 1) d
    have h2 := Int.emod_nonneg (n + d - 1) (show d ≠ 0 by omega)
    have h3 := Int.emod_lt_of_pos (n + d - 1) (show 0 < d by omega)
    generalize d * ((n + d - 1) / d) = p at *
    omega
theorem off_err {c : Cse} (hV : Valid c) {s : Scl} (hd : 1 ≤ s.2) (a b : Int) : absZ (s.2 * (cutH c s b - cutH c s a) - s.1 * (b - a)) ≤ s.2 - 1 := by
  unfold cutH
  have ka := rnd_err (n := (a - c.base) * s.1) ⟨hV.k1, hV.k3⟩ hd
  have kb := rnd_err (n := (b - c.base) * s.1) ⟨hV.k1, hV.k3⟩ hd
  have k1 := hV.k1
  have k3 := hV.k3
  have e : s.2 * (rndK c.kind ((b - c.base) * s.1) s.2 - rndK c.kind ((a - c.base) * s.1) s.2) - s.1 * (b - a) = (s.2 * rndK c.kind ((b - c.base) * s.1) s.2 - (b - c.base) * s.1) - (s.2 * rndK c.kind ((a - c.base) * s.1) s.2 - (a - c.base) * s.1) := by
    generalize rndK c.kind ((b - c.base) * s.1) s.2 = q
    generalize rndK c.kind ((a - c.base) * s.1) s.2 = p
    rw [Int.mul_sub, Int.mul_sub, Int.sub_mul, Int.sub_mul, Int.mul_comm s.1 b, Int.mul_comm s.1 a]
    omega
  rw [e]
  generalize s.2 * rndK c.kind ((b - c.base) * s.1) s.2 - (b - c.base) * s.1 = x at *
  generalize s.2 * rndK c.kind ((a - c.base) * s.1) s.2 - (a - c.base) * s.1 = y at *
  unfold absZ
  rcases (by omega : c.kind = 1 ∨ c.kind = 2 ∨ c.kind = 3) with h | h | h
  · have h1 := ka.1 h
    have h2 := kb.1 h
    omega
  · have h1 := ka.2.1 h
    have h2 := kb.2.1 h
    omega
  · have h1 := ka.2.2 h
    have h2 := kb.2.2 h
    omega
theorem at0_cut (c : Cse) (s : Scl) {i : Int} (h0 : 0 ≤ i) (h : i < c.hs.length) : at0 (cutsC c s) i = cutH c s (at0 c.hs i) := by
  unfold at0 cutsC
  have hi : i.toNat < c.hs.length := by omega
  simp [List.getD_eq_getElem?_getD, hi]
def mostB (s : Scl) (x : Int) : Int := if 0 < s.1 * absZ x then (1000 * (s.2 - 1) + s.1 * absZ x - 1) / (s.1 * absZ x) else 0
theorem off_bd {c : Cse} (hV : Valid c) {s : Scl} (hs : 1 ≤ s.1 ∧ 1 ≤ s.2) {r : Int × Int} (hr : RoadIn c r) : 0 ≤ offR c s r ∧ offR c s r ≤ mostB s (at0 c.hs r.2 - at0 c.hs r.1) := by
  unfold offR mostB
  rw [at0_cut c s hr.1 hr.2.1, at0_cut c s hr.2.2.1 hr.2.2.2]
  have he := off_err hV (s := s) hs.2 (at0 c.hs r.1) (at0 c.hs r.2)
  generalize s.2 * (cutH c s (at0 c.hs r.2) - cutH c s (at0 c.hs r.1)) = V at *
  generalize at0 c.hs r.2 - at0 c.hs r.1 = X at *
  have hB : absZ (s.1 * X) = s.1 * absZ X := absZ_mul X hs.1
  have hE : 0 ≤ absZ (V - s.1 * X) := by unfold absZ; omega
  by_cases h0 : s.1 * X = 0
  · rw [if_pos h0]
    have hz : s.1 * absZ X = 0 := by rw [← hB, h0]; rfl
    rw [hz, if_neg (by omega)]
    exact ⟨Int.le_refl _, Int.le_refl _⟩
  · rw [if_neg h0, hB]
    have hp : 0 < s.1 * absZ X := by rw [← hB]; unfold absZ; omega
    rw [if_pos hp]
    generalize s.1 * absZ X = B at *
    generalize absZ (V - s.1 * X) = E at *
    exact ⟨Int.ediv_nonneg (by omega) (by omega), Int.ediv_le_ediv hp (by omega)⟩
end Go.Proofs.Ythflbbjilebhlaa
