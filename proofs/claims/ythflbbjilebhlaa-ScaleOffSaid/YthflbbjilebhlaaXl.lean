/- What Greatest and Least find, said of any scale. No program is named here. -/
import Derived.Test.YthflbbjilebhlaaYg
set_option linter.unusedSimpArgs false
set_option linter.unusedVariables false
namespace Go.Proofs.Ythflbbjilebhlaa
open Go Sc

theorem less_as {a b : Scl} (h1 : lessS a b = true) (h2 : lessS b a = true) : False := by
  unfold lessS at h1 h2
  simp only [decide_eq_true_eq] at h1 h2
  omega
/-- In a list that is ordered what goes ahead of the first that is so is not so. -/
theorem first_less {R : Scl → Scl → Bool} (has : ∀ a b, R a b = true → R b a = true → False) {L : List Scl} {P : Scl → Bool} (hs : L.Pairwise fun a b => R a b = true) {s t : Scl} (h : L.find? P = some s) (ht : t ∈ L) (hr : R t s = true) : P t = false := by
  obtain ⟨_, l1, l2, rfl, ha⟩ := List.find?_eq_some_iff_append.1 h
  rcases List.mem_append.1 ht with q | q
  · simpa using ha t q
  · rcases List.mem_cons.1 q with rfl | q
    · exact (has _ _ hr hr).elim
    · have h2 := (List.pairwise_append.1 hs).2.1
      exact (has _ _ hr ((List.pairwise_cons.1 h2).1 t q)).elim
def lstP (c : Cse) (s : Scl) : Bool := fitsB c s && decide ((flatsC c s).length = 0)
def grtP (c : Cse) (n : Int) (s : Scl) : Bool := fitsB c s && decide (worstC c s ≤ n)
theorem least_eq (c : Cse) : leastF c = asc.find? (lstP c) := by
  unfold leastF fitL
  rw [List.find?_filter]
  congr 1
  funext s
  unfold lstP
  have h := flats_seen c s
  by_cases hx : (flatsC c s).length = 0
  · simp [hx, h.1 hx]
  · have e : seenB c s = false := by
      cases e : seenB c s
      · rfl
      · exact absurd (h.2 e) hx
    simp [hx, e]
theorem great_eq (c : Cse) (n : Int) (hn : 0 ≤ n) : greatF c n = desc.find? (grtP c n) := by
  unfold greatF fitL
  rw [List.find?_filter]
  congr 1
  funext s
  unfold grtP
  rw [worst_ok c s n hn]
  cases fitsB c s <;> cases okB c n s <;> rfl
theorem desc_all (s : Scl) (h : sclE s = 0) : s ∈ desc := by rw [desc_rev]; exact List.mem_reverse.2 (asc_all s h)
theorem least_no {c : Cse} (h : leastF c = none) {t : Scl} (ht : sclE t = 0) : lstP c t = false := by
  rw [least_eq] at h
  simpa using List.find?_eq_none.1 h t (asc_all t ht)
theorem great_no {c : Cse} {n : Int} (hn : 0 ≤ n) (h : greatF c n = none) {t : Scl} (ht : sclE t = 0) : grtP c n t = false := by
  rw [great_eq c n hn] at h
  simpa using List.find?_eq_none.1 h t (desc_all t ht)
theorem least_yes {c : Cse} {s : Scl} (h : leastF c = some s) : sclE s = 0 ∧ lstP c s = true ∧ ∀ t, sclE t = 0 → lessS t s = true → lstP c t = false := by
  rw [least_eq] at h
  exact ⟨asc_ok s (List.mem_of_find?_eq_some h), List.find?_some h, fun t ht hr => first_less (fun a b => less_as) asc_sorted h (asc_all t ht) hr⟩
theorem great_yes {c : Cse} {n : Int} (hn : 0 ≤ n) {s : Scl} (h : greatF c n = some s) : sclE s = 0 ∧ grtP c n s = true ∧ ∀ t, sclE t = 0 → lessS s t = true → grtP c n t = false := by
  rw [great_eq c n hn] at h
  have hm := List.mem_of_find?_eq_some h
  rw [desc_rev, List.mem_reverse] at hm
  exact ⟨asc_ok s hm, List.find?_some h, fun t ht hr => first_less (R := fun a b => lessS b a) (fun a b h1 h2 => less_as h1 h2) desc_sorted h (desc_all t ht) hr⟩
theorem lstP_no {c : Cse} {t : Scl} (h : lstP c t = false) : fitsB c t = false ∨ (fitsB c t = true ∧ (flatsC c t).length ≠ 0) := by
  unfold lstP at h
  cases hf : fitsB c t
  · exact .inl rfl
  · rw [hf] at h
    simp only [Bool.true_and, decide_eq_false_iff_not] at h
    exact .inr ⟨rfl, h⟩
theorem grtP_no {c : Cse} {n : Int} {t : Scl} (h : grtP c n t = false) : fitsB c t = false ∨ (fitsB c t = true ∧ n < worstC c t) := by
  unfold grtP at h
  cases hf : fitsB c t
  · exact .inl rfl
  · rw [hf] at h
    simp only [Bool.true_and, decide_eq_false_iff_not] at h
    exact .inr ⟨rfl, by omega⟩
theorem scl4 {s : Scl} (h : sclE s = 0) : 0 ≤ s.1 ∧ s.1 ≤ 30 ∧ 0 ≤ s.2 ∧ s.2 ≤ 30 := by
  have q := sclE_zero h
  exact ⟨by omega, q.2.1, by omega, q.2.2.2.1⟩
theorem ask_zero {c : Cse} {s : Scl} (h : errC c = 0) (hs : sclE s = 0) : askE c s = 0 := by unfold askE; simp [h, hs]
end Go.Proofs.Ythflbbjilebhlaa
