/- The comparison of two matrices of package sheet. -/
import Derived.Test.YtpjfljpkpifhbaaGreatDoorChain
import Derived.ChangeKeysEq
set_option linter.unusedSimpArgs false
set_option linter.unusedVariables false
namespace Go.Proofs.YtpjfljpkpifhbaaGreatDoor
open Go Go.RowKit

theorem eqItems_int (d : Nat) (p q : List Int) (w : World) : ∀ is : List Nat, (∀ i, i ∈ is → i < p.length ∧ i < q.length) →
    (Op.eqItems (d + 1) 3 1 (cs p) (cs q) is).run Tryz.prog w = .ok (is.all fun i => p[i]?.getD 0 == q[i]?.getD 0) w
  | [], _ => by simp [Op.eqItems]
  | i :: is, h => by
    obtain ⟨h1, h2⟩ := h i (by simp)
    have ih := eqItems_int d p q w is (fun j hj => h j (by simp [hj]))
    have pk : Tryz.prog.plainKey 3 = true := by kernel_rfl
    have e1 := run_part_plain (w := w) pk (off := i * 1) (by rw [Nat.mul_one]; exact cs_get p i h1)
    have e2 := run_part_plain (w := w) pk (off := i * 1) (by rw [Nat.mul_one]; exact cs_get q i h2)
    have e3 := run_equalIn_int (P := Tryz.prog) (w := w) d 3 .i64 .i64 (p.getD i 0) (q.getD i 0) Tryz.underlying3
    simp only [Op.eqItems, Sem.run_bind, e1, e2, e3, Result.andThen_ok]
    cases hb : (p.getD i 0 == q.getD i 0)
    · simp at hb
      simp [hb]
    · simp at hb
      simp [ih, hb]

theorem cs_extract (p : List Int) (a b : Nat) : (cs p).extract a (a + b) = cs ((p.drop a).take b) := by
  apply Array.ext'
  simp [cs, List.map_take, List.map_drop, List.extract]

theorem part_row (p : List Int) (i : Nat) (w : World) : (part 47 (cs p) (i * 9)).run Tryz.prog w = .ok (.agg (cs ((p.drop (i * 9)).take 9))) w := by
  obtain ⟨inf, hi⟩ := info_of_underlying Tryz.underlying47
  have hc : Tryz.prog.cellsOf 47 = 9 := by kernel_rfl
  have := run_sizeOf (w := w) hi
  rw [hc] at this
  simp [part, isAgg, run_underlying Tryz.underlying47, this, cs_extract]

theorem eqItems_row (d : Nat) (p q : List Int) (w : World) (hp : p.length = 81) (hq : q.length = 81) : ∀ is : List Nat, (∀ i, i ∈ is → i < 9) →
    (Op.eqItems (d + 2) 47 9 (cs p) (cs q) is).run Tryz.prog w = .ok (is.all fun i => decide ((p.drop (i * 9)).take 9 = (q.drop (i * 9)).take 9)) w
  | [], _ => by simp [Op.eqItems]
  | i :: is, h => by
    have hi9 := h i (by simp)
    have ih := eqItems_row d p q w hp hq is (fun j hj => h j (by simp [hj]))
    obtain ⟨inf, hinf⟩ := info_of_underlying Tryz.underlying3
    have l1 : ((p.drop (i * 9)).take 9).length = 9 := by simp; omega
    have l2 : ((q.drop (i * 9)).take 9).length = 9 := by simp; omega
    have hc : Tryz.prog.cellsOf 3 = 1 := by kernel_rfl
    have e3 : (Op.equalIn (d + 2) 47 (.agg (cs ((p.drop (i * 9)).take 9))) (.agg (cs ((q.drop (i * 9)).take 9)))).run Tryz.prog w = .ok (decide ((p.drop (i * 9)).take 9 = (q.drop (i * 9)).take 9)) w := by
      rw [run_equalIn_array (w := w) (d + 1) _ _ Tryz.underlying47 hinf, hc, eqItems_int d _ _ w (List.range 9) (by intro j hj; simp at hj; omega)]
      refine congrArg (fun b => Result.ok b w) ?_
      generalize (p.drop (i * 9)).take 9 = x at l1
      generalize (q.drop (i * 9)).take 9 = y at l2
      rw [Bool.eq_iff_iff, List.all_eq_true, decide_eq_true_iff]
      constructor
      · intro hall
        apply List.ext_getElem (by omega)
        intro n h1 h2
        have := hall n (by simp; omega)
        simpa [h1, h2] using this
      · intro e
        simp [e]
    simp only [Op.eqItems, Sem.run_bind, part_row, e3, Result.andThen_ok]
    cases hb : decide ((p.drop (i * 9)).take 9 = (q.drop (i * 9)).take 9)
    · simp at hb
      simp [hb]
    · simp at hb
      simp [ih, hb]

theorem eq_of_chunks (p q : List Int) (hp : p.length = 81) (hq : q.length = 81) (h : ∀ i, i < 9 → (p.drop (i * 9)).take 9 = (q.drop (i * 9)).take 9) : p = q := by
  apply List.ext_getElem (by omega)
  intro n h1 h2
  have hn := h (n / 9) (by omega)
  have := congrArg (fun l : List Int => l[n % 9]?) hn
  simp only [List.getElem?_take, List.getElem?_drop] at this
  have e : n / 9 * 9 + n % 9 = n := by omega
  rw [if_pos (by omega), if_pos (by omega), e] at this
  simpa [h1, h2] using this

theorem far_eql (p q : List Int) (hp : p.length = 81) (hq : q.length = 81) (w : World) :
    (Op.equalIn 10000 49 (.agg (cs p)) (.agg (cs q))).run Tryz.prog w = .ok (decide (p = q)) w := by
  obtain ⟨inf, hinf⟩ := info_of_underlying Tryz.underlying47
  have hc : Tryz.prog.cellsOf 47 = 9 := by kernel_rfl
  rw [run_equalIn_array (w := w) 9999 _ _ Tryz.underlying49 hinf, hc, eqItems_row 9997 p q w hp hq (List.range 9) (by intro j hj; simpa using hj)]
  refine congrArg (fun b => Result.ok b w) ?_
  rw [Bool.eq_iff_iff, List.all_eq_true, decide_eq_true_iff]
  constructor
  · intro h
    exact eq_of_chunks p q hp hq (fun i hi => by simpa using h i (by simpa using hi))
  · intro e
    simp [e]
end Go.Proofs.YtpjfljpkpifhbaaGreatDoor
