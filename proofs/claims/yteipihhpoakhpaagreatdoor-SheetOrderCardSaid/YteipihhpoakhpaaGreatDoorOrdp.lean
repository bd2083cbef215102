/- Notes in any other order, slopes said the other way round: the same truths, and so the same is told. -/
import Derived.Test.YteipihhpoakhpaaGreatDoorTurn
set_option linter.unusedSimpArgs false
set_option linter.unusedVariables false
namespace Go.Proofs.YteipihhpoakhpaaGreatDoor
open Go Go.RowKit Hs Dc

/-- A note, said the other way round if it is a slope and a number is odd. -/
def ordY (x : Note) (n : Nat) : Note := if x.k = 4 ∧ n % 2 = 1 then flip x else x
/-- The notes of the first k rounds, each put where a number says. -/
def ordL (notes : List Note) (f : Nat → Nat) : Nat → List Note
  | 0 => []
  | k + 1 => match notes[k]? with
    | some x => (ordL notes f k).take (f k / 2 % (k + 1)) ++ ordY x (f k) :: (ordL notes f k).drop (f k / 2 % (k + 1))
    | none => ordL notes f k
theorem ordL_len (notes : List Note) (f : Nat → Nat) : ∀ k, k ≤ notes.length → (ordL notes f k).length = k := by
  intro k
  induction k with
  | zero => intro _; rfl
  | succ k ih =>
    intro hk
    have := ih (by omega)
    rw [ordL, List.getElem?_eq_getElem (by omega)]
    simp only [List.length_append, List.length_cons, List.length_take, List.length_drop]
    omega
theorem ordL_mem (notes : List Note) (f : Nat → Nat) (z : Note) : ∀ k, k ≤ notes.length → (z ∈ ordL notes f k ↔ ∃ j, ∃ h : j < notes.length, j < k ∧ z = ordY notes[j] (f j)) := by
  intro k
  induction k with
  | zero => intro _; simp [ordL]
  | succ k ih =>
    intro hk
    rw [ordL, List.getElem?_eq_getElem (by omega)]
    have e : z ∈ (ordL notes f k).take (f k / 2 % (k + 1)) ++ ordY notes[k] (f k) :: (ordL notes f k).drop (f k / 2 % (k + 1)) ↔ z = ordY notes[k] (f k) ∨ z ∈ ordL notes f k := by
      conv => rhs; rw [← List.take_append_drop (f k / 2 % (k + 1)) (ordL notes f k)]
      simp only [List.mem_append, List.mem_cons]
      constructor
      · rintro (h | h | h)
        · exact .inr (.inl h)
        · exact .inl h
        · exact .inr (.inr h)
      · rintro (h | h | h)
        · exact .inr (.inl h)
        · exact .inl h
        · exact .inr (.inr h)
    simp only
    rw [e, ih (by omega)]
    constructor
    · rintro (h | ⟨j, h1, h2, h3⟩)
      · exact ⟨k, by omega, by omega, h⟩
      · exact ⟨j, h1, by omega, h3⟩
    · rintro ⟨j, h1, h2, h3⟩
      by_cases e' : j = k
      · subst e'; exact .inl h3
      · exact .inr ⟨j, h1, by omega, h3⟩
theorem NoteM_ordY (iv wd : Int) (x : Note) (n : Nat) (h : Nat → Int) : NoteM iv wd (ordY x n) h ↔ NoteM iv wd x h := by
  unfold ordY
  split
  · rename_i hc
    exact NoteM_flip iv wd x hc.1 h
  · exact Iff.rfl
/-- The truths are the same. -/
theorem ordL_truths (iv wd : Int) (notes : List Note) (f : Nat → Nat) (h : Nat → Int) : TrB (bdsL iv wd (ordL notes f notes.length)) h ↔ TrB (bdsL iv wd notes) h := by
  rw [TrB_notes, TrB_notes]
  refine and_congr_right fun _ => ?_
  constructor
  · intro hall n hn
    obtain ⟨j, hj, rfl⟩ := List.getElem_of_mem hn
    exact (NoteM_ordY iv wd _ (f j) h).1 (hall _ ((ordL_mem notes f _ _ (Nat.le_refl _)).2 ⟨j, hj, hj, rfl⟩))
  · intro hall z hz
    obtain ⟨j, hj, _, rfl⟩ := (ordL_mem notes f z _ (Nat.le_refl _)).1 hz
    exact (NoteM_ordY iv wd _ (f j) h).2 (hall _ (List.getElem_mem hj))
theorem flip_ok (iv np : Int) (x : Note) (hk : x.k = 4) (hp : np ≤ 8) (h : noteErr iv np x = 0) : noteErr iv np (flip x) = 0 := by
  obtain ⟨k, a, b, lo, hi⟩ := x
  simp only at hk
  subst hk
  unfold noteErr at h
  split at h
  · cases h
  split at h
  · cases h
  split at h
  · cases h
  split at h
  · cases h
  split at h
  · cases h
  rename_i h1 h2 h3 h4 h5
  simp [withinB, over, endLo, endHi] at h2 h3 h4 h5
  refine ne_0 _ _ _ rfl ?_ ?_ ?_ ?_
  · simp [withinB, flip]; omega
  · simp [over, flip]; omega
  · simp [withinB, flip, endLo, endHi]; omega
  · simp [flip]; omega
theorem ordS_valid {s : Sheet} (h : ValidS s) (f : Nat → Nat) : ValidS ⟨s.iv, s.pts, ordL s.notes f s.notes.length⟩ := by
  refine h.with_ (ordL s.notes f s.notes.length) (by rw [ordL_len _ _ _ (Nat.le_refl _)]; exact h.nn) (fun z hz => ?_)
  obtain ⟨j, hj, _, rfl⟩ := (ordL_mem s.notes f z _ (Nat.le_refl _)).1 hz
  have h0 := h.err0 _ (List.getElem_mem hj)
  unfold ordY
  split
  · rename_i hc
    exact flip_ok _ _ _ hc.1 (by have := h.np8; omega) h0
  · exact h0
/-- What is told of sheets with the same truths. -/
theorem told_same {s t : Sheet} (hs : ValidS s) (ht : ValidS t) (hiv : t.iv = s.iv) (hp : t.pts = s.pts) (h : ∀ wd x, TrB (bdsL t.iv wd t.notes) x ↔ TrB (bdsL s.iv wd s.notes) x) :
    measE t = measE s ∧ measM t = measM s ∧ heightS t = heightS s ∧ highS t = highS s ∧ ∀ r r', WidPost s r → WidPost t r' → r = r' := by
  have hf : fitB t.iv 0 t.notes = fitB s.iv 0 s.notes := fitB_ext (h 0)
  have hm : farM t.iv 0 t.notes = farM s.iv 0 s.notes := farM_ext (h 0)
  have e1 : measE t = measE s := by unfold measE; rw [errS_zero hs, errS_zero ht, hf]
  have e2 : measM t = measM s := by unfold measM; rw [errS_zero hs, errS_zero ht, hf, hm]
  refine ⟨e1, e2, by unfold heightS; rw [e2, hp], by unfold highS; rw [e1, e2, hp], fun r r' h1 h2 => ?_⟩
  unfold WidPost at h1 h2
  rw [errS_zero hs, if_pos rfl] at h1
  rw [errS_zero ht, if_pos rfl] at h2
  exact WidIs.unique (fun wd => (fitB_ext (h wd)).symm) h1 h2
end Go.Proofs.YteipihhpoakhpaaGreatDoor
