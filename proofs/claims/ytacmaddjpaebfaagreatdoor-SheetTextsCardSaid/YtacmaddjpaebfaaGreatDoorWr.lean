/- Write of package sheet. -/
import Derived.Test.YtacmaddjpaebfaaGreatDoorWords
import Derived.Lib.ItoaLen
set_option linter.unusedSimpArgs false
set_option linter.unusedVariables false
namespace Go.Proofs.YtacmaddjpaebfaaGreatDoor
open Go Go.RowKit Hs

def wSheet : List UInt8 := [115, 104, 101, 101, 116]
def wPoint : List UInt8 := [112, 111, 105, 110, 116]
/-- The lines of points, and of notes. -/
def ptsT (pts : List ByteArray) : List UInt8 := pts.flatMap fun p => lineT [wPoint, p.data.toList]
def notesT (pts : List ByteArray) (l : List Note) : List UInt8 := l.flatMap fun x => lineT ((wordsB pts x).map (·.data.toList))
/-- The text of a sheet. -/
def writeT (s : Sheet) : List UInt8 := lineT [wSheet, Lib.itoa s.iv] ++ ptsT s.pts ++ notesT s.pts s.notes
def writeS (s : Sheet) : List UInt8 := if errS s = 0 then writeT s else []

theorem ptsT_succ (pts : List ByteArray) (k : Nat) (h : k < pts.length) : ptsT (pts.take (k + 1)) = ptsT (pts.take k) ++ lineT [wPoint, pts[k].data.toList] := by
  unfold ptsT
  rw [List.take_succ_eq_append_getElem h, List.flatMap_append]
  simp
theorem notesT_succ (pts : List ByteArray) (l : List Note) (k : Nat) (h : k < l.length) : notesT pts (l.take (k + 1)) = notesT pts (l.take k) ++ lineT ((wordsB pts l[k]).map (·.data.toList)) := by
  unfold notesT
  rw [List.take_succ_eq_append_getElem h, List.flatMap_append]
  simp
theorem join_len (xs : List (List UInt8)) (m : Nat) (h : ∀ x, x ∈ xs → x.length ≤ m) : (Lib.join xs [32]).length ≤ xs.length * (m + 1) := by
  unfold Lib.join
  induction xs with
  | nil => simp [List.intercalate]
  | cons x xs ih =>
    have h0 := h x (by simp)
    have ih' := ih (fun y hy => h y (by simp [hy]))
    cases xs with
    | nil => simp [List.intercalate] at *; omega
    | cons y ys =>
      have e : (List.intercalate [32] (x :: y :: ys)) = x ++ [32] ++ List.intercalate [32] (y :: ys) := by simp [List.intercalate, List.intersperse]
      rw [e]
      simp only [List.length_append, List.length_cons, List.length_nil, Nat.add_mul] at *
      omega
theorem lineT_len (xs : List (List UInt8)) (m : Nat) (h : ∀ x, x ∈ xs → x.length ≤ m) : (lineT xs).length ≤ xs.length * (m + 1) + 1 := by
  have := join_len xs m h
  unfold lineT
  simp
  exact this

theorem ptErr_name (l : List ByteArray) (k : Nat) (h : k < l.length) (he : ptErr l k = 0) : nameB l[k].data.toList = true := by
  unfold ptErr nameErr at he
  have hget : (byts l).getD k [] = l[k].data.toList := by simp [byts, List.getD_eq_getElem?_getD, h]
  rw [hget] at he
  cases hn : nameB l[k].data.toList
  · rw [if_pos hn] at he; cases he
  · rfl
theorem ValidS.name16 {s : Sheet} (h : ValidS s) : ∀ p, p ∈ s.pts → p.data.toList.length ≤ 16 := by
  intro p hp
  obtain ⟨k, hk, rfl⟩ := List.getElem_of_mem hp
  have := ptErr_name s.pts k hk (h.names k hk)
  unfold nameB at this
  rw [Bool.and_eq_true, Bool.and_eq_true] at this
  exact of_decide_eq_true this.1.2
/-- What a valid note says, plainly. -/
theorem ValidS.note {s : Sheet} (h : ValidS s) : ∀ x, x ∈ s.notes → (x.k = 1 ∨ x.k = 2 ∨ x.k = 3 ∨ x.k = 4) ∧ 0 ≤ x.a ∧ 0 ≤ x.b ∧ x.a < s.pts.length ∧ x.b < s.pts.length ∧ (-9000 ≤ x.lo ∧ x.lo ≤ 9000) ∧ (-9000 ≤ x.hi ∧ x.hi ≤ 9000) := by
  intro x hx
  obtain ⟨k, hk, rfl⟩ := List.getElem_of_mem hx
  have he := h.errs k hk
  have iv1 := h.iv1
  unfold ntErr at he
  rw [List.getElem?_eq_getElem hk] at he
  generalize s.notes[k] = n at he
  have he : noteErr s.iv s.pts.length n = 0 := he
  unfold noteErr at he
  split at he
  · cases he
  split at he
  · cases he
  split at he
  · cases he
  split at he
  · cases he
  rename_i h1 h2 h3 h4
  have hk : 1 ≤ n.k ∧ n.k ≤ 4 := by simpa [kindB] using h1
  have hab : (0 ≤ n.a ∧ n.a ≤ s.pts.length - 1) ∧ 0 ≤ n.b ∧ n.b ≤ s.pts.length - 1 := by have q := h2; simp [withinB] at q; omega
  have hlh : (endLo n ≤ n.lo ∧ n.lo ≤ endHi s.iv n) ∧ endLo n ≤ n.hi ∧ n.hi ≤ endHi s.iv n := by have q := h4; simp [withinB] at q; omega
  have e0 : -9000 ≤ endLo n := by unfold endLo; split <;> omega
  have e1 : endHi s.iv n ≤ 9000 := by
    unfold endHi
    split
    · have := Int.ediv_le_self (a := 9000) s.iv (by omega); omega
    · split <;> omega
  refine ⟨by omega, by omega, by omega, by omega, by omega, by omega, by omega⟩
theorem bs_toList (l : List UInt8) : (bs l).data.toList = l := rfl
theorem wordsB_len {s : Sheet} (h : ValidS s) (x : Note) (hx : x ∈ s.notes) : (wordsB s.pts x).length ≤ 5 ∧ ∀ y, y ∈ (wordsB s.pts x).map (·.data.toList) → y.length ≤ 25 := by
  obtain ⟨hk, a0, b0, ha, hb, hlo, hhi⟩ := h.note x hx
  have n16 := h.name16
  have l1 := Lib.itoa_length_le x.lo (by omega) (by omega)
  have l2 := Lib.itoa_length_le x.hi (by omega) (by omega)
  have na : (s.pts.getD x.a.toNat default).data.toList.length ≤ 16 := n16 _ (by rw [List.getD_eq_getElem?_getD, List.getElem?_eq_getElem (by omega)]; exact List.getElem_mem _)
  have nb : (s.pts.getD x.b.toNat default).data.toList.length ≤ 16 := n16 _ (by rw [List.getD_eq_getElem?_getD, List.getElem?_eq_getElem (by omega)]; exact List.getElem_mem _)
  have c1 : wContour.length ≤ 25 := by decide
  have c2 : wLake.length ≤ 25 := by decide
  have c3 : wSlope.length ≤ 25 := by decide
  have c4 : wSpot.length ≤ 25 := by decide
  rcases hk with e | e | e | e
  all_goals
    simp only [wordsB, e]
    refine ⟨by simp, ?_⟩
    intro y hy
    simp only [List.map_cons, List.map_nil, bs_toList, List.mem_cons, List.not_mem_nil, or_false, reduceIte, Int.reduceEq] at hy
    rcases hy with rfl | hy
    · assumption
    · first
      | (rcases hy with rfl | rfl <;> omega)
      | (rcases hy with rfl | rfl | rfl <;> omega)
      | (rcases hy with rfl | rfl | rfl | rfl <;> omega)
theorem ptsT_len (pts : List ByteArray) (h : ∀ p, p ∈ pts → p.data.toList.length ≤ 16) : (ptsT pts).length ≤ pts.length * 60 := by
  induction pts with
  | nil => simp [ptsT]
  | cons p l ih =>
    have ih' := ih (fun q hq => h q (by simp [hq]))
    have h0 := h p (by simp)
    have := lineT_len [wPoint, p.data.toList] 16 (by intro x hx; simp at hx; rcases hx with rfl | rfl; · decide
                                                     · exact h0)
    have e : ptsT (p :: l) = lineT [wPoint, p.data.toList] ++ ptsT l := by simp [ptsT]
    rw [e, List.length_append, List.length_cons, Nat.add_mul]
    simp only [List.length_cons, List.length_nil] at this
    omega
theorem notesT_len (pts : List ByteArray) (l : List Note) (h : ∀ x, x ∈ l → (wordsB pts x).length ≤ 5 ∧ ∀ y, y ∈ (wordsB pts x).map (·.data.toList) → y.length ≤ 25) : (notesT pts l).length ≤ l.length * 140 := by
  induction l with
  | nil => simp [notesT]
  | cons x l ih =>
    have ih' := ih (fun q hq => h q (by simp [hq]))
    obtain ⟨h0, h1⟩ := h x (by simp)
    have := lineT_len _ 25 h1
    rw [List.length_map] at this
    have e : notesT pts (x :: l) = lineT ((wordsB pts x).map (·.data.toList)) ++ notesT pts l := by simp [notesT]
    rw [e, List.length_append, List.length_cons, Nat.add_mul]
    omega
end Go.Proofs.YtacmaddjpaebfaaGreatDoor
