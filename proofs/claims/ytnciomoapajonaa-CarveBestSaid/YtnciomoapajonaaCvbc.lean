/- Package carve: the passes of each level, as runs; how many there are. -/
import Derived.Test.YtnciomoapajonaaCvy
set_option linter.unusedSimpArgs false
set_option linter.unusedVariables false
namespace Go.Proofs.Ytnciomoapajonaa
open Go Go.RowKit Cv

/-- How far a run goes on. -/
def runL (L : Int) : List Int → Nat
  | [] => 0
  | x :: l => if x ≤ L then 0 else runL L l + 1
/-- The runs above a level. -/
def lvlR (L : Int) : Bool → Nat → List Int → List (Int × Int)
  | _, _, [] => []
  | b, i, x :: l => if x ≤ L then lvlR L false (i + 1) l else if b then lvlR L true (i + 1) l else ((i : Int), (i : Int) + (runL L l : Int)) :: lvlR L true (i + 1) l
theorem drop_cons (d : List Int) (i : Nat) (h : i < d.length) : d.drop i = d.getD i 0 :: d.drop (i + 1) := by
  rw [List.drop_eq_getElem_cons h]
  simp [List.getD_eq_getElem?_getD, h]
theorem setLast_app (acc : List (Int × Int)) (x : Int × Int) (k : Int) : setLast (acc ++ [x]) k = acc ++ [(x.1, k)] := by
  unfold setLast
  have e : (acc ++ [x]).length - 1 = acc.length := by simp
  rw [e]
  simp [List.getD_eq_getElem?_getD]
theorem pass_fold (d : List Int) (L : Int) : ∀ (m i : Nat), i + m = d.length →
    (∀ acc, (i = 0 ∨ d.getD (i - 1) 0 ≤ L) → (List.range' i m).foldl (passStep d L) acc = acc ++ lvlR L false i (d.drop i)) ∧
    (∀ acc a, 0 < i → L < d.getD (i - 1) 0 → (List.range' i m).foldl (passStep d L) (acc ++ [(a, (i : Int) - 1)]) = acc ++ (a, (i : Int) - 1 + (runL L (d.drop i) : Int)) :: lvlR L true i (d.drop i)) := by
  intro m
  induction m with
  | zero =>
    intro i hi
    have e : d.drop i = [] := List.drop_of_length_le (by omega)
    rw [e]
    refine ⟨fun acc _ => by simp [lvlR], fun acc a _ _ => by simp [lvlR, runL]⟩
  | succ m ih =>
    intro i hi
    obtain ⟨A, B⟩ := ih (i + 1) (by omega)
    have hd := drop_cons d i (by omega)
    have hp : d.getD (i + 1 - 1) 0 = d.getD i 0 := by rw [Nat.add_sub_cancel]
    rw [hp] at A B
    refine ⟨fun acc h => ?_, fun acc a h0 h => ?_⟩
    · rw [List.range'_succ, List.foldl_cons, hd, lvlR]
      by_cases hx : d.getD i 0 ≤ L
      · rw [if_pos hx]
        have : passStep d L acc i = acc := by unfold passStep; rw [if_pos hx]
        rw [this]
        exact A acc (.inr hx)
      · rw [if_neg hx]
        have : passStep d L acc i = acc ++ [((i : Int), (i : Int))] := by
          unfold passStep
          rw [if_neg hx, if_neg (by rintro ⟨h1, h2⟩; omega)]
        rw [this]
        have := B acc (i : Int) (by omega) (by omega)
        rw [show ((i + 1 : Nat) : Int) - 1 = (i : Int) by omega] at this
        simp only [Bool.false_eq_true, if_false]
        rw [this]
    · rw [List.range'_succ, List.foldl_cons, hd, lvlR, runL]
      by_cases hx : d.getD i 0 ≤ L
      · rw [if_pos hx, if_pos hx]
        have : passStep d L (acc ++ [(a, (i : Int) - 1)]) i = acc ++ [(a, (i : Int) - 1)] := by unfold passStep; rw [if_pos hx]
        rw [this, A _ (.inr hx)]
        simp
      · rw [if_neg hx, if_neg hx]
        have : passStep d L (acc ++ [(a, (i : Int) - 1)]) i = acc ++ [(a, (i : Int))] := by
          unfold passStep
          rw [if_neg hx, if_pos ⟨h0, h⟩, setLast_app]
        rw [this]
        have := B acc a (by omega) (by omega)
        rw [show ((i + 1 : Nat) : Int) - 1 = (i : Int) by omega] at this
        rw [this]
        simp only [if_true]
        congr 3
        push_cast
        omega
theorem passIn_fold (d : List Int) (L : Int) (acc : List (Int × Int)) : ∀ k, passIn d L acc k = (List.range' 0 k).foldl (passStep d L) acc := by
  intro k
  induction k with
  | zero => rfl
  | succ k ih =>
    rw [List.range'_concat, List.foldl_append]
    simp only [List.foldl_cons, List.foldl_nil, Nat.one_mul, Nat.zero_add]
    rw [← ih]
    rfl
theorem passIn_lvl (d : List Int) (L : Int) (acc : List (Int × Int)) : passIn d L acc d.length = acc ++ lvlR L false 0 d := by
  rw [passIn_fold]
  have := (pass_fold d L d.length 0 (by omega)).1 acc (.inl rfl)
  simpa using this
/-- How many passes are begun behind a point. -/
def manyL : Int → List Int → Int
  | _, [] => 0
  | y, x :: l => max 0 (x - y) + manyL x l
def cntL (b : Int) (i : Nat) (l : List Int) : Nat → Int
  | 0 => 0
  | M + 1 => cntL b i l M + ((lvlR (M : Int) (decide ((M : Int) < b)) i l).length : Int)
theorem lvlR_len (L : Int) : ∀ (l : List Int) (b : Bool) (i j : Nat), (lvlR L b i l).length = (lvlR L b j l).length := by
  intro l
  induction l with
  | nil => intros; rfl
  | cons x l ih =>
    intro b i j
    unfold lvlR
    split
    · exact ih _ _ _
    · split
      · exact ih _ _ _
      · simp only [List.length_cons]; rw [ih true (i + 1) (j + 1)]
theorem cntL_cons (y x : Int) (i : Nat) (l : List Int) (hy : 0 ≤ y) (hx : 0 ≤ x) : ∀ M : Nat, cntL y i (x :: l) M = cntL x i l M + max 0 (min x M - min y M) := by
  intro M
  induction M with
  | zero => simp [cntL]; omega
  | succ M ih =>
    unfold cntL
    rw [ih, lvlR]
    by_cases h1 : x ≤ (M : Int)
    · rw [if_pos h1, lvlR_len _ l false (i + 1) i]
      rw [show decide ((M : Int) < x) = false by simp; omega]
      push_cast
      omega
    · rw [if_neg h1]
      rw [show decide ((M : Int) < x) = true by simp; omega]
      by_cases h2 : (M : Int) < y
      · rw [show decide ((M : Int) < y) = true by simpa using h2]
        simp only [if_true]
        rw [lvlR_len _ l true (i + 1) i]
        push_cast
        omega
      · rw [show decide ((M : Int) < y) = false by simpa using h2]
        simp only [Bool.false_eq_true, if_false, List.length_cons]
        rw [lvlR_len _ l true (i + 1) i]
        push_cast
        omega
theorem cntL_many : ∀ (l : List Int) (y : Int) (i M : Nat), 0 ≤ y → y ≤ M → (∀ x, x ∈ l → 0 ≤ x ∧ x ≤ M) → cntL y i l M = manyL y l := by
  intro l
  induction l with
  | nil =>
    intro y i M _ _ _
    induction M with
    | zero => rfl
    | succ M ih2 =>
      clear ih2
      suffices h : ∀ M, cntL y i [] M = 0 from h _
      intro M
      induction M with
      | zero => rfl
      | succ M ih => unfold cntL; rw [ih]; simp [lvlR]
  | cons x l ih =>
    intro y i M h1 h2 h3
    have hx := h3 x (by simp)
    rw [cntL_cons y x i l h1 hx.1, ih x i M hx.1 hx.2 fun z hz => h3 z (List.mem_cons_of_mem _ hz)]
    show _ = max 0 (x - y) + manyL x l
    omega
theorem passOut_len (d : List Int) : ∀ M : Nat, ((passOut d M).length : Int) = cntL 0 0 d M := by
  intro M
  induction M with
  | zero => rfl
  | succ M ih =>
    unfold passOut cntL
    rw [passIn_lvl, List.length_append]
    push_cast
    rw [ih, show decide ((M : Int) < 0) = false by simp]
theorem passOut_many (d : List Int) (M : Nat) (h : ∀ x, x ∈ d → 0 ≤ x ∧ x ≤ M) : ((passOut d M).length : Int) = manyL 0 d := by
  rw [passOut_len, cntL_many d 0 0 M (by omega) (by omega) h]
/-- Before the last level there are fewer. -/
theorem lvlR_ne (L : Int) : ∀ (l : List Int) (i : Nat), (∃ x, x ∈ l ∧ L < x) → 0 < (lvlR L false i l).length := by
  intro l
  induction l with
  | nil => rintro i ⟨x, h, _⟩; simp at h
  | cons y l ih =>
    rintro i ⟨x, h, hx⟩
    unfold lvlR
    by_cases hy : y ≤ L
    · rw [if_pos hy]
      rcases List.mem_cons.1 h with e | h
      · omega
      · exact ih _ ⟨x, h, hx⟩
    · rw [if_neg hy]
      simp
theorem passOut_lt (d : List Int) (M : Nat) (h : ∃ x, x ∈ d ∧ (M : Int) < x) : (passOut d M).length < (passOut d (M + 1)).length := by
  rw [show passOut d (M + 1) = passIn d (M : Int) (passOut d M) d.length from rfl, passIn_lvl, List.length_append]
  have := lvlR_ne (M : Int) d 0 h
  omega
theorem manyL_nonneg : ∀ (l : List Int) (y : Int), 0 ≤ manyL y l := by
  intro l
  induction l with
  | nil => intro y; simp [manyL]
  | cons x l ih => intro y; have := ih x; unfold manyL; omega
theorem manyL_bd : ∀ (l : List Int) (y : Int), 0 ≤ y → (∀ x, x ∈ l → 0 ≤ x ∧ x ≤ 9000) → manyL y l ≤ 9000 * (l.length : Int) := by
  intro l
  induction l with
  | nil => intro y _ _; simp [manyL]
  | cons x l ih =>
    intro y hy h
    have hx := h x (by simp)
    have := ih x hx.1 fun z hz => h z (List.mem_cons_of_mem _ hz)
    unfold manyL
    simp only [List.length_cons]
    push_cast
    omega
end Go.Proofs.Ytnciomoapajonaa
