/- Rows of boards as plain data: sweeps, what a row needs. No program is named here. -/
namespace Cv
/-- A point of a row. -/
structure Pt where
  bd : Int
  lo : Int
  hi : Int
  deriving DecidableEq, Inhabited
/-- A row. -/
structure Row where
  st : Int
  pts : List Pt

/-! ## Sweeps: what neighbours may differ by -/
def fwd (st : Int) : Int → List Int → List Int
  | _, [] => []
  | x, y :: l => max y (x - st) :: fwd st (max y (x - st)) l
def sweep (st : Int) : List Int → List Int
  | [] => []
  | x :: l => x :: fwd st x l
theorem fwd_length (st : Int) : ∀ (l : List Int) (x : Int), (fwd st x l).length = l.length := by
  intro l
  induction l with
  | nil => intro x; rfl
  | cons y l ih => intro x; simp [fwd, ih]
theorem sweep_length (st : Int) (l : List Int) : (sweep st l).length = l.length := by
  cases l with
  | nil => rfl
  | cons x l => simp [sweep, fwd_length]
theorem fwd_get (st : Int) : ∀ (l : List Int) (x : Int) (i : Nat) (h : i < l.length), (x :: fwd st x l).getD (i + 1) 0 = max (l[i]) ((x :: fwd st x l).getD i 0 - st) := by
  intro l
  induction l with
  | nil => intro x i h; simp at h
  | cons y l ih =>
    intro x i h
    cases i with
    | zero => simp [fwd]
    | succ i =>
      have := ih (max y (x - st)) i (by simpa using h)
      simpa [fwd] using this
theorem sweep_zero (st : Int) (l : List Int) : (sweep st l).getD 0 0 = l.getD 0 0 := by cases l <;> simp [sweep]
theorem sweep_succ (st : Int) (l : List Int) (i : Nat) (h : i + 1 < l.length) : (sweep st l).getD (i + 1) 0 = max (l.getD (i + 1) 0) ((sweep st l).getD i 0 - st) := by
  cases l with
  | nil => simp at h
  | cons x l =>
    have hi : i < l.length := by simpa using h
    have := fwd_get st l x i hi
    unfold sweep
    rw [this]
    simp [List.getD_eq_getElem?_getD, hi]
/-- Swept from both sides. -/
def low (st : Int) (l : List Int) : List Int := (sweep st (sweep st l).reverse).reverse
theorem low_length (st : Int) (l : List Int) : (low st l).length = l.length := by simp [low, sweep_length]
theorem rev_getD (l : List Int) (i : Nat) (h : i < l.length) : l.reverse.getD i 0 = l.getD (l.length - 1 - i) 0 := by
  have h2 : l.length - 1 - i < l.length := by omega
  rw [List.getD_eq_getElem?_getD, List.getD_eq_getElem?_getD, List.getElem?_reverse h]
theorem low_last (st : Int) (l : List Int) (h : 0 < l.length) : (low st l).getD (l.length - 1) 0 = (sweep st l).getD (l.length - 1) 0 := by
  unfold low
  rw [rev_getD _ _ (by rw [sweep_length, List.length_reverse, sweep_length]; omega)]
  rw [sweep_length, List.length_reverse, sweep_length, Nat.sub_self, sweep_zero, rev_getD _ _ (by rw [sweep_length]; exact h), sweep_length, Nat.sub_zero]
theorem low_step (st : Int) (l : List Int) (i : Nat) (h : i + 1 < l.length) : (low st l).getD i 0 = max ((sweep st l).getD i 0) ((low st l).getD (i + 1) 0 - st) := by
  have hl : (sweep st (sweep st l).reverse).length = l.length := by rw [sweep_length, List.length_reverse, sweep_length]
  unfold low
  rw [rev_getD _ i (by omega), rev_getD _ (i + 1) (by omega), hl]
  obtain ⟨j, hj⟩ : ∃ j, l.length - 1 - i = j + 1 := ⟨l.length - 2 - i, by omega⟩
  have hj2 : l.length - 1 - (i + 1) = j := by omega
  rw [hj, hj2, sweep_succ _ _ j (by rw [List.length_reverse, sweep_length]; omega), rev_getD _ (j + 1) (by rw [sweep_length]; omega), sweep_length]
  have : l.length - 1 - (j + 1) = i := by omega
  rw [this]

/-- The least heights that are not below others, and no neighbours of which differ by more. -/
structure IsLow (n : Nat) (st : Int) (lo g : Nat → Int) : Prop where
  ge : ∀ i, i < n → lo i ≤ g i
  up : ∀ i, i + 1 < n → g i - st ≤ g (i + 1)
  dn : ∀ i, i + 1 < n → g (i + 1) - st ≤ g i
  least : ∀ h : Nat → Int, (∀ i, i < n → lo i ≤ h i) → (∀ i, i + 1 < n → h i - st ≤ h (i + 1)) → (∀ i, i + 1 < n → h (i + 1) - st ≤ h i) → ∀ i, i < n → g i ≤ h i
theorem IsLow.one {n : Nat} {st : Int} {lo g g' : Nat → Int} (h : IsLow n st lo g) (h' : IsLow n st lo g') : ∀ i, i < n → g i = g' i := fun i hi => by
  have a := h.least g' h'.ge h'.up h'.dn i hi
  have b := h'.least g h.ge h.up h.dn i hi
  omega
theorem low_is (st : Int) (hst : 0 ≤ st) (l : List Int) : IsLow l.length st (fun i => l.getD i 0) (fun i => (low st l).getD i 0) := by
  have F0 : ∀ i, i < l.length → l.getD i 0 ≤ (sweep st l).getD i 0 := fun i hi => by
    cases i with
    | zero => rw [sweep_zero]; omega
    | succ i => rw [sweep_succ st l i hi]; omega
  have F1 : ∀ i, i < l.length → (sweep st l).getD i 0 ≤ (low st l).getD i 0 := fun i hi => by
    by_cases h : i + 1 < l.length
    · rw [low_step st l i h]; omega
    · have e : i = l.length - 1 := by omega
      rw [e, low_last st l (by omega)]
      exact Int.le_refl _
  refine ⟨fun i hi => Int.le_trans (F0 i hi) (F1 i hi), fun i hi => ?_, fun i hi => ?_, ?_⟩
  · show (low st l).getD i 0 - st ≤ (low st l).getD (i + 1) 0
    have a := low_step st l i hi
    have b := F1 (i + 1) hi
    have c := sweep_succ st l i hi
    rw [a]
    omega
  · show (low st l).getD (i + 1) 0 - st ≤ (low st l).getD i 0
    rw [low_step st l i hi]
    omega
  · intro h h1 h2 h3
    have FH : ∀ i, i < l.length → (sweep st l).getD i 0 ≤ h i := by
      intro i
      induction i with
      | zero => intro hi; rw [sweep_zero]; exact h1 0 hi
      | succ i ih =>
        intro hi
        rw [sweep_succ st l i hi]
        have a := ih (by omega)
        have b : l.getD (i + 1) 0 ≤ h (i + 1) := h1 (i + 1) hi
        have c := h2 i hi
        omega
    have key : ∀ k i, i + k + 1 = l.length → (low st l).getD i 0 ≤ h i := by
      intro k
      induction k with
      | zero =>
        intro i hi
        have e : i = l.length - 1 := by omega
        have := FH i (by omega)
        rw [e, low_last st l (by omega), ← e]
        exact this
      | succ k ih =>
        intro i hi
        have a := ih (i + 1) (by omega)
        have b := FH i (by omega)
        have c := h3 i (by omega)
        rw [low_step st l i (by omega)]
        omega
    intro i hi
    exact key (l.length - 1 - i) i (by omega)

/-- How far two points are apart. -/
def steps (a b : Nat) : Int := max ((a : Int) - b) (b - a)
theorem steps_nonneg (a b : Nat) : 0 ≤ steps a b := by unfold steps; omega
theorem steps_self (a : Nat) : steps a a = 0 := by unfold steps; omega
theorem steps_comm (a b : Nat) : steps a b = steps b a := by unfold steps; omega
theorem steps_succ_r (a b : Nat) : steps a (b + 1) ≤ steps a b + 1 := by unfold steps; omega
theorem steps_succ_l (a b : Nat) : steps a b ≤ steps a (b + 1) + 1 := by unfold steps; omega
theorem mul_steps {st : Int} (hst : 0 ≤ st) {x y : Int} (h : x ≤ y + 1) : st * x ≤ st * y + st := by
  have := Int.mul_le_mul_of_nonneg_left h hst
  rw [Int.mul_add, Int.mul_one] at this
  exact this
/-- The greatest of what each point asks at one. -/
def asks (st : Int) (n : Nat) (lo : Nat → Int) (i : Nat) : Nat → Int
  | 0 => lo i
  | k + 1 => max (asks st n lo i k) (lo k - st * steps i k)
theorem asks_ge (st : Int) (n : Nat) (lo : Nat → Int) (i : Nat) : ∀ k j, j < k → lo j - st * steps i j ≤ asks st n lo i k := by
  intro k
  induction k with
  | zero => intro j h; omega
  | succ k ih =>
    intro j h
    unfold asks
    by_cases e : j = k
    · subst e; omega
    · have := ih j (by omega); omega
theorem asks_le (st : Int) (n : Nat) (lo : Nat → Int) (i : Nat) (x : Int) (h0 : lo i ≤ x) : ∀ k, (∀ j, j < k → lo j - st * steps i j ≤ x) → asks st n lo i k ≤ x := by
  intro k
  induction k with
  | zero => intro _; exact h0
  | succ k ih =>
    intro h
    unfold asks
    have a := ih (fun j hj => h j (by omega))
    have b := h k (by omega)
    omega
theorem asks_is (st : Int) (hst : 0 ≤ st) (n : Nat) (lo : Nat → Int) : IsLow n st lo (fun i => asks st n lo i n) := by
  refine ⟨fun i hi => ?_, fun i hi => ?_, fun i hi => ?_, ?_⟩
  · have := asks_ge st n lo i n i hi
    rw [steps_self, Int.mul_zero] at this
    show lo i ≤ asks st n lo i n
    omega
  · show asks st n lo i n - st ≤ asks st n lo (i + 1) n
    have : asks st n lo i n ≤ asks st n lo (i + 1) n + st := by
      refine asks_le st n lo i _ ?_ n fun j hj => ?_
      · have a := asks_ge st n lo (i + 1) n i (by omega)
        have e : steps (i + 1) i = 1 := by unfold steps; omega
        rw [e, Int.mul_one] at a
        omega
      · have a := asks_ge st n lo (i + 1) n j hj
        have b := mul_steps hst (show steps (i + 1) j ≤ steps i j + 1 by rw [steps_comm, steps_comm i]; exact steps_succ_r j i)
        omega
    omega
  · show asks st n lo (i + 1) n - st ≤ asks st n lo i n
    have : asks st n lo (i + 1) n ≤ asks st n lo i n + st := by
      refine asks_le st n lo (i + 1) _ ?_ n fun j hj => ?_
      · have a := asks_ge st n lo i n (i + 1) hi
        have e : steps i (i + 1) = 1 := by unfold steps; omega
        rw [e, Int.mul_one] at a
        omega
      · have a := asks_ge st n lo i n j hj
        have b := mul_steps hst (show steps i j ≤ steps (i + 1) j + 1 by rw [steps_comm, steps_comm (i + 1)]; exact steps_succ_l j i)
        omega
    omega
  · intro h h1 h2 h3 i hi
    have U : ∀ d j, j + d < n → h j ≤ h (j + d) + st * d := by
      intro d
      induction d with
      | zero => intro j _; simp
      | succ d ih =>
        intro j hj
        have a := ih j (by omega)
        have b := h2 (j + d) (by omega)
        have e : st * ((d + 1 : Nat) : Int) = st * d + st := by rw [Int.natCast_add, Int.mul_add]; simp
        rw [e]
        have : j + (d + 1) = j + d + 1 := by omega
        rw [this]
        omega
    have D : ∀ d j, j + d < n → h (j + d) ≤ h j + st * d := by
      intro d
      induction d with
      | zero => intro j _; simp
      | succ d ih =>
        intro j hj
        have a := ih j (by omega)
        have b := h3 (j + d) (by omega)
        have e : st * ((d + 1 : Nat) : Int) = st * d + st := by rw [Int.natCast_add, Int.mul_add]; simp
        rw [e]
        have : j + (d + 1) = j + d + 1 := by omega
        rw [this]
        omega
    refine asks_le st n lo i _ (h1 i hi) n fun j hj => ?_
    have a := h1 j hj
    by_cases hij : j ≤ i
    · have b := U (i - j) j (by omega)
      have e : j + (i - j) = i := by omega
      have e2 : steps i j = ((i - j : Nat) : Int) := by unfold steps; omega
      rw [e] at b
      rw [e2]
      omega
    · have b := D (j - i) i (by omega)
      have e : i + (j - i) = j := by omega
      have e2 : steps i j = ((j - i : Nat) : Int) := by unfold steps; omega
      rw [e] at b
      rw [e2]
      omega
/-- Swept from both sides is what each point asks. -/
theorem low_asks (st : Int) (hst : 0 ≤ st) (l : List Int) (i : Nat) (hi : i < l.length) : (low st l).getD i 0 = asks st l.length (fun i => l.getD i 0) i l.length :=
  (low_is st hst l).one (asks_is st hst l.length _) i hi

/-! ## Where some surface is good -/
theorem mul_le_steps {st : Int} (hst : 0 ≤ st) {x y : Int} (h : x ≤ y) : st * x ≤ st * y := Int.mul_le_mul_of_nonneg_left h hst
theorem steps_tri (i j k : Nat) : steps j k ≤ steps i j + steps i k := by unfold steps; omega
/-- The highest of good surfaces. -/
def high (st : Int) (l : List Int) : List Int := (low st (l.map fun x => -x)).map fun x => -x
theorem high_length (st : Int) (l : List Int) : (high st l).length = l.length := by simp [high, low_length]
theorem neg_getD (l : List Int) (i : Nat) : (l.map fun x => -x).getD i 0 = -(l.getD i 0) := by
  simp [List.getD_eq_getElem?_getD]
  cases l[i]? <;> simp
theorem high_asks (st : Int) (hst : 0 ≤ st) (l : List Int) (i : Nat) (hi : i < l.length) : (high st l).getD i 0 = -(asks st l.length (fun i => -(l.getD i 0)) i l.length) := by
  unfold high
  rw [neg_getD, low_asks st hst (l.map fun x => -x) i (by simpa using hi)]
  simp only [List.length_map, neg_getD]
/-- No two points are too far apart. -/
def Fits (n : Nat) (st : Int) (lo hi : Nat → Int) : Prop := ∀ a b, a < n → b < n → lo a ≤ hi b + st * steps a b
theorem fits_iff (n : Nat) (st : Int) (hst : 0 ≤ st) (lo hi : Nat → Int) :
    (∀ i, i < n → asks st n lo i n ≤ -(asks st n (fun i => -(hi i)) i n)) ↔ Fits n st lo hi := by
  constructor
  · intro h a b ha hb
    have h1 := h a ha
    have h2 := (asks_is st hst n lo).ge a ha
    have h3 := asks_ge st n (fun i => -(hi i)) a n b hb
    omega
  · intro h i hi'
    refine asks_le st n lo i _ ?_ n fun j hj => ?_
    · have : asks st n (fun i => -(hi i)) i n ≤ -(lo i) := by
        refine asks_le st n _ i _ ?_ n fun k hk => ?_
        · have := h i i hi' hi'
          rw [steps_self, Int.mul_zero] at this
          show -(hi i) ≤ -(lo i)
          omega
        · have := h i k hi' hk
          show -(hi k) - st * steps i k ≤ -(lo i)
          omega
      omega
    · have : asks st n (fun i => -(hi i)) i n ≤ -(lo j - st * steps i j) := by
        refine asks_le st n _ i _ ?_ n fun k hk => ?_
        · have := h j i hj hi'
          rw [steps_comm j i] at this
          show -(hi i) ≤ -(lo j - st * steps i j)
          omega
        · have a := h j k hj hk
          have b := mul_le_steps hst (steps_tri i j k)
          rw [Int.mul_add] at b
          show -(hi k) - st * steps i k ≤ -(lo j - st * steps i j)
          omega
      omega
/-- A good surface. -/
structure Good (n : Nat) (st : Int) (lo hi s : Nat → Int) : Prop where
  ge : ∀ i, i < n → lo i ≤ s i
  le : ∀ i, i < n → s i ≤ hi i
  up : ∀ i, i + 1 < n → s i - st ≤ s (i + 1)
  dn : ∀ i, i + 1 < n → s (i + 1) - st ≤ s i
theorem Good.low {n : Nat} {st : Int} {lo hi s g : Nat → Int} (h : Good n st lo hi s) (hg : IsLow n st lo g) : ∀ i, i < n → g i ≤ s i := hg.least s h.ge h.up h.dn
theorem Good.high {n : Nat} {st : Int} {lo hi s g : Nat → Int} (h : Good n st lo hi s) (hg : IsLow n st (fun i => -(hi i)) (fun i => -(g i))) : ∀ i, i < n → s i ≤ g i := fun i hi' => by
  have := hg.least (fun i => -(s i)) (fun i hq => by have := h.le i hq; show -(hi _) ≤ -(s _); omega) (fun i hi => by have := h.dn i hi; show -(s _) - st ≤ -(s _); omega) (fun i hi => by have := h.up i hi; show -(s _) - st ≤ -(s _); omega) i hi'
  omega
theorem low_good {n : Nat} {st : Int} {lo hi g k : Nat → Int} (hg : IsLow n st lo g) (hk : IsLow n st (fun i => -(hi i)) (fun i => -(k i))) (h : ∀ i, i < n → g i ≤ k i) : Good n st lo hi g :=
  ⟨hg.ge, fun i hi' => by have a := h i hi'; have b := hk.ge i hi'; omega, hg.up, hg.dn⟩
theorem high_good {n : Nat} {st : Int} {lo hi g k : Nat → Int} (hg : IsLow n st lo g) (hk : IsLow n st (fun i => -(hi i)) (fun i => -(k i))) (h : ∀ i, i < n → g i ≤ k i) : Good n st lo hi k :=
  ⟨fun i hi' => by have a := h i hi'; have b := hg.ge i hi'; omega, fun i hi' => by have b := hk.ge i hi'; omega, fun i hi' => by have := hk.dn i hi'; omega, fun i hi' => by have := hk.up i hi'; omega⟩
/-- With just one of the heights between at a point some surface is good still. -/
theorem fits_at {n : Nat} {st : Int} {lo hi : Nat → Int} (h : Fits n st lo hi) {p : Nat} (hp : p < n) {v : Int} (h1 : asks st n lo p n ≤ v) (h2 : v ≤ -(asks st n (fun i => -(hi i)) p n)) :
    Fits n st (fun i => if i = p then v else lo i) (fun i => if i = p then v else hi i) := by
  intro a b ha hb
  simp only
  by_cases e : a = p <;> by_cases f : b = p
  · subst e; subst f; rw [if_pos rfl, if_pos rfl, steps_self, Int.mul_zero]; omega
  · subst e
    rw [if_pos rfl, if_neg f]
    have := asks_ge st n (fun i => -(hi i)) a n b hb
    omega
  · subst f
    rw [if_pos rfl, if_neg e]
    have := asks_ge st n lo b n a ha
    rw [steps_comm] at this
    omega
  · rw [if_neg e, if_neg f]; exact h a b ha hb
/-- With a surface that is good no two points are too far apart. -/
theorem Good.fits {n : Nat} {st : Int} (hst : 0 ≤ st) {lo hi s : Nat → Int} (h : Good n st lo hi s) : Fits n st lo hi := by
  refine (fits_iff n st hst lo hi).1 fun i hi' => ?_
  have a := h.low (asks_is st hst n lo) i hi'
  have b := h.high (g := fun i => -(asks st n (fun i => -(hi i)) i n)) (by simpa using asks_is st hst n (fun i => -(hi i))) i hi'
  omega

/-! ## How steep a row has to be -/
/-- By how much two points differ at least. -/
def far (lo hi : Nat → Int) (a b : Nat) : Int := max 0 (max (lo a - hi b) (lo b - hi a))
/-- What two points need: their difference for each step, rounded up. -/
def need2 (lo hi : Nat → Int) (a b : Nat) : Int := (far lo hi a b + (b - a : Int) - 1) / (b - a)
theorem need2_le {lo hi : Nat → Int} {a b : Nat} (h : a < b) (x : Int) : need2 lo hi a b ≤ x ↔ far lo hi a b ≤ x * ((b : Int) - a) := by
  have hp : 0 < (b : Int) - a := by omega
  unfold need2
  generalize far lo hi a b = f
  generalize (b : Int) - a = d at *
  have e1 := Int.emod_add_mul_ediv (f + d - 1) d
  have e2 := Int.emod_nonneg (f + d - 1) (show d ≠ 0 by omega)
  have e3 := Int.emod_lt_of_pos (f + d - 1) hp
  constructor
  · intro hx
    have := Int.mul_le_mul_of_nonneg_left hx (show 0 ≤ d by omega)
    rw [Int.mul_comm x d]
    omega
  · intro hx
    apply Int.le_of_lt_add_one
    apply Int.lt_of_mul_lt_mul_left (a := d) _ (by omega)
    rw [Int.mul_add, Int.mul_one, Int.mul_comm d x]
    omega
theorem far_le {lo hi : Nat → Int} {a b : Nat} {x : Int} (hx : 0 ≤ x) : far lo hi a b ≤ x ↔ lo a ≤ hi b + x ∧ lo b ≤ hi a + x := by unfold far; omega
/-- What a row needs, up to a point. -/
def needTo (lo hi : Nat → Int) (b : Nat) : Nat → Int → Int
  | 0, x => x
  | k + 1, x => needTo lo hi b k (max x (need2 lo hi k b))
def needAll (lo hi : Nat → Int) : Nat → Int
  | 0 => 0
  | n + 1 => needTo lo hi n n (needAll lo hi n)
theorem needTo_le (lo hi : Nat → Int) (b : Nat) (y : Int) : ∀ k x, needTo lo hi b k x ≤ y ↔ x ≤ y ∧ ∀ a, a < k → need2 lo hi a b ≤ y := by
  intro k
  induction k with
  | zero => intro x; simp [needTo]
  | succ k ih =>
    intro x
    unfold needTo
    rw [ih]
    constructor
    · rintro ⟨h1, h2⟩
      refine ⟨by omega, fun a ha => ?_⟩
      by_cases e : a = k
      · subst e; omega
      · exact h2 a (by omega)
    · rintro ⟨h1, h2⟩
      have := h2 k (by omega)
      exact ⟨by omega, fun a ha => h2 a (by omega)⟩
theorem needAll_le (lo hi : Nat → Int) (y : Int) (hy : 0 ≤ y) : ∀ n, needAll lo hi n ≤ y ↔ ∀ a b, a < b → b < n → need2 lo hi a b ≤ y := by
  intro n
  induction n with
  | zero => simp [needAll]; exact hy
  | succ n ih =>
    unfold needAll
    rw [needTo_le, ih]
    constructor
    · rintro ⟨h1, h2⟩ a b hab hb
      by_cases e : b = n
      · subst e; exact h2 a hab
      · exact h1 a b hab (by omega)
    · intro h
      exact ⟨fun a b hab hb => h a b hab (by omega), fun a ha => h a n ha (by omega)⟩
/-- A row fits just with what it needs, or more. -/
theorem need_fits (n : Nat) (lo hi : Nat → Int) (hv : ∀ i, i < n → lo i ≤ hi i) (st : Int) (hst : 0 ≤ st) : needAll lo hi n ≤ st ↔ Fits n st lo hi := by
  rw [needAll_le lo hi st hst n]
  constructor
  · intro h a b ha hb
    rcases Nat.lt_trichotomy a b with q | q | q
    · have := (need2_le q st).1 (h a b q hb)
      have := ((far_le (by have := Int.mul_nonneg hst (show 0 ≤ (b : Int) - a by omega); exact this)).1 this).1
      have e : steps a b = (b : Int) - a := by unfold steps; omega
      rw [e]; exact this
    · subst q; rw [steps_self, Int.mul_zero]; have := hv a ha; omega
    · have := (need2_le q st).1 (h b a q ha)
      have := ((far_le (by have := Int.mul_nonneg hst (show 0 ≤ (a : Int) - b by omega); exact this)).1 this).2
      have e : steps a b = (a : Int) - b := by unfold steps; omega
      rw [e]; exact this
  · intro h a b hab hb
    rw [need2_le hab, far_le (Int.mul_nonneg hst (by omega))]
    have h1 := h a b (by omega) hb
    have h2 := h b a hb (by omega)
    have e : steps a b = (b : Int) - a := by unfold steps; omega
    rw [steps_comm b a] at h2
    rw [e] at h1 h2
    exact ⟨h1, h2⟩
end Cv
