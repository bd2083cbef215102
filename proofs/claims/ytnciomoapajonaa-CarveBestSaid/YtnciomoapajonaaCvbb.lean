/- Rows of boards as plain data: the best surface within bounds is the best one. No program is named here. -/
import Derived.Test.YtnciomoapajonaaCvba
set_option linter.unusedSimpArgs false
set_option linter.unusedVariables false
namespace Cv
def bet (q : Bool) (a b : Int × Nd) : Int × Nd := if ltN q b.2 a.2 then b else a
def bigW : Int × Nd := (0, (9223372036854775807, 9223372036854775807))
/-- A point with its bounds. -/
abbrev Bnd := Pt × Int × Int
def wayL (st : Int) (q : Bool) : List Bnd → From → Int × Nd
  | [], _ => (0, (0, 0))
  | b :: l, f => ((spanL b.2.1 b.2.2).filter (nearF st f)).foldl (fun a h => bet q a (h, addN (stepN f b.1 h) (wayL st q l (some (b.1, h))).2)) bigW
def surfL (st : Int) (q : Bool) : List Bnd → From → List Int
  | [], _ => []
  | b :: l, f => (wayL st q (b :: l) f).1 :: surfL st q l (some (b.1, (wayL st q (b :: l) f).1))
/-- Bounds leave just what can be gone on with. -/
def Fine (st : Int) : List Bnd → From → Prop
  | [], _ => True
  | b :: l, f => b.1.lo ≤ b.2.1 ∧ b.2.2 ≤ b.1.hi ∧
      (∀ h, b.1.lo ≤ h → h ≤ b.1.hi → nearF st f h = true → ((b.2.1 ≤ h ∧ h ≤ b.2.2) ↔ ∃ s, GoodL st (some (b.1, h)) (l.map (·.1)) s)) ∧
      (∀ h, b.2.1 ≤ h → h ≤ b.2.2 → nearF st f h = true → Fine st l (some (b.1, h)))
theorem spanL_split (a b c : Int) (h1 : a - 1 ≤ c) (h2 : c ≤ b) : spanL a b = spanL a c ++ spanL (c + 1) b := by
  unfold spanL
  have e : (b - a + 1).toNat = (c - a + 1).toNat + (b - (c + 1) + 1).toNat := by omega
  rw [e, List.range_add, List.map_append, List.map_map]
  congr 1
  apply List.map_congr_left
  intro k _
  simp only [Function.comp]
  omega
theorem filter_none (P : Int → Bool) (l : List Int) (h : ∀ x, x ∈ l → P x = false) : l.filter P = [] := by
  rw [List.filter_eq_nil_iff]
  intro x hx
  simp [h x hx]
theorem spanL_filter (a b lo hi : Int) (h1 : a ≤ lo) (h2 : hi ≤ b) (P : Int → Bool) : (spanL a b).filter (fun h => P h && (decide (lo ≤ h) && decide (h ≤ hi))) = (spanL lo hi).filter P := by
  by_cases hlh : lo ≤ hi
  · rw [spanL_split a b (lo - 1) (by omega) (by omega), spanL_split (lo - 1 + 1) b hi (by omega) (by omega), List.filter_append, List.filter_append]
    rw [filter_none _ (spanL a (lo - 1)) (fun x hx => by have := mem_spanL.1 hx; simp; intro _ h; omega)]
    rw [filter_none _ (spanL (hi + 1) b) (fun x hx => by have := mem_spanL.1 hx; simp; intro _ h; omega)]
    rw [List.nil_append, List.append_nil, show lo - 1 + 1 = lo by omega]
    apply List.filter_congr
    intro x hx
    have := mem_spanL.1 hx
    simp [this]
  · rw [filter_none _ (spanL a b) (fun x hx => by simp; intro _ h; omega)]
    have : spanL lo hi = [] := by unfold spanL; rw [show (hi - lo + 1).toNat = 0 by omega]; rfl
    rw [this]; rfl
theorem foldO_filter (q : Bool) (g : Int → Rst) (P : Int → Bool) : ∀ (l : List Int) (a : Rst), (∀ h, h ∈ l → P h = false → g h = none) → foldO q g l a = foldO q g (l.filter P) a := by
  intro l
  induction l with
  | nil => intro a _; rfl
  | cons h l ih =>
    intro a hg
    cases hp : P h with
    | true =>
      rw [List.filter_cons_of_pos hp]
      unfold foldO
      exact ih _ fun x hx => hg x (List.mem_cons_of_mem _ hx)
    | false =>
      rw [List.filter_cons_of_neg (by simp [hp])]
      have := hg h (by simp) hp
      rw [foldO, this]
      exact ih _ fun x hx => hg x (List.mem_cons_of_mem _ hx)
theorem fold_pair (q : Bool) (g : Int → Rst) (n : Int → Nd) (sf : Int → List Int) : ∀ (l : List Int) (a : Rst) (b : Int × Nd),
    (∀ h, h ∈ l → g h = some (h :: sf h, n h) ∧ ltN q (n h) bigW.2 = true) → (a = none ∧ b = bigW ∨ a = some (b.1 :: sf b.1, b.2)) →
    (foldO q g l a = none ∧ l = [] ∧ a = none) ∨ foldO q g l a = some ((l.foldl (fun a h => bet q a (h, n h)) b).1 :: sf (l.foldl (fun a h => bet q a (h, n h)) b).1, (l.foldl (fun a h => bet q a (h, n h)) b).2) := by
  intro l
  induction l with
  | nil =>
    intro a b _ hab
    rcases hab with ⟨rfl, rfl⟩ | rfl
    · exact .inl ⟨rfl, rfl, rfl⟩
    · exact .inr rfl
  | cons h l ih =>
    intro a b hg hab
    obtain ⟨e1, e2⟩ := hg h (by simp)
    have hg' := fun x (hx : x ∈ l) => hg x (List.mem_cons_of_mem _ hx)
    rw [foldO, e1, List.foldl_cons]
    rcases hab with ⟨rfl, rfl⟩ | rfl
    · simp only [betO]
      have : bet q bigW (h, n h) = (h, n h) := by unfold bet; rw [if_pos e2]
      rw [this]
      rcases ih (some (h :: sf h, n h)) (h, n h) hg' (.inr rfl) with ⟨_, _, e⟩ | e
      · cases e
      · exact .inr e
    · simp only [betO]
      unfold bet
      split
      · rename_i hl
        rcases ih (some (h :: sf h, n h)) (h, n h) hg' (.inr rfl) with ⟨_, _, e⟩ | e
        · cases e
        · exact .inr e
      · rcases ih (some (b.1 :: sf b.1, b.2)) b hg' (.inr rfl) with ⟨_, _, e⟩ | e
        · cases e
        · exact .inr e
/-- What a surface needs is no great number. -/
theorem needS_bd (st : Int) : ∀ (l : List Pt) (f : From) (s : List Int), (∀ p, p ∈ l → PtOk p) → GoodL st f l s → 0 ≤ deepF f → 0 ≤ (needS f l s).1 ∧ (needS f l s).1 ≤ 9000 * (l.length : Int) ∧ 0 ≤ (needS f l s).2 ∧ (needS f l s).2 ≤ 9000 * (l.length : Int) := by
  intro l
  induction l with
  | nil => intro f s _ h _; cases s with | nil => simp [needS] | cons _ _ => exact h.elim
  | cons p l ih =>
    intro f s hok h hd
    cases s with
    | nil => exact h.elim
    | cons x s =>
      obtain ⟨h1, h2, _, h4⟩ := h
      have ok := hok p (by simp)
      have a1 := ok.b0
      have a2 := ok.b9
      have a3 := ok.l0
      have a4 := ok.h9
      have := ih (some (p, x)) s (fun y hy => hok y (List.mem_cons_of_mem _ hy)) h4 (by simp only [deepF]; omega)
      simp only [needS, addN, stepN, List.length_cons]
      push_cast
      omega
theorem wayL_is (st : Int) (q : Bool) : ∀ (l : List Bnd) (f : From), (∀ b, b ∈ l → PtOk b.1) → l.length ≤ 10 → 0 ≤ deepF f → Fine st l f → (∃ s, GoodL st f (l.map (·.1)) s) →
    refL st q (l.map (·.1)) f = some (surfL st q l f, (wayL st q l f).2) := by
  intro l
  induction l with
  | nil => intro f _ _ _ _ _; rfl
  | cons b l ih =>
    intro f hok hn hd hF hs
    obtain ⟨p, lo, hi⟩ := b
    obtain ⟨F1, F2, F3, F4⟩ := hF
    simp only at F1 F2 F3 F4
    have hok' := fun y (hy : y ∈ l) => hok y (List.mem_cons_of_mem _ hy)
    have okp := hok (p, lo, hi) (by simp)
    simp only at okp
    have hlen : l.length ≤ 10 := by simp at hn; omega
    have key : ∀ h, h ∈ (spanL lo hi).filter (nearF st f) → refL st q (l.map (·.1)) (some (p, h)) = some (surfL st q l (some (p, h)), (wayL st q l (some (p, h))).2) := by
      intro h hh
      rw [List.mem_filter, mem_spanL] at hh
      exact ih _ hok' hlen (by simp only [deepF]; omega) (F4 h hh.1.1 hh.1.2 hh.2) ((F3 h (by omega) (by omega) hh.2).1 hh.1)
    rw [List.map_cons, refL_cons]
    simp only
    rw [foldO_filter q _ (fun h => nearF st f h && (decide (lo ≤ h) && decide (h ≤ hi))) _ _ ?side, spanL_filter _ _ _ _ F1 F2]
    case side =>
      intro h hh hp
      rw [mem_spanL] at hh
      unfold candO
      split
      · rename_i hnr
        rw [Option.map_eq_none_iff, refL_none]
        intro s hgs
        have := (F3 h hh.1 hh.2 hnr).2 ⟨s, hgs⟩
        simp [hnr, this] at hp
      · rfl
    have hg : ∀ h, h ∈ (spanL lo hi).filter (nearF st f) → candO st f p h (refL st q (l.map (·.1)) (some (p, h))) = some (h :: surfL st q l (some (p, h)), addN (stepN f p h) (wayL st q l (some (p, h))).2) ∧ ltN q (addN (stepN f p h) (wayL st q l (some (p, h))).2) bigW.2 = true := by
      intro h hh
      have hk := key h hh
      rw [List.mem_filter, mem_spanL] at hh
      unfold candO
      rw [if_pos hh.2, hk]
      refine ⟨rfl, ?_⟩
      obtain ⟨g1, g2, _⟩ := refL_some st q _ _ _ hk
      have bd := needS_bd st (p :: l.map (·.1)) f (h :: surfL st q l (some (p, h))) (fun y hy => by
        rcases List.mem_cons.1 hy with e | hy
        · subst e; exact okp
        · obtain ⟨z, hz, rfl⟩ := List.mem_map.1 hy
          exact hok' z hz) ⟨by omega, by omega, hh.2, g1⟩ hd
      simp only [needS] at bd
      simp only at g2
      rw [← g2] at bd
      simp only [List.length_cons, List.length_map] at bd
      rw [ltN_iff]
      unfold bigW
      generalize addN (stepN f p h) (wayL st q l (some (p, h))).2 = z at *
      cases q
      · simp only [Bool.false_eq_true, if_false]; omega
      · simp only [if_true]; omega
    rcases fold_pair q _ (fun h => addN (stepN f p h) (wayL st q l (some (p, h))).2) (fun h => surfL st q l (some (p, h))) _ none bigW hg (.inl ⟨rfl, rfl⟩) with ⟨_, e, _⟩ | e
    · exfalso
      obtain ⟨s, hs⟩ := hs
      cases s with
      | nil => exact hs.elim
      | cons x s =>
        obtain ⟨k1, k2, k3, k4⟩ := hs
        simp only at k1 k2 k3 k4
        have := (F3 x k1 k2 k3).2 ⟨s, k4⟩
        have hm : x ∈ (spanL lo hi).filter (nearF st f) := List.mem_filter.2 ⟨mem_spanL.2 this, k3⟩
        rw [e] at hm
        simp at hm
    · rw [e]
      rfl

/-! ## The bounds of a row -/
theorem getD_cons_p (p : Pt) (l : List Pt) (k : Nat) : (p :: l).getD (k + 1) default = l.getD k default := rfl
theorem goodL_iff (st : Int) : ∀ (l : List Pt) (f : From) (s : List Int), GoodL st f l s ↔ s.length = l.length ∧ (∀ k, k < l.length → (l.getD k default).lo ≤ s.getD k 0 ∧ s.getD k 0 ≤ (l.getD k default).hi) ∧
    (∀ k, k + 1 < l.length → s.getD k 0 - st ≤ s.getD (k + 1) 0 ∧ s.getD (k + 1) 0 - st ≤ s.getD k 0) ∧ (0 < l.length → nearF st f (s.getD 0 0) = true) := by
  intro l
  induction l with
  | nil =>
    intro f s
    cases s with
    | nil => simp [GoodL]
    | cons _ _ => simp [GoodL]
  | cons p l ih =>
    intro f s
    cases s with
    | nil => simp [GoodL]
    | cons x s =>
      simp only [GoodL]
      rw [ih]
      constructor
      · rintro ⟨h1, h2, h3, e, h4, h5, h6⟩
        refine ⟨by simp [e], fun k hk => ?_, fun k hk => ?_, fun _ => h3⟩
        · cases k with
          | zero => exact ⟨h1, h2⟩
          | succ k => exact h4 k (by simpa using hk)
        · cases k with
          | zero =>
            have := h6 (by simpa using hk)
            simp only [nearF, Bool.and_eq_true, decide_eq_true_eq] at this
            show x - st ≤ s.getD 0 0 ∧ s.getD 0 0 - st ≤ x
            omega
          | succ k => exact h5 k (by simpa using hk)
      · rintro ⟨e, h4, h5, h6⟩
        have h0 := h4 0 (by simp)
        refine ⟨h0.1, h0.2, h6 (by simp), by simpa using e, fun k hk => h4 (k + 1) (by simpa using hk), fun k hk => h5 (k + 1) (by simpa using hk), fun hl => ?_⟩
        have := h5 0 (by simpa using hl)
        simp only [nearF, Bool.and_eq_true, decide_eq_true_eq]
        have e0 : (x :: s).getD 0 0 = x := rfl
        have e1 : (x :: s).getD (0 + 1) 0 = s.getD 0 0 := rfl
        rw [e0, e1] at this
        omega
def loF (r : Row) (i : Nat) : Int := (los r).getD i 0
def hiF (r : Row) (i : Nat) : Int := (his r).getD i 0
def lowF (r : Row) (i : Nat) : Int := (lowR r).getD i 0
def highF (r : Row) (i : Nat) : Int := (highR r).getD i 0
def GoodF (r : Row) (s : Nat → Int) : Prop := Good r.pts.length r.st (loF r) (hiF r) s
theorem loF_get (r : Row) (i : Nat) (h : i < r.pts.length) : loF r i = (r.pts.getD i default).lo := by
  unfold loF los
  rw [getD_map _ _ _ h]
  simp [List.getD_eq_getElem?_getD, h]
theorem hiF_get (r : Row) (i : Nat) (h : i < r.pts.length) : hiF r i = (r.pts.getD i default).hi := by
  unfold hiF his
  rw [getD_map _ _ _ h]
  simp [List.getD_eq_getElem?_getD, h]
theorem los_length (r : Row) : (los r).length = r.pts.length := by simp [los]
theorem his_length (r : Row) : (his r).length = r.pts.length := by simp [his]
theorem lowF_is (r : Row) (hst : 0 ≤ r.st) : IsLow r.pts.length r.st (loF r) (lowF r) := by
  have h := low_is r.st hst (los r)
  rw [los_length] at h
  exact h
theorem highF_is (r : Row) (hst : 0 ≤ r.st) : IsLow r.pts.length r.st (fun i => -(hiF r i)) (fun i => -(highF r i)) := by
  have h := low_is r.st hst ((his r).map fun x => -x)
  rw [List.length_map, his_length] at h
  have e1 : (fun i => ((his r).map fun x => -x).getD i 0) = fun i => -(hiF r i) := by funext i; exact neg_getD _ _
  have e2 : (fun i => (low r.st ((his r).map fun x => -x)).getD i 0) = fun i => -(highF r i) := by
    funext i
    unfold highF highR high
    rw [neg_getD]
    omega
  rw [e1, e2] at h
  exact h
theorem GoodF.within {r : Row} (hst : 0 ≤ r.st) {s : Nat → Int} (h : GoodF r s) (i : Nat) (hi : i < r.pts.length) : lowF r i ≤ s i ∧ s i ≤ highF r i :=
  ⟨Good.low h (lowF_is r hst) i hi, Good.high h (highF_is r hst) i hi⟩
/-- Through each height between the bounds there is a good surface. -/
theorem through (r : Row) (hst : 0 ≤ r.st) (hc : crossB r = false) (i : Nat) (hi : i < r.pts.length) (g : Int) (h1 : lowF r i ≤ g) (h2 : g ≤ highF r i) : ∃ t, GoodF r t ∧ t i = g := by
  have hf := (cross_fits r hst).1 hc
  have a1 : asks r.st r.pts.length (loF r) i r.pts.length ≤ g := by
    have := (lowF_is r hst).one (asks_is r.st hst r.pts.length (loF r)) i hi
    omega
  have a2 : g ≤ -(asks r.st r.pts.length (fun i => -(hiF r i)) i r.pts.length) := by
    have := (highF_is r hst).one (asks_is r.st hst r.pts.length (fun i => -(hiF r i))) i hi
    omega
  have hf2 := fits_at (lo := loF r) (hi := hiF r) hf hi a1 a2
  have hq := (fits_iff _ _ hst _ _).2 hf2
  have hlg := low_good (hi := fun j => if j = i then g else hiF r j) (k := fun j => -(asks r.st r.pts.length (fun j => -(if j = i then g else hiF r j)) j r.pts.length)) (asks_is r.st hst r.pts.length (fun j => if j = i then g else loF r j)) (by simpa using asks_is r.st hst r.pts.length (fun j => -(if j = i then g else hiF r j))) hq
  have b1 := hlg.ge i hi
  have b2 := hlg.le i hi
  rw [if_pos rfl] at b1 b2
  refine ⟨_, ⟨fun j hj => ?_, fun j hj => ?_, hlg.up, hlg.dn⟩, ?_⟩
  · by_cases e : j = i
    · subst e
      have := (lowF_is r hst).ge j hj
      omega
    · have := hlg.ge j hj
      rw [if_neg e] at this
      exact this
  · by_cases e : j = i
    · subst e
      have := (highF_is r hst).ge j hj
      omega
    · have := hlg.le j hj
      rw [if_neg e] at this
      exact this
  · omega
def bndR (r : Row) : List Bnd := (List.range r.pts.length).map fun i => (r.pts.getD i default, lowF r i, highF r i)
theorem bndR_map (r : Row) : (bndR r).map (·.1) = r.pts := by
  unfold bndR
  rw [List.map_map]
  apply List.ext_getElem
  · simp
  · intro i h1 h2
    simp [List.getD_eq_getElem?_getD, h2]
theorem bndR_length (r : Row) : (bndR r).length = r.pts.length := by simp [bndR]
theorem bndR_get (r : Row) (i : Nat) (h : i < (bndR r).length) : (bndR r)[i] = (r.pts.getD i default, lowF r i, highF r i) := by simp [bndR]
theorem getD_drop (l : List Pt) (i k : Nat) : (l.drop i).getD k default = l.getD (i + k) default := by simp [List.getD_eq_getElem?_getD]
/-- Where a surface may come from at a point. -/
def FromOk (r : Row) : Nat → From → Prop
  | 0, f => f = none
  | i + 1, f => ∃ g, f = some (r.pts.getD i default, g) ∧ lowF r i ≤ g ∧ g ≤ highF r i
theorem goodF_drop (r : Row) (t : Nat → Int) (ht : GoodF r t) (i : Nat) (f : From) (hf : i < r.pts.length → nearF r.st f (t i) = true) : GoodL r.st f (r.pts.drop i) ((List.range (r.pts.length - i)).map fun k => t (i + k)) := by
  have hg : ∀ k, k < r.pts.length - i → ((List.range (r.pts.length - i)).map fun k => t (i + k)).getD k 0 = t (i + k) := by
    intro k hk
    simp [List.getD_eq_getElem?_getD, hk]
  rw [goodL_iff]
  refine ⟨by simp, fun k hk => ?_, fun k hk => ?_, fun hl => ?_⟩
  · rw [List.length_drop] at hk
    rw [hg k hk, getD_drop]
    have h1 := ht.ge (i + k) (by omega)
    have h2 := ht.le (i + k) (by omega)
    rw [loF_get r _ (by omega)] at h1
    rw [hiF_get r _ (by omega)] at h2
    exact ⟨h1, h2⟩
  · rw [List.length_drop] at hk
    rw [hg k (by omega), hg (k + 1) hk]
    have h1 := ht.up (i + k) (by omega)
    have h2 := ht.dn (i + k) (by omega)
    exact ⟨h1, h2⟩
  · rw [List.length_drop] at hl
    rw [hg 0 hl]
    exact hf (by omega)
theorem fine_at (r : Row) (hst : 0 ≤ r.st) (hc : crossB r = false) : ∀ (m i : Nat) (f : From), i + m = r.pts.length → FromOk r i f → Fine r.st ((bndR r).drop i) f := by
  intro m
  induction m with
  | zero =>
    intro i f hi _
    rw [List.drop_of_length_le (by rw [bndR_length]; omega)]
    trivial
  | succ m ih =>
    intro i f hi hf
    have hl : i < (bndR r).length := by rw [bndR_length]; omega
    have hl' : i < r.pts.length := by omega
    rw [List.drop_eq_getElem_cons hl, bndR_get r i hl]
    have e1 := (lowF_is r hst).ge i hl'
    have e2 := (highF_is r hst).ge i hl'
    rw [loF_get r i hl'] at e1
    simp only [hiF_get r i hl'] at e2
    refine ⟨e1, by simp only; omega, fun h h1 h2 hn => ?_, fun h h1 h2 hn => ?_⟩
    · simp only at h1 h2 ⊢
      rw [show ((bndR r).drop (i + 1)).map (·.1) = r.pts.drop (i + 1) by rw [List.map_drop, bndR_map]]
      constructor
      · rintro ⟨k1, k2⟩
        obtain ⟨t, ht, hti⟩ := through r hst hc i hl' h k1 k2
        refine ⟨_, goodF_drop r t ht (i + 1) _ fun hlt => ?_⟩
        have u := ht.up i hlt
        have d := ht.dn i hlt
        rw [hti] at u d
        simp only [nearF, Bool.and_eq_true, decide_eq_true_eq]
        omega
      · rintro ⟨s, hs⟩
        obtain ⟨s1, s2, s3, s4⟩ := (goodL_iff _ _ _ _).1 hs
        rw [List.length_drop] at s1 s2 s3 s4
        -- the surface on the left
        obtain ⟨t, ht1, ht2, ht3, ht4⟩ : ∃ t : Nat → Int, (∀ j, j < i → loF r j ≤ t j) ∧ (∀ j, j < i → t j ≤ hiF r j) ∧ (∀ j, j + 1 < i → t j - r.st ≤ t (j + 1) ∧ t (j + 1) - r.st ≤ t j) ∧ (∀ j, j + 1 = i → t j - r.st ≤ h ∧ h - r.st ≤ t j) := by
          cases i with
          | zero => exact ⟨fun _ => 0, fun j hj => by omega, fun j hj => by omega, fun j hj => by omega, fun j hj => by omega⟩
          | succ i =>
            obtain ⟨g, rfl, g1, g2⟩ := hf
            obtain ⟨t, ht, hti⟩ := through r hst hc i (by omega) g g1 g2
            refine ⟨t, fun j hj => ht.ge j (by omega), fun j hj => ht.le j (by omega), fun j hj => ⟨ht.up j (by omega), ht.dn j (by omega)⟩, fun j hj => ?_⟩
            obtain rfl : j = i := by omega
            rw [hti]
            simp only [nearF, Bool.and_eq_true, decide_eq_true_eq] at hn
            omega
        have hG : GoodF r (fun j => if j < i then t j else if j = i then h else s.getD (j - (i + 1)) 0) := by
          refine ⟨fun j hj => ?_, fun j hj => ?_, fun j hj => ?_, fun j hj => ?_⟩
          · try simp only []
            rcases Nat.lt_trichotomy j i with q | q | q
            · rw [if_pos q]; exact ht1 j q
            · subst q; rw [if_neg (by omega), if_pos rfl, loF_get r j hj]; exact h1
            · rw [if_neg (by omega), if_neg (by omega), loF_get r j hj]
              have := (s2 (j - (i + 1)) (by omega)).1
              rw [getD_drop, show i + 1 + (j - (i + 1)) = j by omega] at this
              exact this
          · try simp only []
            rcases Nat.lt_trichotomy j i with q | q | q
            · rw [if_pos q]; exact ht2 j q
            · subst q; rw [if_neg (by omega), if_pos rfl, hiF_get r j hj]; exact h2
            · rw [if_neg (by omega), if_neg (by omega), hiF_get r j hj]
              have := (s2 (j - (i + 1)) (by omega)).2
              rw [getD_drop, show i + 1 + (j - (i + 1)) = j by omega] at this
              exact this
          · try simp only []
            rcases Nat.lt_trichotomy (j + 1) i with q | q | q
            · rw [if_pos (by omega), if_pos q]; exact (ht3 j q).1
            · rw [if_pos (by omega), if_neg (by omega), if_pos q]; exact (ht4 j q).1
            · by_cases e : j = i
              · subst e
                rw [if_neg (by omega), if_pos rfl, if_neg (by omega), if_neg (by omega)]
                have := s4 (by omega)
                simp only [nearF, Bool.and_eq_true, decide_eq_true_eq] at this
                rw [show j + 1 - (j + 1) = 0 by omega]
                omega
              · rw [if_neg (by omega), if_neg e, if_neg (by omega), if_neg (by omega)]
                have := s3 (j - (i + 1)) (by omega)
                rw [show j - (i + 1) + 1 = j + 1 - (i + 1) by omega] at this
                exact this.1
          · try simp only []
            rcases Nat.lt_trichotomy (j + 1) i with q | q | q
            · rw [if_pos q, if_pos (by omega)]; exact (ht3 j q).2
            · rw [if_neg (by omega), if_pos q, if_pos (by omega)]; exact (ht4 j q).2
            · by_cases e : j = i
              · subst e
                rw [if_neg (by omega), if_neg (by omega), if_neg (by omega), if_pos rfl]
                have := s4 (by omega)
                simp only [nearF, Bool.and_eq_true, decide_eq_true_eq] at this
                rw [show j + 1 - (j + 1) = 0 by omega]
                omega
              · rw [if_neg (by omega), if_neg (by omega), if_neg (by omega), if_neg e]
                have := s3 (j - (i + 1)) (by omega)
                rw [show j - (i + 1) + 1 = j + 1 - (i + 1) by omega] at this
                exact this.2
        have := hG.within hst i hl'
        simp only [Nat.lt_irrefl, if_false, if_true] at this
        exact this
    · exact ih (i + 1) _ (by omega) ⟨h, rfl, h1, h2⟩
/-- Some surface is good just where no bounds cross. -/
theorem good_iff (r : Row) (hst : 0 ≤ r.st) : crossB r = false ↔ ∃ s, GoodL r.st none r.pts s := by
  constructor
  · intro hc
    by_cases h0 : r.pts.length = 0
    · exact ⟨[], by rw [List.length_eq_zero_iff.1 h0]; trivial⟩
    · have hb : lowF r 0 ≤ highF r 0 := by
        unfold crossB at hc
        rw [List.any_eq_false] at hc
        have := hc 0 (List.mem_range.2 (by omega))
        simp at this
        exact this
      obtain ⟨t, ht, _⟩ := through r hst hc 0 (by omega) (lowF r 0) (Int.le_refl _) hb
      exact ⟨_, goodF_drop r t ht 0 none fun _ => rfl⟩
  · rintro ⟨s, hs⟩
    obtain ⟨s1, s2, s3, _⟩ := (goodL_iff _ _ _ _).1 hs
    have hG : GoodF r (fun j => s.getD j 0) := ⟨fun j hj => by rw [loF_get r j hj]; exact (s2 j hj).1, fun j hj => by rw [hiF_get r j hj]; exact (s2 j hj).2, fun j hj => (s3 j hj).1, fun j hj => (s3 j hj).2⟩
    exact (cross_fits r hst).2 (Good.fits hst hG)
/-- The best surface within bounds is the best one. -/
theorem best_is (r : Row) (hv : Valid r) (hc : crossB r = false) (q : Bool) : refL r.st q r.pts none = some (surfL r.st q (bndR r) none, (wayL r.st q (bndR r) none).2) := by
  have h := wayL_is r.st q (bndR r) none (fun b hb => ?_) (by rw [bndR_length]; exact hv.n10) (by simp [deepF]) (by have := fine_at r hv.s0 hc r.pts.length 0 none (by omega) rfl; simpa using this) (by rw [bndR_map]; exact (good_iff r hv.s0).1 hc)
  · rw [bndR_map] at h
    exact h
  · obtain ⟨i, hi, rfl⟩ := List.mem_map.1 hb
    have := List.mem_range.1 hi
    simp only [List.getD_eq_getElem?_getD, this, List.getElem?_eq_getElem, Option.getD_some]
    exact hv.ok _ (List.getElem_mem _)
end Cv
