/- CarveTurned: the call returns true, whatever its arguments and the memory in which it begins; its arguments read as they did. -/
import Derived.Test.YtnciomoapajonaaRgc
import Derived.Test.YtnciomoapajonaaCxe
import Derived.Test.YtnciomoapajonaaCxf
import Derived.Test.YtnciomoapajonaaCwn
import Derived.Laws.AppendOwn
import Derived.OwnWalk
import Derived.Test.YtnciomoapajonaaCxg
import Derived.Laws.StructEq
import Derived.Test.YtnciomoapajonaaRows
import Derived.Test.YtnciomoapajonaaCar
import Derived.ProofKit
import Derived.JoinedOf
import Derived.JoinedAt
set_option linter.unusedSimpArgs false
set_option linter.unusedVariables false
namespace Go.Proofs.Ytnciomoapajonaa
open Go Go.RowKit Cv

theorem best_cases (r : Row) (h : errR r = 0) : (crossB r = true ∧ ∀ q, bestR r q = ([], 0, 0, 9)) ∨ (crossB r = false ∧ ∀ q, ∃ s, bestR r q = (s, fillsN r.pts s r.pts.length, manyL 0 (deepN r.pts s r.pts.length), 0) ∧ s.length = r.pts.length ∧ (∀ x, x ∈ s → 0 ≤ x ∧ x ≤ 9000) ∧ goodV r s = true ∧
    ∀ t, t.length = r.pts.length → goodV r t = true → ltN q (fillsN r.pts t r.pts.length, manyL 0 (deepN r.pts t r.pts.length)) (fillsN r.pts s r.pts.length, manyL 0 (deepN r.pts s r.pts.length)) = false) := by
  have hv := (check_valid r).1 h
  cases hc : crossB r
  · refine .inr ⟨rfl, fun q => ?_⟩
    have hb := best_is r hv hc q
    obtain ⟨hg, hn, hm⟩ := refL_some r.st q r.pts none _ hb
    simp only at hg hn hm
    have hl := hg.length
    refine ⟨surfL r.st q (bndR r) none, ?_, hl, ?_, (goodV_iff r _ hl).2 hg, fun t ht htg => ?_⟩
    · have e : boundE r = 0 := by unfold boundE; rw [h, hc]; rfl
      unfold bestR
      rw [if_pos e]
      have e2 : (wayK r q 0 none).2 = (wayL r.st q (bndR r) none).2 := by simp [wayK]
      rw [e2, hn, needS_is _ _ _ hl]
      rfl
    · intro x hx
      obtain ⟨i, hi, rfl⟩ := List.mem_iff_getElem.1 hx
      have := ((goodL_iff _ _ _ _).1 hg).2.1 i (by omega)
      have hp := hv.ok r.pts[i] (List.getElem_mem (by omega))
      rw [List.getD_eq_getElem?_getD, List.getElem?_eq_getElem (by omega), List.getD_eq_getElem?_getD, List.getElem?_eq_getElem hi] at this
      simp only [Option.getD_some] at this
      have := hp.l0
      have := hp.h9
      omega
    · have := hm t ((goodV_iff r t ht).1 htg)
      rw [hn, needS_is _ _ _ hl, needS_is _ _ _ ht] at this
      exact this
  · refine .inl ⟨rfl, fun q => ?_⟩
    have e : boundE r = 9 := by unfold boundE; rw [h, hc]; rfl
    unfold bestR
    rw [e]
    rfl
end Go.Proofs.Ytnciomoapajonaa
namespace Go.Proofs.Ytnciomoapajonaa
open Go Go.RowKit Cv

def revR (r : Row) : Row := ⟨r.st, r.pts.reverse⟩
theorem errFrom_pts (l : List Pt) : (errFrom l 0).2.2 = 0 ↔ ∀ p, p ∈ l → PtOk p := errFrom_zero l 0
theorem revR_err (r : Row) (h : errR r = 0) : errR (revR r) = 0 := by
  have hv := (check_valid r).1 h
  refine (check_valid _).2 ⟨hv.s0, hv.s200, ?_, ?_, ?_⟩
  · show 1 ≤ r.pts.reverse.length
    rw [List.length_reverse]; exact hv.n1
  · show r.pts.reverse.length ≤ 10
    rw [List.length_reverse]; exact hv.n10
  · intro p hp
    exact hv.ok p (by have : p ∈ r.pts.reverse := hp; simpa using this)
theorem rev_get {n : Nat} {i : Nat} (h : i < n) : n - 1 - i < n := by omega
theorem islow_rev {n : Nat} {st : Int} {lo g : Nat → Int} (h : IsLow n st lo g) : IsLow n st (fun i => lo (n - 1 - i)) (fun i => g (n - 1 - i)) := by
  refine ⟨fun i hi => h.ge _ (by omega), fun i hi => ?_, fun i hi => ?_, fun k h1 h2 h3 i hi => ?_⟩
  · have := h.dn (n - 1 - (i + 1)) (by omega)
    rw [show n - 1 - (i + 1) + 1 = n - 1 - i by omega] at this
    exact this
  · have := h.up (n - 1 - (i + 1)) (by omega)
    rw [show n - 1 - (i + 1) + 1 = n - 1 - i by omega] at this
    exact this
  · have := h.least (fun j => k (n - 1 - j)) (fun j hj => ?_) (fun j hj => ?_) (fun j hj => ?_) (n - 1 - i) (by omega)
    · try simp only at this
      rw [show n - 1 - (n - 1 - i) = i by omega] at this
      exact this
    · have := h1 (n - 1 - j) (by omega)
      try simp only at this
      rw [show n - 1 - (n - 1 - j) = j by omega] at this
      exact this
    · have := h3 (n - 1 - (j + 1)) (by omega)
      rw [show n - 1 - (j + 1) + 1 = n - 1 - j by omega] at this
      exact this
    · have := h2 (n - 1 - (j + 1)) (by omega)
      rw [show n - 1 - (j + 1) + 1 = n - 1 - j by omega] at this
      exact this
theorem islow_congr {n : Nat} {st : Int} {lo lo' g : Nat → Int} (h : IsLow n st lo g) (e : ∀ i, i < n → lo i = lo' i) : IsLow n st lo' g :=
  ⟨fun i hi => by rw [← e i hi]; exact h.ge i hi, h.up, h.dn, fun k h1 h2 h3 => h.least k (fun i hi => by rw [e i hi]; exact h1 i hi) h2 h3⟩
theorem rev_lo (r : Row) (i : Nat) (hi : i < r.pts.length) : loF (revR r) i = loF r (r.pts.length - 1 - i) := by
  rw [loF_get _ _ (by show i < r.pts.reverse.length; simpa using hi), loF_get _ _ (by omega)]
  show (r.pts.reverse.getD i default).lo = _
  rw [List.getD_eq_getElem?_getD, List.getElem?_reverse hi, List.getD_eq_getElem?_getD]
theorem rev_hi (r : Row) (i : Nat) (hi : i < r.pts.length) : hiF (revR r) i = hiF r (r.pts.length - 1 - i) := by
  rw [hiF_get _ _ (by show i < r.pts.reverse.length; simpa using hi), hiF_get _ _ (by omega)]
  show (r.pts.reverse.getD i default).hi = _
  rw [List.getD_eq_getElem?_getD, List.getElem?_reverse hi, List.getD_eq_getElem?_getD]
theorem rev_low (r : Row) (hst : 0 ≤ r.st) (i : Nat) (hi : i < r.pts.length) : lowF (revR r) i = lowF r (r.pts.length - 1 - i) := by
  have a := lowF_is (revR r) hst
  have b := islow_rev (lowF_is r hst)
  rw [show (revR r).pts.length = r.pts.length from by show r.pts.reverse.length = _; simp] at a
  exact a.one (islow_congr b fun j hj => (rev_lo r j hj).symm) i hi
theorem rev_high (r : Row) (hst : 0 ≤ r.st) (i : Nat) (hi : i < r.pts.length) : highF (revR r) i = highF r (r.pts.length - 1 - i) := by
  have a := highF_is (revR r) hst
  have b := islow_rev (highF_is r hst)
  rw [show (revR r).pts.length = r.pts.length from by show r.pts.reverse.length = _; simp] at a
  have := a.one (islow_congr b fun j hj => by rw [rev_hi r j hj]) i hi
  try simp only at this
  omega
theorem revR_revR (r : Row) : revR (revR r) = r := by
  obtain ⟨st, pts⟩ := r
  simp [revR]
theorem getD_rev (s : List Int) (i : Nat) (h : i < s.length) : s.reverse.getD i 0 = s.getD (s.length - 1 - i) 0 := by
  rw [List.getD_eq_getElem?_getD, List.getElem?_reverse h, List.getD_eq_getElem?_getD]
theorem getD_revP (s : List Pt) (i : Nat) (h : i < s.length) : s.reverse.getD i default = s.getD (s.length - 1 - i) default := by
  rw [List.getD_eq_getElem?_getD, List.getElem?_reverse h, List.getD_eq_getElem?_getD]
theorem good_rev (r : Row) (s : List Int) (h : GoodL r.st none r.pts s) : GoodL r.st none (revR r).pts s.reverse := by
  have hl := h.length
  obtain ⟨_, h1, h2, _⟩ := (goodL_iff _ _ _ _).1 h
  refine (goodL_iff _ _ _ _).2 ⟨?_, fun k hk => ?_, fun k hk => ?_, fun _ => rfl⟩
  · show s.reverse.length = r.pts.reverse.length
    simp [hl]
  · have hk' : k < r.pts.length := by have : k < r.pts.reverse.length := hk; simpa using this
    show ((r.pts.reverse).getD k default).lo ≤ _ ∧ _ ≤ ((r.pts.reverse).getD k default).hi
    rw [getD_revP _ _ hk', getD_rev _ _ (by omega), hl]
    exact h1 _ (by omega)
  · have hk' : k + 1 < r.pts.length := by have : k + 1 < r.pts.reverse.length := hk; simpa using this
    rw [getD_rev _ _ (by omega), getD_rev _ _ (by omega), hl]
    have := h2 (r.pts.length - 1 - (k + 1)) (by omega)
    rw [show r.pts.length - 1 - (k + 1) + 1 = r.pts.length - 1 - k by omega] at this
    exact ⟨this.2, this.1⟩
theorem cross_rev (r : Row) (hst : 0 ≤ r.st) : crossB (revR r) = crossB r := by
  have key : ∀ r : Row, 0 ≤ r.st → crossB r = false → crossB (revR r) = false := fun r hst h => by
    obtain ⟨s, hs⟩ := (good_iff r hst).1 h
    exact (good_iff (revR r) hst).2 ⟨s.reverse, good_rev r s hs⟩
  cases h : crossB r
  · exact key r hst h
  · rw [← Bool.not_eq_false]
    intro q
    have := key (revR r) hst q
    rw [revR_revR, h] at this
    cases this
theorem bounds_rev (r : Row) (h : errR r = 0) : (boundsR (revR r)).2 = (boundsR r).2 ∧ (boundsR (revR r)).1.length = (boundsR r).1.length ∧
    ∀ i, i < (boundsR r).1.length → (boundsR r).1.getD i (0, 0) = (boundsR (revR r)).1.getD ((boundsR r).1.length - 1 - i) (0, 0) := by
  have hv := (check_valid r).1 h
  have hr := revR_err r h
  have hc := cross_rev r hv.s0
  have e : boundE (revR r) = boundE r := by unfold boundE; rw [h, hr, hc]
  have hrl : (revR r).pts.length = r.pts.length := by show r.pts.reverse.length = _; simp
  unfold boundsR
  rw [e]
  split
  · refine ⟨rfl, ?_, fun i hi => ?_⟩
    · show (bandsR (revR r)).length = (bandsR r).length
      rw [bandsR_length, bandsR_length, hrl]
    · have hi' : i < r.pts.length := by have : i < (bandsR r).length := hi; rwa [bandsR_length] at this
      show (bandsR r).getD i (0, 0) = (bandsR (revR r)).getD ((bandsR r).length - 1 - i) (0, 0)
      rw [bandsR_length]
      unfold bandsR
      rw [hrl, List.getD_eq_getElem?_getD, List.getD_eq_getElem?_getD]
      simp only [List.getElem?_map, List.getElem?_range hi', List.getElem?_range (rev_get hi'), Option.map_some, Option.getD_some]
      rw [rev_low r hv.s0 _ (rev_get hi'), rev_high r hv.s0 _ (rev_get hi'), show r.pts.length - 1 - (r.pts.length - 1 - i) = i by omega]
  · exact ⟨rfl, rfl, fun i hi => absurd hi (Nat.not_lt_zero _)⟩
theorem need_rev (r : Row) (h : errR r = 0) : needR (revR r) = needR r := by
  have hv := (check_valid r).1 h
  have hr := revR_err r h
  obtain ⟨st, pts⟩ := r
  have hok' : ∀ p, p ∈ pts.reverse → PtOk p := fun p hp => hv.ok p (by simpa using hp)
  unfold needR
  rw [if_pos h, if_pos hr]
  show (maxN pts.reverse (pairsL pts.reverse.length), (0 : Int)) = (maxN pts (pairsL pts.length), 0)
  have key : ∀ x, 0 ≤ x → (maxN pts.reverse (pairsL pts.reverse.length) ≤ x ↔ maxN pts (pairsL pts.length) ≤ x) := fun x hx => by
    rw [need_iff _ hok' x hx, need_iff _ hv.ok x hx]
    have := cross_rev ⟨x, pts⟩ hx
    show crossB (revR ⟨x, pts⟩) = false ↔ _
    rw [this]
  have a := (key _ (maxN_zero pts (pairsL pts.length))).2 (Int.le_refl _)
  have b := (key _ (maxN_zero pts.reverse (pairsL pts.reverse.length))).1 (Int.le_refl _)
  rw [show maxN pts.reverse (pairsL pts.reverse.length) = maxN pts (pairsL pts.length) by omega]

/-- What is filled, point by point; what is carved less behind each point. -/
theorem fillsN_app (l : List Pt) (s : List Int) (p : Pt) (x : Int) (h : s.length = l.length) : fillsN (l ++ [p]) (s ++ [x]) (l.length + 1) = fillsN l s l.length + max 0 (x - p.bd) := by
  have key : ∀ k, k ≤ l.length → fillsN (l ++ [p]) (s ++ [x]) k = fillsN l s k := by
    intro k
    induction k with
    | zero => intro _; rfl
    | succ k ih =>
      intro hk
      rw [fillsN, fillsN, ih (by omega)]
      have e1 : (s ++ [x]).getD k 0 = s.getD k 0 := by simp [List.getD_eq_getElem?_getD, List.getElem?_append_left (show k < s.length by omega)]
      have e2 : (l ++ [p]).getD k default = l.getD k default := by simp [List.getD_eq_getElem?_getD, List.getElem?_append_left (show k < l.length by omega)]
      rw [e1, e2]
  rw [fillsN, key _ (Nat.le_refl _)]
  have e1 : (s ++ [x]).getD l.length 0 = x := by simp [List.getD_eq_getElem?_getD, ← h]
  have e2 : (l ++ [p]).getD l.length default = p := by simp [List.getD_eq_getElem?_getD]
  rw [e1, e2]
theorem fills_rev : ∀ (l : List Pt) (s : List Int), s.length = l.length → fillsN l.reverse s.reverse l.length = fillsN l s l.length := by
  intro l
  induction l with
  | nil => intro s _; rfl
  | cons p l ih =>
    intro s h
    cases s with
    | nil => simp at h
    | cons x s =>
      have h' : s.length = l.length := by simpa using h
      have a := fillsN_app l.reverse s.reverse p x (by simp [h'])
      rw [List.length_reverse] at a
      rw [List.reverse_cons, List.reverse_cons, List.length_cons, a, ih s h', fillsN_cons]
      omega
theorem deep_zip (l : List Pt) (s : List Int) (h : s.length = l.length) : deepN l s l.length = List.zipWith (fun p x => max 0 (p.bd - x)) l s := by
  apply List.ext_getElem
  · simp [deepN_length, h]
  · intro i h1 h2
    have hi : i < l.length := by simpa [deepN_length] using h1
    simp [deepN, List.getD_eq_getElem?_getD, hi, h]
theorem deep_rev (l : List Pt) (s : List Int) (h : s.length = l.length) : deepN l.reverse s.reverse l.length = (deepN l s l.length).reverse := by
  have a := deep_zip l.reverse s.reverse (by simp [h])
  rw [List.length_reverse] at a
  rw [a, deep_zip l s h, List.reverse_zipWith h.symm]
def dnL : List Int → Int
  | [] => 0
  | x :: l => max 0 (x - l.getD 0 0) + dnL l
theorem manyL_app : ∀ (l : List Int) (y x : Int), manyL y (l ++ [x]) = manyL y l + max 0 (x - (l.getLast?.getD y)) := by
  intro l
  induction l with
  | nil => intro y x; simp [manyL]
  | cons z l ih =>
    intro y x
    rw [List.cons_append, manyL, ih, manyL]
    cases l with
    | nil => simp; omega
    | cons u l =>
      rw [List.getLast?_cons_cons, List.getLast?_eq_some_getLast (by simp : u :: l ≠ [])]
      simp only [Option.getD_some]
      omega
theorem many_rev_dn : ∀ (l : List Int), manyL 0 l.reverse = dnL l := by
  intro l
  induction l with
  | nil => rfl
  | cons x l ih =>
    rw [List.reverse_cons, manyL_app, ih, dnL, List.getLast?_reverse]
    have e : l.head?.getD 0 = l.getD 0 0 := by cases l <;> rfl
    rw [e]
    omega
theorem many_dn : ∀ (l : List Int) (y : Int), (∀ x, x ∈ l → 0 ≤ x) → manyL y l = dnL l + (match l with | [] => 0 | x :: _ => max 0 (x - y) - x) := by
  intro l
  induction l with
  | nil => intro y _; rfl
  | cons x l ih =>
    intro y h
    rw [manyL, ih x (fun z hz => h z (List.mem_cons_of_mem _ hz)), dnL]
    cases l with
    | nil =>
      have := h x (List.mem_cons_self ..)
      simp [dnL]
      omega
    | cons z l =>
      simp only [List.getD_cons_zero]
      omega
theorem many_rev (l : List Int) (h : ∀ x, x ∈ l → 0 ≤ x) : manyL 0 l.reverse = manyL 0 l := by
  rw [many_rev_dn, many_dn l 0 h]
  cases l with
  | nil => rfl
  | cons x l =>
    have := h x (List.mem_cons_self ..)
    simp only
    omega
theorem deep_nn (l : List Pt) (s : List Int) (n : Nat) : ∀ x, x ∈ deepN l s n → 0 ≤ x := by
  intro x hx
  obtain ⟨k, _, rfl⟩ := List.mem_map.1 hx
  omega
/-- The needs of a surface that is turned. -/
theorem needs_rev (l : List Pt) (s : List Int) (h : s.length = l.length) : fillsN l.reverse s.reverse l.reverse.length = fillsN l s l.length ∧ manyL 0 (deepN l.reverse s.reverse l.reverse.length) = manyL 0 (deepN l s l.length) := by
  rw [List.length_reverse, fills_rev l s h, deep_rev l s h, many_rev _ (deep_nn l s l.length)]
  exact ⟨rfl, rfl⟩
theorem best_rev (r : Row) (h : errR r = 0) (q : Bool) : (bestR (revR r) q).2 = (bestR r q).2 := by
  have hr := revR_err r h
  have hc := cross_rev r ((check_valid r).1 h).s0
  have hrl : (revR r).pts.length = r.pts.length := by show r.pts.reverse.length = _; simp
  rcases best_cases r h with ⟨h1, h2⟩ | ⟨h1, h2⟩
  · rcases best_cases (revR r) hr with ⟨g1, g2⟩ | ⟨g1, g2⟩
    · rw [h2, g2]
    · rw [hc, h1] at g1; cases g1
  · rcases best_cases (revR r) hr with ⟨g1, g2⟩ | ⟨g1, g2⟩
    · rw [hc, h1] at g1; cases g1
    · obtain ⟨s, hb, hl, _, hg, hm⟩ := h2 q
      obtain ⟨t, gb, gl, _, gg, gm⟩ := g2 q
      have gl' : t.length = r.pts.length := by rw [gl, hrl]
      rw [hb, gb]
      have n1 := needs_rev r.pts s hl
      have n2 : fillsN r.pts t.reverse r.pts.length = fillsN (revR r).pts t (revR r).pts.length ∧ manyL 0 (deepN r.pts t.reverse r.pts.length) = manyL 0 (deepN (revR r).pts t (revR r).pts.length) := by
        have := needs_rev (revR r).pts t gl
        have e : (revR r).pts.reverse = r.pts := by show r.pts.reverse.reverse = _; simp
        rw [e] at this
        exact this
      have a := hm t.reverse (by simp [gl']) ((goodV_iff r _ (by simp [gl'])).2 (by
        have := good_rev (revR r) t ((goodV_iff (revR r) t gl).1 gg)
        rwa [revR_revR] at this))
      have b := gm s.reverse (by rw [hrl]; simp [hl]) ((goodV_iff (revR r) _ (by rw [hrl]; simp [hl])).2 (good_rev r s ((goodV_iff r s hl).1 hg)))
      rw [n2.1, n2.2] at a
      have e1 : fillsN (revR r).pts s.reverse (revR r).pts.length = fillsN r.pts s r.pts.length := n1.1
      have e2 : manyL 0 (deepN (revR r).pts s.reverse (revR r).pts.length) = manyL 0 (deepN r.pts s r.pts.length) := n1.2
      rw [e1, e2] at b
      have := ltN_eq a b
      simp only [Prod.mk.injEq] at this
      simp only [this.1, this.2]
end Go.Proofs.Ytnciomoapajonaa
namespace Go.Proofs.Ytnciomoapajonaa
open Go Go.RowKit Cv

def ptC (l : List Pt) : List Value := l.flatMap fun p => [.int .i64 p.bd, .int .i64 p.lo, .int .i64 p.hi]
theorem ptC_append (a b : List Pt) : ptC (a ++ b) = ptC a ++ ptC b := by simp [ptC]
theorem ptC_one (p : Pt) : ptC [p] = [.int .i64 p.bd, .int .i64 p.lo, .int .i64 p.hi] := rfl
theorem ptC_get : ∀ (l : List Pt) (k : Nat) (h : k < l.length), (ptC l)[k * 3]? = some (.int .i64 l[k].bd) ∧ (ptC l)[k * 3 + 1]? = some (.int .i64 l[k].lo) ∧ (ptC l)[k * 3 + 2]? = some (.int .i64 l[k].hi) := by
  intro l
  induction l with
  | nil => intro k h; exact absurd h (Nat.not_lt_zero _)
  | cons p l ih =>
    intro k h
    cases k with
    | zero => exact ⟨rfl, rfl, rfl⟩
    | succ k =>
      have := ih k (by simpa using h)
      have e : ptC (p :: l) = .int .i64 p.bd :: .int .i64 p.lo :: .int .i64 p.hi :: ptC l := rfl
      rw [e, show (k + 1) * 3 = k * 3 + 1 + 1 + 1 by omega, show k * 3 + 1 + 1 + 1 + 1 = (k * 3 + 1) + 1 + 1 + 1 by omega, show k * 3 + 1 + 1 + 1 + 2 = (k * 3 + 2) + 1 + 1 + 1 by omega]
      simp only [List.getElem?_cons_succ, List.getElem_cons_succ]
      exact this
theorem ptsAt_own {w : World} {base e : Nat} {v : Value} {l : List Pt} (h : w.ownsRow base e 3 v l.length (ptC l)) (hl : l.length ≤ 4611686018427387904) : PtsAt w v l := by
  rcases h.2 with ⟨rfl, h0⟩ | ⟨g, cap, cur, rfl, hb, hg, hnc, hcm, hcs, htake⟩
  · have : l = [] := List.length_eq_zero_iff.1 h0
    subst this
    exact ⟨by simp, none, 0, rfl, by simp, fun hne => absurd rfl hne⟩
  · refine ⟨hl, _, cap, rfl, hnc, fun _ => ⟨g, 0, rfl, fun k hk => ?_⟩⟩
    have e1 := ptC_get l k hk
    rw [Nat.zero_add]
    exact ⟨(h.cellAt (k * 3) (by omega)).trans e1.1, (h.cellAt (k * 3 + 1) (by omega)).trans e1.2.1, (h.cellAt (k * 3 + 2) (by omega)).trans e1.2.2⟩
theorem own_other {w : World} {base e size n : Nat} {v : Value} {xs : List Value} (h : w.ownsRow base e size v n xs) (p : Addr) (hp : p.block < base) (u : Value) : (w.setCell p u).ownsRow base e size v n xs := by
  obtain ⟨h0, h⟩ := h
  refine ⟨h0, ?_⟩
  rcases h with h | ⟨g, cap, cur, r1, r2, r3, r4⟩
  · exact .inl h
  · exact .inr ⟨g, cap, cur, r1, r2, (heap_setCell_other w p g u (by omega)).trans r3, r4⟩
theorem ptInfo : (Try.prog.info? 58).map (fun i => (i.zero, i.size, i.bytes)) = some (some (.agg #[.int .i64 0, .int .i64 0, .int .i64 0]), 3, 24) := by kernel_rfl
set_option maxRecDepth 100000 in
set_option maxHeartbeats 4000000 in
theorem rturned_any (r : Row) (pv : Value) (w : World) (hP : PtsAt w pv r.pts) (h10 : r.pts.length ≤ 10) :
    Calls Try.prog 47 #[.agg #[.int .i64 r.st, pv]] w fun e w' => ∃ v, e = .returned (.agg #[.int .i64 r.st, v]) ∧ PtsAt w' v r.pts.reverse ∧ Below w.heap.size w w' := by
  obtain ⟨i0, hi0⟩ := info_of_underlying Try.underlying58
  have HI : Hid (i0.zero = some (.agg #[.int .i64 0, .int .i64 0, .int .i64 0]) ∧ i0.size = 3 ∧ i0.bytes = 24) := by
    have h := ptInfo
    rw [hi0] at h
    simp at h
    exact h
  obtain ⟨st, pts⟩ := r
  simp only at hP h10 ⊢
  obtain ⟨lp, pa, pc, rfl, _, _⟩ := id hP
  obtain ⟨W, hW, HA0, HZ0, hB0, hsz⟩ := al2 w (Obj.cells #[.int .i64 st, .slice pa pts.length pc] 24) (Obj.cells #[.int .i64 0, .slice none 0 0] 24)
  have HP := Lib.hid (hP.below hB0)
  have HA := Lib.hid HA0
  have HZ := Lib.hid HZ0
  have HB := Lib.hid hB0
  have HW := Lib.hid hW
  have HSZ := Lib.hid hsz
  clear hP HA0 HZ0 hB0 hW hsz
  have l10 : (pts.length : Int) ≤ 10 := by omega
  go_enter Try.func47, Try.ntmps47
  go_wp2_with fail
  rw [HW.out]
  clear HW
  go_loopg [3, 4] pts.length (fun g v i wr => ∃ (k : Nat) (j : Int) (oa : Option Addr) (oc : Nat), g + k = pts.length ∧ j + k + 1 = pts.length ∧ i = .int .i64 j ∧ v = .slice oa k oc ∧ wr.ownsRow W.heap.size 58 3 v k (ptC (pts.reverse.take k)) ∧ Hid (Below W.heap.size W wr))
  case atStart => exact ⟨0, (pts.length : Int) - 1, none, 0, by omega, by omega, rfl, rfl, World.ownsRow_nil _ _ _ _, Below.refl _ _⟩
  case round =>
    obtain ⟨k, j, oa, oc, hk, hj, rfl, rfl, hown, HR⟩ := hrel
    have hs2 := HR.out.size
    by_cases hlt : k < pts.length
    · obtain ⟨m, rfl⟩ : ∃ m : Nat, j = m := ⟨j.toNat, by omega⟩
      have hm : m < pts.length := by omega
      have l0 := cellOf ((HR.out.block _ (lt_of_block HA.out)).trans HA.out) 0 _ rfl
      have l1 := cellOf ((HR.out.block _ (lt_of_block HA.out)).trans HA.out) 1 _ rfl
      have ll := lt_of_block ((HR.out.block _ (lt_of_block HA.out)).trans HA.out)
      obtain ⟨b, o, rfl, c0, c1, c2⟩ := (HP.out.below HR.out).get hm
      have HT : Hid (ptC (pts.reverse.take (k + 1)) = ptC (pts.reverse.take k) ++ [.int .i64 pts[m].bd, .int .i64 pts[m].lo, .int .i64 pts[m].hi]) := by
        show _ = _
        have hkr : k < pts.reverse.length := by simpa using hlt
        rw [List.take_succ_eq_append_getElem hkr, ptC_append, ptC_one, List.getElem_reverse]
        have e : pts.length - 1 - k = m := by omega
        simp only [e]
      generalize pts[m] = p at *
      obtain ⟨bd, lo, hi⟩ := p
      simp only at c0 c1 c2 HT
      have mI : (m : Int) < (pts.length : Int) := by omega
      have m9 : (m : Int) ≤ 9 := by omega
      have hownA := Lib.hid (hown.alloc (Obj.cells #[.int .i64 bd, .int .i64 lo, .int .i64 hi] 58))
      have HBq : Hid (Below W.heap.size W (wr.alloc (Obj.cells #[.int .i64 bd, .int .i64 lo, .int .i64 hi] 58))) := HR.out.alloc hs2 _
      clear hown
      go_wp2_with (at_builtin; refine wpList_append_own _ rfl _ _ 22 rfl W.heap.size 58 i0 (.agg #[.int .i64 0, .int .i64 0, .int .i64 0]) 3 24 Try.underlying22 hi0 HI.out.1 HI.out.2.1 HI.out.2.2 rfl (by decide) _ _ _ rfl hownA.out ⟨wr.heap.size, 0, none⟩ 1 1 [.int .i64 bd, .int .i64 lo, .int .i64 hi] rfl rfl ?pa1 ?pa2 ?pa3 ?pa4 ?pa5 ?_)
      case pa1 =>
        intro j u hj
        match j, hj with
        | 0, hj => simp at hj; subst hj; simp [Addr.add]
        | 1, hj => simp at hj; subst hj; simp [Addr.add]
        | 2, hj => simp at hj; subst hj; simp [Addr.add]
        | j + 3, hj => simp at hj
      case pa2 =>
        intro u hu
        simp at hu
        rcases hu with rfl | rfl | rfl <;> rfl
      case pa3 => unfold maxLen; omega
      case pa4 => omega
      case pa5 => exact HBq.out.size
      · intro v' w3 hown3 hgrow _
        have hB3 : Hid (Below W.heap.size W w3) := HBq.out.grown hgrow HBq.out.size (fun g hg => (hownA.out.lt g hg).1)
        obtain ⟨sa', sc', rfl⟩ := own_slice hown3
        clear hgrow hownA
        go_wp2
        go_roundg (gk - 1)
        case measure => omega
        case rel => exact ⟨k + 1, (m : Int) - 1, sa', sc', by omega, by omega, by go_num, rfl, by rw [HT.out]; exact hown3, hB3⟩
    · obtain rfl : j = -1 := by omega
      have hkn : k = pts.length := by omega
      have hown : wr.ownsRow W.heap.size 58 3 (.slice oa k oc) pts.reverse.length (ptC pts.reverse) := by
        rw [show pts.reverse.take k = pts.reverse from List.take_of_length_le (by simp; omega)] at hown
        rw [show pts.reverse.length = k by simp; omega]
        exact hown
      have HO := Lib.hid hown
      have HAr := Lib.hid ((HR.out.block _ (lt_of_block HA.out)).trans HA.out)
      have HZr := Lib.hid ((HR.out.block _ (lt_of_block HZ.out)).trans HZ.out)
      have l0 := cellOf HAr.out 0 _ rfl
      have l1 := cellOf HAr.out 1 _ rfl
      have f0 := frozen_of_row _ _ 0 _ _ HAr.out
      have f1 := frozen_of_row _ _ 1 _ _ HAr.out
      have g0 := cellOf HZr.out 0 _ rfl
      have g1 := cellOf HZr.out 1 _ rfl
      have h0 := frozen_of_row _ _ 0 _ _ HZr.out
      have h1 := frozen_of_row _ _ 1 _ _ HZr.out
      clear hown hlt hk hkn
      go_wp2
      have z1 : (wr.setCell ⟨w.heap.size, 1, none⟩ (.slice oa k oc)).heap[w.heap.size + 1]? = some (.cells #[.int .i64 0, .slice none 0 0] 24 (0, 0)) := (heap_setCell_other wr (⟨w.heap.size, 1, none⟩ : Addr) _ _ (by simp)).trans HZr.out
      have z2 := two_set (x := .int .i64 st) (y := .slice oa k oc) z1
      have hz := HSZ.out
      refine bodyPost_ret (row_result rfl _ _ (w.heap.size + 1) _ _ rfl z2) rfl ⟨_, rfl, ?_, ?_⟩
      · exact ptsAt_own (own_other (own_other (own_other HO.out ⟨w.heap.size, 1, none⟩ (by show w.heap.size < _; omega) _) ⟨w.heap.size + 1, 0, none⟩ (by show w.heap.size + 1 < _; omega) _) ⟨w.heap.size + 1, 1, none⟩ (by show w.heap.size + 1 < _; omega) _) (by simp; omega)
      · exact two_below ((HB.out.trans (HR.out.mono HB.out.size)).setCell (p := ⟨w.heap.size, 1, none⟩) (Nat.le_refl _) _) (by omega)
end Go.Proofs.Ytnciomoapajonaa
namespace Go.Proofs.Ytnciomoapajonaa
open Go Go.RowKit Go.Shelf Cv

set_option maxRecDepth 100000 in
set_option maxHeartbeats 16000000 in
theorem lturn_no (st : Int) (pts : List Pt) (pa : Option Addr) (pc : Nat) (w : World) (hP : PtsAt w (.slice pa pts.length pc) pts) (hv : ¬ errR ⟨st, pts⟩ = 0) :
    Calls Try.prog 13 #[.agg #[.int .i64 st, .slice pa pts.length pc]] w fun e w' => e = .returned (.bool true) ∧ Below w.heap.size w w' := by
  generalize HE : errR ⟨st, pts⟩ = er at *
  have t1 : (er == 0) = false := by simp [hv]
  have HP := Lib.hid hP
  clear hP
  have HB := Lib.hid (Below.refl w.heap.size w)
  go_enter Try.func13, Try.ntmps13
  go_wp2_with fail
  have hb := (Below.refl w.heap.size w).alloc (Nat.le_refl _) (Obj.cells #[.int .i64 st, .slice pa pts.length pc] 24)
  have HR := Lib.hid (heap_alloc_new w (Obj.cells #[.int .i64 st, .slice pa pts.length pc] 24))
  have hz1 : (w.alloc (Obj.cells #[.int .i64 st, .slice pa pts.length pc] 24)).heap.size = w.heap.size + 1 := by simp
  have HB' := Lib.hid (HB.out.trans (hb.mono HB.out.size))
  have HP' := Lib.hid (HP.out.below hb)
  clear HB
  have HB := HB'
  clear HB'
  clear HP
  have HP := HP'
  clear HP'
  clear hb
  generalize w.alloc (Obj.cells #[.int .i64 st, .slice pa pts.length pc] 24) = w1 at *
  have hcall := valid_any ⟨st, pts⟩ _ w1 HP.out
  rw [HE, t1] at hcall
  refine hcall.mono ?_
  clear hcall
  rintro e w2 ⟨rfl, hb⟩
  have HB' := Lib.hid (HB.out.trans (hb.mono HB.out.size))
  have HP' := Lib.hid (HP.out.below hb)
  have HR' := Lib.hid ((hb.block _ (lt_of_block HR.out)).trans HR.out)
  clear HB
  have HB := HB'
  clear HB'
  clear HP
  have HP := HP'
  clear HP'
  clear HR
  have HR := HR'
  clear HR'
  clear hb
  go_wp2_with fail
  have hcall := awake_any w2
  refine hcall.mono ?_
  clear hcall
  rintro e w3 ⟨rfl, hb⟩
  have HB' := Lib.hid (HB.out.trans (hb.mono HB.out.size))
  have HP' := Lib.hid (HP.out.below hb)
  have HR' := Lib.hid ((hb.block _ (lt_of_block HR.out)).trans HR.out)
  clear HB
  have HB := HB'
  clear HB'
  clear HP
  have HP := HP'
  clear HP'
  clear HR
  have HR := HR'
  clear HR'
  clear hb
  go_wp2
  go_ret
  exact ⟨rfl, HB.out⟩

set_option maxRecDepth 100000 in
set_option maxHeartbeats 16000000 in
theorem lturn_ok (st : Int) (pts : List Pt) (pa : Option Addr) (pc : Nat) (w : World) (hP : PtsAt w (.slice pa pts.length pc) pts) (h10 : pts.length ≤ 10) (HE : Hid (errR ⟨st, pts⟩ = 0)) (rp : List Pt) (HRP : Hid (pts.reverse = rp)) (bl bm : List Sp) (be : Int) (ln : Nat) (hln : ln ≤ 10) (HBL : Hid (boundsR ⟨st, pts⟩ = (bl, be))) (HBM : Hid (boundsR ⟨st, rp⟩ = (bm, be))) (HLN : Hid (bl.length = ln)) (HLM : Hid (bm.length = ln)) (HG : Hid (∀ i, i < bl.length → bl.getD i (0, 0) = bm.getD (bl.length - 1 - i) (0, 0))) (n1 n2 : Int) (HN1 : Hid (needR ⟨st, pts⟩ = (n1, n2))) (HN2 : Hid (needR ⟨st, rp⟩ = (n1, n2))) (HBB : Hid (∀ q, (bestR ⟨st, rp⟩ q).2 = (bestR ⟨st, pts⟩ q).2)) :
    Calls Try.prog 13 #[.agg #[.int .i64 st, .slice pa pts.length pc]] w fun e w' => e = .returned (.bool true) ∧ Below w.heap.size w w' := by
  have HP := Lib.hid hP
  clear hP
  have HB := Lib.hid (Below.refl w.heap.size w)
  go_enter Try.func13, Try.ntmps13
  go_wp2_with fail
  have hb := (Below.refl w.heap.size w).alloc (Nat.le_refl _) (Obj.cells #[.int .i64 st, .slice pa pts.length pc] 24)
  have HR := Lib.hid (heap_alloc_new w (Obj.cells #[.int .i64 st, .slice pa pts.length pc] 24))
  have hz1 : (w.alloc (Obj.cells #[.int .i64 st, .slice pa pts.length pc] 24)).heap.size = w.heap.size + 1 := by simp
  have HB' := Lib.hid (HB.out.trans (hb.mono HB.out.size))
  have HP' := Lib.hid (HP.out.below hb)
  clear HB
  have HB := HB'
  clear HB'
  clear HP
  have HP := HP'
  clear HP'
  clear hb
  generalize w.alloc (Obj.cells #[.int .i64 st, .slice pa pts.length pc] 24) = w1 at *
  have hcall := valid_any ⟨st, pts⟩ _ w1 HP.out
  rw [HE.out] at hcall
  have e0 : ((0 : Int) == 0) = true := rfl
  rw [e0] at hcall
  clear e0
  refine hcall.mono ?_
  clear hcall
  rintro e w2 ⟨rfl, hb⟩
  have HB' := Lib.hid (HB.out.trans (hb.mono HB.out.size))
  have HP' := Lib.hid (HP.out.below hb)
  have HR' := Lib.hid ((hb.block _ (lt_of_block HR.out)).trans HR.out)
  clear HB
  have HB := HB'
  clear HB'
  clear HP
  have HP := HP'
  clear HP'
  clear HR
  have HR := HR'
  clear HR'
  clear hb
  have ra := cellOf HR.out 0 _ rfl
  have rb := cellOf HR.out 1 _ rfl
  have rl := lt_of_block HR.out
  go_wp2_with fail
  clear ra rb rl
  have hcall := rturned_any ⟨st, pts⟩ _ w2 HP.out h10
  refine hcall.mono ?_
  clear hcall
  rintro e w3 ⟨tv, rfl, hT, hb⟩
  have HB' := Lib.hid (HB.out.trans (hb.mono HB.out.size))
  have HP' := Lib.hid (HP.out.below hb)
  have HR' := Lib.hid ((hb.block _ (lt_of_block HR.out)).trans HR.out)
  clear HB
  have HB := HB'
  clear HB'
  clear HP
  have HP := HP'
  clear HP'
  clear HR
  have HR := HR'
  clear HR'
  clear hb
  rw [HRP.out] at hT
  have HT := Lib.hid hT
  obtain ⟨_, ta, tc, rfl, _, _⟩ := id hT
  clear hT
  have ra := cellOf HR.out 0 _ rfl
  have rb := cellOf HR.out 1 _ rfl
  have rl := lt_of_block HR.out
  go_wp2_with fail
  clear ra rb rl
  have hb := (Below.refl w3.heap.size w3).alloc (Nat.le_refl _) (Obj.cells #[.int .i64 st, .slice ta rp.length tc] 24)
  have HJ := Lib.hid (heap_alloc_new w3 (Obj.cells #[.int .i64 st, .slice ta rp.length tc] 24))
  have hz4 : (w3.alloc (Obj.cells #[.int .i64 st, .slice ta rp.length tc] 24)).heap.size = w3.heap.size + 1 := by simp
  have HB' := Lib.hid (HB.out.trans (hb.mono HB.out.size))
  have HP' := Lib.hid (HP.out.below hb)
  have HR' := Lib.hid ((hb.block _ (lt_of_block HR.out)).trans HR.out)
  have HT' := Lib.hid (HT.out.below hb)
  clear HB
  have HB := HB'
  clear HB'
  clear HP
  have HP := HP'
  clear HP'
  clear HR
  have HR := HR'
  clear HR'
  clear HT
  have HT := HT'
  clear HT'
  clear hb
  generalize w3.alloc (Obj.cells #[.int .i64 st, .slice ta rp.length tc] 24) = w4 at *
  have hcall := Bounds_any ⟨st, pts⟩ _ w4 HP.out
  rw [HBL.out] at hcall
  simp only at hcall
  refine hcall.mono ?_
  clear hcall
  rintro e w5 ⟨v1, rfl, hown, hb⟩
  have HB' := Lib.hid (HB.out.trans (hb.mono HB.out.size))
  have HP' := Lib.hid (HP.out.below hb)
  have HR' := Lib.hid ((hb.block _ (lt_of_block HR.out)).trans HR.out)
  have HT' := Lib.hid (HT.out.below hb)
  have HJ' := Lib.hid ((hb.block _ (lt_of_block HJ.out)).trans HJ.out)
  clear HB
  have HB := HB'
  clear HB'
  clear HP
  have HP := HP'
  clear HP'
  clear HR
  have HR := HR'
  clear HR'
  clear HT
  have HT := HT'
  clear HT'
  clear HJ
  have HJ := HJ'
  clear HJ'
  clear hb
  have hpa := passAt_own hown (by rw [HLN.out]; omega)
  obtain ⟨sa, sc, rfl⟩ := own_slice hown
  rw [HLN.out] at hpa ⊢
  have HX := Lib.hid hpa
  clear hown hpa
  have ja := cellOf HJ.out 0 _ rfl
  have jb := cellOf HJ.out 1 _ rfl
  have jl := lt_of_block HJ.out
  go_wp2_with fail
  clear ja jb jl
  have hcall := Bounds_any ⟨st, rp⟩ _ w5 HT.out
  rw [HBM.out] at hcall
  simp only at hcall
  refine hcall.mono ?_
  clear hcall
  rintro e w6 ⟨v2, rfl, hown, hb⟩
  have HB' := Lib.hid (HB.out.trans (hb.mono HB.out.size))
  have HP' := Lib.hid (HP.out.below hb)
  have HR' := Lib.hid ((hb.block _ (lt_of_block HR.out)).trans HR.out)
  have HT' := Lib.hid (HT.out.below hb)
  have HJ' := Lib.hid ((hb.block _ (lt_of_block HJ.out)).trans HJ.out)
  have HX' := Lib.hid (HX.out.below hb)
  clear HB
  have HB := HB'
  clear HB'
  clear HP
  have HP := HP'
  clear HP'
  clear HR
  have HR := HR'
  clear HR'
  clear HT
  have HT := HT'
  clear HT'
  clear HJ
  have HJ := HJ'
  clear HJ'
  clear HX
  have HX := HX'
  clear HX'
  clear hb
  have hpa := passAt_own hown (by rw [HLM.out]; omega)
  obtain ⟨sb, sd, rfl⟩ := own_slice hown
  rw [HLM.out] at hpa ⊢
  have HY := Lib.hid hpa
  clear hown hpa
  go_wp2_with fail
  have HL := Lib.hid (Below.refl w6.heap.size w6)
  go_loopg [8] ln (fun g i wr => ∃ k : Nat, g + k = ln ∧ i = .int .i64 k ∧ Hid (Below w6.heap.size w6 wr))
  case atStart => exact ⟨0, by omega, rfl, HL.out⟩
  case round =>
    clear HL
    obtain ⟨k, hk, rfl, HL⟩ := hrel
    obtain ⟨wr7, hwr⟩ : ∃ wr7, wr = wr7 := ⟨_, rfl⟩
    rw [hwr] at HL ⊢
    clear hwr
    have hb := HL.out
    have HB' := Lib.hid (HB.out.trans (hb.mono HB.out.size))
    have HP' := Lib.hid (HP.out.below hb)
    have HR' := Lib.hid ((hb.block _ (lt_of_block HR.out)).trans HR.out)
    have HT' := Lib.hid (HT.out.below hb)
    have HJ' := Lib.hid ((hb.block _ (lt_of_block HJ.out)).trans HJ.out)
    have HX' := Lib.hid (HX.out.below hb)
    have HY' := Lib.hid (HY.out.below hb)
    clear HB
    have HB := HB'
    clear HB'
    clear HP
    have HP := HP'
    clear HP'
    clear HR
    have HR := HR'
    clear HR'
    clear HT
    have HT := HT'
    clear HT'
    clear HJ
    have HJ := HJ'
    clear HJ'
    clear HX
    have HX := HX'
    clear HX'
    clear HY
    have HY := HY'
    clear HY'
    clear hb
    by_cases hlt : k < ln
    · skip
      obtain ⟨j, hj⟩ : ∃ j : Nat, j + k + 1 = ln := ⟨ln - 1 - k, by omega⟩
      obtain ⟨b1, o1, rfl, c0, c1⟩ := HX.out.get (show k < bl.length by rw [HLN.out]; exact hlt)
      obtain ⟨b2, o2, rfl, d0, d1⟩ := HY.out.get (show j < bm.length by rw [HLM.out]; omega)
      have he : bm[j]'(by rw [HLM.out]; omega) = bl[k]'(by rw [HLN.out]; exact hlt) := by
        have := HG.out k (by rw [HLN.out]; exact hlt)
        rw [HLN.out, show ln - 1 - k = j by omega, List.getD_eq_getElem?_getD, List.getD_eq_getElem?_getD, List.getElem?_eq_getElem (show k < bl.length by rw [HLN.out]; exact hlt), List.getElem?_eq_getElem (show j < bm.length by rw [HLM.out]; omega)] at this
        exact this.symm
      rw [he] at d0 d1
      clear he
      generalize bl[k]'(by rw [HLN.out]; exact hlt) = sp at *
      obtain ⟨x, y⟩ := sp
      simp only at c0 c1 d0 d1
      have kI : (k : Int) < (ln : Int) := by omega
      have jI : (j : Int) < (ln : Int) := by omega
      have ji : (ln : Int) - 1 - (k : Int) = (j : Int) := by omega
      have l10 : (ln : Int) ≤ 10 := by omega
      have w1' : IntKind.i64.wrap ((ln : Int) - 1) = (ln : Int) - 1 := by rw [IntKind.wrap_i64]; omega
      have w2' : IntKind.i64.wrap ((ln : Int) - 1 - (k : Int)) = (j : Int) := by rw [IntKind.wrap_i64]; omega
      go_wp2_with fail
      go_quiet (fail)
      go_wp2
      go_roundg (gk - 1)
      case measure => omega
      case rel => exact ⟨k + 1, by omega, by go_num, HL.out.trans (Below.mono (B := wr7.heap.size) ⟨rfl, rfl, rfl, Nat.le_refl _, fun _ _ => rfl⟩ HL.out.size)⟩
    · obtain rfl : k = ln := by omega
      clear hlt hk HG HX HY HL
      have ra := cellOf HR.out 0 _ rfl
      have rb := cellOf HR.out 1 _ rfl
      have rl := lt_of_block HR.out
      go_wp2_with fail
      clear ra rb rl
      have hcall := need_any ⟨st, pts⟩ _ wr7 HP.out
      rw [HN1.out] at hcall
      simp only at hcall
      refine hcall.mono ?_
      clear hcall
      rintro e w8 ⟨rfl, hb⟩
      have HB' := Lib.hid (HB.out.trans (hb.mono HB.out.size))
      have HP' := Lib.hid (HP.out.below hb)
      have HR' := Lib.hid ((hb.block _ (lt_of_block HR.out)).trans HR.out)
      have HT' := Lib.hid (HT.out.below hb)
      have HJ' := Lib.hid ((hb.block _ (lt_of_block HJ.out)).trans HJ.out)
      clear HB
      have HB := HB'
      clear HB'
      clear HP
      have HP := HP'
      clear HP'
      clear HR
      have HR := HR'
      clear HR'
      clear HT
      have HT := HT'
      clear HT'
      clear HJ
      have HJ := HJ'
      clear HJ'
      clear hb
      have ja := cellOf HJ.out 0 _ rfl
      have jb := cellOf HJ.out 1 _ rfl
      have jl := lt_of_block HJ.out
      go_wp2_with fail
      clear ja jb jl
      have hcall := need_any ⟨st, rp⟩ _ w8 HT.out
      rw [HN2.out] at hcall
      simp only at hcall
      refine hcall.mono ?_
      clear hcall
      rintro e w9 ⟨rfl, hb⟩
      have HB' := Lib.hid (HB.out.trans (hb.mono HB.out.size))
      have HP' := Lib.hid (HP.out.below hb)
      have HR' := Lib.hid ((hb.block _ (lt_of_block HR.out)).trans HR.out)
      have HT' := Lib.hid (HT.out.below hb)
      have HJ' := Lib.hid ((hb.block _ (lt_of_block HJ.out)).trans HJ.out)
      clear HB
      have HB := HB'
      clear HB'
      clear HP
      have HP := HP'
      clear HP'
      clear HR
      have HR := HR'
      clear HR'
      clear HT
      have HT := HT'
      clear HT'
      clear HJ
      have HJ := HJ'
      clear HJ'
      clear hb
      go_wp2_with fail
      have HL := Lib.hid (Below.refl w9.heap.size w9)
      go_loopg [13] 2 (fun g i wr => ∃ k : Nat, g + k = 2 ∧ i = .int .i64 k ∧ Hid (Below w9.heap.size w9 wr))
      case atStart => exact ⟨0, by omega, rfl, HL.out⟩
      case round =>
        clear HL
        obtain ⟨k, hk, rfl, HL⟩ := hrel
        obtain ⟨wr10, hwr⟩ : ∃ wr10, wr = wr10 := ⟨_, rfl⟩
        rw [hwr] at HL ⊢
        clear hwr
        have hb := HL.out
        have HB' := Lib.hid (HB.out.trans (hb.mono HB.out.size))
        have HP' := Lib.hid (HP.out.below hb)
        have HR' := Lib.hid ((hb.block _ (lt_of_block HR.out)).trans HR.out)
        have HT' := Lib.hid (HT.out.below hb)
        have HJ' := Lib.hid ((hb.block _ (lt_of_block HJ.out)).trans HJ.out)
        clear HB
        have HB := HB'
        clear HB'
        clear HP
        have HP := HP'
        clear HP'
        clear HR
        have HR := HR'
        clear HR'
        clear HT
        have HT := HT'
        clear HT'
        clear HJ
        have HJ := HJ'
        clear HJ'
        clear hb
        have hk3 : k = 0 ∨ k = 1 ∨ k = 2 := by omega
        rcases hk3 with rfl | rfl | rfl
        · obtain rfl : gk = 2 := by omega
          obtain ⟨⟨a, b, c⟩, HQ⟩ : ∃ q : Int × Int × Int, Hid ((bestR ⟨st, pts⟩ false).2 = q) := ⟨_, rfl⟩
          have HQ2 : Hid ((bestR ⟨st, rp⟩ false).2 = (a, b, c)) := (HBB.out false).trans HQ.out
          clear hk
          have ra := cellOf HR.out 0 _ rfl
          have rb := cellOf HR.out 1 _ rfl
          have rl := lt_of_block HR.out
          go_wp2_with fail
          clear ra rb rl
          have hcall := Best_any ⟨st, pts⟩ false _ wr10 HP.out
          rw [HQ.out] at hcall
          simp only at hcall
          refine hcall.mono ?_
          clear hcall
          rintro e w11 ⟨v1, rfl, hown, hb⟩
          have HB' := Lib.hid (HB.out.trans (hb.mono HB.out.size))
          have HP' := Lib.hid (HP.out.below hb)
          have HR' := Lib.hid ((hb.block _ (lt_of_block HR.out)).trans HR.out)
          have HT' := Lib.hid (HT.out.below hb)
          have HJ' := Lib.hid ((hb.block _ (lt_of_block HJ.out)).trans HJ.out)
          have HL' := Lib.hid (HL.out.trans (hb.mono HL.out.size))
          clear HB
          have HB := HB'
          clear HB'
          clear HP
          have HP := HP'
          clear HP'
          clear HR
          have HR := HR'
          clear HR'
          clear HT
          have HT := HT'
          clear HT'
          clear HJ
          have HJ := HJ'
          clear HJ'
          clear HL
          have HL := HL'
          clear HL'
          clear hb
          clear hown HQ
          have ja := cellOf HJ.out 0 _ rfl
          have jb := cellOf HJ.out 1 _ rfl
          have jl := lt_of_block HJ.out
          go_wp2_with fail
          clear ja jb jl
          have hcall := Best_any ⟨st, rp⟩ false _ w11 HT.out
          rw [HQ2.out] at hcall
          simp only at hcall
          refine hcall.mono ?_
          clear hcall
          rintro e w12 ⟨v2, rfl, hown, hb⟩
          have HB' := Lib.hid (HB.out.trans (hb.mono HB.out.size))
          have HP' := Lib.hid (HP.out.below hb)
          have HR' := Lib.hid ((hb.block _ (lt_of_block HR.out)).trans HR.out)
          have HT' := Lib.hid (HT.out.below hb)
          have HJ' := Lib.hid ((hb.block _ (lt_of_block HJ.out)).trans HJ.out)
          have HL' := Lib.hid (HL.out.trans (hb.mono HL.out.size))
          clear HB
          have HB := HB'
          clear HB'
          clear HP
          have HP := HP'
          clear HP'
          clear HR
          have HR := HR'
          clear HR'
          clear HT
          have HT := HT'
          clear HT'
          clear HJ
          have HJ := HJ'
          clear HJ'
          clear HL
          have HL := HL'
          clear HL'
          clear hb
          clear hown HQ2
          go_wp2
          go_roundg 1
          case measure => omega
          case rel => exact ⟨1, by omega, by go_num, HL.out⟩
        · obtain rfl : gk = 1 := by omega
          obtain ⟨⟨a, b, c⟩, HQ⟩ : ∃ q : Int × Int × Int, Hid ((bestR ⟨st, pts⟩ true).2 = q) := ⟨_, rfl⟩
          have HQ2 : Hid ((bestR ⟨st, rp⟩ true).2 = (a, b, c)) := (HBB.out true).trans HQ.out
          clear hk
          have ra := cellOf HR.out 0 _ rfl
          have rb := cellOf HR.out 1 _ rfl
          have rl := lt_of_block HR.out
          go_wp2_with fail
          clear ra rb rl
          have hcall := Best_any ⟨st, pts⟩ true _ wr10 HP.out
          rw [HQ.out] at hcall
          simp only at hcall
          refine hcall.mono ?_
          clear hcall
          rintro e w13 ⟨v1, rfl, hown, hb⟩
          have HB' := Lib.hid (HB.out.trans (hb.mono HB.out.size))
          have HP' := Lib.hid (HP.out.below hb)
          have HR' := Lib.hid ((hb.block _ (lt_of_block HR.out)).trans HR.out)
          have HT' := Lib.hid (HT.out.below hb)
          have HJ' := Lib.hid ((hb.block _ (lt_of_block HJ.out)).trans HJ.out)
          have HL' := Lib.hid (HL.out.trans (hb.mono HL.out.size))
          clear HB
          have HB := HB'
          clear HB'
          clear HP
          have HP := HP'
          clear HP'
          clear HR
          have HR := HR'
          clear HR'
          clear HT
          have HT := HT'
          clear HT'
          clear HJ
          have HJ := HJ'
          clear HJ'
          clear HL
          have HL := HL'
          clear HL'
          clear hb
          clear hown HQ
          have ja := cellOf HJ.out 0 _ rfl
          have jb := cellOf HJ.out 1 _ rfl
          have jl := lt_of_block HJ.out
          go_wp2_with fail
          clear ja jb jl
          have hcall := Best_any ⟨st, rp⟩ true _ w13 HT.out
          rw [HQ2.out] at hcall
          simp only at hcall
          refine hcall.mono ?_
          clear hcall
          rintro e w14 ⟨v2, rfl, hown, hb⟩
          have HB' := Lib.hid (HB.out.trans (hb.mono HB.out.size))
          have HP' := Lib.hid (HP.out.below hb)
          have HR' := Lib.hid ((hb.block _ (lt_of_block HR.out)).trans HR.out)
          have HT' := Lib.hid (HT.out.below hb)
          have HJ' := Lib.hid ((hb.block _ (lt_of_block HJ.out)).trans HJ.out)
          have HL' := Lib.hid (HL.out.trans (hb.mono HL.out.size))
          clear HB
          have HB := HB'
          clear HB'
          clear HP
          have HP := HP'
          clear HP'
          clear HR
          have HR := HR'
          clear HR'
          clear HT
          have HT := HT'
          clear HT'
          clear HJ
          have HJ := HJ'
          clear HJ'
          clear HL
          have HL := HL'
          clear HL'
          clear hb
          clear hown HQ2
          go_wp2
          go_roundg 0
          case measure => omega
          case rel => exact ⟨2, by omega, by go_num, HL.out⟩
        · obtain rfl : gk = 0 := by omega
          go_wp2_with fail
          have hcall := awake_any wr10
          refine hcall.mono ?_
          clear hcall
          rintro e w15 ⟨rfl, hb⟩
          have HB' := Lib.hid (HB.out.trans (hb.mono HB.out.size))
          have HP' := Lib.hid (HP.out.below hb)
          have HR' := Lib.hid ((hb.block _ (lt_of_block HR.out)).trans HR.out)
          have HT' := Lib.hid (HT.out.below hb)
          have HJ' := Lib.hid ((hb.block _ (lt_of_block HJ.out)).trans HJ.out)
          clear HB
          have HB := HB'
          clear HB'
          clear HP
          have HP := HP'
          clear HP'
          clear HR
          have HR := HR'
          clear HR'
          clear HT
          have HT := HT'
          clear HT'
          clear HJ
          have HJ := HJ'
          clear HJ'
          clear hb
          go_wp2
          go_ret
          exact ⟨rfl, HB.out⟩

set_option maxRecDepth 100000 in
set_option maxHeartbeats 16000000 in
theorem lturn_any (r : Row) (pv : Value) (w : World) (hP : PtsAt w pv r.pts) :
    Calls Try.prog 13 #[.agg #[.int .i64 r.st, pv]] w fun e w' => e = .returned (.bool true) ∧ Below w.heap.size w w' := by
  obtain ⟨st, pts⟩ := r
  simp only at hP ⊢
  obtain ⟨lp, pa, pc, rfl, _, _⟩ := id hP
  by_cases hv : errR ⟨st, pts⟩ = 0
  · have hV := (check_valid _).1 hv
    have h10 : pts.length ≤ 10 := hV.n10
    obtain ⟨h1, h2, h3⟩ := bounds_rev ⟨st, pts⟩ hv
    have hn := need_rev ⟨st, pts⟩ hv
    have hb := best_rev ⟨st, pts⟩ hv
    have hl : (boundsR ⟨st, pts⟩).1.length ≤ 10 := by
      unfold boundsR
      split
      · show (bandsR ⟨st, pts⟩).length ≤ 10
        rw [bandsR_length]; exact h10
      · exact Nat.zero_le _
    exact lturn_ok st pts pa pc w hP h10 hv pts.reverse rfl (boundsR ⟨st, pts⟩).1 (boundsR (revR ⟨st, pts⟩)).1 (boundsR ⟨st, pts⟩).2 _ hl rfl (by show _ = _; rw [← h1]; rfl) rfl h2 h3 (needR ⟨st, pts⟩).1 (needR ⟨st, pts⟩).2 rfl (by show _ = _; rw [← hn]; rfl) hb
  · exact lturn_no st pts pa pc w hP hv

end Go.Proofs.Ytnciomoapajonaa
namespace Go.Proofs.Ytnciomoapajonaa
namespace ClaimCarveTurned
open Go.ChangeShapes Go.WideShapes Go.ChangeAt Go.RowKit

theorem own : ownKnob Try.prog.godebug = none := by kernel_rfl
theorem laidOutP : laidOutB Try.prog = true := by kernel_rfl

set_option maxRecDepth 100000 in
theorem contract (H : Type) (enc : TypeId × Value → H) (W : World) (base : Nat) (args : Array Value) (ds gs : List (DataW H)) (before : List MemPlace)
    (hval : ∀ (j : Nat) t v, Try.f13.params[j]? = some t → args[j]? = some v → Value.okWide Try.prog W .any base t v)
    (hW : DataW.Whole enc Try.prog Try.f13.params.toList Rows.carveTurnedSpec.vars false W args.toList ds gs before)
    (hsz : (DataW.weightsEach Try.prog (Try.f13.params.toList ++ Rows.carveTurnedSpec.plain.varTypes Try.prog) (ds ++ gs)).all (· ≤ reachBytes) = true) :
    Calls Try.prog 13 args W fun e W' => ∃ v, e = .returned v ∧ Rows.carveTurnedSpec.post enc Try.prog Try.f13 false true false false W args v W' := by
  have hW' := hW
  obtain ⟨p, q, hA0, hV, rfl, hfz, hnd⟩ := hW
  have hA : DataW.TrodAll enc Try.prog W 0 (fun _ => true) true Try.f13.params.toList args.toList ds p := hA0
  rw [Try.params13] at hA hval hsz
  obtain ⟨v0, vs0, d0, ds0, p0, q0, hargs, rfl, rfl, h0, r0⟩ := trodAll_cons hA
  obtain ⟨rfl, rfl, rfl⟩ := trodAll_nil r0
  obtain rfl : args = #[v0] := by cases args; simp_all
  obtain ⟨rfl, rfl⟩ := trodVars_none hV
  have w0 : ∀ x ∈ d0.weights Try.prog 24, x ≤ reachBytes := fun x hx => of_decide_eq_true (List.all_eq_true.1 hsz _ (DataW.weights_mem_each (j := 0) (t := 24) (d := d0) rfl rfl x hx))
  obtain ⟨r, pv, rfl, hP, hs0, hs9⟩ := open_row (hval 0 24 v0 rfl rfl) h0 w0
  clear hA0
  refine (lturn_any r pv W hP ).mono fun e W' ⟨he, hb⟩ => ?_
  subst he
  exact ⟨_, rfl, post_law laidOutP (by rw [Try.params13]; intro t ht; simp at ht; subst ht; exact ⟨by kernel_rfl, of_decide_eq_true (by kernel_rfl)⟩) rfl rfl Try.underlying4 rfl hW' hb⟩

set_option maxRecDepth 100000 in
theorem lifted (os : Os) (started : os.Started) (H : Type) (enc : TypeId × Value → H) :
    ReturnsInHanded {} Try.checked os 13 .any (Rows.carveTurnedSpec.pre6 enc Try.prog Try.f13 Rows.carveTurnedRow.domain false) (Rows.carveTurnedSpec.post enc Try.prog Try.f13 false true false false) := by
  refine returnsInHanded_of_change_sized (C := Try.checked) own started (by kernel_rfl) Try.func13
    (ChangeSpec.witness6 (enc := enc) (C := Try.checked) false ⟨#[], #[.agg #[.int .i64 0, .slice none 0 0]], []⟩ 8 (by kernel_rfl) (by kernel_rfl) (by kernel_rfl) (by kernel_rfl)) ?_
  intro W base args ds gs before hval hW _ hsz _
  exact contract H enc W base args ds gs before hval hW hsz

theorem over : Rows.CarveTurnedSaid :=
  OpenClaim.holds_of_wide 13 Try.f13 rfl rfl rfl rfl rfl rfl rfl ⟨rfl, rfl, rfl, rfl, rfl⟩ rfl rfl rfl rfl rfl (by kernel_rfl) Try.func13 (by kernel_rfl)
    (of_decide_eq_true (by kernel_rfl)) (by unfold Func.isWrapper; first | (rw [if_pos (by decide +kernel)]; kernel_rfl) | (rw [if_neg (by decide +kernel)]; exact ⟨rfl, rfl⟩))
    (fun os started H enc _ => lifted os started H enc)
end ClaimCarveTurned

theorem carveTurned_holds : Rows.CarveTurnedSaid := ClaimCarveTurned.over
end Go.Proofs.Ytnciomoapajonaa
