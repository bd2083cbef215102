/- CarveBetween: the call returns true, whatever its arguments and the memory in which it begins; its arguments read as they did. -/
import Derived.Test.YtnciomoapajonaaRgc
import Derived.Test.YtnciomoapajonaaCxe
import Derived.Test.YtnciomoapajonaaCxf
import Derived.Test.YtnciomoapajonaaCwn
import Derived.Laws.AppendOwn
import Derived.OwnWalk
import Derived.Test.YtnciomoapajonaaCxg
import Derived.Deep.DeepCutAuto
import Derived.BigRegion
import Derived.BigQuiet
import Derived.Deep.RegionLaw
import Derived.Deep.AppendLies
import Derived.Maps.AppendAt
import Derived.Test.YtnciomoapajonaaRows
import Derived.Test.YtnciomoapajonaaCar
import Derived.ProofKit
import Derived.JoinedOf
import Derived.JoinedAt
set_option linter.unusedSimpArgs false
set_option linter.unusedVariables false
namespace Go.Proofs.Ytnciomoapajonaa
open Go Go.RowKit Cv

theorem best_cases (r : Row) (h : errR r = 0) : (crossB r = true ∧ ∀ q, bestR r q = ([], 0, 0, 9)) ∨ (crossB r = false ∧ ∀ q, ∃ s, bestR r q = (s, fillsN r.pts s r.pts.length, manyL 0 (deepN r.pts s r.pts.length), 0) ∧ s.length = r.pts.length ∧ (∀ x, x ∈ s → 0 ≤ x ∧ x ≤ 9000) ∧ goodV r s = true ∧
    ∀ t, t.length = r.pts.length → goodV r t = true → ltN q (fillsN r.pts t r.pts.length, manyL 0 (deepN r.pts t r.pts.length)) (fillsN r.pts s r.pts.length, manyL 0 (deepN r.pts s r.pts.length)) = false) := by
  have hv := (check_valid r).1 h
  cases hc : crossB r
  · refine .inr ⟨rfl, fun q => ?_⟩
    have hb := best_is r hv hc q
    obtain ⟨hg, hn, hm⟩ := refL_some r.st q r.pts none _ hb
    simp only at hg hn hm
    have hl := hg.length
    refine ⟨surfL r.st q (bndR r) none, ?_, hl, ?_, (goodV_iff r _ hl).2 hg, fun t ht htg => ?_⟩
    · have e : boundE r = 0 := by unfold boundE; rw [h, hc]; rfl
      unfold bestR
      rw [if_pos e]
      have e2 : (wayK r q 0 none).2 = (wayL r.st q (bndR r) none).2 := by simp [wayK]
      rw [e2, hn, needS_is _ _ _ hl]
      rfl
    · intro x hx
      obtain ⟨i, hi, rfl⟩ := List.mem_iff_getElem.1 hx
      have := ((goodL_iff _ _ _ _).1 hg).2.1 i (by omega)
      have hp := hv.ok r.pts[i] (List.getElem_mem (by omega))
      rw [List.getD_eq_getElem?_getD, List.getElem?_eq_getElem (by omega), List.getD_eq_getElem?_getD, List.getElem?_eq_getElem hi] at this
      simp only [Option.getD_some] at this
      have := hp.l0
      have := hp.h9
      omega
    · have := hm t ((goodV_iff r t ht).1 htg)
      rw [hn, needS_is _ _ _ hl, needS_is _ _ _ ht] at this
      exact this
  · refine .inl ⟨rfl, fun q => ?_⟩
    have e : boundE r = 9 := by unfold boundE; rw [h, hc]; rfl
    unfold bestR
    rw [e]
    rfl
end Go.Proofs.Ytnciomoapajonaa
namespace Go.Proofs.Ytnciomoapajonaa
open Go Go.RowKit Cv

theorem getD_takeP (l : List Pt) (m k : Nat) (h : k < m) : (l.take m).getD k default = l.getD k default := by
  simp [List.getD_eq_getElem?_getD, List.getElem?_take, h]
theorem getD_takeI (l : List Int) (m k : Nat) (h : k < m) : (l.take m).getD k 0 = l.getD k 0 := by
  simp [List.getD_eq_getElem?_getD, List.getElem?_take, h]
theorem getD_dropI (l : List Int) (i k : Nat) : (l.drop i).getD k 0 = l.getD (i + k) 0 := by simp [List.getD_eq_getElem?_getD]
theorem good_take (st : Int) (l : List Pt) (s : List Int) (i : Nat) (hi : i < l.length) (h : GoodL st none l s) : GoodL st none (l.take (i + 1)) (s.take (i + 1)) := by
  obtain ⟨hl, h1, h2, _⟩ := (goodL_iff _ _ _ _).1 h
  refine (goodL_iff _ _ _ _).2 ⟨by simp [hl], fun k hk => ?_, fun k hk => ?_, fun _ => rfl⟩
  · have hk' : k < i + 1 := by rw [List.length_take] at hk; omega
    rw [getD_takeP _ _ _ hk', getD_takeI _ _ _ hk']
    exact h1 k (by omega)
  · have hk' : k + 1 < i + 1 := by rw [List.length_take] at hk; omega
    rw [getD_takeI _ _ _ hk', getD_takeI _ _ _ (show k < i + 1 by omega)]
    exact h2 k (by omega)
theorem good_drop (st : Int) (l : List Pt) (s : List Int) (i : Nat) (h : GoodL st none l s) : GoodL st none (l.drop i) (s.drop i) := by
  obtain ⟨hl, h1, h2, _⟩ := (goodL_iff _ _ _ _).1 h
  refine (goodL_iff _ _ _ _).2 ⟨by simp [hl], fun k hk => ?_, fun k hk => ?_, fun _ => rfl⟩
  · rw [List.length_drop] at hk
    rw [getD_drop, getD_dropI]
    exact h1 (i + k) (by omega)
  · rw [List.length_drop] at hk
    rw [getD_dropI, getD_dropI]
    have := h2 (i + k) (by omega)
    rw [show i + (k + 1) = i + k + 1 by omega]
    exact this
/-- Two parts that meet in one height. -/
theorem good_join (st : Int) (l : List Pt) (u : List Int) (i : Nat) (hi : i < l.length) (hl : u.length = l.length) (ha : GoodL st none (l.take (i + 1)) (u.take (i + 1))) (hb : GoodL st none (l.drop i) (u.drop i)) : GoodL st none l u := by
  obtain ⟨_, a1, a2, _⟩ := (goodL_iff _ _ _ _).1 ha
  obtain ⟨_, b1, b2, _⟩ := (goodL_iff _ _ _ _).1 hb
  refine (goodL_iff _ _ _ _).2 ⟨hl, fun k hk => ?_, fun k hk => ?_, fun _ => rfl⟩
  · rcases Nat.lt_or_ge k (i + 1) with q | q
    · have := a1 k (by rw [List.length_take]; omega)
      rwa [getD_takeP _ _ _ q, getD_takeI _ _ _ q] at this
    · have := b1 (k - i) (by rw [List.length_drop]; omega)
      rw [getD_drop, getD_dropI, show i + (k - i) = k by omega] at this
      exact this
  · rcases Nat.lt_or_ge (k + 1) (i + 1) with q | q
    · have := a2 k (by rw [List.length_take]; omega)
      rwa [getD_takeI _ _ _ q, getD_takeI _ _ _ (show k < i + 1 by omega)] at this
    · have := b2 (k - i) (by rw [List.length_drop]; omega)
      rw [getD_dropI, getD_dropI, show i + (k - i) = k by omega, show i + (k - i + 1) = k + 1 by omega] at this
      exact this
theorem fillsN_take (l : List Pt) (s : List Int) (m : Nat) : ∀ k, k ≤ m → fillsN (l.take m) (s.take m) k = fillsN l s k := by
  intro k
  induction k with
  | zero => intro _; rfl
  | succ k ih =>
    intro h
    rw [fillsN, fillsN, ih (by omega), getD_takeP _ _ _ (by omega), getD_takeI _ _ _ (by omega)]
theorem fillsN_add (l : List Pt) (s : List Int) (a : Nat) : ∀ b, fillsN l s (a + b) = fillsN l s a + fillsN (l.drop a) (s.drop a) b := by
  intro b
  induction b with
  | zero => simp [fillsN]
  | succ b ih =>
    rw [show a + (b + 1) = a + b + 1 by omega, fillsN, ih, fillsN, getD_drop, getD_dropI]
    omega
theorem fills_parts (l : List Pt) (s : List Int) (i : Nat) (hi : i < l.length) (hl : s.length = l.length) :
    fillsN l s l.length = fillsN (l.take (i + 1)) (s.take (i + 1)) (l.take (i + 1)).length + fillsN (l.drop i) (s.drop i) (l.drop i).length - max 0 (s.getD i 0 - (l.getD i default).bd) := by
  rw [List.length_take, List.length_drop, show min (i + 1) l.length = i + 1 by omega, fillsN_take l s (i + 1) (i + 1) (Nat.le_refl _), fillsN]
  have := fillsN_add l s i (l.length - i)
  rw [show i + (l.length - i) = l.length by omega] at this
  omega
theorem best_none (r : Row) (h : errR r = 0) : (crossB r = true ∧ (bestR r false).2.2.2 = 9) ∨ (crossB r = false ∧ (bestR r false).2.2.2 = 0 ∧ ∃ s, GoodL r.st none r.pts s ∧ s.length = r.pts.length ∧ (bestR r false).2.1 = fillsN r.pts s r.pts.length ∧ ∀ t, GoodL r.st none r.pts t → fillsN r.pts s r.pts.length ≤ fillsN r.pts t r.pts.length) := by
  rcases best_cases r h with ⟨hc, e⟩ | ⟨hc, e⟩
  · exact .inl ⟨hc, by rw [e false]⟩
  · obtain ⟨s, e1, hl, _, hg, hm⟩ := e false
    refine .inr ⟨hc, by rw [e1], s, (goodV_iff r s hl).1 hg, hl, by rw [e1], fun t ht => ?_⟩
    have := hm t ht.length ((goodV_iff r t ht.length).2 ht)
    rw [← Bool.not_eq_true, ltN_iff] at this
    simp at this
    omega
theorem parted (r : Row) (i : Nat) (hi : i < r.pts.length) (n : Int) (h1 : (r.pts.getD i default).lo = n) (h2 : (r.pts.getD i default).hi = n) (hr : errR r = 0) (hL : errR ⟨r.st, r.pts.take (i + 1)⟩ = 0) (hR : errR ⟨r.st, r.pts.drop i⟩ = 0) :
    ((bestR r false).2.2.2 = 9 ∧ (bestR ⟨r.st, r.pts.take (i + 1)⟩ false).2.2.2 = 9 ∧ ((bestR ⟨r.st, r.pts.drop i⟩ false).2.2.2 = 0 ∨ (bestR ⟨r.st, r.pts.drop i⟩ false).2.2.2 = 9)) ∨
    ((bestR r false).2.2.2 = 9 ∧ (bestR ⟨r.st, r.pts.take (i + 1)⟩ false).2.2.2 = 0 ∧ (bestR ⟨r.st, r.pts.drop i⟩ false).2.2.2 = 9) ∨
    ((bestR r false).2.2.2 = 0 ∧ (bestR ⟨r.st, r.pts.take (i + 1)⟩ false).2.2.2 = 0 ∧ (bestR ⟨r.st, r.pts.drop i⟩ false).2.2.2 = 0 ∧
      (bestR r false).2.1 = (bestR ⟨r.st, r.pts.take (i + 1)⟩ false).2.1 + (bestR ⟨r.st, r.pts.drop i⟩ false).2.1 - max 0 (n - (r.pts.getD i default).bd)) := by
  have atI : ∀ s, GoodL r.st none r.pts s → s.getD i 0 = n := fun s hs => by
    have := ((goodL_iff _ _ _ _).1 hs).2.1 i hi
    omega
  have join : ∀ a b, GoodL r.st none (r.pts.take (i + 1)) a → GoodL r.st none (r.pts.drop i) b → ∃ u, GoodL r.st none r.pts u ∧ u.take (i + 1) = a ∧ u.drop i = b := fun a b ha hb => by
    have la : a.length = i + 1 := by have := ha.length; rw [List.length_take] at this; omega
    have lb : b.length = r.pts.length - i := by have := hb.length; rw [List.length_drop] at this; omega
    have ea : a.getD i 0 = n := by
      have := ((goodL_iff _ _ _ _).1 ha).2.1 i (by rw [List.length_take]; omega)
      rw [getD_takeP _ _ _ (show i < i + 1 by omega)] at this
      omega
    have eb : b.getD 0 0 = n := by
      have := ((goodL_iff _ _ _ _).1 hb).2.1 0 (by rw [List.length_drop]; omega)
      rw [getD_drop] at this
      simp only [Nat.add_zero] at this
      omega
    have t1 : (a ++ b.drop 1).take (i + 1) = a := by rw [← la]; simp
    have t2 : (a ++ b.drop 1).drop i = b := by
      rw [List.drop_append_of_le_length (by omega)]
      have e1 : a.drop i = [n] := by
        apply List.ext_getElem
        · simp [la]
        · intro j q1 q2
          have : j = 0 := by simp [la] at q1; omega
          subst this
          rw [List.getD_eq_getElem?_getD, List.getElem?_eq_getElem (by omega)] at ea
          simpa using ea
      rw [e1]
      cases b with
      | nil => simp at lb; omega
      | cons x b =>
        simp only [List.getD_cons_zero] at eb
        rw [eb]
        rfl
    refine ⟨a ++ b.drop 1, good_join r.st r.pts _ i hi (by simp [la, lb]; omega) (by rw [t1]; exact ha) (by rw [t2]; exact hb), t1, t2⟩
  rcases best_none _ hL with ⟨cL, eL⟩ | ⟨cL, eL, a, ga, la, pa, ma⟩
  · have hc : crossB r = true := by
      rw [← Bool.not_eq_false]
      intro q
      obtain ⟨s, hs⟩ := (good_iff r ((check_valid r).1 hr).s0).1 q
      have := (good_iff ⟨r.st, r.pts.take (i + 1)⟩ ((check_valid r).1 hr).s0).2 ⟨_, good_take r.st r.pts s i hi hs⟩
      rw [cL] at this
      cases this
    rcases best_none r hr with ⟨_, e⟩ | ⟨q, _⟩
    · refine .inl ⟨e, eL, ?_⟩
      rcases best_none _ hR with ⟨_, e⟩ | ⟨_, e, _⟩
      · exact .inr e
      · exact .inl e
    · rw [hc] at q; cases q
  rcases best_none _ hR with ⟨cR, eR⟩ | ⟨cR, eR, b, gb, lb, pb, mb⟩
  · have hc : crossB r = true := by
      rw [← Bool.not_eq_false]
      intro q
      obtain ⟨s, hs⟩ := (good_iff r ((check_valid r).1 hr).s0).1 q
      have := (good_iff ⟨r.st, r.pts.drop i⟩ ((check_valid r).1 hr).s0).2 ⟨_, good_drop r.st r.pts s i hs⟩
      rw [cR] at this
      cases this
    rcases best_none r hr with ⟨_, e⟩ | ⟨q, _⟩
    · exact .inr (.inl ⟨e, eL, eR⟩)
    · rw [hc] at q; cases q
  obtain ⟨u, gu, tu, du⟩ := join a b ga gb
  rcases best_none r hr with ⟨q, _⟩ | ⟨_, e, s, gs, ls, ps, ms⟩
  · have := (good_iff r ((check_valid r).1 hr).s0).2 ⟨u, gu⟩
    rw [q] at this
    cases this
  refine .inr (.inr ⟨e, eL, eR, ?_⟩)
  have f1 := fills_parts r.pts u i hi gu.length
  have f2 := fills_parts r.pts s i hi gs.length
  rw [atI u gu, tu, du] at f1
  rw [atI s gs] at f2
  have m1 := ms u gu
  have m2 := ma _ (good_take r.st r.pts s i hi gs)
  have m3 := mb _ (good_drop r.st r.pts s i gs)
  simp only at m2 m3 pa pb
  omega
theorem best_pl (r : Row) (h : errR r = 0) : 0 ≤ (bestR r false).2.1 ∧ (bestR r false).2.1 ≤ 90000 := by
  have hv := (check_valid r).1 h
  rcases best_cases r h with ⟨_, e⟩ | ⟨_, e⟩
  · rw [e false]
    exact ⟨Int.le_refl _, by decide⟩
  · obtain ⟨s, e1, hl, hb, _⟩ := e false
    rw [e1]
    have := fillsN_bd r.pts s hv.ok hb r.pts.length (Nat.le_refl _) (by omega)
    have n10 := hv.n10
    show 0 ≤ fillsN r.pts s r.pts.length ∧ fillsN r.pts s r.pts.length ≤ 90000
    omega
/-- A row with just one height at a point. -/
def fixR (r : Row) (i : Nat) (n : Int) : Row := ⟨r.st, r.pts.set i ⟨(r.pts.getD i default).bd, n, n⟩⟩
theorem fix_err (r : Row) (i : Nat) (hi : i < r.pts.length) (n : Int) (h1 : (r.pts.getD i default).lo ≤ n) (h2 : n ≤ (r.pts.getD i default).hi) (h : errR r = 0) : errR (fixR r i n) = 0 ∧ errR ⟨r.st, (fixR r i n).pts.take (i + 1)⟩ = 0 ∧ errR ⟨r.st, (fixR r i n).pts.drop i⟩ = 0 ∧
    (fixR r i n).pts.getD i default = ⟨(r.pts.getD i default).bd, n, n⟩ := by
  have hv := (check_valid r).1 h
  have e1 : r.pts.getD i default = r.pts[i] := by simp [List.getD_eq_getElem?_getD, hi]
  have o := hv.ok r.pts[i] (List.getElem_mem hi)
  rw [e1] at h1 h2
  have a := o.b0
  have b := o.b9
  have c := o.l0
  have d := o.h9
  have hok : ∀ p, p ∈ (fixR r i n).pts → PtOk p := fun p hp => by
    rcases List.mem_or_eq_of_mem_set hp with q | q
    · exact hv.ok p q
    · rw [q, e1]
      refine ⟨a, b, ?_, ?_, ?_, ?_, ?_, ?_⟩ <;> simp only <;> omega
  have hl : (fixR r i n).pts.length = r.pts.length := by simp [fixR]
  have n1 := hv.n1
  have n10 := hv.n10
  refine ⟨(check_valid _).2 ⟨hv.s0, hv.s200, by rw [hl]; exact n1, by rw [hl]; exact n10, hok⟩, (check_valid _).2 ⟨hv.s0, hv.s200, ?_, ?_, fun p hp => hok p (List.mem_of_mem_take hp)⟩, (check_valid _).2 ⟨hv.s0, hv.s200, ?_, ?_, fun p hp => hok p (List.mem_of_mem_drop hp)⟩, ?_⟩
  · simp only [List.length_take, hl]; omega
  · simp only [List.length_take, hl]; omega
  · simp only [List.length_drop, hl]; omega
  · simp only [List.length_drop, hl]; omega
  · simp [fixR, List.getD_eq_getElem?_getD, hi]
end Go.Proofs.Ytnciomoapajonaa
namespace Go.Proofs.Ytnciomoapajonaa
open Go Go.RowKit Cv

def upP (n : Int) (p : Pt) : Pt := ⟨p.bd + n, p.lo + n, p.hi + n⟩
def upR (n : Int) (r : Row) : Row := ⟨r.st, r.pts.map (upP n)⟩
theorem foldO_map (q : Bool) (g : Int → Rst) (φ : Int → Int) : ∀ (l : List Int) (a : Rst), foldO q g (l.map φ) a = foldO q (fun h => g (φ h)) l a := by
  intro l
  induction l with
  | nil => intro a; rfl
  | cons h l ih => intro a; exact ih _
theorem betO_map (q : Bool) (σ : List Int × Nd → List Int × Nd) (hσ : ∀ x, (σ x).2 = x.2) (a : Rst) (b : List Int × Nd) : betO q (a.map σ) (σ b) = (betO q a b).map σ := by
  cases a with
  | none => rfl
  | some a =>
    simp only [betO, Option.map_some, hσ]
    split <;> rfl
theorem foldO_val (q : Bool) (g g' : Int → Rst) (σ : List Int × Nd → List Int × Nd) (hσ : ∀ x, (σ x).2 = x.2) (hg : ∀ h, g' h = (g h).map σ) : ∀ (l : List Int) (a : Rst), foldO q g' l (a.map σ) = (foldO q g l a).map σ := by
  intro l
  induction l with
  | nil => intro a; rfl
  | cons h l ih =>
    intro a
    rw [foldO, foldO, hg h]
    cases hgh : g h with
    | none => exact ih a
    | some b =>
      simp only [Option.map_some]
      rw [betO_map q σ hσ]
      exact ih _
theorem spanL_up (lo hi n : Int) : spanL (lo + n) (hi + n) = (spanL lo hi).map (· + n) := by
  unfold spanL
  rw [show hi + n - (lo + n) + 1 = hi - lo + 1 by omega, List.map_map]
  refine List.map_congr_left fun k _ => ?_
  simp only [Function.comp]
  omega
def upF (n : Int) (f : From) : From := f.map fun x => (upP n x.1, x.2 + n)
theorem deepF_up (n : Int) (f : From) : deepF (upF n f) = deepF f := by
  cases f with
  | none => rfl
  | some x =>
    show max 0 (x.1.bd + n - (x.2 + n)) = max 0 (x.1.bd - x.2)
    congr 1
    omega
theorem nearF_up (st n : Int) (f : From) (h : Int) : nearF st (upF n f) (h + n) = nearF st f h := by
  cases f with
  | none => rfl
  | some x =>
    show (decide (x.2 + n - st ≤ h + n) && decide (h + n ≤ x.2 + n + st)) = (decide (x.2 - st ≤ h) && decide (h ≤ x.2 + st))
    congr 1 <;> exact decide_eq_decide.2 (by omega)
theorem stepN_up (n : Int) (f : From) (p : Pt) (h : Int) : stepN (upF n f) (upP n p) (h + n) = stepN f p h := by
  unfold stepN
  rw [deepF_up]
  show (max 0 (h + n - (p.bd + n)), max 0 (max 0 (p.bd + n - (h + n)) - deepF f)) = _
  rw [show h + n - (p.bd + n) = h - p.bd by omega, show p.bd + n - (h + n) = p.bd - h by omega]
def upS (n : Int) (x : List Int × Nd) : List Int × Nd := (x.1.map (· + n), x.2)
theorem refL_up (st : Int) (q : Bool) (n : Int) : ∀ (l : List Pt) (f : From), refL st q (l.map (upP n)) (upF n f) = (refL st q l f).map (upS n) := by
  intro l
  induction l with
  | nil => intro f; rfl
  | cons p l ih =>
    intro f
    rw [List.map_cons, refL_cons, refL_cons]
    show foldO q _ (spanL (p.lo + n) (p.hi + n)) none = _
    rw [spanL_up, foldO_map]
    refine foldO_val q _ _ (upS n) (fun _ => rfl) (fun h => ?_) _ none
    have e := ih (some (p, h))
    show candO st (upF n f) (upP n p) (h + n) (refL st q (l.map (upP n)) (some (upP n p, h + n))) = _
    rw [show (some (upP n p, h + n) : From) = upF n (some (p, h)) from rfl, e]
    unfold candO
    rw [nearF_up, stepN_up]
    split
    · cases refL st q l (some (p, h)) <;> rfl
    · rfl
theorem up_lo (n : Int) (r : Row) (i : Nat) (hi : i < r.pts.length) : loF (upR n r) i = loF r i + n := by
  rw [loF_get _ _ (by show i < (r.pts.map (upP n)).length; simpa using hi), loF_get _ _ hi]
  simp [upR, upP, List.getD_eq_getElem?_getD, hi]
theorem up_hi (n : Int) (r : Row) (i : Nat) (hi : i < r.pts.length) : hiF (upR n r) i = hiF r i + n := by
  rw [hiF_get _ _ (by show i < (r.pts.map (upP n)).length; simpa using hi), hiF_get _ _ hi]
  simp [upR, upP, List.getD_eq_getElem?_getD, hi]
theorem islow_add {n : Nat} {st : Int} {lo lo' g : Nat → Int} (c : Int) (h : IsLow n st lo g) (e : ∀ i, i < n → lo' i = lo i + c) : IsLow n st lo' (fun i => g i + c) := by
  refine ⟨fun i hi => ?_, fun i hi => ?_, fun i hi => ?_, fun k h1 h2 h3 i hi => ?_⟩
  · have := h.ge i hi
    have := e i hi
    try simp only
    omega
  · have := h.up i hi
    try simp only
    omega
  · have := h.dn i hi
    try simp only
    omega
  · have := h.least (fun j => k j - c) (fun j hj => ?_) (fun j hj => ?_) (fun j hj => ?_) i hi
    · try simp only at this ⊢
      omega
    · have := h1 j hj
      have := e j hj
      try simp only
      omega
    · have := h2 j hj
      try simp only
      omega
    · have := h3 j hj
      try simp only
      omega
theorem up_low (n : Int) (r : Row) (hst : 0 ≤ r.st) (i : Nat) (hi : i < r.pts.length) : lowF (upR n r) i = lowF r i + n := by
  have a := lowF_is (upR n r) hst
  have b := islow_add (lo' := loF (upR n r)) n (lowF_is r hst) (fun j hj => up_lo n r j hj)
  rw [show (upR n r).pts.length = r.pts.length from by show (r.pts.map (upP n)).length = _; simp] at a
  exact a.one b i hi
theorem up_high (n : Int) (r : Row) (hst : 0 ≤ r.st) (i : Nat) (hi : i < r.pts.length) : highF (upR n r) i = highF r i + n := by
  have a := highF_is (upR n r) hst
  have b := islow_add (lo' := fun i => -(hiF (upR n r) i)) (-n) (highF_is r hst) (fun j hj => by rw [up_hi n r j hj]; omega)
  rw [show (upR n r).pts.length = r.pts.length from by show (r.pts.map (upP n)).length = _; simp] at a
  have := a.one b i hi
  try simp only at this
  omega
theorem up_len (n : Int) (r : Row) : (upR n r).pts.length = r.pts.length := by show (r.pts.map (upP n)).length = _; simp
theorem up_cross (n : Int) (r : Row) (hst : 0 ≤ r.st) : crossB (upR n r) = crossB r := by
  unfold crossB
  rw [up_len]
  rw [Bool.eq_iff_iff, List.any_eq_true, List.any_eq_true]
  have key : ∀ i, i ∈ List.range r.pts.length → (decide ((highR (upR n r)).getD i 0 < (lowR (upR n r)).getD i 0) = true ↔ decide ((highR r).getD i 0 < (lowR r).getD i 0) = true) := fun i hi => by
    have hi' := List.mem_range.1 hi
    have a := up_low n r hst i hi'
    have b := up_high n r hst i hi'
    unfold lowF at a
    unfold highF at b
    rw [decide_eq_true_iff, decide_eq_true_iff]
    omega
  constructor
  · rintro ⟨i, hi, h⟩
    exact ⟨i, hi, (key i hi).1 h⟩
  · rintro ⟨i, hi, h⟩
    exact ⟨i, hi, (key i hi).2 h⟩
theorem up_bounds (n : Int) (r : Row) (h : errR r = 0) (hu : errR (upR n r) = 0) : (boundsR (upR n r)).2 = (boundsR r).2 ∧ (boundsR (upR n r)).1.length = (boundsR r).1.length ∧
    ∀ i, i < (boundsR r).1.length → (boundsR (upR n r)).1.getD i (0, 0) = (((boundsR r).1.getD i (0, 0)).1 + n, ((boundsR r).1.getD i (0, 0)).2 + n) := by
  have hv := (check_valid r).1 h
  have e : boundE (upR n r) = boundE r := by unfold boundE; rw [h, hu, up_cross n r hv.s0]
  unfold boundsR
  rw [e]
  split
  · refine ⟨rfl, ?_, fun i hi => ?_⟩
    · show (bandsR (upR n r)).length = (bandsR r).length
      rw [bandsR_length, bandsR_length, up_len]
    · have hi' : i < r.pts.length := by have : i < (bandsR r).length := hi; rwa [bandsR_length] at this
      show (bandsR (upR n r)).getD i (0, 0) = (((bandsR r).getD i (0, 0)).1 + n, ((bandsR r).getD i (0, 0)).2 + n)
      unfold bandsR
      rw [up_len, List.getD_eq_getElem?_getD, List.getD_eq_getElem?_getD]
      simp only [List.getElem?_map, List.getElem?_range hi', Option.map_some, Option.getD_some]
      rw [up_low n r hv.s0 i hi', up_high n r hv.s0 i hi']
  · exact ⟨rfl, rfl, fun i hi => absurd hi (Nat.not_lt_zero _)⟩
theorem up_best (n : Int) (r : Row) (h : errR r = 0) (hu : errR (upR n r) = 0) (q : Bool) : bestR (upR n r) q = ((bestR r q).1.map (· + n), (bestR r q).2) := by
  have hv := (check_valid r).1 h
  have hvu := (check_valid _).1 hu
  have e : boundE (upR n r) = boundE r := by unfold boundE; rw [h, hu, up_cross n r hv.s0]
  by_cases h0 : boundE r = 0
  · have hc := (boundE_ok h0).2
    have a := best_is r hv hc q
    have b := best_is (upR n r) hvu (by rw [up_cross n r hv.s0]; exact hc) q
    have c := refL_up r.st q n r.pts none
    rw [a] at c
    have d : refL (upR n r).st q (upR n r).pts none = some (upS n (surfL r.st q (bndR r) none, (wayL r.st q (bndR r) none).2)) := c
    rw [d] at b
    simp only [upS, Option.some.injEq, Prod.mk.injEq] at b
    obtain ⟨b1, b2⟩ := b
    unfold bestR
    rw [e, if_pos h0, if_pos h0]
    have w1 : (wayK (upR n r) q 0 none).2 = (wayL (upR n r).st q (bndR (upR n r)) none).2 := by simp [wayK]
    have w2 : (wayK r q 0 none).2 = (wayL r.st q (bndR r) none).2 := by simp [wayK]
    rw [w1, w2, ← b2, ← b1]
  · unfold bestR
    rw [e, if_neg h0, if_neg h0]
    rfl
theorem fills_zero (l : List Pt) (s : List Int) : ∀ k, (∀ i, i < k → s.getD i 0 ≤ (l.getD i default).bd) → fillsN l s k = 0 := by
  intro k
  induction k with
  | zero => intro _; rfl
  | succ k ih =>
    intro h
    rw [fillsN, ih (fun i hi => h i (by omega))]
    have := h k (by omega)
    omega
/-- If all boards are above all bands there is no plaster. -/
theorem above_none (r : Row) (h : errR r = 0) (h0 : (bestR r false).2.2.2 = 0) (ha : (r.pts.all fun p => decide (p.hi < p.bd)) = true) : (bestR r false).2.1 = 0 := by
  rcases best_cases r h with ⟨_, q⟩ | ⟨_, q⟩
  · rw [q false]
  · obtain ⟨s, e, hl, _, hg, _⟩ := q false
    rw [e]
    show fillsN r.pts s r.pts.length = 0
    refine fills_zero _ _ _ fun i hi => ?_
    have := ((goodL_iff _ _ _ _).1 ((goodV_iff r s hl).1 hg)).2.1 i hi
    have hp := of_decide_eq_true (List.all_eq_true.1 ha r.pts[i] (List.getElem_mem hi))
    have e1 : r.pts.getD i default = r.pts[i] := by simp [List.getD_eq_getElem?_getD, hi]
    rw [e1] at this ⊢
    omega
theorem bands_bd (r : Row) (h : errR r = 0) : ∀ p, p ∈ (boundsR r).1 → 0 ≤ p.1 ∧ p.1 ≤ 9000 ∧ 0 ≤ p.2 ∧ p.2 ≤ 9000 := by
  have hv := (check_valid r).1 h
  unfold boundsR
  split
  · rename_i h0
    have hc := (boundE_ok h0).2
    intro p hp
    have hp' : p ∈ bandsR r := hp
    unfold bandsR at hp'
    obtain ⟨i, hi, rfl⟩ := List.mem_map.1 hp'
    have hi' := List.mem_range.1 hi
    have a := (lowF_is r hv.s0).ge i hi'
    have b := (highF_is r hv.s0).ge i hi'
    have c : lowF r i ≤ highF r i := by
      have := List.any_eq_false.1 hc i hi
      simp only [decide_eq_true_iff] at this
      unfold lowF highF
      omega
    have o := hv.ok r.pts[i] (List.getElem_mem hi')
    rw [loF_get r i hi'] at a
    try simp only at b
    rw [hiF_get r i hi'] at b
    have e1 : r.pts.getD i default = r.pts[i] := by simp [List.getD_eq_getElem?_getD, hi']
    rw [e1] at a b
    have := o.l0
    have := o.h9
    simp only
    omega
  · intro p hp
    cases hp
theorem best_bd (r : Row) (h : errR r = 0) (q : Bool) : (bestR r q).1.length ≤ 10 ∧ ∀ x, x ∈ (bestR r q).1 → 0 ≤ x ∧ x ≤ 9000 := by
  have hv := (check_valid r).1 h
  rcases best_cases r h with ⟨_, e⟩ | ⟨_, e⟩
  · rw [e q]
    exact ⟨Nat.zero_le _, fun x hx => by cases hx⟩
  · obtain ⟨s, e, hl, hb, _⟩ := e q
    rw [e]
    exact ⟨by show s.length ≤ 10; rw [hl]; exact hv.n10, hb⟩
end Go.Proofs.Ytnciomoapajonaa
namespace Go.Proofs.Ytnciomoapajonaa
open Go Go.RowKit Cv

theorem goodF_list (r : Row) (t : Nat → Int) (h : GoodF r t) : GoodL r.st none r.pts ((List.range r.pts.length).map t) := by
  have := goodF_drop r t h 0 none (fun _ => rfl)
  simpa using this
theorem cross_le (r : Row) (hc : crossB r = false) (i : Nat) (hi : i < r.pts.length) : lowF r i ≤ highF r i := by
  have := List.any_eq_false.1 hc i (List.mem_range.2 hi)
  simp only [decide_eq_true_iff] at this
  unfold lowF highF
  omega
theorem low_goodF (r : Row) (hst : 0 ≤ r.st) (hc : crossB r = false) : GoodF r (lowF r) := low_good (lowF_is r hst) (highF_is r hst) (cross_le r hc)
theorem high_goodF (r : Row) (hst : 0 ≤ r.st) (hc : crossB r = false) : GoodF r (highF r) := high_good (lowF_is r hst) (highF_is r hst) (cross_le r hc)
theorem list_goodF (r : Row) (s : List Int) (h : GoodL r.st none r.pts s) : GoodF r (fun i => s.getD i 0) := by
  obtain ⟨_, h1, h2, _⟩ := (goodL_iff _ _ _ _).1 h
  refine ⟨fun i hi => ?_, fun i hi => ?_, fun i hi => (h2 i hi).1, fun i hi => (h2 i hi).2⟩
  · rw [loF_get r i hi]
    exact (h1 i hi).1
  · rw [hiF_get r i hi]
    exact (h1 i hi).2
theorem bands_fst (r : Row) : (bandsR r).map (·.1) = (List.range r.pts.length).map (lowF r) := by
  unfold bandsR
  rw [List.map_map]
  rfl
theorem bands_snd (r : Row) : (bandsR r).map (·.2) = (List.range r.pts.length).map (highF r) := by
  unfold bandsR
  rw [List.map_map]
  rfl
theorem bands_get (r : Row) (i : Nat) (hi : i < r.pts.length) : (bandsR r).getD i (0, 0) = (lowF r i, highF r i) := by
  unfold bandsR
  simp [List.getD_eq_getElem?_getD, hi]
theorem between (r : Row) (h : errR r = 0) (hc : crossB r = false) : boundsR r = (bandsR r, 0) ∧ (bandsR r).length = r.pts.length ∧ (∀ p, p ∈ bandsR r → 0 ≤ p.1 ∧ p.1 ≤ p.2 ∧ p.2 ≤ 9000) ∧
    goodV r ((bandsR r).map (·.1)) = true ∧ goodV r ((bandsR r).map (·.2)) = true ∧
    (∀ s, s.length = r.pts.length → goodV r s = true → ∀ i, i < r.pts.length → ((bandsR r).getD i (0, 0)).1 ≤ s.getD i 0 ∧ s.getD i 0 ≤ ((bandsR r).getD i (0, 0)).2) ∧
    (∀ i, i < r.pts.length → ∀ n, ((bandsR r).getD i (0, 0)).1 ≤ n → n ≤ ((bandsR r).getD i (0, 0)).2 → (boundsR (fixR r i n)).2 = 0) := by
  have hv := (check_valid r).1 h
  have hb : boundsR r = (bandsR r, 0) := by unfold boundsR boundE; rw [h, hc]; rfl
  refine ⟨hb, bandsR_length r, fun p hp => ?_, ?_, ?_, fun s hl hg i hi => ?_, fun i hi n h1 h2 => ?_⟩
  · have a := bands_bd r h p (by rw [hb]; exact hp)
    unfold bandsR at hp
    obtain ⟨i, hi, rfl⟩ := List.mem_map.1 hp
    have := cross_le r hc i (List.mem_range.1 hi)
    simp only at a ⊢
    omega
  · rw [goodV_iff r _ (by simp [bandsR_length]), bands_fst]
    exact goodF_list r _ (low_goodF r hv.s0 hc)
  · rw [goodV_iff r _ (by simp [bandsR_length]), bands_snd]
    exact goodF_list r _ (high_goodF r hv.s0 hc)
  · have := GoodF.within hv.s0 (list_goodF r s ((goodV_iff r s hl).1 hg)) i hi
    rw [bands_get r i hi]
    exact this
  · rw [bands_get r i hi] at h1 h2
    simp only at h1 h2
    have a := (lowF_is r hv.s0).ge i hi
    have b := (highF_is r hv.s0).ge i hi
    try simp only at b
    rw [loF_get r i hi] at a
    rw [hiF_get r i hi] at b
    obtain ⟨f1, _, _, f4⟩ := fix_err r i hi n (by omega) (by omega) h
    obtain ⟨t, ht, hti⟩ := through r hv.s0 hc i hi n h1 h2
    have hg := goodF_list r t ht
    have hfl : (fixR r i n).pts.length = r.pts.length := by simp [fixR]
    have hg2 : GoodL (fixR r i n).st none (fixR r i n).pts ((List.range r.pts.length).map t) := by
      obtain ⟨q0, q1, q2, _⟩ := (goodL_iff _ _ _ _).1 hg
      refine (goodL_iff _ _ _ _).2 ⟨q0.trans hfl.symm, fun k hk => ?_, fun k hk => q2 k (by omega), fun _ => rfl⟩
      by_cases e : k = i
      · subst e
        rw [f4]
        have e1 : ((List.range r.pts.length).map t).getD k 0 = t k := by simp [List.getD_eq_getElem?_getD, hi]
        rw [e1, hti]
        exact ⟨Int.le_refl _, Int.le_refl _⟩
      · have := q1 k (by omega)
        have e1 : (fixR r i n).pts.getD k default = r.pts.getD k default := by
          simp only [fixR, List.getD_eq_getElem?_getD]
          rw [List.getElem?_set_ne (fun h => e h.symm)]
        rw [e1]
        exact this
    have hcr := (good_iff (fixR r i n) hv.s0).2 ⟨_, hg2⟩
    unfold boundsR boundE
    rw [f1, hcr]
    rfl
end Go.Proofs.Ytnciomoapajonaa
namespace Go.Proofs.Ytnciomoapajonaa
open Go Go.RowKit Cv

def ptC (l : List Pt) : List Value := l.flatMap fun p => [.int .i64 p.bd, .int .i64 p.lo, .int .i64 p.hi]
theorem ptC_append (a b : List Pt) : ptC (a ++ b) = ptC a ++ ptC b := by simp [ptC]
theorem ptC_one (p : Pt) : ptC [p] = [.int .i64 p.bd, .int .i64 p.lo, .int .i64 p.hi] := rfl
theorem ptC_get : ∀ (l : List Pt) (k : Nat) (h : k < l.length), (ptC l)[k * 3]? = some (.int .i64 l[k].bd) ∧ (ptC l)[k * 3 + 1]? = some (.int .i64 l[k].lo) ∧ (ptC l)[k * 3 + 2]? = some (.int .i64 l[k].hi) := by
  intro l
  induction l with
  | nil => intro k h; exact absurd h (Nat.not_lt_zero _)
  | cons p l ih =>
    intro k h
    cases k with
    | zero => exact ⟨rfl, rfl, rfl⟩
    | succ k =>
      have := ih k (by simpa using h)
      have e : ptC (p :: l) = .int .i64 p.bd :: .int .i64 p.lo :: .int .i64 p.hi :: ptC l := rfl
      rw [e, show (k + 1) * 3 = k * 3 + 1 + 1 + 1 by omega, show k * 3 + 1 + 1 + 1 + 1 = (k * 3 + 1) + 1 + 1 + 1 by omega, show k * 3 + 1 + 1 + 1 + 2 = (k * 3 + 2) + 1 + 1 + 1 by omega]
      simp only [List.getElem?_cons_succ, List.getElem_cons_succ]
      exact this
theorem ptsAt_own {w : World} {base e : Nat} {v : Value} {l : List Pt} (h : w.ownsRow base e 3 v l.length (ptC l)) (hl : l.length ≤ 4611686018427387904) : PtsAt w v l := by
  rcases h.2 with ⟨rfl, h0⟩ | ⟨g, cap, cur, rfl, hb, hg, hnc, hcm, hcs, htake⟩
  · have : l = [] := List.length_eq_zero_iff.1 h0
    subst this
    exact ⟨by simp, none, 0, rfl, by simp, fun hne => absurd rfl hne⟩
  · refine ⟨hl, _, cap, rfl, hnc, fun _ => ⟨g, 0, rfl, fun k hk => ?_⟩⟩
    have e1 := ptC_get l k hk
    rw [Nat.zero_add]
    exact ⟨(h.cellAt (k * 3) (by omega)).trans e1.1, (h.cellAt (k * 3 + 1) (by omega)).trans e1.2.1, (h.cellAt (k * 3 + 2) (by omega)).trans e1.2.2⟩
theorem own_other {w : World} {base e size n : Nat} {v : Value} {xs : List Value} (h : w.ownsRow base e size v n xs) (p : Addr) (hp : p.block < base) (u : Value) : (w.setCell p u).ownsRow base e size v n xs := by
  obtain ⟨h0, h⟩ := h
  refine ⟨h0, ?_⟩
  rcases h with h | ⟨g, cap, cur, r1, r2, r3, r4⟩
  · exact .inl h
  · exact .inr ⟨g, cap, cur, r1, r2, (heap_setCell_other w p g u (by omega)).trans r3, r4⟩
theorem ptInfo : (Try.prog.info? 58).map (fun i => (i.zero, i.size, i.bytes)) = some (some (.agg #[.int .i64 0, .int .i64 0, .int .i64 0]), 3, 24) := by kernel_rfl
set_option maxRecDepth 100000 in
set_option maxHeartbeats 4000000 in
theorem rturned_any (r : Row) (pv : Value) (w : World) (hP : PtsAt w pv r.pts) (h10 : r.pts.length ≤ 10) :
    Calls Try.prog 47 #[.agg #[.int .i64 r.st, pv]] w fun e w' => ∃ v, e = .returned (.agg #[.int .i64 r.st, v]) ∧ PtsAt w' v r.pts.reverse ∧ Below w.heap.size w w' := by
  obtain ⟨i0, hi0⟩ := info_of_underlying Try.underlying58
  have HI : Hid (i0.zero = some (.agg #[.int .i64 0, .int .i64 0, .int .i64 0]) ∧ i0.size = 3 ∧ i0.bytes = 24) := by
    have h := ptInfo
    rw [hi0] at h
    simp at h
    exact h
  obtain ⟨st, pts⟩ := r
  simp only at hP h10 ⊢
  obtain ⟨lp, pa, pc, rfl, _, _⟩ := id hP
  obtain ⟨W, hW, HA0, HZ0, hB0, hsz⟩ := al2 w (Obj.cells #[.int .i64 st, .slice pa pts.length pc] 24) (Obj.cells #[.int .i64 0, .slice none 0 0] 24)
  have HP := Lib.hid (hP.below hB0)
  have HA := Lib.hid HA0
  have HZ := Lib.hid HZ0
  have HB := Lib.hid hB0
  have HW := Lib.hid hW
  have HSZ := Lib.hid hsz
  clear hP HA0 HZ0 hB0 hW hsz
  have l10 : (pts.length : Int) ≤ 10 := by omega
  go_enter Try.func47, Try.ntmps47
  go_wp2_with fail
  rw [HW.out]
  clear HW
  go_loopg [3, 4] pts.length (fun g v i wr => ∃ (k : Nat) (j : Int) (oa : Option Addr) (oc : Nat), g + k = pts.length ∧ j + k + 1 = pts.length ∧ i = .int .i64 j ∧ v = .slice oa k oc ∧ wr.ownsRow W.heap.size 58 3 v k (ptC (pts.reverse.take k)) ∧ Hid (Below W.heap.size W wr))
  case atStart => exact ⟨0, (pts.length : Int) - 1, none, 0, by omega, by omega, rfl, rfl, World.ownsRow_nil _ _ _ _, Below.refl _ _⟩
  case round =>
    obtain ⟨k, j, oa, oc, hk, hj, rfl, rfl, hown, HR⟩ := hrel
    have hs2 := HR.out.size
    by_cases hlt : k < pts.length
    · obtain ⟨m, rfl⟩ : ∃ m : Nat, j = m := ⟨j.toNat, by omega⟩
      have hm : m < pts.length := by omega
      have l0 := cellOf ((HR.out.block _ (lt_of_block HA.out)).trans HA.out) 0 _ rfl
      have l1 := cellOf ((HR.out.block _ (lt_of_block HA.out)).trans HA.out) 1 _ rfl
      have ll := lt_of_block ((HR.out.block _ (lt_of_block HA.out)).trans HA.out)
      obtain ⟨b, o, rfl, c0, c1, c2⟩ := (HP.out.below HR.out).get hm
      have HT : Hid (ptC (pts.reverse.take (k + 1)) = ptC (pts.reverse.take k) ++ [.int .i64 pts[m].bd, .int .i64 pts[m].lo, .int .i64 pts[m].hi]) := by
        show _ = _
        have hkr : k < pts.reverse.length := by simpa using hlt
        rw [List.take_succ_eq_append_getElem hkr, ptC_append, ptC_one, List.getElem_reverse]
        have e : pts.length - 1 - k = m := by omega
        simp only [e]
      generalize pts[m] = p at *
      obtain ⟨bd, lo, hi⟩ := p
      simp only at c0 c1 c2 HT
      have mI : (m : Int) < (pts.length : Int) := by omega
      have m9 : (m : Int) ≤ 9 := by omega
      have hownA := Lib.hid (hown.alloc (Obj.cells #[.int .i64 bd, .int .i64 lo, .int .i64 hi] 58))
      have HBq : Hid (Below W.heap.size W (wr.alloc (Obj.cells #[.int .i64 bd, .int .i64 lo, .int .i64 hi] 58))) := HR.out.alloc hs2 _
      clear hown
      go_wp2_with (at_builtin; refine wpList_append_own _ rfl _ _ 22 rfl W.heap.size 58 i0 (.agg #[.int .i64 0, .int .i64 0, .int .i64 0]) 3 24 Try.underlying22 hi0 HI.out.1 HI.out.2.1 HI.out.2.2 rfl (by decide) _ _ _ rfl hownA.out ⟨wr.heap.size, 0, none⟩ 1 1 [.int .i64 bd, .int .i64 lo, .int .i64 hi] rfl rfl ?pa1 ?pa2 ?pa3 ?pa4 ?pa5 ?_)
      case pa1 =>
        intro j u hj
        match j, hj with
        | 0, hj => simp at hj; subst hj; simp [Addr.add]
        | 1, hj => simp at hj; subst hj; simp [Addr.add]
        | 2, hj => simp at hj; subst hj; simp [Addr.add]
        | j + 3, hj => simp at hj
      case pa2 =>
        intro u hu
        simp at hu
        rcases hu with rfl | rfl | rfl <;> rfl
      case pa3 => unfold maxLen; omega
      case pa4 => omega
      case pa5 => exact HBq.out.size
      · intro v' w3 hown3 hgrow _
        have hB3 : Hid (Below W.heap.size W w3) := HBq.out.grown hgrow HBq.out.size (fun g hg => (hownA.out.lt g hg).1)
        obtain ⟨sa', sc', rfl⟩ := own_slice hown3
        clear hgrow hownA
        go_wp2
        go_roundg (gk - 1)
        case measure => omega
        case rel => exact ⟨k + 1, (m : Int) - 1, sa', sc', by omega, by omega, by go_num, rfl, by rw [HT.out]; exact hown3, hB3⟩
    · obtain rfl : j = -1 := by omega
      have hkn : k = pts.length := by omega
      have hown : wr.ownsRow W.heap.size 58 3 (.slice oa k oc) pts.reverse.length (ptC pts.reverse) := by
        rw [show pts.reverse.take k = pts.reverse from List.take_of_length_le (by simp; omega)] at hown
        rw [show pts.reverse.length = k by simp; omega]
        exact hown
      have HO := Lib.hid hown
      have HAr := Lib.hid ((HR.out.block _ (lt_of_block HA.out)).trans HA.out)
      have HZr := Lib.hid ((HR.out.block _ (lt_of_block HZ.out)).trans HZ.out)
      have l0 := cellOf HAr.out 0 _ rfl
      have l1 := cellOf HAr.out 1 _ rfl
      have f0 := frozen_of_row _ _ 0 _ _ HAr.out
      have f1 := frozen_of_row _ _ 1 _ _ HAr.out
      have g0 := cellOf HZr.out 0 _ rfl
      have g1 := cellOf HZr.out 1 _ rfl
      have h0 := frozen_of_row _ _ 0 _ _ HZr.out
      have h1 := frozen_of_row _ _ 1 _ _ HZr.out
      clear hown hlt hk hkn
      go_wp2
      have z1 : (wr.setCell ⟨w.heap.size, 1, none⟩ (.slice oa k oc)).heap[w.heap.size + 1]? = some (.cells #[.int .i64 0, .slice none 0 0] 24 (0, 0)) := (heap_setCell_other wr (⟨w.heap.size, 1, none⟩ : Addr) _ _ (by simp)).trans HZr.out
      have z2 := two_set (x := .int .i64 st) (y := .slice oa k oc) z1
      have hz := HSZ.out
      refine bodyPost_ret (row_result rfl _ _ (w.heap.size + 1) _ _ rfl z2) rfl ⟨_, rfl, ?_, ?_⟩
      · exact ptsAt_own (own_other (own_other (own_other HO.out ⟨w.heap.size, 1, none⟩ (by show w.heap.size < _; omega) _) ⟨w.heap.size + 1, 0, none⟩ (by show w.heap.size + 1 < _; omega) _) ⟨w.heap.size + 1, 1, none⟩ (by show w.heap.size + 1 < _; omega) _) (by simp; omega)
      · exact two_below ((HB.out.trans (HR.out.mono HB.out.size)).setCell (p := ⟨w.heap.size, 1, none⟩) (Nat.le_refl _) _) (by omega)
end Go.Proofs.Ytnciomoapajonaa
namespace Go.Proofs.Ytnciomoapajonaa
open Go Go.RowKit Go.Shelf Cv

theorem keepC {w w' : World} {b q : Nat} {v : Value} (h : w.cell? ⟨b, q, none⟩ = some v) (hb : Below w.heap.size w w') : w'.cell? ⟨b, q, none⟩ = some v :=
  (hb.cell (p := ⟨b, q, none⟩) (World.block_lt_of_cell? w _ h)).trans h
theorem step_one {ops : Array Oper} {o : Oper} {a : Act} {K : Act → World → Prop} {Q : Exit → Act → World → Prop} {E : Prop} {w : World} (hgd : o.guard = none) (s x : Operand)
    (ho : o.op = .call { callee := .builtin .append, args := #[s, x], argTypes := #[36, 36] })
    (base n : Nat) (v : Value) (xs : List Value) (b : Nat) (z : Int) (hs : a.eval s = v) (hx : a.eval x = .slice (some ⟨b, 0, none⟩) 1 1) (hown : w.ownsRow base 3 1 v n xs) (hl : w.cell? ⟨b, 0, none⟩ = some (.int .i64 z)) (hb : base ≤ w.heap.size)
    (hlen : n ≤ 1000)
    (h : ∀ v' w', w'.ownsRow base 3 1 v' (n + 1) (xs ++ [.int .i64 z]) → w.grownBy w' v.ownBlock → (∀ k, v.ownBlock = some k → base ≤ k ∧ k < w.heap.size) → (v'.ownBlock = v.ownBlock ∨ v'.ownBlock = some w.heap.size) → K (a.put o.dst v') w') :
    if Region.wanted o (yielded ops a.tmps) = true then Oper.wp Try.prog o a w K Q else E := by
  rw [if_pos (by simp [Region.wanted, hgd])]
  obtain ⟨i0, hi⟩ := info_of_underlying Try.underlying3
  have HI : i0.zero = some (.int .i64 0) ∧ i0.size = 1 ∧ i0.bytes = 8 := by
    have h := intInfo
    rw [hi] at h
    simp at h
    exact h
  obtain ⟨v', w', hrun, h2, h3, _, h5⟩ := run_append_own_at (P := Try.prog) w base 36 o.type 3 i0 _ 1 8 Try.underlying36 hi HI.1 HI.2.1 HI.2.2 rfl (by decide) v n xs hown ⟨b, 0, none⟩ 1 1 [.int .i64 z] rfl
    (fun j u hu => by
      match j, hu with
      | 0, hu => simp at hu; subst hu; simpa [Addr.add] using hl
      | j + 1, hu => simp at hu)
    (by intro u hu; simp at hu; subst hu; rfl) (by unfold maxLen; omega) (by omega) hb
  unfold Oper.wp execOp
  simp only [ho, resolve, invoke, builtin, Sem.run_bind, Sem.run_pure, Result.andThen_ok, List.map_toArray, List.map_cons, List.map_nil, hs, hx, hrun]
  exact h v' w' h2 h3 (fun k hk => hown.lt k hk) h5
theorem cell_kept {w w' : World} {row : Option Nat} {b q : Nat} {v : Value} (h : w.cell? ⟨b, q, none⟩ = some v) (hg : w.grownBy w' row) (hne : row ≠ some b) : w'.cell? ⟨b, q, none⟩ = some v := by
  have hb := World.block_lt_of_cell? w ⟨b, q, none⟩ h
  obtain ⟨_, _, _, _, hk⟩ := hg
  have := hk b hb (fun e => hne e.symm)
  unfold World.cell? at h ⊢
  simp only at h ⊢
  rw [this]
  exact h

theorem new2 (w : World) (x y : Obj) : ((w.alloc x).alloc y).heap[w.heap.size + 1]? = some y := by
  have h2 := heap_alloc_new (w.alloc x) y
  rwa [show (w.alloc x).heap.size = w.heap.size + 1 by simp] at h2
theorem dis_or {a b : Option Nat} (h : ∀ q, a = some q → b ≠ some q) : b = none ∨ b ≠ a := by
  cases b with
  | none => exact .inl rfl
  | some q => exact .inr fun e => h q e.symm rfl
theorem dis_or2 {a b : Option Nat} (h : ∀ q, a = some q → b ≠ some q) : a = none ∨ a ≠ b := by
  cases a with
  | none => exact .inl rfl
  | some q => exact .inr fun e => h q rfl e.symm
theorem dis_next {a b c : Option Nat} {n : Nat} (h : ∀ q, a = some q → b ≠ some q) (hc : c = a ∨ c = some n) (hb : ∀ q, b = some q → q < n) : ∀ q, c = some q → b ≠ some q := by
  intro q hq e
  rcases hc with rfl | rfl
  · exact h q hq e
  · have := hb q e
    simp only [Option.some.injEq] at hq
    omega
theorem dis_last {a b c : Option Nat} {n : Nat} (h : ∀ q, a = some q → b ≠ some q) (hc : c = b ∨ c = some n) (ha : ∀ q, a = some q → q < n) : ∀ q, a = some q → c ≠ some q := by
  intro q hq e
  rcases hc with rfl | rfl
  · exact h q hq e
  · have := ha q hq
    simp only [Option.some.injEq] at e
    omega

theorem ptC_length (l : List Pt) : (ptC l).length = l.length * 3 := by
  induction l with
  | nil => rfl
  | cons p l ih =>
    have e : ptC (p :: l) = .int .i64 p.bd :: .int .i64 p.lo :: .int .i64 p.hi :: ptC l := rfl
    rw [e]
    simp only [List.length_cons, ih]
    omega
theorem pts_cells {w : World} {b o n cap : Nat} {l : List Pt} (h : PtsAt w (.slice (some ⟨b, o, none⟩) n cap) l) : ∀ j u, (ptC l)[j]? = some u → w.cell? ((⟨b, o, none⟩ : Addr).add j) = some u := by
  intro j u hu
  have hj : j < l.length * 3 := by rw [← ptC_length]; exact (List.getElem?_eq_some_iff.1 hu).1
  have hk : j / 3 < l.length := by omega
  obtain ⟨b', o', e, c0, c1, c2⟩ := h.get hk
  simp only [Option.some.injEq, Addr.mk.injEq, and_true] at e
  obtain ⟨rfl, rfl⟩ := e
  have g := ptC_get l (j / 3) hk
  rw [Go.WideShapes.add_plain]
  have hr : j % 3 = 0 ∨ j % 3 = 1 ∨ j % 3 = 2 := by omega
  rcases hr with q | q | q
  · have e : j = j / 3 * 3 := by omega
    rw [e] at hu ⊢
    rw [g.1] at hu
    rw [← hu]
    exact c0
  · have e : j = j / 3 * 3 + 1 := by omega
    have e2 : o + j = o + j / 3 * 3 + 1 := by omega
    rw [e2]
    rw [e, g.2.1] at hu
    rw [← hu]
    exact c1
  · have e : j = j / 3 * 3 + 2 := by omega
    have e2 : o + j = o + j / 3 * 3 + 2 := by omega
    rw [e2]
    rw [e, g.2.2] at hu
    rw [← hu]
    exact c2
theorem ptC_cell (l : List Pt) : ∀ u ∈ ptC l, u.oneCell' = true := by
  intro u hu
  obtain ⟨p, _, h⟩ := List.mem_flatMap.1 hu
  simp only [List.mem_cons, List.not_mem_nil, or_false] at h
  rcases h with rfl | rfl | rfl <;> rfl
theorem cur_get {cur : Array Value} {m : Nat} {xs : List Value} (h : cur.toList.take m = xs) {i : Nat} (hi : i < m) : cur[i]? = xs[i]? := by
  rw [← h, List.getElem?_take, if_pos hi, Array.getElem?_toList]
theorem two_new (w : World) (x y : Obj) : ((w.alloc x).alloc y).drew.heap[w.heap.size]? = some x ∧ ((w.alloc x).alloc y).drew.heap[w.heap.size + 1]? = some y ∧ Below w.heap.size w ((w.alloc x).alloc y).drew := by
  have h1 := heap_alloc_new w x
  have h2 := heap_alloc_new (w.alloc x) y
  rw [show (w.alloc x).heap.size = w.heap.size + 1 by simp] at h2
  have b2 := Below.heap_alloc (w.alloc x) y
  refine ⟨(b2 _ (lt_of_block h1)).trans h1, h2, ?_⟩
  go_grown
theorem fix_pts {w : World} {g n cap j : Nat} {cur : Array Value} {t : TypeId} {pts : List Pt} {bd nn : Int} (hg : w.heap[g]? = some (.cells ((cur.setIfInBounds (j * 3 + 1) (.int .i64 nn)).setIfInBounds (j * 3 + 2) (.int .i64 nn)) t (0, 0))) (htk : cur.toList.take (n * 3) = ptC pts) (hcs : cur.size = cap * 3) (hnc : n ≤ cap)
    (hj : j < pts.length) (hbd : (pts.getD j default).bd = bd) (hn : n = pts.length ∧ n ≤ 4611686018427387904) : PtsAt w (.slice (some ⟨g, 0, none⟩) n cap) (pts.set j ⟨bd, nn, nn⟩) := by
  obtain ⟨rfl, hn⟩ := hn
  refine ⟨by simpa using hn, some ⟨g, 0, none⟩, cap, by simp, by simpa using hnc, fun _ => ⟨g, 0, rfl, fun k hk => ?_⟩⟩
  have hk' : k < pts.length := by simpa using hk
  have old := ptC_get pts k hk'
  have o0 := (cur_get htk (show k * 3 < pts.length * 3 by omega)).trans old.1
  have o1 := (cur_get htk (show k * 3 + 1 < pts.length * 3 by omega)).trans old.2.1
  have o2 := (cur_get htk (show k * 3 + 2 < pts.length * 3 by omega)).trans old.2.2
  rw [Nat.zero_add]
  have sz : ∀ i, i < pts.length * 3 → i < cur.size := fun i hi => by rw [hcs]; omega
  rw [List.getElem_set]
  by_cases e : j = k
  · subst e
    rw [if_pos rfl]
    have hb : pts[j].bd = bd := by rw [← hbd]; simp [List.getD_eq_getElem?_getD, hj]
    refine ⟨cellOf hg _ _ ?_, cellOf hg _ _ ?_, cellOf hg _ _ ?_⟩
    · rw [Array.getElem?_setIfInBounds_ne (by omega), Array.getElem?_setIfInBounds_ne (by omega), o0, hb]
    · rw [Array.getElem?_setIfInBounds_ne (by omega), Array.getElem?_setIfInBounds_self_of_lt (sz _ (by omega))]
    · rw [Array.getElem?_setIfInBounds_self_of_lt (by rw [Array.size_setIfInBounds]; exact sz _ (by omega))]
  · rw [if_neg e]
    refine ⟨cellOf hg _ _ ?_, cellOf hg _ _ ?_, cellOf hg _ _ ?_⟩
    · rw [Array.getElem?_setIfInBounds_ne (by omega), Array.getElem?_setIfInBounds_ne (by omega), o0]
    · rw [Array.getElem?_setIfInBounds_ne (by omega), Array.getElem?_setIfInBounds_ne (by omega), o1]
    · rw [Array.getElem?_setIfInBounds_ne (by omega), Array.getElem?_setIfInBounds_ne (by omega), o2]
theorem PtsAt.take {w : World} {sa : Option Addr} {n sc : Nat} {l : List Pt} (h : PtsAt w (.slice sa n sc) l) (k : Nat) (hk : k ≤ l.length) : PtsAt w (.slice sa k sc) (l.take k) := by
  obtain ⟨h1, a, cap, e, hc, h2⟩ := h
  simp only [Value.slice.injEq] at e
  obtain ⟨rfl, rfl, rfl⟩ := e
  have hl : (l.take k).length = k := by simp; omega
  refine ⟨by omega, sa, sc, by rw [hl], by omega, fun hne => ?_⟩
  obtain ⟨b, o, rfl, hk'⟩ := h2 (by rintro rfl; simp at hne)
  refine ⟨b, o, rfl, fun j hj => ?_⟩
  rw [hl] at hj
  have := hk' j (by omega)
  simpa [List.getElem_take] using this
theorem PtsAt.drop {w : World} {b o n sc : Nat} {l : List Pt} (h : PtsAt w (.slice (some ⟨b, o, none⟩) n sc) l) (k : Nat) (hk : k ≤ l.length) : PtsAt w (.slice (some ⟨b, o + k * 3, none⟩) (l.length - k) (sc - k)) (l.drop k) := by
  obtain ⟨h1, a, cap, e, hc, h2⟩ := h
  simp only [Value.slice.injEq] at e
  obtain ⟨rfl, rfl, rfl⟩ := e
  have hl : (l.drop k).length = l.length - k := by simp
  refine ⟨by omega, some ⟨b, o + k * 3, none⟩, sc - k, by rw [hl], by omega, fun hne => ?_⟩
  obtain ⟨b', o', e, hk'⟩ := h2 (by rintro rfl; simp at hne)
  simp only [Option.some.injEq, Addr.mk.injEq, and_true] at e
  obtain ⟨rfl, rfl⟩ := e
  refine ⟨b, o + k * 3, rfl, fun j hj => ?_⟩
  rw [hl] at hj
  have := hk' (k + j) (by omega)
  rw [show o + (k + j) * 3 = o + k * 3 + j * 3 by omega] at this
  simpa [List.getElem_drop] using this
theorem own_made (w : World) (e : TypeId) (size : Nat) : (w.alloc (.cells #[] e)).ownsRow w.heap.size e size (.slice (some ⟨w.heap.size, 0, none⟩) 0 0) 0 [] :=
  ⟨by simp, .inr ⟨w.heap.size, 0, #[], rfl, Nat.le_refl _, heap_alloc_new w _, Nat.le_refl _, Nat.zero_le _, by simp, by simp⟩⟩

set_option maxRecDepth 100000 in
set_option maxHeartbeats 16000000 in
theorem lbtw_no (st : Int) (pts : List Pt) (pa : Option Addr) (pc : Nat) (xv : Value) (l : List Nat) (x y : Nat) (hx : x ≤ 255) (hy : y ≤ 255) (w : World) (hP : PtsAt w (.slice pa pts.length pc) pts) (hU : U8At w xv l) (hv : ¬ errR ⟨st, pts⟩ = 0) :
    Calls Try.prog 7 #[.agg #[.int .i64 st, .slice pa pts.length pc], xv, .agg #[.int .u8 x, .int .u8 y]] w fun e w' => e = .returned (.bool true) ∧ Below w.heap.size w w' := by
  have HV : Hid (boundsR ⟨st, pts⟩ = ([], errR ⟨st, pts⟩)) := by show _ = _; unfold boundsR boundE; rw [if_neg hv, if_neg hv]
  generalize HE : errR ⟨st, pts⟩ = er at *
  have t1 : (er == 0) = false := by simp [hv]
  have t2 : (er != 0) = true := by simp [hv]
  have HP := Lib.hid hP
  clear hP
  have HB := Lib.hid (Below.refl w.heap.size w)
  obtain ⟨_, xa, xc, rfl, _⟩ := id hU
  have HU := Lib.hid hU
  clear hU
  have xI : (x : Int) ≤ 255 := by omega
  have yI : (y : Int) ≤ 255 := by omega
  go_enter Try.func7, Try.ntmps7
  go_wp2_with fail
  have hb := (Below.refl w.heap.size w).alloc (Nat.le_refl _) (Obj.cells #[.int .i64 st, .slice pa pts.length pc] 24)
  have HR := Lib.hid (heap_alloc_new w (Obj.cells #[.int .i64 st, .slice pa pts.length pc] 24))
  have hz1 : (w.alloc (Obj.cells #[.int .i64 st, .slice pa pts.length pc] 24)).heap.size = w.heap.size + 1 := by simp
  have HB' := Lib.hid (HB.out.trans (hb.mono HB.out.size))
  have HP' := Lib.hid (HP.out.below hb)
  have HU' := Lib.hid (HU.out.below hb)
  clear HB
  have HB := HB'
  clear HB'
  clear HP
  have HP := HP'
  clear HP'
  clear HU
  have HU := HU'
  clear HU'
  clear hb
  generalize w.alloc (Obj.cells #[.int .i64 st, .slice pa pts.length pc] 24) = w1 at *
  have hb := (Below.refl w1.heap.size w1).alloc (Nat.le_refl _) (Obj.cells #[.int .u8 x, .int .u8 y] 52)
  have HY := Lib.hid (heap_alloc_new w1 (Obj.cells #[.int .u8 x, .int .u8 y] 52))
  have hz2 : (w1.alloc (Obj.cells #[.int .u8 x, .int .u8 y] 52)).heap.size = w1.heap.size + 1 := by simp
  rw [hz1] at HY
  have HB' := Lib.hid (HB.out.trans (hb.mono HB.out.size))
  have HP' := Lib.hid (HP.out.below hb)
  have HU' := Lib.hid (HU.out.below hb)
  have HR' := Lib.hid ((hb.block _ (lt_of_block HR.out)).trans HR.out)
  clear HB
  have HB := HB'
  clear HB'
  clear HP
  have HP := HP'
  clear HP'
  clear HU
  have HU := HU'
  clear HU'
  clear HR
  have HR := HR'
  clear HR'
  clear hb
  generalize w1.alloc (Obj.cells #[.int .u8 x, .int .u8 y] 52) = w2 at *
  have hcall := Bounds_any ⟨st, pts⟩ _ w2 HP.out
  rw [HV.out] at hcall
  simp only at hcall
  refine hcall.mono ?_
  clear hcall
  rintro e w3 ⟨v1, rfl, hown, hb⟩
  have HB' := Lib.hid (HB.out.trans (hb.mono HB.out.size))
  have HP' := Lib.hid (HP.out.below hb)
  have HU' := Lib.hid (HU.out.below hb)
  have HR' := Lib.hid ((hb.block _ (lt_of_block HR.out)).trans HR.out)
  have HY' := Lib.hid ((hb.block _ (lt_of_block HY.out)).trans HY.out)
  clear HB
  have HB := HB'
  clear HB'
  clear HP
  have HP := HP'
  clear HP'
  clear HU
  have HU := HU'
  clear HU'
  clear HR
  have HR := HR'
  clear HR'
  clear HY
  have HY := HY'
  clear HY'
  clear hb
  obtain ⟨sa, sc, rfl⟩ := own_slice hown
  clear hown HV
  have ra := cellOf HR.out 0 _ rfl
  have rb := cellOf HR.out 1 _ rfl
  have rl := lt_of_block HR.out
  go_wp2_with fail
  clear ra rb rl
  have hcall := valid_any ⟨st, pts⟩ _ w3 HP.out
  rw [HE, t1] at hcall
  refine hcall.mono ?_
  clear hcall
  rintro e w4 ⟨rfl, hb⟩
  have HB' := Lib.hid (HB.out.trans (hb.mono HB.out.size))
  have HP' := Lib.hid (HP.out.below hb)
  have HU' := Lib.hid (HU.out.below hb)
  have HR' := Lib.hid ((hb.block _ (lt_of_block HR.out)).trans HR.out)
  have HY' := Lib.hid ((hb.block _ (lt_of_block HY.out)).trans HY.out)
  clear HB
  have HB := HB'
  clear HB'
  clear HP
  have HP := HP'
  clear HP'
  clear HU
  have HU := HU'
  clear HU'
  clear HR
  have HR := HR'
  clear HR'
  clear HY
  have HY := HY'
  clear HY'
  clear hb
  go_wp2_with fail
  have hcall := awake_any w4
  refine hcall.mono ?_
  clear hcall
  rintro e w5 ⟨rfl, hb⟩
  have HB' := Lib.hid (HB.out.trans (hb.mono HB.out.size))
  have HP' := Lib.hid (HP.out.below hb)
  have HU' := Lib.hid (HU.out.below hb)
  have HR' := Lib.hid ((hb.block _ (lt_of_block HR.out)).trans HR.out)
  have HY' := Lib.hid ((hb.block _ (lt_of_block HY.out)).trans HY.out)
  clear HB
  have HB := HB'
  clear HB'
  clear HP
  have HP := HP'
  clear HP'
  clear HU
  have HU := HU'
  clear HU'
  clear HR
  have HR := HR'
  clear HR'
  clear HY
  have HY := HY'
  clear HY'
  clear hb
  go_wp2
  go_ret
  exact ⟨rfl, HB.out⟩

set_option maxRecDepth 100000 in
set_option maxHeartbeats 16000000 in
theorem lbtw_down (st : Int) (pts : List Pt) (pb po : Nat) (pc : Nat) (xv : Value) (l : List Nat) (x y : Nat) (hx : x ≤ 255) (hy : y ≤ 255) (w : World) (hP : PtsAt w (.slice (some ⟨pb, po, none⟩) pts.length pc) pts) (hU : U8At w xv l) (HE : Hid (errR ⟨st, pts⟩ = 0)) (HBL : Hid (boundsR ⟨st, pts⟩ = ([], 9))) (HNG : Hid (∀ s, s.length = pts.length → goodV ⟨st, pts⟩ s = false)) :
    Calls Try.prog 7 #[.agg #[.int .i64 st, .slice (some ⟨pb, po, none⟩) pts.length pc], xv, .agg #[.int .u8 x, .int .u8 y]] w fun e w' => e = .returned (.bool true) ∧ Below w.heap.size w w' := by
  have HVV : Hid (Valid ⟨st, pts⟩) := (check_valid _).1 HE.out
  have HP := Lib.hid hP
  clear hP
  have HB := Lib.hid (Below.refl w.heap.size w)
  obtain ⟨_, xa, xc, rfl, _⟩ := id hU
  have HU := Lib.hid hU
  clear hU
  have xI : (x : Int) ≤ 255 := by omega
  have yI : (y : Int) ≤ 255 := by omega
  go_enter Try.func7, Try.ntmps7
  go_wp2_with fail
  have hb := (Below.refl w.heap.size w).alloc (Nat.le_refl _) (Obj.cells #[.int .i64 st, .slice (some ⟨pb, po, none⟩) pts.length pc] 24)
  have HR := Lib.hid (heap_alloc_new w (Obj.cells #[.int .i64 st, .slice (some ⟨pb, po, none⟩) pts.length pc] 24))
  have hz1 : (w.alloc (Obj.cells #[.int .i64 st, .slice (some ⟨pb, po, none⟩) pts.length pc] 24)).heap.size = w.heap.size + 1 := by simp
  have HB' := Lib.hid (HB.out.trans (hb.mono HB.out.size))
  have HP' := Lib.hid (HP.out.below hb)
  have HU' := Lib.hid (HU.out.below hb)
  clear HB
  have HB := HB'
  clear HB'
  clear HP
  have HP := HP'
  clear HP'
  clear HU
  have HU := HU'
  clear HU'
  clear hb
  generalize w.alloc (Obj.cells #[.int .i64 st, .slice (some ⟨pb, po, none⟩) pts.length pc] 24) = w1 at *
  have hb := (Below.refl w1.heap.size w1).alloc (Nat.le_refl _) (Obj.cells #[.int .u8 x, .int .u8 y] 52)
  have HY := Lib.hid (heap_alloc_new w1 (Obj.cells #[.int .u8 x, .int .u8 y] 52))
  have hz2 : (w1.alloc (Obj.cells #[.int .u8 x, .int .u8 y] 52)).heap.size = w1.heap.size + 1 := by simp
  rw [hz1] at HY
  have HB' := Lib.hid (HB.out.trans (hb.mono HB.out.size))
  have HP' := Lib.hid (HP.out.below hb)
  have HU' := Lib.hid (HU.out.below hb)
  have HR' := Lib.hid ((hb.block _ (lt_of_block HR.out)).trans HR.out)
  clear HB
  have HB := HB'
  clear HB'
  clear HP
  have HP := HP'
  clear HP'
  clear HU
  have HU := HU'
  clear HU'
  clear HR
  have HR := HR'
  clear HR'
  clear hb
  generalize w1.alloc (Obj.cells #[.int .u8 x, .int .u8 y] 52) = w2 at *
  have hcall := Bounds_any ⟨st, pts⟩ _ w2 HP.out
  rw [HBL.out] at hcall
  simp only at hcall
  refine hcall.mono ?_
  clear hcall
  rintro e w3 ⟨v1, rfl, hown, hb⟩
  have HB' := Lib.hid (HB.out.trans (hb.mono HB.out.size))
  have HP' := Lib.hid (HP.out.below hb)
  have HU' := Lib.hid (HU.out.below hb)
  have HR' := Lib.hid ((hb.block _ (lt_of_block HR.out)).trans HR.out)
  have HY' := Lib.hid ((hb.block _ (lt_of_block HY.out)).trans HY.out)
  clear HB
  have HB := HB'
  clear HB'
  clear HP
  have HP := HP'
  clear HP'
  clear HU
  have HU := HU'
  clear HU'
  clear HR
  have HR := HR'
  clear HR'
  clear HY
  have HY := HY'
  clear HY'
  clear hb
  obtain ⟨sa, sc, rfl⟩ := own_slice hown
  clear hown
  have ra := cellOf HR.out 0 _ rfl
  have rb := cellOf HR.out 1 _ rfl
  have rl := lt_of_block HR.out
  go_wp2_with fail
  clear ra rb rl
  have hcall := valid_any ⟨st, pts⟩ _ w3 HP.out
  rw [HE.out] at hcall
  have e0 : ((0 : Int) == 0) = true := rfl
  rw [e0] at hcall
  clear e0
  refine hcall.mono ?_
  clear hcall
  rintro e w4 ⟨rfl, hb⟩
  have HB' := Lib.hid (HB.out.trans (hb.mono HB.out.size))
  have HP' := Lib.hid (HP.out.below hb)
  have HU' := Lib.hid (HU.out.below hb)
  have HR' := Lib.hid ((hb.block _ (lt_of_block HR.out)).trans HR.out)
  have HY' := Lib.hid ((hb.block _ (lt_of_block HY.out)).trans HY.out)
  clear HB
  have HB := HB'
  clear HB'
  clear HP
  have HP := HP'
  clear HP'
  clear HU
  have HU := HU'
  clear HU'
  clear HR
  have HR := HR'
  clear HR'
  clear HY
  have HY := HY'
  clear HY'
  clear hb
  have ra := cellOf HR.out 0 _ rfl
  have rb := cellOf HR.out 1 _ rfl
  have rl := lt_of_block HR.out
  go_wp2_with fail
  clear ra rb rl
  refine (any_any ⟨st, pts⟩ _ _ l w4 HP.out HU.out HVV.out).mono ?_
  rintro e w5 ⟨tv, t, rfl, htl, ht9, htI, hb⟩
  have HB' := Lib.hid (HB.out.trans (hb.mono HB.out.size))
  have HP' := Lib.hid (HP.out.below hb)
  have HU' := Lib.hid (HU.out.below hb)
  have HR' := Lib.hid ((hb.block _ (lt_of_block HR.out)).trans HR.out)
  have HY' := Lib.hid ((hb.block _ (lt_of_block HY.out)).trans HY.out)
  clear HB
  have HB := HB'
  clear HB'
  clear HP
  have HP := HP'
  clear HP'
  clear HU
  have HU := HU'
  clear HU'
  clear HR
  have HR := HR'
  clear HR'
  clear HY
  have HY := HY'
  clear HY'
  clear hb
  have HTL : Hid (t.length = pts.length) := htl
  have HT9 := Lib.hid ht9
  have HTI := Lib.hid htI
  obtain ⟨_, ta, tc, rfl, _, _⟩ := id htI
  have hll : t.length = pts.length := htl
  rw [hll] at HTI ⊢
  clear htl ht9 htI hll HU
  have ra := cellOf HR.out 0 _ rfl
  have rb := cellOf HR.out 1 _ rfl
  have rl := lt_of_block HR.out
  go_wp2_with fail
  clear ra rb rl
  have hcall := good_any ⟨st, pts⟩ _ _ t w5 HP.out HTI.out HVV.out HTL.out HT9.out
  rw [HNG.out t HTL.out] at hcall
  refine hcall.mono ?_
  clear hcall
  rintro e w6 ⟨rfl, hb⟩
  have HB' := Lib.hid (HB.out.trans (hb.mono HB.out.size))
  have HP' := Lib.hid (HP.out.below hb)
  have HR' := Lib.hid ((hb.block _ (lt_of_block HR.out)).trans HR.out)
  have HY' := Lib.hid ((hb.block _ (lt_of_block HY.out)).trans HY.out)
  have HTI' := Lib.hid (HTI.out.below hb)
  clear HB
  have HB := HB'
  clear HB'
  clear HP
  have HP := HP'
  clear HP'
  clear HR
  have HR := HR'
  clear HR'
  clear HY
  have HY := HY'
  clear HY'
  clear HTI
  have HTI := HTI'
  clear HTI'
  clear hb
  go_wp2_with fail
  have hcall := awake_any w6
  refine hcall.mono ?_
  clear hcall
  rintro e w7 ⟨rfl, hb⟩
  have HB' := Lib.hid (HB.out.trans (hb.mono HB.out.size))
  have HP' := Lib.hid (HP.out.below hb)
  have HR' := Lib.hid ((hb.block _ (lt_of_block HR.out)).trans HR.out)
  have HY' := Lib.hid ((hb.block _ (lt_of_block HY.out)).trans HY.out)
  have HTI' := Lib.hid (HTI.out.below hb)
  clear HB
  have HB := HB'
  clear HB'
  clear HP
  have HP := HP'
  clear HP'
  clear HR
  have HR := HR'
  clear HR'
  clear HY
  have HY := HY'
  clear HY'
  clear HTI
  have HTI := HTI'
  clear HTI'
  clear hb
  go_wp2
  go_ret
  exact ⟨rfl, HB.out⟩

set_option maxRecDepth 100000 in
set_option maxHeartbeats 16000000 in
theorem lbtw_ok (st : Int) (pts : List Pt) (pb po : Nat) (pc : Nat) (xv : Value) (l : List Nat) (x y : Nat) (hx : x ≤ 255) (hy : y ≤ 255) (w : World) (hP : PtsAt w (.slice (some ⟨pb, po, none⟩) pts.length pc) pts) (hU : U8At w xv l) (HE : Hid (errR ⟨st, pts⟩ = 0)) (bl : List Sp) (HBL : Hid (boundsR ⟨st, pts⟩ = (bl, 0))) (HLN : Hid (bl.length = pts.length)) (HBB : Hid (∀ p, p ∈ bl → 0 ≤ p.1 ∧ p.1 ≤ p.2 ∧ p.2 ≤ 9000)) (HWI : Hid (∀ s, s.length = pts.length → goodV ⟨st, pts⟩ s = true → ∀ i, i < pts.length → (bl.getD i (0, 0)).1 ≤ s.getD i 0 ∧ s.getD i 0 ≤ (bl.getD i (0, 0)).2)) (j : Nat) (HJX : Hid (x % pts.length = j)) (nn : Int) (HNN : Hid ((bl.getD j (0, 0)).1 + (y : Int) % ((bl.getD j (0, 0)).2 - (bl.getD j (0, 0)).1 + 1) = nn)) (jp : List Pt) (HJP : Hid (pts.set j ⟨(pts.getD j default).bd, nn, nn⟩ = jp)) (HBJ : Hid ((boundsR ⟨st, jp⟩).2 = 0)) (HGL : Hid (goodV ⟨st, pts⟩ (bl.map (·.1)) = true)) (HGH : Hid (goodV ⟨st, pts⟩ (bl.map (·.2)) = true)) :
    Calls Try.prog 7 #[.agg #[.int .i64 st, .slice (some ⟨pb, po, none⟩) pts.length pc], xv, .agg #[.int .u8 x, .int .u8 y]] w fun e w' => e = .returned (.bool true) ∧ Below w.heap.size w w' := by
  obtain ⟨i0, hi0⟩ := info_of_underlying Try.underlying58
  have HI : Hid (i0.zero = some (.agg #[.int .i64 0, .int .i64 0, .int .i64 0]) ∧ i0.size = 3 ∧ i0.bytes = 24) := by
    have h := ptInfo
    rw [hi0] at h
    simp at h
    exact h
  have HVV : Hid (Valid ⟨st, pts⟩) := (check_valid _).1 HE.out
  have h10 : pts.length ≤ 10 := HVV.out.n10
  have h1 : 1 ≤ pts.length := HVV.out.n1
  have l10 : (pts.length : Int) ≤ 10 := by omega
  have l1 : (1 : Int) ≤ (pts.length : Int) := by omega
  have HP := Lib.hid hP
  clear hP
  have HB := Lib.hid (Below.refl w.heap.size w)
  obtain ⟨_, xa, xc, rfl, _⟩ := id hU
  have HU := Lib.hid hU
  clear hU
  have xI : (x : Int) ≤ 255 := by omega
  have yI : (y : Int) ≤ 255 := by omega
  go_enter Try.func7, Try.ntmps7
  go_wp2_with fail
  have hb := (Below.refl w.heap.size w).alloc (Nat.le_refl _) (Obj.cells #[.int .i64 st, .slice (some ⟨pb, po, none⟩) pts.length pc] 24)
  have HR := Lib.hid (heap_alloc_new w (Obj.cells #[.int .i64 st, .slice (some ⟨pb, po, none⟩) pts.length pc] 24))
  have hz1 : (w.alloc (Obj.cells #[.int .i64 st, .slice (some ⟨pb, po, none⟩) pts.length pc] 24)).heap.size = w.heap.size + 1 := by simp
  have HB' := Lib.hid (HB.out.trans (hb.mono HB.out.size))
  have HP' := Lib.hid (HP.out.below hb)
  have HU' := Lib.hid (HU.out.below hb)
  clear HB
  have HB := HB'
  clear HB'
  clear HP
  have HP := HP'
  clear HP'
  clear HU
  have HU := HU'
  clear HU'
  clear hb
  generalize w.alloc (Obj.cells #[.int .i64 st, .slice (some ⟨pb, po, none⟩) pts.length pc] 24) = w1 at *
  have hb := (Below.refl w1.heap.size w1).alloc (Nat.le_refl _) (Obj.cells #[.int .u8 x, .int .u8 y] 52)
  have HY := Lib.hid (heap_alloc_new w1 (Obj.cells #[.int .u8 x, .int .u8 y] 52))
  have hz2 : (w1.alloc (Obj.cells #[.int .u8 x, .int .u8 y] 52)).heap.size = w1.heap.size + 1 := by simp
  rw [hz1] at HY
  have HB' := Lib.hid (HB.out.trans (hb.mono HB.out.size))
  have HP' := Lib.hid (HP.out.below hb)
  have HU' := Lib.hid (HU.out.below hb)
  have HR' := Lib.hid ((hb.block _ (lt_of_block HR.out)).trans HR.out)
  clear HB
  have HB := HB'
  clear HB'
  clear HP
  have HP := HP'
  clear HP'
  clear HU
  have HU := HU'
  clear HU'
  clear HR
  have HR := HR'
  clear HR'
  clear hb
  generalize w1.alloc (Obj.cells #[.int .u8 x, .int .u8 y] 52) = w2 at *
  have hcall := Bounds_any ⟨st, pts⟩ _ w2 HP.out
  rw [HBL.out] at hcall
  simp only at hcall
  refine hcall.mono ?_
  clear hcall
  rintro e w3 ⟨v1, rfl, hown, hb⟩
  have HB' := Lib.hid (HB.out.trans (hb.mono HB.out.size))
  have HP' := Lib.hid (HP.out.below hb)
  have HU' := Lib.hid (HU.out.below hb)
  have HR' := Lib.hid ((hb.block _ (lt_of_block HR.out)).trans HR.out)
  have HY' := Lib.hid ((hb.block _ (lt_of_block HY.out)).trans HY.out)
  clear HB
  have HB := HB'
  clear HB'
  clear HP
  have HP := HP'
  clear HP'
  clear HU
  have HU := HU'
  clear HU'
  clear HR
  have HR := HR'
  clear HR'
  clear HY
  have HY := HY'
  clear HY'
  clear hb
  have hpa := passAt_own hown (by rw [HLN.out]; omega)
  obtain ⟨sa, sc, rfl⟩ := own_slice hown
  rw [HLN.out] at hpa ⊢
  have HX := Lib.hid hpa
  clear hown hpa
  have ra := cellOf HR.out 0 _ rfl
  have rb := cellOf HR.out 1 _ rfl
  have rl := lt_of_block HR.out
  go_wp2_with fail
  clear ra rb rl
  have hcall := valid_any ⟨st, pts⟩ _ w3 HP.out
  rw [HE.out] at hcall
  have e0 : ((0 : Int) == 0) = true := rfl
  rw [e0] at hcall
  clear e0
  refine hcall.mono ?_
  clear hcall
  rintro e w4 ⟨rfl, hb⟩
  have HB' := Lib.hid (HB.out.trans (hb.mono HB.out.size))
  have HP' := Lib.hid (HP.out.below hb)
  have HU' := Lib.hid (HU.out.below hb)
  have HR' := Lib.hid ((hb.block _ (lt_of_block HR.out)).trans HR.out)
  have HY' := Lib.hid ((hb.block _ (lt_of_block HY.out)).trans HY.out)
  have HX' := Lib.hid (HX.out.below hb)
  clear HB
  have HB := HB'
  clear HB'
  clear HP
  have HP := HP'
  clear HP'
  clear HU
  have HU := HU'
  clear HU'
  clear HR
  have HR := HR'
  clear HR'
  clear HY
  have HY := HY'
  clear HY'
  clear HX
  have HX := HX'
  clear HX'
  clear hb
  have ra := cellOf HR.out 0 _ rfl
  have rb := cellOf HR.out 1 _ rfl
  have rl := lt_of_block HR.out
  go_wp2_with fail
  clear ra rb rl
  refine (any_any ⟨st, pts⟩ _ _ l w4 HP.out HU.out HVV.out).mono ?_
  rintro e w5 ⟨tv, t, rfl, htl, ht9, htI, hb⟩
  have HB' := Lib.hid (HB.out.trans (hb.mono HB.out.size))
  have HP' := Lib.hid (HP.out.below hb)
  have HU' := Lib.hid (HU.out.below hb)
  have HR' := Lib.hid ((hb.block _ (lt_of_block HR.out)).trans HR.out)
  have HY' := Lib.hid ((hb.block _ (lt_of_block HY.out)).trans HY.out)
  have HX' := Lib.hid (HX.out.below hb)
  clear HB
  have HB := HB'
  clear HB'
  clear HP
  have HP := HP'
  clear HP'
  clear HU
  have HU := HU'
  clear HU'
  clear HR
  have HR := HR'
  clear HR'
  clear HY
  have HY := HY'
  clear HY'
  clear HX
  have HX := HX'
  clear HX'
  clear hb
  have HTL : Hid (t.length = pts.length) := htl
  have HT9 := Lib.hid ht9
  have HTI := Lib.hid htI
  obtain ⟨_, ta, tc, rfl, _, _⟩ := id htI
  have hll : t.length = pts.length := htl
  rw [hll] at HTI ⊢
  clear htl ht9 htI hll HU
  obtain ⟨B, HB0⟩ : ∃ B, Hid (goodV ⟨st, pts⟩ t = B) := ⟨_, rfl⟩
  have ra := cellOf HR.out 0 _ rfl
  have rb := cellOf HR.out 1 _ rfl
  have rl := lt_of_block HR.out
  go_wp2_with fail
  clear ra rb rl
  have HXW := HX
  go_loopg [10, 11, 12] pts.length (fun g u v i wr => ∃ (k : Nat) (la ha : Option Addr) (lc hc : Nat), g + k = pts.length ∧ i = .int .i64 k ∧ u = .slice la k lc ∧ v = .slice ha k hc ∧ wr.ownsRow w5.heap.size 3 1 (.slice la k lc) k (((bl.take k).map (·.1)).map (Value.int .i64)) ∧ wr.ownsRow w5.heap.size 3 1 (.slice ha k hc) k (((bl.take k).map (·.2)).map (Value.int .i64)) ∧ Hid (∀ q, (Value.slice la k lc).ownBlock = some q → (Value.slice ha k hc).ownBlock ≠ some q) ∧ Hid (Below w5.heap.size w5 wr))
  case atStart => exact ⟨0, none, none, 0, 0, by omega, rfl, rfl, rfl, World.ownsRow_nil _ _ _ _, World.ownsRow_nil _ _ _ _, fun _ h => by (cases h), Below.refl _ _⟩
  case round =>
    obtain ⟨k, la, ha, lc, hc, hk, rfl, rfl, rfl, hol, hoh, HD, HL⟩ := hrel
    obtain ⟨wq, hwq⟩ : ∃ wq, wr = wq := ⟨_, rfl⟩
    rw [hwq] at hol hoh HL ⊢
    clear hwq
    have hb := HL.out
    have HB' := Lib.hid (HB.out.trans (hb.mono HB.out.size))
    have HP' := Lib.hid (HP.out.below hb)
    have HR' := Lib.hid ((hb.block _ (lt_of_block HR.out)).trans HR.out)
    have HY' := Lib.hid ((hb.block _ (lt_of_block HY.out)).trans HY.out)
    have HX' := Lib.hid (HX.out.below hb)
    have HTI' := Lib.hid (HTI.out.below hb)
    clear HB
    have HB := HB'
    clear HB'
    clear HP
    have HP := HP'
    clear HP'
    clear HR
    have HR := HR'
    clear HR'
    clear HY
    have HY := HY'
    clear HY'
    clear HX
    have HX := HX'
    clear HX'
    clear HTI
    have HTI := HTI'
    clear HTI'
    clear hb
    have HOL := Lib.hid hol
    have HOH := Lib.hid hoh
    clear hol hoh
    by_cases hlt : k < pts.length
    · skip
      have kI : (k : Int) < (pts.length : Int) := by omega
      have k9 : (k : Int) ≤ 9 := by omega
      obtain ⟨b1, o1, rfl, c0, c1⟩ := HX.out.get (show k < bl.length by rw [HLN.out]; exact hlt)
      obtain ⟨b1', o1', e, cW, _⟩ := HXW.out.get (show k < bl.length by rw [HLN.out]; exact hlt)
      simp only [Option.some.injEq, Addr.mk.injEq, and_true] at e
      obtain ⟨rfl, rfl⟩ := e
      have hbW : b1 < w5.heap.size := World.block_lt_of_cell? _ ⟨b1, o1 + k * 2, none⟩ cW
      clear cW
      obtain ⟨b2, o2, rfl, d0⟩ := HTI.out.get (show k < t.length by rw [HTL.out]; exact hlt)
      have hbb := HBB.out (bl[k]'(by rw [HLN.out]; exact hlt)) (List.getElem_mem _)
      have hww := HWI.out t HTL.out
      rw [HB0.out] at hww
      have e1 : bl.getD k (0, 0) = bl[k]'(by rw [HLN.out]; exact hlt) := by simp [List.getD_eq_getElem?_getD, show k < bl.length by rw [HLN.out]; exact hlt]
      have e2 : t.getD k 0 = t[k]'(by rw [HTL.out]; exact hlt) := by simp [List.getD_eq_getElem?_getD, show k < t.length by rw [HTL.out]; exact hlt]
      have hin : B = true → (bl[k]'(by rw [HLN.out]; exact hlt)).1 ≤ t[k]'(by rw [HTL.out]; exact hlt) ∧ t[k]'(by rw [HTL.out]; exact hlt) ≤ (bl[k]'(by rw [HLN.out]; exact hlt)).2 := fun q => by have := hww q k hlt; rw [e1, e2] at this; exact this
      have HLT : Hid ((((bl.take (k + 1)).map (·.1)).map (Value.int .i64)) = (((bl.take k).map (·.1)).map (Value.int .i64)) ++ [.int .i64 (bl[k]'(by rw [HLN.out]; exact hlt)).1]) := by show _ = _; rw [List.take_succ_eq_append_getElem (show k < bl.length by rw [HLN.out]; exact hlt), List.map_append, List.map_append]; rfl
      have HHT : Hid ((((bl.take (k + 1)).map (·.2)).map (Value.int .i64)) = (((bl.take k).map (·.2)).map (Value.int .i64)) ++ [.int .i64 (bl[k]'(by rw [HLN.out]; exact hlt)).2]) := by show _ = _; rw [List.take_succ_eq_append_getElem (show k < bl.length by rw [HLN.out]; exact hlt), List.map_append, List.map_append]; rfl
      clear e1 e2 hww
      generalize bl[k]'(by rw [HLN.out]; exact hlt) = sp at *
      generalize t[k]'(by rw [HTL.out]; exact hlt) = z at *
      obtain ⟨x1, y1⟩ := sp
      simp only at c0 c1 hbb hin HLT HHT
      obtain ⟨x0, xy, y9⟩ := hbb
      have q3 : decide (y1 < x1) = false := by simp; omega
      have HIN := Lib.hid hin
      clear hin
      have HGO : Hid (∀ W', Below wq.heap.size wq W' → Calls Try.prog 42 #[.agg #[.int .i64 st, .slice (some ⟨pb, po, none⟩) pts.length pc], .slice (some ⟨b2, o2, none⟩) pts.length tc] W' fun e w' => e = .returned (.bool B) ∧ Below W'.heap.size W' w') := fun W' hb => by
        have h := good_any ⟨st, pts⟩ _ _ t W' (HP.out.below hb) (HTI.out.below hb) HVV.out HTL.out HT9.out
        rw [HB0.out] at h
        exact h
      have ra := cellOf HR.out 0 _ rfl
      have rb := cellOf HR.out 1 _ rfl
      have rl := lt_of_block HR.out
      go_wp2_with fail
      clear rl
      cases B
      · skip
        clear HIN
        refine wp_region_noPanic ?_
        refine wp_region_held_drew (S := (fun W' => W'.cell? ⟨w.heap.size, 0, none⟩ = some (.int .i64 st) ∧ W'.cell? ⟨w.heap.size, 1, none⟩ = some (.slice (some ⟨pb, po, none⟩) pts.length pc) ∧ W'.cell? ⟨b1, o1 + k * 2, none⟩ = some (.int .i64 x1) ∧ W'.cell? ⟨b1, o1 + k * 2 + 1, none⟩ = some (.int .i64 y1) ∧ W'.cell? ⟨b2, o2 + k, none⟩ = some (.int .i64 z) ∧ Below wq.heap.size wq W')) (by kernel_rfl) ?_ (fun hh0 => ?_)
        · try dsimp only
          exact ⟨ra, rb, c0, c1, d0, (Below.refl _ _).drew⟩
        refine wpAnyH_take (i := 0) (v := ?_) rfl (by as_aux_lemma => kernel_rfl) (by as_aux_lemma => kernel_rfl) (by as_aux_lemma => kernel_rfl) (fun _ _ _ h => h) (Or.inl ⟨by rfl, ?_⟩) (by assumption) ?_
        rotate_left
        · intro w hSw
          try dsimp only at hSw
          go_simp
          try with_reducible rfl
        try simp only [Act.put, List.getElem_toArray, List.getElem_cons_succ, List.getElem_cons_zero, List.setIfInBounds_toArray, List.set_cons_zero, List.set_cons_succ]
        refine wpAnyH_take (i := 1) (v := ?_) rfl (by as_aux_lemma => kernel_rfl) (by as_aux_lemma => kernel_rfl) (by as_aux_lemma => kernel_rfl) (fun _ _ _ h => h) (Or.inl ⟨by rfl, ?_⟩) (by assumption) ?_
        rotate_left
        · intro w hSw
          try dsimp only at hSw
          go_simp
          try with_reducible rfl
        try simp only [Act.put, List.getElem_toArray, List.getElem_cons_succ, List.getElem_cons_zero, List.setIfInBounds_toArray, List.set_cons_zero, List.set_cons_succ]
        refine wpAnyH_ready (rs := [2]) (by as_aux_lemma => kernel_rfl) (by simp) ?_
        refine AllReadyH.cons rfl (fun K hK => ?_) AllReadyH.nil
        go_simp
        refine (HGO.out _ hh0.2.2.2.2.2).mono ?_
        rintro e wg ⟨rfl, hbg⟩
        refine hK.out _ _ ?_ (fun hh1 => ?_)
        · try dsimp only
          exact ⟨keepC hh0.1 hbg, keepC hh0.2.1 hbg, keepC hh0.2.2.1 hbg, keepC hh0.2.2.2.1 hbg, keepC hh0.2.2.2.2.1 hbg, hh0.2.2.2.2.2.trans (hbg.mono hh0.2.2.2.2.2.size)⟩
        clear hK K hh0
        try simp only [Act.put, List.getElem_toArray, List.getElem_cons_succ, List.getElem_cons_zero, List.setIfInBounds_toArray, List.set_cons_zero, List.set_cons_succ]
        refine wpAnyH_take (i := 3) (v := ?_) rfl (by as_aux_lemma => kernel_rfl) (by as_aux_lemma => kernel_rfl) (by as_aux_lemma => kernel_rfl) (fun _ _ _ h => h) (Or.inl ⟨by rfl, ?_⟩) (by assumption) ?_
        rotate_left
        · intro w hSw
          try dsimp only at hSw
          go_simp
          try with_reducible rfl
        try simp only [Act.put, List.getElem_toArray, List.getElem_cons_succ, List.getElem_cons_zero, List.setIfInBounds_toArray, List.set_cons_zero, List.set_cons_succ]
        refine wpAnyH_take (i := 4) (v := undef) rfl (by as_aux_lemma => kernel_rfl) (by as_aux_lemma => kernel_rfl) (by as_aux_lemma => kernel_rfl) (fun _ _ _ h => h) (Or.inr ⟨by rfl, rfl⟩) (by assumption) ?_
        try simp only [Act.put, List.getElem_toArray, List.getElem_cons_succ, List.getElem_cons_zero, List.setIfInBounds_toArray, List.set_cons_zero, List.set_cons_succ]
        refine wpAnyH_take (i := 5) (v := undef) rfl (by as_aux_lemma => kernel_rfl) (by as_aux_lemma => kernel_rfl) (by as_aux_lemma => kernel_rfl) (fun _ _ _ h => h) (Or.inr ⟨by rfl, rfl⟩) (by assumption) ?_
        try simp only [Act.put, List.getElem_toArray, List.getElem_cons_succ, List.getElem_cons_zero, List.setIfInBounds_toArray, List.set_cons_zero, List.set_cons_succ]
        refine wpAnyH_take (i := 6) (v := undef) rfl (by as_aux_lemma => kernel_rfl) (by as_aux_lemma => kernel_rfl) (by as_aux_lemma => kernel_rfl) (fun _ _ _ h => h) (Or.inr ⟨by rfl, rfl⟩) (by assumption) ?_
        try simp only [Act.put, List.getElem_toArray, List.getElem_cons_succ, List.getElem_cons_zero, List.setIfInBounds_toArray, List.set_cons_zero, List.set_cons_succ]
        refine wpAnyH_take (i := 7) (v := undef) rfl (by as_aux_lemma => kernel_rfl) (by as_aux_lemma => kernel_rfl) (by as_aux_lemma => kernel_rfl) (fun _ _ _ h => h) (Or.inr ⟨by rfl, rfl⟩) (by assumption) ?_
        try simp only [Act.put, List.getElem_toArray, List.getElem_cons_succ, List.getElem_cons_zero, List.setIfInBounds_toArray, List.set_cons_zero, List.set_cons_succ]
        refine wpAnyH_take (i := 8) (v := undef) rfl (by as_aux_lemma => kernel_rfl) (by as_aux_lemma => kernel_rfl) (by as_aux_lemma => kernel_rfl) (fun _ _ _ h => h) (Or.inr ⟨by rfl, rfl⟩) (by assumption) ?_
        try simp only [Act.put, List.getElem_toArray, List.getElem_cons_succ, List.getElem_cons_zero, List.setIfInBounds_toArray, List.set_cons_zero, List.set_cons_succ]
        refine wpAnyH_take (i := 9) (v := undef) rfl (by as_aux_lemma => kernel_rfl) (by as_aux_lemma => kernel_rfl) (by as_aux_lemma => kernel_rfl) (fun _ _ _ h => h) (Or.inr ⟨by rfl, rfl⟩) (by assumption) ?_
        try simp only [Act.put, List.getElem_toArray, List.getElem_cons_succ, List.getElem_cons_zero, List.setIfInBounds_toArray, List.set_cons_zero, List.set_cons_succ]
        refine wpAnyH_take (i := 10) (v := undef) rfl (by as_aux_lemma => kernel_rfl) (by as_aux_lemma => kernel_rfl) (by as_aux_lemma => kernel_rfl) (fun _ _ _ h => h) (Or.inr ⟨by rfl, rfl⟩) (by assumption) ?_
        try simp only [Act.put, List.getElem_toArray, List.getElem_cons_succ, List.getElem_cons_zero, List.setIfInBounds_toArray, List.set_cons_zero, List.set_cons_succ]
        refine wpAnyH_take (i := 11) (v := undef) rfl (by as_aux_lemma => kernel_rfl) (by as_aux_lemma => kernel_rfl) (by as_aux_lemma => kernel_rfl) (fun _ _ _ h => h) (Or.inr ⟨by rfl, rfl⟩) (by assumption) ?_
        try simp only [Act.put, List.getElem_toArray, List.getElem_cons_succ, List.getElem_cons_zero, List.setIfInBounds_toArray, List.set_cons_zero, List.set_cons_succ]
        refine wpAnyH_take (i := 12) (v := undef) rfl (by as_aux_lemma => kernel_rfl) (by as_aux_lemma => kernel_rfl) (by as_aux_lemma => kernel_rfl) (fun _ _ _ h => h) (Or.inr ⟨by rfl, rfl⟩) (by assumption) ?_
        try simp only [Act.put, List.getElem_toArray, List.getElem_cons_succ, List.getElem_cons_zero, List.setIfInBounds_toArray, List.set_cons_zero, List.set_cons_succ]
        refine wpAnyH_take (i := 13) (v := undef) rfl (by as_aux_lemma => kernel_rfl) (by as_aux_lemma => kernel_rfl) (by as_aux_lemma => kernel_rfl) (fun _ _ _ h => h) (Or.inr ⟨by rfl, rfl⟩) (by assumption) ?_
        try simp only [Act.put, List.getElem_toArray, List.getElem_cons_succ, List.getElem_cons_zero, List.setIfInBounds_toArray, List.set_cons_zero, List.set_cons_succ]
        refine wpAnyH_take (i := 14) (v := undef) rfl (by as_aux_lemma => kernel_rfl) (by as_aux_lemma => kernel_rfl) (by as_aux_lemma => kernel_rfl) (fun _ _ _ h => h) (Or.inr ⟨by rfl, rfl⟩) (by assumption) ?_
        try simp only [Act.put, List.getElem_toArray, List.getElem_cons_succ, List.getElem_cons_zero, List.setIfInBounds_toArray, List.set_cons_zero, List.set_cons_succ]
        refine wpAnyH_take (i := 15) (v := undef) rfl (by as_aux_lemma => kernel_rfl) (by as_aux_lemma => kernel_rfl) (by as_aux_lemma => kernel_rfl) (fun _ _ _ h => h) (Or.inr ⟨by rfl, rfl⟩) (by assumption) ?_
        try simp only [Act.put, List.getElem_toArray, List.getElem_cons_succ, List.getElem_cons_zero, List.setIfInBounds_toArray, List.set_cons_zero, List.set_cons_succ]
        refine wpAnyH_take (i := 16) (v := undef) rfl (by as_aux_lemma => kernel_rfl) (by as_aux_lemma => kernel_rfl) (by as_aux_lemma => kernel_rfl) (fun _ _ _ h => h) (Or.inr ⟨by rfl, rfl⟩) (by assumption) ?_
        try simp only [Act.put, List.getElem_toArray, List.getElem_cons_succ, List.getElem_cons_zero, List.setIfInBounds_toArray, List.set_cons_zero, List.set_cons_succ]
        refine wpAnyH_take (i := 17) (v := undef) rfl (by as_aux_lemma => kernel_rfl) (by as_aux_lemma => kernel_rfl) (by as_aux_lemma => kernel_rfl) (fun _ _ _ h => h) (Or.inr ⟨by rfl, rfl⟩) (by assumption) ?_
        try simp only [Act.put, List.getElem_toArray, List.getElem_cons_succ, List.getElem_cons_zero, List.setIfInBounds_toArray, List.set_cons_zero, List.set_cons_succ]
        refine wpAnyH_take (i := 18) (v := undef) rfl (by as_aux_lemma => kernel_rfl) (by as_aux_lemma => kernel_rfl) (by as_aux_lemma => kernel_rfl) (fun _ _ _ h => h) (Or.inr ⟨by rfl, rfl⟩) (by assumption) ?_
        try simp only [Act.put, List.getElem_toArray, List.getElem_cons_succ, List.getElem_cons_zero, List.setIfInBounds_toArray, List.set_cons_zero, List.set_cons_succ]
        refine wpAnyH_take (i := 19) (v := undef) rfl (by as_aux_lemma => kernel_rfl) (by as_aux_lemma => kernel_rfl) (by as_aux_lemma => kernel_rfl) (fun _ _ _ h => h) (Or.inr ⟨by rfl, rfl⟩) (by assumption) ?_
        try simp only [Act.put, List.getElem_toArray, List.getElem_cons_succ, List.getElem_cons_zero, List.setIfInBounds_toArray, List.set_cons_zero, List.set_cons_succ]
        refine wpAnyH_take (i := 20) (v := undef) rfl (by as_aux_lemma => kernel_rfl) (by as_aux_lemma => kernel_rfl) (by as_aux_lemma => kernel_rfl) (fun _ _ _ h => h) (Or.inr ⟨by rfl, rfl⟩) (by assumption) ?_
        try simp only [Act.put, List.getElem_toArray, List.getElem_cons_succ, List.getElem_cons_zero, List.setIfInBounds_toArray, List.set_cons_zero, List.set_cons_succ]
        refine wpAnyH_take (i := 21) (v := undef) rfl (by as_aux_lemma => kernel_rfl) (by as_aux_lemma => kernel_rfl) (by as_aux_lemma => kernel_rfl) (fun _ _ _ h => h) (Or.inr ⟨by rfl, rfl⟩) (by assumption) ?_
        try simp only [Act.put, List.getElem_toArray, List.getElem_cons_succ, List.getElem_cons_zero, List.setIfInBounds_toArray, List.set_cons_zero, List.set_cons_succ]
        refine wpAnyH_take (i := 22) (v := undef) rfl (by as_aux_lemma => kernel_rfl) (by as_aux_lemma => kernel_rfl) (by as_aux_lemma => kernel_rfl) (fun _ _ _ h => h) (Or.inr ⟨by rfl, rfl⟩) (by assumption) ?_
        try simp only [Act.put, List.getElem_toArray, List.getElem_cons_succ, List.getElem_cons_zero, List.setIfInBounds_toArray, List.set_cons_zero, List.set_cons_succ]
        refine wpAnyH_take (i := 23) (v := undef) rfl (by as_aux_lemma => kernel_rfl) (by as_aux_lemma => kernel_rfl) (by as_aux_lemma => kernel_rfl) (fun _ _ _ h => h) (Or.inr ⟨by rfl, rfl⟩) (by assumption) ?_
        try simp only [Act.put, List.getElem_toArray, List.getElem_cons_succ, List.getElem_cons_zero, List.setIfInBounds_toArray, List.set_cons_zero, List.set_cons_succ]
        refine wpAnyH_take (i := 24) (v := undef) rfl (by as_aux_lemma => kernel_rfl) (by as_aux_lemma => kernel_rfl) (by as_aux_lemma => kernel_rfl) (fun _ _ _ h => h) (Or.inr ⟨by rfl, rfl⟩) (by assumption) ?_
        try simp only [Act.put, List.getElem_toArray, List.getElem_cons_succ, List.getElem_cons_zero, List.setIfInBounds_toArray, List.set_cons_zero, List.set_cons_succ]
        refine wpAnyH_take (i := 25) (v := undef) rfl (by as_aux_lemma => kernel_rfl) (by as_aux_lemma => kernel_rfl) (by as_aux_lemma => kernel_rfl) (fun _ _ _ h => h) (Or.inr ⟨by rfl, rfl⟩) (by assumption) ?_
        try simp only [Act.put, List.getElem_toArray, List.getElem_cons_succ, List.getElem_cons_zero, List.setIfInBounds_toArray, List.set_cons_zero, List.set_cons_succ]
        refine wpAnyH_take (i := 26) (v := ?_) rfl (by as_aux_lemma => kernel_rfl) (by as_aux_lemma => kernel_rfl) (by as_aux_lemma => kernel_rfl) (fun _ _ _ h => h) (Or.inl ⟨by rfl, ?_⟩) (by assumption) ?_
        rotate_left
        · intro w hSw
          try dsimp only at hSw
          go_simp
          try with_reducible rfl
        try simp only [Act.put, List.getElem_toArray, List.getElem_cons_succ, List.getElem_cons_zero, List.setIfInBounds_toArray, List.set_cons_zero, List.set_cons_succ]
        refine wpAnyH_take (i := 27) (v := ?_) rfl (by as_aux_lemma => kernel_rfl) (by as_aux_lemma => kernel_rfl) (by as_aux_lemma => kernel_rfl) (fun _ _ _ h => h) (Or.inl ⟨by rfl, ?_⟩) (by assumption) ?_
        rotate_left
        · intro w hSw
          try dsimp only at hSw
          go_simp
          try with_reducible rfl
        try simp only [Act.put, List.getElem_toArray, List.getElem_cons_succ, List.getElem_cons_zero, List.setIfInBounds_toArray, List.set_cons_zero, List.set_cons_succ]
        refine wpAnyH_take (i := 28) (v := ?_) rfl (by as_aux_lemma => kernel_rfl) (by as_aux_lemma => kernel_rfl) (by as_aux_lemma => kernel_rfl) (fun _ _ _ h => h) (Or.inl ⟨by rfl, ?_⟩) (by assumption) ?_
        rotate_left
        · intro w hSw
          try dsimp only at hSw
          go_simp
          try with_reducible rfl
        try simp only [Act.put, List.getElem_toArray, List.getElem_cons_succ, List.getElem_cons_zero, List.setIfInBounds_toArray, List.set_cons_zero, List.set_cons_succ]
        refine wpAnyH_take (i := 29) (v := ?_) rfl (by as_aux_lemma => kernel_rfl) (by as_aux_lemma => kernel_rfl) (by as_aux_lemma => kernel_rfl) (fun _ _ _ h => h) (Or.inl ⟨by rfl, ?_⟩) (by assumption) ?_
        rotate_left
        · intro w hSw
          try dsimp only at hSw
          go_simp
          try with_reducible rfl
        try simp only [Act.put, List.getElem_toArray, List.getElem_cons_succ, List.getElem_cons_zero, List.setIfInBounds_toArray, List.set_cons_zero, List.set_cons_succ]
        refine wpAnyH_take (i := 30) (v := ?_) rfl (by as_aux_lemma => kernel_rfl) (by as_aux_lemma => kernel_rfl) (by as_aux_lemma => kernel_rfl) (fun _ _ _ h => h) (Or.inl ⟨by rfl, ?_⟩) (by assumption) ?_
        rotate_left
        · intro w hSw
          try dsimp only at hSw
          go_simp
          try with_reducible rfl
        try simp only [Act.put, List.getElem_toArray, List.getElem_cons_succ, List.getElem_cons_zero, List.setIfInBounds_toArray, List.set_cons_zero, List.set_cons_succ]
        refine wpAnyH_take (i := 31) (v := ?_) rfl (by as_aux_lemma => kernel_rfl) (by as_aux_lemma => kernel_rfl) (by as_aux_lemma => kernel_rfl) (fun _ _ _ h => h) (Or.inl ⟨by rfl, ?_⟩) (by assumption) ?_
        rotate_left
        · intro w hSw
          try dsimp only at hSw
          go_simp
          try with_reducible rfl
        try simp only [Act.put, List.getElem_toArray, List.getElem_cons_succ, List.getElem_cons_zero, List.setIfInBounds_toArray, List.set_cons_zero, List.set_cons_succ]
        refine wpAnyH_take (i := 32) (v := ?_) rfl (by as_aux_lemma => kernel_rfl) (by as_aux_lemma => kernel_rfl) (by as_aux_lemma => kernel_rfl) (fun _ _ _ h => h) (Or.inl ⟨by rfl, ?_⟩) (by assumption) ?_
        rotate_left
        · intro w hSw
          try dsimp only at hSw
          go_simp
          try with_reducible rfl
        try simp only [Act.put, List.getElem_toArray, List.getElem_cons_succ, List.getElem_cons_zero, List.setIfInBounds_toArray, List.set_cons_zero, List.set_cons_succ]
        refine wpAnyH_take (i := 33) (v := ?_) rfl (by as_aux_lemma => kernel_rfl) (by as_aux_lemma => kernel_rfl) (by as_aux_lemma => kernel_rfl) (fun _ _ _ h => h) (Or.inl ⟨by rfl, ?_⟩) (by assumption) ?_
        rotate_left
        · intro w hSw
          try dsimp only at hSw
          go_simp
          try with_reducible rfl
        try simp only [Act.put, List.getElem_toArray, List.getElem_cons_succ, List.getElem_cons_zero, List.setIfInBounds_toArray, List.set_cons_zero, List.set_cons_succ]
        refine wpAnyH_take (i := 34) (v := ?_) rfl (by as_aux_lemma => kernel_rfl) (by as_aux_lemma => kernel_rfl) (by as_aux_lemma => kernel_rfl) (fun _ _ _ h => h) (Or.inl ⟨by rfl, ?_⟩) (by assumption) ?_
        rotate_left
        · intro w hSw
          try dsimp only at hSw
          go_simp
          try with_reducible rfl
        try simp only [Act.put, List.getElem_toArray, List.getElem_cons_succ, List.getElem_cons_zero, List.setIfInBounds_toArray, List.set_cons_zero, List.set_cons_succ]
        refine wpAnyH_take (i := 35) (v := ?_) rfl (by as_aux_lemma => kernel_rfl) (by as_aux_lemma => kernel_rfl) (by as_aux_lemma => kernel_rfl) (fun _ _ _ h => h) (Or.inl ⟨by rfl, ?_⟩) (by assumption) ?_
        rotate_left
        · intro w hSw
          try dsimp only at hSw
          go_simp
          try with_reducible rfl
        try simp only [Act.put, List.getElem_toArray, List.getElem_cons_succ, List.getElem_cons_zero, List.setIfInBounds_toArray, List.set_cons_zero, List.set_cons_succ]
        refine wpAnyH_take (i := 36) (v := ?_) rfl (by as_aux_lemma => kernel_rfl) (by as_aux_lemma => kernel_rfl) (by as_aux_lemma => kernel_rfl) (fun _ _ _ h => h) (Or.inl ⟨by rfl, ?_⟩) (by assumption) ?_
        rotate_left
        · intro w hSw
          try dsimp only at hSw
          go_simp
          try with_reducible rfl
        try simp only [Act.put, List.getElem_toArray, List.getElem_cons_succ, List.getElem_cons_zero, List.setIfInBounds_toArray, List.set_cons_zero, List.set_cons_succ]
        refine wpAnyH_take (i := 37) (v := ?_) rfl (by as_aux_lemma => kernel_rfl) (by as_aux_lemma => kernel_rfl) (by as_aux_lemma => kernel_rfl) (fun _ _ _ h => h) (Or.inl ⟨by rfl, ?_⟩) (by assumption) ?_
        rotate_left
        · intro w hSw
          try dsimp only at hSw
          go_simp
          try with_reducible rfl
        try simp only [Act.put, List.getElem_toArray, List.getElem_cons_succ, List.getElem_cons_zero, List.setIfInBounds_toArray, List.set_cons_zero, List.set_cons_succ]
        refine wpAnyH_take (i := 38) (v := ?_) rfl (by as_aux_lemma => kernel_rfl) (by as_aux_lemma => kernel_rfl) (by as_aux_lemma => kernel_rfl) (fun _ _ _ h => h) (Or.inl ⟨by rfl, ?_⟩) (by assumption) ?_
        rotate_left
        · intro w hSw
          try dsimp only at hSw
          go_simp
          try with_reducible rfl
        try simp only [Act.put, List.getElem_toArray, List.getElem_cons_succ, List.getElem_cons_zero, List.setIfInBounds_toArray, List.set_cons_zero, List.set_cons_succ]
        refine wpAnyH_take (i := 39) (v := ?_) rfl (by as_aux_lemma => kernel_rfl) (by as_aux_lemma => kernel_rfl) (by as_aux_lemma => kernel_rfl) (fun _ _ _ h => h) (Or.inl ⟨by rfl, ?_⟩) (by assumption) ?_
        rotate_left
        · intro w hSw
          try dsimp only at hSw
          go_simp
          try with_reducible rfl
        try simp only [Act.put, List.getElem_toArray, List.getElem_cons_succ, List.getElem_cons_zero, List.setIfInBounds_toArray, List.set_cons_zero, List.set_cons_succ]
        refine wpAnyH_done (by as_aux_lemma => kernel_rfl) ?_ _
        refine NoPanic.normal ?_
        go_wp2_with fail
        have c0' := hh1.2.2.1
        have c1' := hh1.2.2.2.1
        have HBG := Lib.hid hh1.2.2.2.2.2
        clear hh1 HGO ra rb c0 c1 d0
        have HOLg := Lib.hid (own_below HOL.out HBG.out)
        have HOHg := Lib.hid (own_below HOH.out HBG.out)
        clear HOL HOH
        have hWg : w5.heap.size ≤ wg.heap.size := Nat.le_trans HL.out.size HBG.out.size
        have hbg := World.block_lt_of_cell? wg ⟨b1, o1 + k * 2, none⟩ c0'
        have HDO := dis_or HD.out
        refine wp_region_noPanic ?_
        refine wp_region_held_drew (S := (fun W' => W'.cell? ⟨b1, o1 + k * 2, none⟩ = some (.int .i64 x1) ∧ W'.cell? ⟨b1, o1 + k * 2 + 1, none⟩ = some (.int .i64 y1))) (by kernel_rfl) ?_ (fun hh0 => ?_)
        · try dsimp only
          exact ⟨c0', c1'⟩
        refine wpAnyH_take (i := 0) (v := ?_) rfl (by as_aux_lemma => kernel_rfl) (by as_aux_lemma => kernel_rfl) (by as_aux_lemma => kernel_rfl) (fun _ _ _ h => h) (Or.inl ⟨by rfl, ?_⟩) (by assumption) ?_
        rotate_left
        · intro w hSw
          try dsimp only at hSw
          go_simp
          try with_reducible rfl
        try simp only [Act.put, List.getElem_toArray, List.getElem_cons_succ, List.getElem_cons_zero, List.setIfInBounds_toArray, List.set_cons_zero, List.set_cons_succ]
        refine wpAnyH_take (i := 1) (v := ?_) rfl (by as_aux_lemma => kernel_rfl) (by as_aux_lemma => kernel_rfl) (by as_aux_lemma => kernel_rfl) (fun _ _ _ h => h) (Or.inl ⟨by rfl, ?_⟩) (by assumption) ?_
        rotate_left
        · intro w hSw
          try dsimp only at hSw
          go_simp
          try with_reducible rfl
        try simp only [Act.put, List.getElem_toArray, List.getElem_cons_succ, List.getElem_cons_zero, List.setIfInBounds_toArray, List.set_cons_zero, List.set_cons_succ]
        refine wpAnyH_take (i := 2) (v := ?_) rfl (by as_aux_lemma => kernel_rfl) (by as_aux_lemma => kernel_rfl) (by as_aux_lemma => kernel_rfl) (fun _ _ _ h => h) (Or.inl ⟨by rfl, ?_⟩) (by assumption) ?_
        rotate_left
        · intro w hSw
          try dsimp only at hSw
          go_simp
          try with_reducible rfl
        try simp only [Act.put, List.getElem_toArray, List.getElem_cons_succ, List.getElem_cons_zero, List.setIfInBounds_toArray, List.set_cons_zero, List.set_cons_succ]
        refine wpAnyH_take (i := 3) (v := ?_) rfl (by as_aux_lemma => kernel_rfl) (by as_aux_lemma => kernel_rfl) (by as_aux_lemma => kernel_rfl) (fun _ _ _ h => h) (Or.inl ⟨by rfl, ?_⟩) (by assumption) ?_
        rotate_left
        · intro w hSw
          try dsimp only at hSw
          go_simp
          try with_reducible rfl
        try simp only [Act.put, List.getElem_toArray, List.getElem_cons_succ, List.getElem_cons_zero, List.setIfInBounds_toArray, List.set_cons_zero, List.set_cons_succ]
        refine wpAnyH_take (i := 4) (v := ?_) rfl (by as_aux_lemma => kernel_rfl) (by as_aux_lemma => kernel_rfl) (by as_aux_lemma => kernel_rfl) (fun _ _ _ h => h) (Or.inl ⟨by rfl, ?_⟩) (by assumption) ?_
        rotate_left
        · intro w hSw
          try dsimp only at hSw
          go_simp
          try with_reducible rfl
        try simp only [Act.put, List.getElem_toArray, List.getElem_cons_succ, List.getElem_cons_zero, List.setIfInBounds_toArray, List.set_cons_zero, List.set_cons_succ]
        refine wpAnyH_take (i := 5) (v := ?_) rfl (by as_aux_lemma => kernel_rfl) (by as_aux_lemma => kernel_rfl) (by as_aux_lemma => kernel_rfl) (fun _ _ _ h => h) (Or.inl ⟨by rfl, ?_⟩) (by assumption) ?_
        rotate_left
        · intro w hSw
          try dsimp only at hSw
          go_simp
          try with_reducible rfl
        try simp only [Act.put, List.getElem_toArray, List.getElem_cons_succ, List.getElem_cons_zero, List.setIfInBounds_toArray, List.set_cons_zero, List.set_cons_succ]
        refine wpAnyH_take (i := 8) (v := ?_) rfl (by as_aux_lemma => kernel_rfl) (by as_aux_lemma => kernel_rfl) (by as_aux_lemma => kernel_rfl) (fun _ _ _ h => h) (Or.inl ⟨by rfl, ?_⟩) (by assumption) ?_
        rotate_left
        · intro w hSw
          try dsimp only at hSw
          go_simp
          try with_reducible rfl
        try simp only [Act.put, List.getElem_toArray, List.getElem_cons_succ, List.getElem_cons_zero, List.setIfInBounds_toArray, List.set_cons_zero, List.set_cons_succ]
        refine wpAnyH_take (i := 9) (v := ?_) rfl (by as_aux_lemma => kernel_rfl) (by as_aux_lemma => kernel_rfl) (by as_aux_lemma => kernel_rfl) (fun _ _ _ h => h) (Or.inl ⟨by rfl, ?_⟩) (by assumption) ?_
        rotate_left
        · intro w hSw
          try dsimp only at hSw
          go_simp
          try with_reducible rfl
        try simp only [Act.put, List.getElem_toArray, List.getElem_cons_succ, List.getElem_cons_zero, List.setIfInBounds_toArray, List.set_cons_zero, List.set_cons_succ]
        refine wpAnyH_take (i := 10) (v := ?_) rfl (by as_aux_lemma => kernel_rfl) (by as_aux_lemma => kernel_rfl) (by as_aux_lemma => kernel_rfl) (fun _ _ _ h => h) (Or.inl ⟨by rfl, ?_⟩) (by assumption) ?_
        rotate_left
        · intro w hSw
          try dsimp only at hSw
          go_simp
          try with_reducible rfl
        try simp only [Act.put, List.getElem_toArray, List.getElem_cons_succ, List.getElem_cons_zero, List.setIfInBounds_toArray, List.set_cons_zero, List.set_cons_succ]
        refine wpAnyH_take (i := 11) (v := ?_) rfl (by as_aux_lemma => kernel_rfl) (by as_aux_lemma => kernel_rfl) (by as_aux_lemma => kernel_rfl) (fun _ _ _ h => h) (Or.inl ⟨by rfl, ?_⟩) (by assumption) ?_
        rotate_left
        · intro w hSw
          try dsimp only at hSw
          go_simp
          try with_reducible rfl
        try simp only [Act.put, List.getElem_toArray, List.getElem_cons_succ, List.getElem_cons_zero, List.setIfInBounds_toArray, List.set_cons_zero, List.set_cons_succ]
        refine wpAnyH_take (i := 12) (v := ?_) rfl (by as_aux_lemma => kernel_rfl) (by as_aux_lemma => kernel_rfl) (by as_aux_lemma => kernel_rfl) (fun _ _ _ h => h) (Or.inl ⟨by rfl, ?_⟩) (by assumption) ?_
        rotate_left
        · intro w hSw
          try dsimp only at hSw
          go_simp
          try with_reducible rfl
        try simp only [Act.put, List.getElem_toArray, List.getElem_cons_succ, List.getElem_cons_zero, List.setIfInBounds_toArray, List.set_cons_zero, List.set_cons_succ]
        refine wpAnyH_take (i := 13) (v := ?_) rfl (by as_aux_lemma => kernel_rfl) (by as_aux_lemma => kernel_rfl) (by as_aux_lemma => kernel_rfl) (fun _ _ _ h => h) (Or.inl ⟨by rfl, ?_⟩) (by assumption) ?_
        rotate_left
        · intro w hSw
          try dsimp only at hSw
          go_simp
          try with_reducible rfl
        try simp only [Act.put, List.getElem_toArray, List.getElem_cons_succ, List.getElem_cons_zero, List.setIfInBounds_toArray, List.set_cons_zero, List.set_cons_succ]
        refine wpAnyH_ready (rs := [6, 14]) (by as_aux_lemma => kernel_rfl) (by simp) ?_
        refine AllReadyH.cons rfl (fun K hK => ?_) (AllReadyH.cons rfl (fun K hK => ?_) AllReadyH.nil)
        · skip
          go_simp
          refine hK.out _ _ ?_ (fun hh1 => ?_)
          · try dsimp only
            exact ⟨keepC c0' (by go_grown), keepC c1' (by go_grown)⟩
          clear hK K hh0
          try simp only [Act.put, List.getElem_toArray, List.getElem_cons_succ, List.getElem_cons_zero, List.setIfInBounds_toArray, List.set_cons_zero, List.set_cons_succ]
          refine wpAnyH_ready (rs := [7, 14]) (by as_aux_lemma => kernel_rfl) (by simp) ?_
          refine AllReadyH.cons rfl (fun K hK => ?_) (AllReadyH.cons rfl (fun K hK => ?_) AllReadyH.nil)
          · skip
            refine step_one (by rfl) _ _ (by rfl) w5.heap.size k _ _ _ x1 (by rfl) (by rfl) (own_below HOLg.out (by go_grown)) (cellOf (heap_alloc_new wg (Obj.cells #[.int .i64 x1] 3)) 0 _ rfl) (by first | (simp; done) | (simp; omega)) (by omega) ?_
            intro v1 w1 ho1 hg1 hl1 hb1
            have HBw1 : Hid (Below w5.heap.size wg w1) := (Below.mono (B := wg.heap.size) (by go_grown) hWg).grown hg1 (by first | (simp; done) | (simp; omega)) (fun q hq => (hl1 q hq).1)
            have HS1 : Hid (wg.heap.size ≤ w1.heap.size) := HBw1.out.size
            have HD1 : Hid (∀ q, v1.ownBlock = some q → (Value.slice ha k hc).ownBlock ≠ some q) := dis_next HD.out hb1 (fun q hq => by have := (HOHg.out.lt q hq).2; simp; omega)
            refine hK.out _ _ ⟨(HBw1.out.cell (p := ⟨b1, o1 + k * 2, none⟩) hbW).trans c0', (HBw1.out.cell (p := ⟨b1, o1 + k * 2 + 1, none⟩) hbW).trans c1'⟩ (fun hh2 => ?_)
            clear hK K hh1
            try simp only [Act.put, List.getElem_toArray, List.getElem_cons_succ, List.getElem_cons_zero, List.setIfInBounds_toArray, List.set_cons_zero, List.set_cons_succ]
            refine wpAnyH_ready (rs := [14]) (by as_aux_lemma => kernel_rfl) (by simp) ?_
            refine AllReadyH.cons rfl (fun K hK => ?_) AllReadyH.nil
            go_simp
            refine hK.out _ _ ?_ (fun hh3 => ?_)
            · try dsimp only
              exact ⟨keepC hh2.1 (by go_grown), keepC hh2.2 (by go_grown)⟩
            clear hK K hh2
            try simp only [Act.put, List.getElem_toArray, List.getElem_cons_succ, List.getElem_cons_zero, List.setIfInBounds_toArray, List.set_cons_zero, List.set_cons_succ]
            refine wpAnyH_ready (rs := [15]) (by as_aux_lemma => kernel_rfl) (by simp) ?_
            refine AllReadyH.cons rfl (fun K hK => ?_) AllReadyH.nil
            refine step_one (by rfl) _ _ (by rfl) w5.heap.size k _ _ _ y1 (by rfl) (by rfl) (own_below ((own_below HOHg.out (by go_grown)).kept hg1 HDO) (by go_grown)) (cellOf (heap_alloc_new w1 (Obj.cells #[.int .i64 y1] 3)) 0 _ rfl) (by have := HS1.out; first | (simp; done) | (simp; omega) | omega) (by omega) ?_
            intro v2 w2 ho2 hg2 hl2 hb2
            have HBw2 : Hid (Below w5.heap.size wg w2) := (HBw1.out.trans (Below.mono (B := w1.heap.size) (by go_grown) (by have := HS1.out; omega))).grown hg2 (by have := HS1.out; first | (simp; done) | (simp; omega) | omega) (fun q hq => (hl2 q hq).1)
            have HO1 := Lib.hid ((own_below ho1 (by go_grown)).kept hg2 (dis_or2 HD1.out))
            have HD2 : Hid (∀ q, v1.ownBlock = some q → v2.ownBlock ≠ some q) := dis_last HD1.out hb2 (fun q hq => by have := (ho1.lt q hq).2; first | exact this | (simp; omega))
            refine hK.out _ _ ⟨(HBw2.out.cell (p := ⟨b1, o1 + k * 2, none⟩) hbW).trans c0', (HBw2.out.cell (p := ⟨b1, o1 + k * 2 + 1, none⟩) hbW).trans c1'⟩ (fun hh4 => ?_)
            clear hK K hh3
            try simp only [Act.put, List.getElem_toArray, List.getElem_cons_succ, List.getElem_cons_zero, List.setIfInBounds_toArray, List.set_cons_zero, List.set_cons_succ]
            refine wpAnyH_ready (rs := [16]) (by as_aux_lemma => kernel_rfl) (by simp) ?_
            refine AllReadyH.cons rfl (fun K hK => ?_) AllReadyH.nil
            go_simp
            refine hK.out _ _ hh4 (fun hh5 => ?_)
            clear hK K hh4
            try simp only [Act.put, List.getElem_toArray, List.getElem_cons_succ, List.getElem_cons_zero, List.setIfInBounds_toArray, List.set_cons_zero, List.set_cons_succ]
            refine wpAnyH_ready (rs := [17]) (by as_aux_lemma => kernel_rfl) (by simp) ?_
            refine AllReadyH.cons rfl (fun K hK => ?_) AllReadyH.nil
            go_simp
            refine hK.out _ _ hh5 (fun hh6 => ?_)
            clear hK K hh5
            try simp only [Act.put, List.getElem_toArray, List.getElem_cons_succ, List.getElem_cons_zero, List.setIfInBounds_toArray, List.set_cons_zero, List.set_cons_succ]
            refine wpAnyH_done (by as_aux_lemma => kernel_rfl) ?_ _
            refine NoPanic.normal ?_
            obtain ⟨sa1, sc1, rfl⟩ := own_slice ho1
            obtain ⟨sa2, sc2, rfl⟩ := own_slice ho2
            have HO2 := Lib.hid ho2
            have HL2 : Hid (Below w5.heap.size w5 w2) := (HL.out.trans (HBG.out.mono HL.out.size)).trans HBw2.out
            clear ho1 ho2 hg1 hg2 hl1 hl2 hb1 hb2 HBw1 HBw2 HD1 HOLg HOHg c0' c1'
            go_wp2
            go_roundg (gk - 1)
            case measure => omega
            case rel => exact ⟨k + 1, sa1, sa2, sc1, sc2, by omega, by go_num, rfl, rfl, by rw [HLT.out]; exact HO1.out, by rw [HHT.out]; exact HO2.out, HD2.out, HL2.out⟩
          · skip
            go_simp
            refine hK.out _ _ ?_ (fun hh2 => ?_)
            · try dsimp only
              exact ⟨keepC c0' (by go_grown), keepC c1' (by go_grown)⟩
            clear hK K hh1
            try simp only [Act.put, List.getElem_toArray, List.getElem_cons_succ, List.getElem_cons_zero, List.setIfInBounds_toArray, List.set_cons_zero, List.set_cons_succ]
            refine wpAnyH_ready (rs := [7]) (by as_aux_lemma => kernel_rfl) (by simp) ?_
            refine AllReadyH.cons rfl (fun K hK => ?_) AllReadyH.nil
            refine step_one (by rfl) _ _ (by rfl) w5.heap.size k _ _ _ x1 (by rfl) (by rfl) (own_below HOLg.out (by go_grown)) (keepC (cellOf (heap_alloc_new wg (Obj.cells #[.int .i64 x1] 3)) 0 _ rfl) (by go_grown)) (by first | (simp; done) | (simp; omega)) (by omega) ?_
            intro v1 w1 ho1 hg1 hl1 hb1
            have HBw1 : Hid (Below w5.heap.size wg w1) := (Below.mono (B := wg.heap.size) (by go_grown) hWg).grown hg1 (by first | (simp; done) | (simp; omega)) (fun q hq => (hl1 q hq).1)
            have HS1 : Hid (wg.heap.size ≤ w1.heap.size) := HBw1.out.size
            have HD1 : Hid (∀ q, v1.ownBlock = some q → (Value.slice ha k hc).ownBlock ≠ some q) := dis_next HD.out hb1 (fun q hq => by have := (HOHg.out.lt q hq).2; simp; omega)
            refine hK.out _ _ ⟨(HBw1.out.cell (p := ⟨b1, o1 + k * 2, none⟩) hbW).trans c0', (HBw1.out.cell (p := ⟨b1, o1 + k * 2 + 1, none⟩) hbW).trans c1'⟩ (fun hh3 => ?_)
            clear hK K hh2
            try simp only [Act.put, List.getElem_toArray, List.getElem_cons_succ, List.getElem_cons_zero, List.setIfInBounds_toArray, List.set_cons_zero, List.set_cons_succ]
            refine wpAnyH_ready (rs := [15]) (by as_aux_lemma => kernel_rfl) (by simp) ?_
            refine AllReadyH.cons rfl (fun K hK => ?_) AllReadyH.nil
            refine step_one (by rfl) _ _ (by rfl) w5.heap.size k _ _ _ y1 (by rfl) (by rfl) (own_below ((own_below HOHg.out (by go_grown)).kept hg1 HDO) (by go_grown)) (cell_kept (w := ((wg.alloc (Obj.cells #[.int .i64 x1] 3)).alloc (Obj.cells #[.int .i64 y1] 3)).drew) (cellOf (new2 wg (Obj.cells #[.int .i64 x1] 3) (Obj.cells #[.int .i64 y1] 3)) 0 _ rfl) hg1 (fun e => by have := (HOLg.out.lt _ e).2; first | omega | (simp at this; omega))) (by have := HS1.out; first | (simp; done) | (simp; omega) | omega) (by omega) ?_
            intro v2 w2 ho2 hg2 hl2 hb2
            have HBw2 : Hid (Below w5.heap.size wg w2) := (HBw1.out.trans (Below.mono (B := w1.heap.size) (by go_grown) (by have := HS1.out; omega))).grown hg2 (by have := HS1.out; first | (simp; done) | (simp; omega) | omega) (fun q hq => (hl2 q hq).1)
            have HO1 := Lib.hid ((own_below ho1 (by go_grown)).kept hg2 (dis_or2 HD1.out))
            have HD2 : Hid (∀ q, v1.ownBlock = some q → v2.ownBlock ≠ some q) := dis_last HD1.out hb2 (fun q hq => by have := (ho1.lt q hq).2; first | exact this | (simp; omega))
            refine hK.out _ _ ⟨(HBw2.out.cell (p := ⟨b1, o1 + k * 2, none⟩) hbW).trans c0', (HBw2.out.cell (p := ⟨b1, o1 + k * 2 + 1, none⟩) hbW).trans c1'⟩ (fun hh4 => ?_)
            clear hK K hh3
            try simp only [Act.put, List.getElem_toArray, List.getElem_cons_succ, List.getElem_cons_zero, List.setIfInBounds_toArray, List.set_cons_zero, List.set_cons_succ]
            refine wpAnyH_ready (rs := [16]) (by as_aux_lemma => kernel_rfl) (by simp) ?_
            refine AllReadyH.cons rfl (fun K hK => ?_) AllReadyH.nil
            go_simp
            refine hK.out _ _ hh4 (fun hh5 => ?_)
            clear hK K hh4
            try simp only [Act.put, List.getElem_toArray, List.getElem_cons_succ, List.getElem_cons_zero, List.setIfInBounds_toArray, List.set_cons_zero, List.set_cons_succ]
            refine wpAnyH_ready (rs := [17]) (by as_aux_lemma => kernel_rfl) (by simp) ?_
            refine AllReadyH.cons rfl (fun K hK => ?_) AllReadyH.nil
            go_simp
            refine hK.out _ _ hh5 (fun hh6 => ?_)
            clear hK K hh5
            try simp only [Act.put, List.getElem_toArray, List.getElem_cons_succ, List.getElem_cons_zero, List.setIfInBounds_toArray, List.set_cons_zero, List.set_cons_succ]
            refine wpAnyH_done (by as_aux_lemma => kernel_rfl) ?_ _
            refine NoPanic.normal ?_
            obtain ⟨sa1, sc1, rfl⟩ := own_slice ho1
            obtain ⟨sa2, sc2, rfl⟩ := own_slice ho2
            have HO2 := Lib.hid ho2
            have HL2 : Hid (Below w5.heap.size w5 w2) := (HL.out.trans (HBG.out.mono HL.out.size)).trans HBw2.out
            clear ho1 ho2 hg1 hg2 hl1 hl2 hb1 hb2 HBw1 HBw2 HD1 HOLg HOHg c0' c1'
            go_wp2
            go_roundg (gk - 1)
            case measure => omega
            case rel => exact ⟨k + 1, sa1, sa2, sc1, sc2, by omega, by go_num, rfl, rfl, by rw [HLT.out]; exact HO1.out, by rw [HHT.out]; exact HO2.out, HD2.out, HL2.out⟩
        · skip
          go_simp
          refine hK.out _ _ ?_ (fun hh1 => ?_)
          · try dsimp only
            exact ⟨keepC c0' (by go_grown), keepC c1' (by go_grown)⟩
          clear hK K hh0
          try simp only [Act.put, List.getElem_toArray, List.getElem_cons_succ, List.getElem_cons_zero, List.setIfInBounds_toArray, List.set_cons_zero, List.set_cons_succ]
          refine wpAnyH_ready (rs := [6]) (by as_aux_lemma => kernel_rfl) (by simp) ?_
          refine AllReadyH.cons rfl (fun K hK => ?_) AllReadyH.nil
          go_simp
          refine hK.out _ _ ?_ (fun hh2 => ?_)
          · try dsimp only
            exact ⟨keepC c0' (by go_grown), keepC c1' (by go_grown)⟩
          clear hK K hh1
          try simp only [Act.put, List.getElem_toArray, List.getElem_cons_succ, List.getElem_cons_zero, List.setIfInBounds_toArray, List.set_cons_zero, List.set_cons_succ]
          refine wpAnyH_ready (rs := [7]) (by as_aux_lemma => kernel_rfl) (by simp) ?_
          refine AllReadyH.cons rfl (fun K hK => ?_) AllReadyH.nil
          refine step_one (by rfl) _ _ (by rfl) w5.heap.size k _ _ _ x1 (by rfl) (by rfl) (own_below HOLg.out (by go_grown)) (cellOf (new2 wg (Obj.cells #[.int .i64 y1] 3) (Obj.cells #[.int .i64 x1] 3)) 0 _ rfl) (by first | (simp; done) | (simp; omega)) (by omega) ?_
          intro v1 w1 ho1 hg1 hl1 hb1
          have HBw1 : Hid (Below w5.heap.size wg w1) := (Below.mono (B := wg.heap.size) (by go_grown) hWg).grown hg1 (by first | (simp; done) | (simp; omega)) (fun q hq => (hl1 q hq).1)
          have HS1 : Hid (wg.heap.size ≤ w1.heap.size) := HBw1.out.size
          have HD1 : Hid (∀ q, v1.ownBlock = some q → (Value.slice ha k hc).ownBlock ≠ some q) := dis_next HD.out hb1 (fun q hq => by have := (HOHg.out.lt q hq).2; simp; omega)
          refine hK.out _ _ ⟨(HBw1.out.cell (p := ⟨b1, o1 + k * 2, none⟩) hbW).trans c0', (HBw1.out.cell (p := ⟨b1, o1 + k * 2 + 1, none⟩) hbW).trans c1'⟩ (fun hh3 => ?_)
          clear hK K hh2
          try simp only [Act.put, List.getElem_toArray, List.getElem_cons_succ, List.getElem_cons_zero, List.setIfInBounds_toArray, List.set_cons_zero, List.set_cons_succ]
          refine wpAnyH_ready (rs := [15]) (by as_aux_lemma => kernel_rfl) (by simp) ?_
          refine AllReadyH.cons rfl (fun K hK => ?_) AllReadyH.nil
          refine step_one (by rfl) _ _ (by rfl) w5.heap.size k _ _ _ y1 (by rfl) (by rfl) (own_below ((own_below HOHg.out (by go_grown)).kept hg1 HDO) (by go_grown)) (cell_kept (w := ((wg.alloc (Obj.cells #[.int .i64 y1] 3)).alloc (Obj.cells #[.int .i64 x1] 3)).drew) (keepC (cellOf (heap_alloc_new wg (Obj.cells #[.int .i64 y1] 3)) 0 _ rfl) (by go_grown)) hg1 (fun e => by have := (HOLg.out.lt _ e).2; first | omega | (simp at this; omega))) (by have := HS1.out; first | (simp; done) | (simp; omega) | omega) (by omega) ?_
          intro v2 w2 ho2 hg2 hl2 hb2
          have HBw2 : Hid (Below w5.heap.size wg w2) := (HBw1.out.trans (Below.mono (B := w1.heap.size) (by go_grown) (by have := HS1.out; omega))).grown hg2 (by have := HS1.out; first | (simp; done) | (simp; omega) | omega) (fun q hq => (hl2 q hq).1)
          have HO1 := Lib.hid ((own_below ho1 (by go_grown)).kept hg2 (dis_or2 HD1.out))
          have HD2 : Hid (∀ q, v1.ownBlock = some q → v2.ownBlock ≠ some q) := dis_last HD1.out hb2 (fun q hq => by have := (ho1.lt q hq).2; first | exact this | (simp; omega))
          refine hK.out _ _ ⟨(HBw2.out.cell (p := ⟨b1, o1 + k * 2, none⟩) hbW).trans c0', (HBw2.out.cell (p := ⟨b1, o1 + k * 2 + 1, none⟩) hbW).trans c1'⟩ (fun hh4 => ?_)
          clear hK K hh3
          try simp only [Act.put, List.getElem_toArray, List.getElem_cons_succ, List.getElem_cons_zero, List.setIfInBounds_toArray, List.set_cons_zero, List.set_cons_succ]
          refine wpAnyH_ready (rs := [16]) (by as_aux_lemma => kernel_rfl) (by simp) ?_
          refine AllReadyH.cons rfl (fun K hK => ?_) AllReadyH.nil
          go_simp
          refine hK.out _ _ hh4 (fun hh5 => ?_)
          clear hK K hh4
          try simp only [Act.put, List.getElem_toArray, List.getElem_cons_succ, List.getElem_cons_zero, List.setIfInBounds_toArray, List.set_cons_zero, List.set_cons_succ]
          refine wpAnyH_ready (rs := [17]) (by as_aux_lemma => kernel_rfl) (by simp) ?_
          refine AllReadyH.cons rfl (fun K hK => ?_) AllReadyH.nil
          go_simp
          refine hK.out _ _ hh5 (fun hh6 => ?_)
          clear hK K hh5
          try simp only [Act.put, List.getElem_toArray, List.getElem_cons_succ, List.getElem_cons_zero, List.setIfInBounds_toArray, List.set_cons_zero, List.set_cons_succ]
          refine wpAnyH_done (by as_aux_lemma => kernel_rfl) ?_ _
          refine NoPanic.normal ?_
          obtain ⟨sa1, sc1, rfl⟩ := own_slice ho1
          obtain ⟨sa2, sc2, rfl⟩ := own_slice ho2
          have HO2 := Lib.hid ho2
          have HL2 : Hid (Below w5.heap.size w5 w2) := (HL.out.trans (HBG.out.mono HL.out.size)).trans HBw2.out
          clear ho1 ho2 hg1 hg2 hl1 hl2 hb1 hb2 HBw1 HBw2 HD1 HOLg HOHg c0' c1'
          go_wp2
          go_roundg (gk - 1)
          case measure => omega
          case rel => exact ⟨k + 1, sa1, sa2, sc1, sc2, by omega, by go_num, rfl, rfl, by rw [HLT.out]; exact HO1.out, by rw [HHT.out]; exact HO2.out, HD2.out, HL2.out⟩
      · skip
        have hi2 := HIN.out rfl
        have q1 : decide (z < x1) = false := by simp; omega
        have q2 : decide (y1 < z) = false := by simp; omega
        clear hi2
        clear HIN
        refine wp_region_noPanic ?_
        refine wp_region_held_drew (S := (fun W' => W'.cell? ⟨w.heap.size, 0, none⟩ = some (.int .i64 st) ∧ W'.cell? ⟨w.heap.size, 1, none⟩ = some (.slice (some ⟨pb, po, none⟩) pts.length pc) ∧ W'.cell? ⟨b1, o1 + k * 2, none⟩ = some (.int .i64 x1) ∧ W'.cell? ⟨b1, o1 + k * 2 + 1, none⟩ = some (.int .i64 y1) ∧ W'.cell? ⟨b2, o2 + k, none⟩ = some (.int .i64 z) ∧ Below wq.heap.size wq W')) (by kernel_rfl) ?_ (fun hh0 => ?_)
        · try dsimp only
          exact ⟨ra, rb, c0, c1, d0, (Below.refl _ _).drew⟩
        refine wpAnyH_take (i := 0) (v := ?_) rfl (by as_aux_lemma => kernel_rfl) (by as_aux_lemma => kernel_rfl) (by as_aux_lemma => kernel_rfl) (fun _ _ _ h => h) (Or.inl ⟨by rfl, ?_⟩) (by assumption) ?_
        rotate_left
        · intro w hSw
          try dsimp only at hSw
          go_simp
          try with_reducible rfl
        try simp only [Act.put, List.getElem_toArray, List.getElem_cons_succ, List.getElem_cons_zero, List.setIfInBounds_toArray, List.set_cons_zero, List.set_cons_succ]
        refine wpAnyH_take (i := 1) (v := ?_) rfl (by as_aux_lemma => kernel_rfl) (by as_aux_lemma => kernel_rfl) (by as_aux_lemma => kernel_rfl) (fun _ _ _ h => h) (Or.inl ⟨by rfl, ?_⟩) (by assumption) ?_
        rotate_left
        · intro w hSw
          try dsimp only at hSw
          go_simp
          try with_reducible rfl
        try simp only [Act.put, List.getElem_toArray, List.getElem_cons_succ, List.getElem_cons_zero, List.setIfInBounds_toArray, List.set_cons_zero, List.set_cons_succ]
        refine wpAnyH_ready (rs := [2]) (by as_aux_lemma => kernel_rfl) (by simp) ?_
        refine AllReadyH.cons rfl (fun K hK => ?_) AllReadyH.nil
        go_simp
        refine (HGO.out _ hh0.2.2.2.2.2).mono ?_
        rintro e wg ⟨rfl, hbg⟩
        refine hK.out _ _ ?_ (fun hh1 => ?_)
        · try dsimp only
          exact ⟨keepC hh0.1 hbg, keepC hh0.2.1 hbg, keepC hh0.2.2.1 hbg, keepC hh0.2.2.2.1 hbg, keepC hh0.2.2.2.2.1 hbg, hh0.2.2.2.2.2.trans (hbg.mono hh0.2.2.2.2.2.size)⟩
        clear hK K hh0
        try simp only [Act.put, List.getElem_toArray, List.getElem_cons_succ, List.getElem_cons_zero, List.setIfInBounds_toArray, List.set_cons_zero, List.set_cons_succ]
        refine wpAnyH_take (i := 3) (v := ?_) rfl (by as_aux_lemma => kernel_rfl) (by as_aux_lemma => kernel_rfl) (by as_aux_lemma => kernel_rfl) (fun _ _ _ h => h) (Or.inl ⟨by rfl, ?_⟩) (by assumption) ?_
        rotate_left
        · intro w hSw
          try dsimp only at hSw
          go_simp
          try with_reducible rfl
        try simp only [Act.put, List.getElem_toArray, List.getElem_cons_succ, List.getElem_cons_zero, List.setIfInBounds_toArray, List.set_cons_zero, List.set_cons_succ]
        refine wpAnyH_take (i := 4) (v := ?_) rfl (by as_aux_lemma => kernel_rfl) (by as_aux_lemma => kernel_rfl) (by as_aux_lemma => kernel_rfl) (fun _ _ _ h => h) (Or.inl ⟨by rfl, ?_⟩) (by assumption) ?_
        rotate_left
        · intro w hSw
          try dsimp only at hSw
          go_simp
          try with_reducible rfl
        try simp only [Act.put, List.getElem_toArray, List.getElem_cons_succ, List.getElem_cons_zero, List.setIfInBounds_toArray, List.set_cons_zero, List.set_cons_succ]
        refine wpAnyH_take (i := 5) (v := ?_) rfl (by as_aux_lemma => kernel_rfl) (by as_aux_lemma => kernel_rfl) (by as_aux_lemma => kernel_rfl) (fun _ _ _ h => h) (Or.inl ⟨by rfl, ?_⟩) (by assumption) ?_
        rotate_left
        · intro w hSw
          try dsimp only at hSw
          go_simp
          try with_reducible rfl
        try simp only [Act.put, List.getElem_toArray, List.getElem_cons_succ, List.getElem_cons_zero, List.setIfInBounds_toArray, List.set_cons_zero, List.set_cons_succ]
        refine wpAnyH_take (i := 6) (v := ?_) rfl (by as_aux_lemma => kernel_rfl) (by as_aux_lemma => kernel_rfl) (by as_aux_lemma => kernel_rfl) (fun _ _ _ h => h) (Or.inl ⟨by rfl, ?_⟩) (by assumption) ?_
        rotate_left
        · intro w hSw
          try dsimp only at hSw
          go_simp
          try with_reducible rfl
        try simp only [Act.put, List.getElem_toArray, List.getElem_cons_succ, List.getElem_cons_zero, List.setIfInBounds_toArray, List.set_cons_zero, List.set_cons_succ]
        refine wpAnyH_take (i := 7) (v := ?_) rfl (by as_aux_lemma => kernel_rfl) (by as_aux_lemma => kernel_rfl) (by as_aux_lemma => kernel_rfl) (fun _ _ _ h => h) (Or.inl ⟨by rfl, ?_⟩) (by assumption) ?_
        rotate_left
        · intro w hSw
          try dsimp only at hSw
          go_simp
          try with_reducible rfl
        try simp only [Act.put, List.getElem_toArray, List.getElem_cons_succ, List.getElem_cons_zero, List.setIfInBounds_toArray, List.set_cons_zero, List.set_cons_succ]
        refine wpAnyH_take (i := 8) (v := ?_) rfl (by as_aux_lemma => kernel_rfl) (by as_aux_lemma => kernel_rfl) (by as_aux_lemma => kernel_rfl) (fun _ _ _ h => h) (Or.inl ⟨by rfl, ?_⟩) (by assumption) ?_
        rotate_left
        · intro w hSw
          try dsimp only at hSw
          go_simp
          try with_reducible rfl
        try simp only [Act.put, List.getElem_toArray, List.getElem_cons_succ, List.getElem_cons_zero, List.setIfInBounds_toArray, List.set_cons_zero, List.set_cons_succ]
        refine wpAnyH_take (i := 9) (v := ?_) rfl (by as_aux_lemma => kernel_rfl) (by as_aux_lemma => kernel_rfl) (by as_aux_lemma => kernel_rfl) (fun _ _ _ h => h) (Or.inl ⟨by rfl, ?_⟩) (by assumption) ?_
        rotate_left
        · intro w hSw
          try dsimp only at hSw
          go_simp
          try with_reducible rfl
        try simp only [Act.put, List.getElem_toArray, List.getElem_cons_succ, List.getElem_cons_zero, List.setIfInBounds_toArray, List.set_cons_zero, List.set_cons_succ]
        refine wpAnyH_take (i := 10) (v := ?_) rfl (by as_aux_lemma => kernel_rfl) (by as_aux_lemma => kernel_rfl) (by as_aux_lemma => kernel_rfl) (fun _ _ _ h => h) (Or.inl ⟨by rfl, ?_⟩) (by assumption) ?_
        rotate_left
        · intro w hSw
          try dsimp only at hSw
          go_simp
          try with_reducible rfl
        try simp only [Act.put, List.getElem_toArray, List.getElem_cons_succ, List.getElem_cons_zero, List.setIfInBounds_toArray, List.set_cons_zero, List.set_cons_succ]
        refine wpAnyH_take (i := 11) (v := ?_) rfl (by as_aux_lemma => kernel_rfl) (by as_aux_lemma => kernel_rfl) (by as_aux_lemma => kernel_rfl) (fun _ _ _ h => h) (Or.inl ⟨by rfl, ?_⟩) (by assumption) ?_
        rotate_left
        · intro w hSw
          try dsimp only at hSw
          go_simp
          try with_reducible rfl
        try simp only [Act.put, List.getElem_toArray, List.getElem_cons_succ, List.getElem_cons_zero, List.setIfInBounds_toArray, List.set_cons_zero, List.set_cons_succ]
        refine wpAnyH_take (i := 12) (v := ?_) rfl (by as_aux_lemma => kernel_rfl) (by as_aux_lemma => kernel_rfl) (by as_aux_lemma => kernel_rfl) (fun _ _ _ h => h) (Or.inl ⟨by rfl, ?_⟩) (by assumption) ?_
        rotate_left
        · intro w hSw
          try dsimp only at hSw
          go_simp
          try with_reducible rfl
        try simp only [Act.put, List.getElem_toArray, List.getElem_cons_succ, List.getElem_cons_zero, List.setIfInBounds_toArray, List.set_cons_zero, List.set_cons_succ]
        refine wpAnyH_take (i := 13) (v := ?_) rfl (by as_aux_lemma => kernel_rfl) (by as_aux_lemma => kernel_rfl) (by as_aux_lemma => kernel_rfl) (fun _ _ _ h => h) (Or.inl ⟨by rfl, ?_⟩) (by assumption) ?_
        rotate_left
        · intro w hSw
          try dsimp only at hSw
          go_simp
          try with_reducible rfl
        try simp only [Act.put, List.getElem_toArray, List.getElem_cons_succ, List.getElem_cons_zero, List.setIfInBounds_toArray, List.set_cons_zero, List.set_cons_succ]
        refine wpAnyH_take (i := 14) (v := ?_) rfl (by as_aux_lemma => kernel_rfl) (by as_aux_lemma => kernel_rfl) (by as_aux_lemma => kernel_rfl) (fun _ _ _ h => h) (Or.inl ⟨by rfl, ?_⟩) (by assumption) ?_
        rotate_left
        · intro w hSw
          try dsimp only at hSw
          go_simp
          try with_reducible rfl
        try simp only [Act.put, List.getElem_toArray, List.getElem_cons_succ, List.getElem_cons_zero, List.setIfInBounds_toArray, List.set_cons_zero, List.set_cons_succ]
        refine wpAnyH_take (i := 15) (v := ?_) rfl (by as_aux_lemma => kernel_rfl) (by as_aux_lemma => kernel_rfl) (by as_aux_lemma => kernel_rfl) (fun _ _ _ h => h) (Or.inl ⟨by rfl, ?_⟩) (by assumption) ?_
        rotate_left
        · intro w hSw
          try dsimp only at hSw
          go_simp
          try with_reducible rfl
        try simp only [Act.put, List.getElem_toArray, List.getElem_cons_succ, List.getElem_cons_zero, List.setIfInBounds_toArray, List.set_cons_zero, List.set_cons_succ]
        refine wpAnyH_take (i := 16) (v := ?_) rfl (by as_aux_lemma => kernel_rfl) (by as_aux_lemma => kernel_rfl) (by as_aux_lemma => kernel_rfl) (fun _ _ _ h => h) (Or.inl ⟨by rfl, ?_⟩) (by assumption) ?_
        rotate_left
        · intro w hSw
          try dsimp only at hSw
          go_simp
          try with_reducible rfl
        try simp only [Act.put, List.getElem_toArray, List.getElem_cons_succ, List.getElem_cons_zero, List.setIfInBounds_toArray, List.set_cons_zero, List.set_cons_succ]
        refine wpAnyH_take (i := 17) (v := ?_) rfl (by as_aux_lemma => kernel_rfl) (by as_aux_lemma => kernel_rfl) (by as_aux_lemma => kernel_rfl) (fun _ _ _ h => h) (Or.inl ⟨by rfl, ?_⟩) (by assumption) ?_
        rotate_left
        · intro w hSw
          try dsimp only at hSw
          go_simp
          try with_reducible rfl
        try simp only [Act.put, List.getElem_toArray, List.getElem_cons_succ, List.getElem_cons_zero, List.setIfInBounds_toArray, List.set_cons_zero, List.set_cons_succ]
        refine wpAnyH_take (i := 18) (v := ?_) rfl (by as_aux_lemma => kernel_rfl) (by as_aux_lemma => kernel_rfl) (by as_aux_lemma => kernel_rfl) (fun _ _ _ h => h) (Or.inl ⟨by rfl, ?_⟩) (by assumption) ?_
        rotate_left
        · intro w hSw
          try dsimp only at hSw
          go_simp
          try with_reducible rfl
        try simp only [Act.put, List.getElem_toArray, List.getElem_cons_succ, List.getElem_cons_zero, List.setIfInBounds_toArray, List.set_cons_zero, List.set_cons_succ]
        refine wpAnyH_take (i := 19) (v := ?_) rfl (by as_aux_lemma => kernel_rfl) (by as_aux_lemma => kernel_rfl) (by as_aux_lemma => kernel_rfl) (fun _ _ _ h => h) (Or.inl ⟨by rfl, ?_⟩) (by assumption) ?_
        rotate_left
        · intro w hSw
          try dsimp only at hSw
          go_simp
          try with_reducible rfl
        try simp only [Act.put, List.getElem_toArray, List.getElem_cons_succ, List.getElem_cons_zero, List.setIfInBounds_toArray, List.set_cons_zero, List.set_cons_succ]
        refine wpAnyH_take (i := 20) (v := ?_) rfl (by as_aux_lemma => kernel_rfl) (by as_aux_lemma => kernel_rfl) (by as_aux_lemma => kernel_rfl) (fun _ _ _ h => h) (Or.inl ⟨by rfl, ?_⟩) (by assumption) ?_
        rotate_left
        · intro w hSw
          try dsimp only at hSw
          go_simp
          try with_reducible rfl
        try simp only [Act.put, List.getElem_toArray, List.getElem_cons_succ, List.getElem_cons_zero, List.setIfInBounds_toArray, List.set_cons_zero, List.set_cons_succ]
        refine wpAnyH_take (i := 21) (v := ?_) rfl (by as_aux_lemma => kernel_rfl) (by as_aux_lemma => kernel_rfl) (by as_aux_lemma => kernel_rfl) (fun _ _ _ h => h) (Or.inl ⟨by rfl, ?_⟩) (by assumption) ?_
        rotate_left
        · intro w hSw
          try dsimp only at hSw
          go_simp
          try with_reducible rfl
        try simp only [Act.put, List.getElem_toArray, List.getElem_cons_succ, List.getElem_cons_zero, List.setIfInBounds_toArray, List.set_cons_zero, List.set_cons_succ]
        refine wpAnyH_take (i := 22) (v := ?_) rfl (by as_aux_lemma => kernel_rfl) (by as_aux_lemma => kernel_rfl) (by as_aux_lemma => kernel_rfl) (fun _ _ _ h => h) (Or.inl ⟨by rfl, ?_⟩) (by assumption) ?_
        rotate_left
        · intro w hSw
          try dsimp only at hSw
          go_simp
          try with_reducible rfl
        try simp only [Act.put, List.getElem_toArray, List.getElem_cons_succ, List.getElem_cons_zero, List.setIfInBounds_toArray, List.set_cons_zero, List.set_cons_succ]
        refine wpAnyH_take (i := 23) (v := ?_) rfl (by as_aux_lemma => kernel_rfl) (by as_aux_lemma => kernel_rfl) (by as_aux_lemma => kernel_rfl) (fun _ _ _ h => h) (Or.inl ⟨by rfl, ?_⟩) (by assumption) ?_
        rotate_left
        · intro w hSw
          try dsimp only at hSw
          go_simp
          try with_reducible rfl
        try simp only [Act.put, List.getElem_toArray, List.getElem_cons_succ, List.getElem_cons_zero, List.setIfInBounds_toArray, List.set_cons_zero, List.set_cons_succ]
        refine wpAnyH_take (i := 24) (v := ?_) rfl (by as_aux_lemma => kernel_rfl) (by as_aux_lemma => kernel_rfl) (by as_aux_lemma => kernel_rfl) (fun _ _ _ h => h) (Or.inl ⟨by rfl, ?_⟩) (by assumption) ?_
        rotate_left
        · intro w hSw
          try dsimp only at hSw
          go_simp
          try with_reducible rfl
        try simp only [Act.put, List.getElem_toArray, List.getElem_cons_succ, List.getElem_cons_zero, List.setIfInBounds_toArray, List.set_cons_zero, List.set_cons_succ]
        refine wpAnyH_take (i := 25) (v := ?_) rfl (by as_aux_lemma => kernel_rfl) (by as_aux_lemma => kernel_rfl) (by as_aux_lemma => kernel_rfl) (fun _ _ _ h => h) (Or.inl ⟨by rfl, ?_⟩) (by assumption) ?_
        rotate_left
        · intro w hSw
          try dsimp only at hSw
          go_simp
          try with_reducible rfl
        try simp only [Act.put, List.getElem_toArray, List.getElem_cons_succ, List.getElem_cons_zero, List.setIfInBounds_toArray, List.set_cons_zero, List.set_cons_succ]
        refine wpAnyH_take (i := 26) (v := ?_) rfl (by as_aux_lemma => kernel_rfl) (by as_aux_lemma => kernel_rfl) (by as_aux_lemma => kernel_rfl) (fun _ _ _ h => h) (Or.inl ⟨by rfl, ?_⟩) (by assumption) ?_
        rotate_left
        · intro w hSw
          try dsimp only at hSw
          go_simp
          try with_reducible rfl
        try simp only [Act.put, List.getElem_toArray, List.getElem_cons_succ, List.getElem_cons_zero, List.setIfInBounds_toArray, List.set_cons_zero, List.set_cons_succ]
        refine wpAnyH_take (i := 27) (v := ?_) rfl (by as_aux_lemma => kernel_rfl) (by as_aux_lemma => kernel_rfl) (by as_aux_lemma => kernel_rfl) (fun _ _ _ h => h) (Or.inl ⟨by rfl, ?_⟩) (by assumption) ?_
        rotate_left
        · intro w hSw
          try dsimp only at hSw
          go_simp
          try with_reducible rfl
        try simp only [Act.put, List.getElem_toArray, List.getElem_cons_succ, List.getElem_cons_zero, List.setIfInBounds_toArray, List.set_cons_zero, List.set_cons_succ]
        refine wpAnyH_take (i := 28) (v := ?_) rfl (by as_aux_lemma => kernel_rfl) (by as_aux_lemma => kernel_rfl) (by as_aux_lemma => kernel_rfl) (fun _ _ _ h => h) (Or.inl ⟨by rfl, ?_⟩) (by assumption) ?_
        rotate_left
        · intro w hSw
          try dsimp only at hSw
          go_simp
          try with_reducible rfl
        try simp only [Act.put, List.getElem_toArray, List.getElem_cons_succ, List.getElem_cons_zero, List.setIfInBounds_toArray, List.set_cons_zero, List.set_cons_succ]
        refine wpAnyH_take (i := 29) (v := ?_) rfl (by as_aux_lemma => kernel_rfl) (by as_aux_lemma => kernel_rfl) (by as_aux_lemma => kernel_rfl) (fun _ _ _ h => h) (Or.inl ⟨by rfl, ?_⟩) (by assumption) ?_
        rotate_left
        · intro w hSw
          try dsimp only at hSw
          go_simp
          try with_reducible rfl
        try simp only [Act.put, List.getElem_toArray, List.getElem_cons_succ, List.getElem_cons_zero, List.setIfInBounds_toArray, List.set_cons_zero, List.set_cons_succ]
        refine wpAnyH_take (i := 30) (v := ?_) rfl (by as_aux_lemma => kernel_rfl) (by as_aux_lemma => kernel_rfl) (by as_aux_lemma => kernel_rfl) (fun _ _ _ h => h) (Or.inl ⟨by rfl, ?_⟩) (by assumption) ?_
        rotate_left
        · intro w hSw
          try dsimp only at hSw
          go_simp
          try with_reducible rfl
        try simp only [Act.put, List.getElem_toArray, List.getElem_cons_succ, List.getElem_cons_zero, List.setIfInBounds_toArray, List.set_cons_zero, List.set_cons_succ]
        refine wpAnyH_take (i := 31) (v := ?_) rfl (by as_aux_lemma => kernel_rfl) (by as_aux_lemma => kernel_rfl) (by as_aux_lemma => kernel_rfl) (fun _ _ _ h => h) (Or.inl ⟨by rfl, ?_⟩) (by assumption) ?_
        rotate_left
        · intro w hSw
          try dsimp only at hSw
          go_simp
          try with_reducible rfl
        try simp only [Act.put, List.getElem_toArray, List.getElem_cons_succ, List.getElem_cons_zero, List.setIfInBounds_toArray, List.set_cons_zero, List.set_cons_succ]
        refine wpAnyH_take (i := 32) (v := ?_) rfl (by as_aux_lemma => kernel_rfl) (by as_aux_lemma => kernel_rfl) (by as_aux_lemma => kernel_rfl) (fun _ _ _ h => h) (Or.inl ⟨by rfl, ?_⟩) (by assumption) ?_
        rotate_left
        · intro w hSw
          try dsimp only at hSw
          go_simp
          try with_reducible rfl
        try simp only [Act.put, List.getElem_toArray, List.getElem_cons_succ, List.getElem_cons_zero, List.setIfInBounds_toArray, List.set_cons_zero, List.set_cons_succ]
        refine wpAnyH_take (i := 33) (v := ?_) rfl (by as_aux_lemma => kernel_rfl) (by as_aux_lemma => kernel_rfl) (by as_aux_lemma => kernel_rfl) (fun _ _ _ h => h) (Or.inl ⟨by rfl, ?_⟩) (by assumption) ?_
        rotate_left
        · intro w hSw
          try dsimp only at hSw
          go_simp
          try with_reducible rfl
        try simp only [Act.put, List.getElem_toArray, List.getElem_cons_succ, List.getElem_cons_zero, List.setIfInBounds_toArray, List.set_cons_zero, List.set_cons_succ]
        refine wpAnyH_take (i := 34) (v := ?_) rfl (by as_aux_lemma => kernel_rfl) (by as_aux_lemma => kernel_rfl) (by as_aux_lemma => kernel_rfl) (fun _ _ _ h => h) (Or.inl ⟨by rfl, ?_⟩) (by assumption) ?_
        rotate_left
        · intro w hSw
          try dsimp only at hSw
          go_simp
          try with_reducible rfl
        try simp only [Act.put, List.getElem_toArray, List.getElem_cons_succ, List.getElem_cons_zero, List.setIfInBounds_toArray, List.set_cons_zero, List.set_cons_succ]
        refine wpAnyH_take (i := 35) (v := ?_) rfl (by as_aux_lemma => kernel_rfl) (by as_aux_lemma => kernel_rfl) (by as_aux_lemma => kernel_rfl) (fun _ _ _ h => h) (Or.inl ⟨by rfl, ?_⟩) (by assumption) ?_
        rotate_left
        · intro w hSw
          try dsimp only at hSw
          go_simp
          try with_reducible rfl
        try simp only [Act.put, List.getElem_toArray, List.getElem_cons_succ, List.getElem_cons_zero, List.setIfInBounds_toArray, List.set_cons_zero, List.set_cons_succ]
        refine wpAnyH_take (i := 36) (v := ?_) rfl (by as_aux_lemma => kernel_rfl) (by as_aux_lemma => kernel_rfl) (by as_aux_lemma => kernel_rfl) (fun _ _ _ h => h) (Or.inl ⟨by rfl, ?_⟩) (by assumption) ?_
        rotate_left
        · intro w hSw
          try dsimp only at hSw
          go_simp
          try with_reducible rfl
        try simp only [Act.put, List.getElem_toArray, List.getElem_cons_succ, List.getElem_cons_zero, List.setIfInBounds_toArray, List.set_cons_zero, List.set_cons_succ]
        refine wpAnyH_take (i := 37) (v := ?_) rfl (by as_aux_lemma => kernel_rfl) (by as_aux_lemma => kernel_rfl) (by as_aux_lemma => kernel_rfl) (fun _ _ _ h => h) (Or.inl ⟨by rfl, ?_⟩) (by assumption) ?_
        rotate_left
        · intro w hSw
          try dsimp only at hSw
          go_simp
          try with_reducible rfl
        try simp only [Act.put, List.getElem_toArray, List.getElem_cons_succ, List.getElem_cons_zero, List.setIfInBounds_toArray, List.set_cons_zero, List.set_cons_succ]
        refine wpAnyH_take (i := 38) (v := ?_) rfl (by as_aux_lemma => kernel_rfl) (by as_aux_lemma => kernel_rfl) (by as_aux_lemma => kernel_rfl) (fun _ _ _ h => h) (Or.inl ⟨by rfl, ?_⟩) (by assumption) ?_
        rotate_left
        · intro w hSw
          try dsimp only at hSw
          go_simp
          try with_reducible rfl
        try simp only [Act.put, List.getElem_toArray, List.getElem_cons_succ, List.getElem_cons_zero, List.setIfInBounds_toArray, List.set_cons_zero, List.set_cons_succ]
        refine wpAnyH_take (i := 39) (v := ?_) rfl (by as_aux_lemma => kernel_rfl) (by as_aux_lemma => kernel_rfl) (by as_aux_lemma => kernel_rfl) (fun _ _ _ h => h) (Or.inl ⟨by rfl, ?_⟩) (by assumption) ?_
        rotate_left
        · intro w hSw
          try dsimp only at hSw
          go_simp
          try with_reducible rfl
        try simp only [Act.put, List.getElem_toArray, List.getElem_cons_succ, List.getElem_cons_zero, List.setIfInBounds_toArray, List.set_cons_zero, List.set_cons_succ]
        refine wpAnyH_done (by as_aux_lemma => kernel_rfl) ?_ _
        refine NoPanic.normal ?_
        go_wp2_with fail
        have c0' := hh1.2.2.1
        have c1' := hh1.2.2.2.1
        have HBG := Lib.hid hh1.2.2.2.2.2
        clear hh1 HGO ra rb c0 c1 d0
        have HOLg := Lib.hid (own_below HOL.out HBG.out)
        have HOHg := Lib.hid (own_below HOH.out HBG.out)
        clear HOL HOH
        have hWg : w5.heap.size ≤ wg.heap.size := Nat.le_trans HL.out.size HBG.out.size
        have hbg := World.block_lt_of_cell? wg ⟨b1, o1 + k * 2, none⟩ c0'
        have HDO := dis_or HD.out
        refine wp_region_noPanic ?_
        refine wp_region_held_drew (S := (fun W' => W'.cell? ⟨b1, o1 + k * 2, none⟩ = some (.int .i64 x1) ∧ W'.cell? ⟨b1, o1 + k * 2 + 1, none⟩ = some (.int .i64 y1))) (by kernel_rfl) ?_ (fun hh0 => ?_)
        · try dsimp only
          exact ⟨c0', c1'⟩
        refine wpAnyH_take (i := 0) (v := ?_) rfl (by as_aux_lemma => kernel_rfl) (by as_aux_lemma => kernel_rfl) (by as_aux_lemma => kernel_rfl) (fun _ _ _ h => h) (Or.inl ⟨by rfl, ?_⟩) (by assumption) ?_
        rotate_left
        · intro w hSw
          try dsimp only at hSw
          go_simp
          try with_reducible rfl
        try simp only [Act.put, List.getElem_toArray, List.getElem_cons_succ, List.getElem_cons_zero, List.setIfInBounds_toArray, List.set_cons_zero, List.set_cons_succ]
        refine wpAnyH_take (i := 1) (v := ?_) rfl (by as_aux_lemma => kernel_rfl) (by as_aux_lemma => kernel_rfl) (by as_aux_lemma => kernel_rfl) (fun _ _ _ h => h) (Or.inl ⟨by rfl, ?_⟩) (by assumption) ?_
        rotate_left
        · intro w hSw
          try dsimp only at hSw
          go_simp
          try with_reducible rfl
        try simp only [Act.put, List.getElem_toArray, List.getElem_cons_succ, List.getElem_cons_zero, List.setIfInBounds_toArray, List.set_cons_zero, List.set_cons_succ]
        refine wpAnyH_take (i := 2) (v := ?_) rfl (by as_aux_lemma => kernel_rfl) (by as_aux_lemma => kernel_rfl) (by as_aux_lemma => kernel_rfl) (fun _ _ _ h => h) (Or.inl ⟨by rfl, ?_⟩) (by assumption) ?_
        rotate_left
        · intro w hSw
          try dsimp only at hSw
          go_simp
          try with_reducible rfl
        try simp only [Act.put, List.getElem_toArray, List.getElem_cons_succ, List.getElem_cons_zero, List.setIfInBounds_toArray, List.set_cons_zero, List.set_cons_succ]
        refine wpAnyH_take (i := 3) (v := ?_) rfl (by as_aux_lemma => kernel_rfl) (by as_aux_lemma => kernel_rfl) (by as_aux_lemma => kernel_rfl) (fun _ _ _ h => h) (Or.inl ⟨by rfl, ?_⟩) (by assumption) ?_
        rotate_left
        · intro w hSw
          try dsimp only at hSw
          go_simp
          try with_reducible rfl
        try simp only [Act.put, List.getElem_toArray, List.getElem_cons_succ, List.getElem_cons_zero, List.setIfInBounds_toArray, List.set_cons_zero, List.set_cons_succ]
        refine wpAnyH_take (i := 4) (v := ?_) rfl (by as_aux_lemma => kernel_rfl) (by as_aux_lemma => kernel_rfl) (by as_aux_lemma => kernel_rfl) (fun _ _ _ h => h) (Or.inl ⟨by rfl, ?_⟩) (by assumption) ?_
        rotate_left
        · intro w hSw
          try dsimp only at hSw
          go_simp
          try with_reducible rfl
        try simp only [Act.put, List.getElem_toArray, List.getElem_cons_succ, List.getElem_cons_zero, List.setIfInBounds_toArray, List.set_cons_zero, List.set_cons_succ]
        refine wpAnyH_take (i := 5) (v := ?_) rfl (by as_aux_lemma => kernel_rfl) (by as_aux_lemma => kernel_rfl) (by as_aux_lemma => kernel_rfl) (fun _ _ _ h => h) (Or.inl ⟨by rfl, ?_⟩) (by assumption) ?_
        rotate_left
        · intro w hSw
          try dsimp only at hSw
          go_simp
          try with_reducible rfl
        try simp only [Act.put, List.getElem_toArray, List.getElem_cons_succ, List.getElem_cons_zero, List.setIfInBounds_toArray, List.set_cons_zero, List.set_cons_succ]
        refine wpAnyH_take (i := 8) (v := ?_) rfl (by as_aux_lemma => kernel_rfl) (by as_aux_lemma => kernel_rfl) (by as_aux_lemma => kernel_rfl) (fun _ _ _ h => h) (Or.inl ⟨by rfl, ?_⟩) (by assumption) ?_
        rotate_left
        · intro w hSw
          try dsimp only at hSw
          go_simp
          try with_reducible rfl
        try simp only [Act.put, List.getElem_toArray, List.getElem_cons_succ, List.getElem_cons_zero, List.setIfInBounds_toArray, List.set_cons_zero, List.set_cons_succ]
        refine wpAnyH_take (i := 9) (v := ?_) rfl (by as_aux_lemma => kernel_rfl) (by as_aux_lemma => kernel_rfl) (by as_aux_lemma => kernel_rfl) (fun _ _ _ h => h) (Or.inl ⟨by rfl, ?_⟩) (by assumption) ?_
        rotate_left
        · intro w hSw
          try dsimp only at hSw
          go_simp
          try with_reducible rfl
        try simp only [Act.put, List.getElem_toArray, List.getElem_cons_succ, List.getElem_cons_zero, List.setIfInBounds_toArray, List.set_cons_zero, List.set_cons_succ]
        refine wpAnyH_take (i := 10) (v := ?_) rfl (by as_aux_lemma => kernel_rfl) (by as_aux_lemma => kernel_rfl) (by as_aux_lemma => kernel_rfl) (fun _ _ _ h => h) (Or.inl ⟨by rfl, ?_⟩) (by assumption) ?_
        rotate_left
        · intro w hSw
          try dsimp only at hSw
          go_simp
          try with_reducible rfl
        try simp only [Act.put, List.getElem_toArray, List.getElem_cons_succ, List.getElem_cons_zero, List.setIfInBounds_toArray, List.set_cons_zero, List.set_cons_succ]
        refine wpAnyH_take (i := 11) (v := ?_) rfl (by as_aux_lemma => kernel_rfl) (by as_aux_lemma => kernel_rfl) (by as_aux_lemma => kernel_rfl) (fun _ _ _ h => h) (Or.inl ⟨by rfl, ?_⟩) (by assumption) ?_
        rotate_left
        · intro w hSw
          try dsimp only at hSw
          go_simp
          try with_reducible rfl
        try simp only [Act.put, List.getElem_toArray, List.getElem_cons_succ, List.getElem_cons_zero, List.setIfInBounds_toArray, List.set_cons_zero, List.set_cons_succ]
        refine wpAnyH_take (i := 12) (v := ?_) rfl (by as_aux_lemma => kernel_rfl) (by as_aux_lemma => kernel_rfl) (by as_aux_lemma => kernel_rfl) (fun _ _ _ h => h) (Or.inl ⟨by rfl, ?_⟩) (by assumption) ?_
        rotate_left
        · intro w hSw
          try dsimp only at hSw
          go_simp
          try with_reducible rfl
        try simp only [Act.put, List.getElem_toArray, List.getElem_cons_succ, List.getElem_cons_zero, List.setIfInBounds_toArray, List.set_cons_zero, List.set_cons_succ]
        refine wpAnyH_take (i := 13) (v := ?_) rfl (by as_aux_lemma => kernel_rfl) (by as_aux_lemma => kernel_rfl) (by as_aux_lemma => kernel_rfl) (fun _ _ _ h => h) (Or.inl ⟨by rfl, ?_⟩) (by assumption) ?_
        rotate_left
        · intro w hSw
          try dsimp only at hSw
          go_simp
          try with_reducible rfl
        try simp only [Act.put, List.getElem_toArray, List.getElem_cons_succ, List.getElem_cons_zero, List.setIfInBounds_toArray, List.set_cons_zero, List.set_cons_succ]
        refine wpAnyH_ready (rs := [6, 14]) (by as_aux_lemma => kernel_rfl) (by simp) ?_
        refine AllReadyH.cons rfl (fun K hK => ?_) (AllReadyH.cons rfl (fun K hK => ?_) AllReadyH.nil)
        · skip
          go_simp
          refine hK.out _ _ ?_ (fun hh1 => ?_)
          · try dsimp only
            exact ⟨keepC c0' (by go_grown), keepC c1' (by go_grown)⟩
          clear hK K hh0
          try simp only [Act.put, List.getElem_toArray, List.getElem_cons_succ, List.getElem_cons_zero, List.setIfInBounds_toArray, List.set_cons_zero, List.set_cons_succ]
          refine wpAnyH_ready (rs := [7, 14]) (by as_aux_lemma => kernel_rfl) (by simp) ?_
          refine AllReadyH.cons rfl (fun K hK => ?_) (AllReadyH.cons rfl (fun K hK => ?_) AllReadyH.nil)
          · skip
            refine step_one (by rfl) _ _ (by rfl) w5.heap.size k _ _ _ x1 (by rfl) (by rfl) (own_below HOLg.out (by go_grown)) (cellOf (heap_alloc_new wg (Obj.cells #[.int .i64 x1] 3)) 0 _ rfl) (by first | (simp; done) | (simp; omega)) (by omega) ?_
            intro v1 w1 ho1 hg1 hl1 hb1
            have HBw1 : Hid (Below w5.heap.size wg w1) := (Below.mono (B := wg.heap.size) (by go_grown) hWg).grown hg1 (by first | (simp; done) | (simp; omega)) (fun q hq => (hl1 q hq).1)
            have HS1 : Hid (wg.heap.size ≤ w1.heap.size) := HBw1.out.size
            have HD1 : Hid (∀ q, v1.ownBlock = some q → (Value.slice ha k hc).ownBlock ≠ some q) := dis_next HD.out hb1 (fun q hq => by have := (HOHg.out.lt q hq).2; simp; omega)
            refine hK.out _ _ ⟨(HBw1.out.cell (p := ⟨b1, o1 + k * 2, none⟩) hbW).trans c0', (HBw1.out.cell (p := ⟨b1, o1 + k * 2 + 1, none⟩) hbW).trans c1'⟩ (fun hh2 => ?_)
            clear hK K hh1
            try simp only [Act.put, List.getElem_toArray, List.getElem_cons_succ, List.getElem_cons_zero, List.setIfInBounds_toArray, List.set_cons_zero, List.set_cons_succ]
            refine wpAnyH_ready (rs := [14]) (by as_aux_lemma => kernel_rfl) (by simp) ?_
            refine AllReadyH.cons rfl (fun K hK => ?_) AllReadyH.nil
            go_simp
            refine hK.out _ _ ?_ (fun hh3 => ?_)
            · try dsimp only
              exact ⟨keepC hh2.1 (by go_grown), keepC hh2.2 (by go_grown)⟩
            clear hK K hh2
            try simp only [Act.put, List.getElem_toArray, List.getElem_cons_succ, List.getElem_cons_zero, List.setIfInBounds_toArray, List.set_cons_zero, List.set_cons_succ]
            refine wpAnyH_ready (rs := [15]) (by as_aux_lemma => kernel_rfl) (by simp) ?_
            refine AllReadyH.cons rfl (fun K hK => ?_) AllReadyH.nil
            refine step_one (by rfl) _ _ (by rfl) w5.heap.size k _ _ _ y1 (by rfl) (by rfl) (own_below ((own_below HOHg.out (by go_grown)).kept hg1 HDO) (by go_grown)) (cellOf (heap_alloc_new w1 (Obj.cells #[.int .i64 y1] 3)) 0 _ rfl) (by have := HS1.out; first | (simp; done) | (simp; omega) | omega) (by omega) ?_
            intro v2 w2 ho2 hg2 hl2 hb2
            have HBw2 : Hid (Below w5.heap.size wg w2) := (HBw1.out.trans (Below.mono (B := w1.heap.size) (by go_grown) (by have := HS1.out; omega))).grown hg2 (by have := HS1.out; first | (simp; done) | (simp; omega) | omega) (fun q hq => (hl2 q hq).1)
            have HO1 := Lib.hid ((own_below ho1 (by go_grown)).kept hg2 (dis_or2 HD1.out))
            have HD2 : Hid (∀ q, v1.ownBlock = some q → v2.ownBlock ≠ some q) := dis_last HD1.out hb2 (fun q hq => by have := (ho1.lt q hq).2; first | exact this | (simp; omega))
            refine hK.out _ _ ⟨(HBw2.out.cell (p := ⟨b1, o1 + k * 2, none⟩) hbW).trans c0', (HBw2.out.cell (p := ⟨b1, o1 + k * 2 + 1, none⟩) hbW).trans c1'⟩ (fun hh4 => ?_)
            clear hK K hh3
            try simp only [Act.put, List.getElem_toArray, List.getElem_cons_succ, List.getElem_cons_zero, List.setIfInBounds_toArray, List.set_cons_zero, List.set_cons_succ]
            refine wpAnyH_ready (rs := [16]) (by as_aux_lemma => kernel_rfl) (by simp) ?_
            refine AllReadyH.cons rfl (fun K hK => ?_) AllReadyH.nil
            go_simp
            refine hK.out _ _ hh4 (fun hh5 => ?_)
            clear hK K hh4
            try simp only [Act.put, List.getElem_toArray, List.getElem_cons_succ, List.getElem_cons_zero, List.setIfInBounds_toArray, List.set_cons_zero, List.set_cons_succ]
            refine wpAnyH_ready (rs := [17]) (by as_aux_lemma => kernel_rfl) (by simp) ?_
            refine AllReadyH.cons rfl (fun K hK => ?_) AllReadyH.nil
            go_simp
            refine hK.out _ _ hh5 (fun hh6 => ?_)
            clear hK K hh5
            try simp only [Act.put, List.getElem_toArray, List.getElem_cons_succ, List.getElem_cons_zero, List.setIfInBounds_toArray, List.set_cons_zero, List.set_cons_succ]
            refine wpAnyH_done (by as_aux_lemma => kernel_rfl) ?_ _
            refine NoPanic.normal ?_
            obtain ⟨sa1, sc1, rfl⟩ := own_slice ho1
            obtain ⟨sa2, sc2, rfl⟩ := own_slice ho2
            have HO2 := Lib.hid ho2
            have HL2 : Hid (Below w5.heap.size w5 w2) := (HL.out.trans (HBG.out.mono HL.out.size)).trans HBw2.out
            clear ho1 ho2 hg1 hg2 hl1 hl2 hb1 hb2 HBw1 HBw2 HD1 HOLg HOHg c0' c1'
            go_wp2
            go_roundg (gk - 1)
            case measure => omega
            case rel => exact ⟨k + 1, sa1, sa2, sc1, sc2, by omega, by go_num, rfl, rfl, by rw [HLT.out]; exact HO1.out, by rw [HHT.out]; exact HO2.out, HD2.out, HL2.out⟩
          · skip
            go_simp
            refine hK.out _ _ ?_ (fun hh2 => ?_)
            · try dsimp only
              exact ⟨keepC c0' (by go_grown), keepC c1' (by go_grown)⟩
            clear hK K hh1
            try simp only [Act.put, List.getElem_toArray, List.getElem_cons_succ, List.getElem_cons_zero, List.setIfInBounds_toArray, List.set_cons_zero, List.set_cons_succ]
            refine wpAnyH_ready (rs := [7]) (by as_aux_lemma => kernel_rfl) (by simp) ?_
            refine AllReadyH.cons rfl (fun K hK => ?_) AllReadyH.nil
            refine step_one (by rfl) _ _ (by rfl) w5.heap.size k _ _ _ x1 (by rfl) (by rfl) (own_below HOLg.out (by go_grown)) (keepC (cellOf (heap_alloc_new wg (Obj.cells #[.int .i64 x1] 3)) 0 _ rfl) (by go_grown)) (by first | (simp; done) | (simp; omega)) (by omega) ?_
            intro v1 w1 ho1 hg1 hl1 hb1
            have HBw1 : Hid (Below w5.heap.size wg w1) := (Below.mono (B := wg.heap.size) (by go_grown) hWg).grown hg1 (by first | (simp; done) | (simp; omega)) (fun q hq => (hl1 q hq).1)
            have HS1 : Hid (wg.heap.size ≤ w1.heap.size) := HBw1.out.size
            have HD1 : Hid (∀ q, v1.ownBlock = some q → (Value.slice ha k hc).ownBlock ≠ some q) := dis_next HD.out hb1 (fun q hq => by have := (HOHg.out.lt q hq).2; simp; omega)
            refine hK.out _ _ ⟨(HBw1.out.cell (p := ⟨b1, o1 + k * 2, none⟩) hbW).trans c0', (HBw1.out.cell (p := ⟨b1, o1 + k * 2 + 1, none⟩) hbW).trans c1'⟩ (fun hh3 => ?_)
            clear hK K hh2
            try simp only [Act.put, List.getElem_toArray, List.getElem_cons_succ, List.getElem_cons_zero, List.setIfInBounds_toArray, List.set_cons_zero, List.set_cons_succ]
            refine wpAnyH_ready (rs := [15]) (by as_aux_lemma => kernel_rfl) (by simp) ?_
            refine AllReadyH.cons rfl (fun K hK => ?_) AllReadyH.nil
            refine step_one (by rfl) _ _ (by rfl) w5.heap.size k _ _ _ y1 (by rfl) (by rfl) (own_below ((own_below HOHg.out (by go_grown)).kept hg1 HDO) (by go_grown)) (cell_kept (w := ((wg.alloc (Obj.cells #[.int .i64 x1] 3)).alloc (Obj.cells #[.int .i64 y1] 3)).drew) (cellOf (new2 wg (Obj.cells #[.int .i64 x1] 3) (Obj.cells #[.int .i64 y1] 3)) 0 _ rfl) hg1 (fun e => by have := (HOLg.out.lt _ e).2; first | omega | (simp at this; omega))) (by have := HS1.out; first | (simp; done) | (simp; omega) | omega) (by omega) ?_
            intro v2 w2 ho2 hg2 hl2 hb2
            have HBw2 : Hid (Below w5.heap.size wg w2) := (HBw1.out.trans (Below.mono (B := w1.heap.size) (by go_grown) (by have := HS1.out; omega))).grown hg2 (by have := HS1.out; first | (simp; done) | (simp; omega) | omega) (fun q hq => (hl2 q hq).1)
            have HO1 := Lib.hid ((own_below ho1 (by go_grown)).kept hg2 (dis_or2 HD1.out))
            have HD2 : Hid (∀ q, v1.ownBlock = some q → v2.ownBlock ≠ some q) := dis_last HD1.out hb2 (fun q hq => by have := (ho1.lt q hq).2; first | exact this | (simp; omega))
            refine hK.out _ _ ⟨(HBw2.out.cell (p := ⟨b1, o1 + k * 2, none⟩) hbW).trans c0', (HBw2.out.cell (p := ⟨b1, o1 + k * 2 + 1, none⟩) hbW).trans c1'⟩ (fun hh4 => ?_)
            clear hK K hh3
            try simp only [Act.put, List.getElem_toArray, List.getElem_cons_succ, List.getElem_cons_zero, List.setIfInBounds_toArray, List.set_cons_zero, List.set_cons_succ]
            refine wpAnyH_ready (rs := [16]) (by as_aux_lemma => kernel_rfl) (by simp) ?_
            refine AllReadyH.cons rfl (fun K hK => ?_) AllReadyH.nil
            go_simp
            refine hK.out _ _ hh4 (fun hh5 => ?_)
            clear hK K hh4
            try simp only [Act.put, List.getElem_toArray, List.getElem_cons_succ, List.getElem_cons_zero, List.setIfInBounds_toArray, List.set_cons_zero, List.set_cons_succ]
            refine wpAnyH_ready (rs := [17]) (by as_aux_lemma => kernel_rfl) (by simp) ?_
            refine AllReadyH.cons rfl (fun K hK => ?_) AllReadyH.nil
            go_simp
            refine hK.out _ _ hh5 (fun hh6 => ?_)
            clear hK K hh5
            try simp only [Act.put, List.getElem_toArray, List.getElem_cons_succ, List.getElem_cons_zero, List.setIfInBounds_toArray, List.set_cons_zero, List.set_cons_succ]
            refine wpAnyH_done (by as_aux_lemma => kernel_rfl) ?_ _
            refine NoPanic.normal ?_
            obtain ⟨sa1, sc1, rfl⟩ := own_slice ho1
            obtain ⟨sa2, sc2, rfl⟩ := own_slice ho2
            have HO2 := Lib.hid ho2
            have HL2 : Hid (Below w5.heap.size w5 w2) := (HL.out.trans (HBG.out.mono HL.out.size)).trans HBw2.out
            clear ho1 ho2 hg1 hg2 hl1 hl2 hb1 hb2 HBw1 HBw2 HD1 HOLg HOHg c0' c1'
            go_wp2
            go_roundg (gk - 1)
            case measure => omega
            case rel => exact ⟨k + 1, sa1, sa2, sc1, sc2, by omega, by go_num, rfl, rfl, by rw [HLT.out]; exact HO1.out, by rw [HHT.out]; exact HO2.out, HD2.out, HL2.out⟩
        · skip
          go_simp
          refine hK.out _ _ ?_ (fun hh1 => ?_)
          · try dsimp only
            exact ⟨keepC c0' (by go_grown), keepC c1' (by go_grown)⟩
          clear hK K hh0
          try simp only [Act.put, List.getElem_toArray, List.getElem_cons_succ, List.getElem_cons_zero, List.setIfInBounds_toArray, List.set_cons_zero, List.set_cons_succ]
          refine wpAnyH_ready (rs := [6]) (by as_aux_lemma => kernel_rfl) (by simp) ?_
          refine AllReadyH.cons rfl (fun K hK => ?_) AllReadyH.nil
          go_simp
          refine hK.out _ _ ?_ (fun hh2 => ?_)
          · try dsimp only
            exact ⟨keepC c0' (by go_grown), keepC c1' (by go_grown)⟩
          clear hK K hh1
          try simp only [Act.put, List.getElem_toArray, List.getElem_cons_succ, List.getElem_cons_zero, List.setIfInBounds_toArray, List.set_cons_zero, List.set_cons_succ]
          refine wpAnyH_ready (rs := [7]) (by as_aux_lemma => kernel_rfl) (by simp) ?_
          refine AllReadyH.cons rfl (fun K hK => ?_) AllReadyH.nil
          refine step_one (by rfl) _ _ (by rfl) w5.heap.size k _ _ _ x1 (by rfl) (by rfl) (own_below HOLg.out (by go_grown)) (cellOf (new2 wg (Obj.cells #[.int .i64 y1] 3) (Obj.cells #[.int .i64 x1] 3)) 0 _ rfl) (by first | (simp; done) | (simp; omega)) (by omega) ?_
          intro v1 w1 ho1 hg1 hl1 hb1
          have HBw1 : Hid (Below w5.heap.size wg w1) := (Below.mono (B := wg.heap.size) (by go_grown) hWg).grown hg1 (by first | (simp; done) | (simp; omega)) (fun q hq => (hl1 q hq).1)
          have HS1 : Hid (wg.heap.size ≤ w1.heap.size) := HBw1.out.size
          have HD1 : Hid (∀ q, v1.ownBlock = some q → (Value.slice ha k hc).ownBlock ≠ some q) := dis_next HD.out hb1 (fun q hq => by have := (HOHg.out.lt q hq).2; simp; omega)
          refine hK.out _ _ ⟨(HBw1.out.cell (p := ⟨b1, o1 + k * 2, none⟩) hbW).trans c0', (HBw1.out.cell (p := ⟨b1, o1 + k * 2 + 1, none⟩) hbW).trans c1'⟩ (fun hh3 => ?_)
          clear hK K hh2
          try simp only [Act.put, List.getElem_toArray, List.getElem_cons_succ, List.getElem_cons_zero, List.setIfInBounds_toArray, List.set_cons_zero, List.set_cons_succ]
          refine wpAnyH_ready (rs := [15]) (by as_aux_lemma => kernel_rfl) (by simp) ?_
          refine AllReadyH.cons rfl (fun K hK => ?_) AllReadyH.nil
          refine step_one (by rfl) _ _ (by rfl) w5.heap.size k _ _ _ y1 (by rfl) (by rfl) (own_below ((own_below HOHg.out (by go_grown)).kept hg1 HDO) (by go_grown)) (cell_kept (w := ((wg.alloc (Obj.cells #[.int .i64 y1] 3)).alloc (Obj.cells #[.int .i64 x1] 3)).drew) (keepC (cellOf (heap_alloc_new wg (Obj.cells #[.int .i64 y1] 3)) 0 _ rfl) (by go_grown)) hg1 (fun e => by have := (HOLg.out.lt _ e).2; first | omega | (simp at this; omega))) (by have := HS1.out; first | (simp; done) | (simp; omega) | omega) (by omega) ?_
          intro v2 w2 ho2 hg2 hl2 hb2
          have HBw2 : Hid (Below w5.heap.size wg w2) := (HBw1.out.trans (Below.mono (B := w1.heap.size) (by go_grown) (by have := HS1.out; omega))).grown hg2 (by have := HS1.out; first | (simp; done) | (simp; omega) | omega) (fun q hq => (hl2 q hq).1)
          have HO1 := Lib.hid ((own_below ho1 (by go_grown)).kept hg2 (dis_or2 HD1.out))
          have HD2 : Hid (∀ q, v1.ownBlock = some q → v2.ownBlock ≠ some q) := dis_last HD1.out hb2 (fun q hq => by have := (ho1.lt q hq).2; first | exact this | (simp; omega))
          refine hK.out _ _ ⟨(HBw2.out.cell (p := ⟨b1, o1 + k * 2, none⟩) hbW).trans c0', (HBw2.out.cell (p := ⟨b1, o1 + k * 2 + 1, none⟩) hbW).trans c1'⟩ (fun hh4 => ?_)
          clear hK K hh3
          try simp only [Act.put, List.getElem_toArray, List.getElem_cons_succ, List.getElem_cons_zero, List.setIfInBounds_toArray, List.set_cons_zero, List.set_cons_succ]
          refine wpAnyH_ready (rs := [16]) (by as_aux_lemma => kernel_rfl) (by simp) ?_
          refine AllReadyH.cons rfl (fun K hK => ?_) AllReadyH.nil
          go_simp
          refine hK.out _ _ hh4 (fun hh5 => ?_)
          clear hK K hh4
          try simp only [Act.put, List.getElem_toArray, List.getElem_cons_succ, List.getElem_cons_zero, List.setIfInBounds_toArray, List.set_cons_zero, List.set_cons_succ]
          refine wpAnyH_ready (rs := [17]) (by as_aux_lemma => kernel_rfl) (by simp) ?_
          refine AllReadyH.cons rfl (fun K hK => ?_) AllReadyH.nil
          go_simp
          refine hK.out _ _ hh5 (fun hh6 => ?_)
          clear hK K hh5
          try simp only [Act.put, List.getElem_toArray, List.getElem_cons_succ, List.getElem_cons_zero, List.setIfInBounds_toArray, List.set_cons_zero, List.set_cons_succ]
          refine wpAnyH_done (by as_aux_lemma => kernel_rfl) ?_ _
          refine NoPanic.normal ?_
          obtain ⟨sa1, sc1, rfl⟩ := own_slice ho1
          obtain ⟨sa2, sc2, rfl⟩ := own_slice ho2
          have HO2 := Lib.hid ho2
          have HL2 : Hid (Below w5.heap.size w5 w2) := (HL.out.trans (HBG.out.mono HL.out.size)).trans HBw2.out
          clear ho1 ho2 hg1 hg2 hl1 hl2 hb1 hb2 HBw1 HBw2 HD1 HOLg HOHg c0' c1'
          go_wp2
          go_roundg (gk - 1)
          case measure => omega
          case rel => exact ⟨k + 1, sa1, sa2, sc1, sc2, by omega, by go_num, rfl, rfl, by rw [HLT.out]; exact HO1.out, by rw [HHT.out]; exact HO2.out, HD2.out, HL2.out⟩
    · obtain rfl : k = pts.length := by omega
      have HLO := Lib.hid (intsAt_own (w := wq) (base := w5.heap.size) (v := .slice la pts.length lc) (l := bl.map (·.1)) (by have := HOL.out; rw [List.take_of_length_le (by rw [HLN.out]; exact Nat.le_refl _)] at this; rw [List.length_map, HLN.out]; exact this) (by rw [List.length_map, HLN.out]; omega))
      have HHI := Lib.hid (intsAt_own (w := wq) (base := w5.heap.size) (v := .slice ha pts.length hc) (l := bl.map (·.2)) (by have := HOH.out; rw [List.take_of_length_le (by rw [HLN.out]; exact Nat.le_refl _)] at this; rw [List.length_map, HLN.out]; exact this) (by rw [List.length_map, HLN.out]; omega))
      clear HOL HOH HD HTI HXW hlt hk HWI HT9 HTL HB0
      have z0 : ((pts.length : Int) == 0) = false := by rw [beq_eq_false_iff_ne]; omega
      have e1 := tmod_nat x pts.length
      rw [HJX.out] at e1
      have hj : j < pts.length := by rw [← HJX.out]; exact Nat.mod_lt _ (by omega)
      obtain ⟨b1, o1, rfl, c0, c1⟩ := HX.out.get (show j < bl.length by rw [HLN.out]; exact hj)
      have hbb := HBB.out (bl[j]'(by rw [HLN.out]; exact hj)) (List.getElem_mem _)
      have hge : bl.getD j (0, 0) = bl[j]'(by rw [HLN.out]; exact hj) := by simp [List.getD_eq_getElem?_getD, show j < bl.length by rw [HLN.out]; exact hj]
      rw [hge] at HNN
      clear hge
      generalize bl[j]'(by rw [HLN.out]; exact hj) = sp at *
      obtain ⟨lo, hi⟩ := sp
      simp only at c0 c1 hbb HNN
      obtain ⟨l0, lh, h9⟩ := hbb
      have jI : (j : Int) < (pts.length : Int) := by omega
      have j9 : (j : Int) ≤ 9 := by omega
      have dz : (hi - lo + 1 == 0) = false := by rw [beq_eq_false_iff_ne]; omega
      have dpos : (1 : Int) ≤ hi - lo + 1 := by omega
      have em : (y : Int).tmod (hi - lo + 1) = (y : Int) % (hi - lo + 1) := Int.tmod_eq_emod_of_nonneg (by omega)
      have em0 : 0 ≤ (y : Int) % (hi - lo + 1) := Int.emod_nonneg _ (by omega)
      have em1 : (y : Int) % (hi - lo + 1) < hi - lo + 1 := Int.emod_lt_of_pos _ (by omega)
      obtain ⟨d, hd⟩ : ∃ d : Int, (y : Int) % (hi - lo + 1) = d := ⟨_, rfl⟩
      rw [hd] at em em0 em1 HNN
      clear hd
      have ya := cellOf HY.out 0 _ rfl
      have yb := cellOf HY.out 1 _ rfl
      have yl := lt_of_block HY.out
      go_upto_region 17 with fail
      go_cut [14] (fun v wx => v = .int .i64 (lo + d) ∧ Below wq.heap.size wq wx)
      case first =>
        go_quiet (fail)
        go_wp2
        go_meet
        exact ⟨rfl, rfl, rfl, rfl, Nat.le_refl _, fun _ _ => rfl⟩
      case rest =>
        obtain ⟨rfl, hb⟩ := hcut
        rw [HNN.out]
        clear ya yb yl c0 c1 HX
        have HB' := Lib.hid (HB.out.trans (hb.mono HB.out.size))
        have HP' := Lib.hid (HP.out.below hb)
        have HR' := Lib.hid ((hb.block _ (lt_of_block HR.out)).trans HR.out)
        have HY' := Lib.hid ((hb.block _ (lt_of_block HY.out)).trans HY.out)
        have HLO' := Lib.hid (HLO.out.below hb)
        have HHI' := Lib.hid (HHI.out.below hb)
        clear HB
        have HB := HB'
        clear HB'
        clear HP
        have HP := HP'
        clear HP'
        clear HR
        have HR := HR'
        clear HR'
        clear HY
        have HY := HY'
        clear HY'
        clear HLO
        have HLO := HLO'
        clear HLO'
        clear HHI
        have HHI := HHI'
        clear HHI'
        clear hb em em0 em1 dz dpos HL
        obtain ⟨wj, hwj⟩ : ∃ wj, wc = wj := ⟨_, rfl⟩
        rw [hwj] at HB HP HR HY HLO HHI ⊢
        clear hwj
        have HBj := HB
        have HPj := HP
        have HRj := HR
        have HLOj := HLO
        have HHIj := HHI
        have HJ0 := Lib.hid (heap_alloc_new wj (Obj.cells #[.int .i64 st, .slice (some ⟨pb, po, none⟩) pts.length pc] 24))
        have HSZ : Hid ((wj.alloc (Obj.cells #[.int .i64 st, .slice (some ⟨pb, po, none⟩) pts.length pc] 24)).heap.size = wj.heap.size + 1) := by show _ = _; simp
        have hownA := Lib.hid (own_made (wj.alloc (Obj.cells #[.int .i64 st, .slice (some ⟨pb, po, none⟩) pts.length pc] 24)) 58 3)
        have HBq : Hid (Below (wj.alloc (Obj.cells #[.int .i64 st, .slice (some ⟨pb, po, none⟩) pts.length pc] 24)).heap.size (wj.alloc (Obj.cells #[.int .i64 st, .slice (some ⟨pb, po, none⟩) pts.length pc] 24)) ((wj.alloc (Obj.cells #[.int .i64 st, .slice (some ⟨pb, po, none⟩) pts.length pc] 24)).alloc (Obj.cells #[] 58))) := (Below.refl _ _).alloc (Nat.le_refl _) _
        have HSQ : Hid (((wj.alloc (Obj.cells #[.int .i64 st, .slice (some ⟨pb, po, none⟩) pts.length pc] 24)).alloc (Obj.cells #[] 58)).heap.size = wj.heap.size + 2) := by show _ = _; simp
        have hbJ := Lib.hid ((Below.refl wj.heap.size wj).alloc (Nat.le_refl _) (Obj.cells #[.int .i64 st, .slice (some ⟨pb, po, none⟩) pts.length pc] 24))
        have HPJ := Lib.hid ((HP.out.below hbJ.out).below HBq.out)
        rw [HSZ.out] at hownA HBq
        have hpl : pb < wj.heap.size := by obtain ⟨b', o', e, c0, _, _⟩ := HP.out.get (show 0 < pts.length by omega); simp only [Option.some.injEq, Addr.mk.injEq, and_true] at e; obtain ⟨rfl, rfl⟩ := e; exact World.block_lt_of_cell? _ _ c0
        have ra := cellOf HR.out 0 _ rfl
        have rb := cellOf HR.out 1 _ rfl
        have rl := lt_of_block HR.out
        go_wp2_with (at_builtin; refine wpList_append_own _ rfl _ _ 22 rfl (wj.heap.size + 1) 58 i0 (.agg #[.int .i64 0, .int .i64 0, .int .i64 0]) 3 24 Try.underlying22 hi0 HI.out.1 HI.out.2.1 HI.out.2.2 rfl (by decide) _ 0 [] rfl hownA.out ⟨pb, po, none⟩ pts.length pc (ptC pts) rfl (ptC_length pts) (pts_cells HPJ.out) ?pa2 ?pa3 ?pa4 ?pa5 ?_)
        case pa2 => exact ptC_cell pts
        case pa3 => unfold maxLen; omega
        case pa4 => omega
        case pa5 => rw [HSQ.out]; omega
        intro v' wz hown3 hgrow _
        have hB3 : Below (wj.heap.size + 1) (wj.alloc (Obj.cells #[.int .i64 st, .slice (some ⟨pb, po, none⟩) pts.length pc] 24)) wz := HBq.out.grown hgrow (by rw [HSQ.out]; omega) (fun g hg => (hownA.out.lt g hg).1)
        obtain ⟨g, cap, cur, rfl, hgb, hgh, hnc, hcm, hcs, htk⟩ := (hown3.2).resolve_left (fun h => by have := h.2; omega)
        have HTK := Lib.hid htk
        clear htk hown3 hgrow hownA HPJ
        have HJ3 := Lib.hid ((hB3.block _ (show wj.heap.size < _ by omega)).trans HJ0.out)
        have hb : Below wj.heap.size wj (wz.setCell ⟨wj.heap.size, 1, none⟩ (.slice (some ⟨g, 0, none⟩) pts.length cap)) := (hbJ.out.trans (hB3.mono (by omega))).setCell (p := ⟨wj.heap.size, 1, none⟩) (Nat.le_refl _) _
        have HJ : Hid ((wz.setCell ⟨wj.heap.size, 1, none⟩ (.slice (some ⟨g, 0, none⟩) pts.length cap)).heap[wj.heap.size]? = some (.cells #[.int .i64 st, (.slice (some ⟨g, 0, none⟩) pts.length cap)] 24 (0, 0))) := heap_setCell_same wz wj.heap.size 1 _ _ _ HJ3.out
        have HG : Hid ((wz.setCell ⟨wj.heap.size, 1, none⟩ (.slice (some ⟨g, 0, none⟩) pts.length cap)).heap[g]? = some (.cells cur 58 (0, 0))) := (heap_setCell_other wz (⟨wj.heap.size, 1, none⟩ : Addr) g _ (by show g ≠ wj.heap.size; omega)).trans hgh
        have HL := Lib.hid hb
        clear ra rb rl
        have jb := cellOf HJ3.out 1 _ rfl
        have fJ := frozen_of_row _ _ 1 _ _ HJ3.out
        go_upto_region 20 with fail
        clear jb fJ HJ3 hB3 HBq hgh HJ0 hbJ hb HB HP HR HY HLO HHI
        generalize wz.setCell ⟨wj.heap.size, 1, none⟩ (.slice (some ⟨g, 0, none⟩) pts.length cap) = wk at *
        have hg1 := (cur_get HTK.out (show j * 3 + 1 < pts.length * 3 by omega)).trans (ptC_get pts j hj).2.1
        have hg2 := (cur_get HTK.out (show j * 3 + 2 < pts.length * 3 by omega)).trans (ptC_get pts j hj).2.2
        have jb := cellOf HJ.out 1 _ rfl
        have jl := lt_of_block HJ.out
        have g1 := cellOf HG.out (j * 3 + 1) _ hg1
        have g2 := cellOf HG.out (j * 3 + 2) _ hg2
        have f1 := frozen_of_row _ _ (j * 3 + 1) _ _ HG.out
        have f2 := frozen_of_row _ _ (j * 3 + 2) _ _ HG.out
        have gl := lt_of_block HG.out
        go_region
        clear jb jl g1 g2 f1 f2 gl
        have hb : Below wj.heap.size wj (((wk.setCell ⟨g, j * 3 + 1, none⟩ (.int .i64 nn)).setCell ⟨g, j * 3 + 2, none⟩ (.int .i64 nn)).drew) := ((HL.out.setCell (p := ⟨g, j * 3 + 1, none⟩) (show wj.heap.size ≤ g by omega) _).setCell (p := ⟨g, j * 3 + 2, none⟩) (show wj.heap.size ≤ g by omega) _).trans ⟨rfl, rfl, rfl, Nat.le_refl _, fun _ _ => rfl⟩
        have HG' : Hid ((((wk.setCell ⟨g, j * 3 + 1, none⟩ (.int .i64 nn)).setCell ⟨g, j * 3 + 2, none⟩ (.int .i64 nn)).drew).heap[g]? = some (.cells ((cur.setIfInBounds (j * 3 + 1) (.int .i64 nn)).setIfInBounds (j * 3 + 2) (.int .i64 nn)) 58 (0, 0))) := heap_setCell_same _ g (j * 3 + 2) _ _ _ (heap_setCell_same wk g (j * 3 + 1) _ _ _ HG.out)
        have HJ' : Hid ((((wk.setCell ⟨g, j * 3 + 1, none⟩ (.int .i64 nn)).setCell ⟨g, j * 3 + 2, none⟩ (.int .i64 nn)).drew).heap[wj.heap.size]? = some (.cells #[.int .i64 st, (.slice (some ⟨g, 0, none⟩) pts.length cap)] 24 (0, 0))) := (heap_setCell_other _ (⟨g, j * 3 + 2, none⟩ : Addr) _ _ (by show wj.heap.size ≠ g; omega)).trans ((heap_setCell_other wk (⟨g, j * 3 + 1, none⟩ : Addr) _ _ (by show wj.heap.size ≠ g; omega)).trans HJ.out)
        clear HG HJ HL
        have HG := HG'
        have HJ := HJ'
        clear HG' HJ'
        generalize ((wk.setCell ⟨g, j * 3 + 1, none⟩ (.int .i64 nn)).setCell ⟨g, j * 3 + 2, none⟩ (.int .i64 nn)).drew = wd at *
        have HB := Lib.hid (HBj.out.trans (hb.mono HBj.out.size))
        have HR := Lib.hid ((hb.block _ (lt_of_block HRj.out)).trans HRj.out)
        have HP := Lib.hid (HPj.out.below hb)
        have HLO := Lib.hid (HLOj.out.below hb)
        have HHI := Lib.hid (HHIj.out.below hb)
        clear HBj HPj HRj HLOj HHIj hb
        have HPP : Hid (PtsAt wd (.slice (some ⟨g, 0, none⟩) pts.length cap) jp) := by show PtsAt _ _ _; rw [← HJP.out]; exact fix_pts HG.out HTK.out hcs hnc hj rfl ⟨rfl, by omega⟩
        clear HG HTK hg1 hg2
        have ja := cellOf HJ.out 0 _ rfl
        have jb := cellOf HJ.out 1 _ rfl
        have jl := lt_of_block HJ.out
        go_wp2_with fail
        clear ja jb jl
        have hcall := Bounds_any ⟨st, jp⟩ _ wd HPP.out
        rw [HBJ.out] at hcall
        refine hcall.mono ?_
        clear hcall
        rintro e w6 ⟨v2, rfl, hown, hb⟩
        have HB' := Lib.hid (HB.out.trans (hb.mono HB.out.size))
        have HR' := Lib.hid ((hb.block _ (lt_of_block HR.out)).trans HR.out)
        have HP' := Lib.hid (HP.out.below hb)
        have HLO' := Lib.hid (HLO.out.below hb)
        have HHI' := Lib.hid (HHI.out.below hb)
        have HJ' := Lib.hid ((hb.block _ (lt_of_block HJ.out)).trans HJ.out)
        have HPP' := Lib.hid (HPP.out.below hb)
        clear HB
        have HB := HB'
        clear HB'
        clear HR
        have HR := HR'
        clear HR'
        clear HP
        have HP := HP'
        clear HP'
        clear HLO
        have HLO := HLO'
        clear HLO'
        clear HHI
        have HHI := HHI'
        clear HHI'
        clear HJ
        have HJ := HJ'
        clear HJ'
        clear HPP
        have HPP := HPP'
        clear HPP'
        clear hb
        clear hown
        have ra := cellOf HR.out 0 _ rfl
        have rb := cellOf HR.out 1 _ rfl
        have rl := lt_of_block HR.out
        go_wp2_with fail
        clear ra rb rl
        have hcall := good_any ⟨st, pts⟩ _ _ (bl.map (·.1)) w6 HP.out HLO.out HVV.out (by rw [List.length_map]; exact HLN.out) (fun q hq => by obtain ⟨p, hp, rfl⟩ := List.mem_map.1 hq; have := HBB.out p hp; omega)
        rw [HGL.out] at hcall
        refine hcall.mono ?_
        clear hcall
        rintro e w7 ⟨rfl, hb⟩
        have HB' := Lib.hid (HB.out.trans (hb.mono HB.out.size))
        have HR' := Lib.hid ((hb.block _ (lt_of_block HR.out)).trans HR.out)
        have HP' := Lib.hid (HP.out.below hb)
        have HLO' := Lib.hid (HLO.out.below hb)
        have HHI' := Lib.hid (HHI.out.below hb)
        have HJ' := Lib.hid ((hb.block _ (lt_of_block HJ.out)).trans HJ.out)
        have HPP' := Lib.hid (HPP.out.below hb)
        clear HB
        have HB := HB'
        clear HB'
        clear HR
        have HR := HR'
        clear HR'
        clear HP
        have HP := HP'
        clear HP'
        clear HLO
        have HLO := HLO'
        clear HLO'
        clear HHI
        have HHI := HHI'
        clear HHI'
        clear HJ
        have HJ := HJ'
        clear HJ'
        clear HPP
        have HPP := HPP'
        clear HPP'
        clear hb
        have ra := cellOf HR.out 0 _ rfl
        have rb := cellOf HR.out 1 _ rfl
        have rl := lt_of_block HR.out
        go_wp2_with fail
        clear ra rb rl
        have hcall := good_any ⟨st, pts⟩ _ _ (bl.map (·.2)) w7 HP.out HHI.out HVV.out (by rw [List.length_map]; exact HLN.out) (fun q hq => by obtain ⟨p, hp, rfl⟩ := List.mem_map.1 hq; have := HBB.out p hp; omega)
        rw [HGH.out] at hcall
        refine hcall.mono ?_
        clear hcall
        rintro e w8 ⟨rfl, hb⟩
        have HB' := Lib.hid (HB.out.trans (hb.mono HB.out.size))
        have HR' := Lib.hid ((hb.block _ (lt_of_block HR.out)).trans HR.out)
        have HP' := Lib.hid (HP.out.below hb)
        have HLO' := Lib.hid (HLO.out.below hb)
        have HHI' := Lib.hid (HHI.out.below hb)
        have HJ' := Lib.hid ((hb.block _ (lt_of_block HJ.out)).trans HJ.out)
        have HPP' := Lib.hid (HPP.out.below hb)
        clear HB
        have HB := HB'
        clear HB'
        clear HR
        have HR := HR'
        clear HR'
        clear HP
        have HP := HP'
        clear HP'
        clear HLO
        have HLO := HLO'
        clear HLO'
        clear HHI
        have HHI := HHI'
        clear HHI'
        clear HJ
        have HJ := HJ'
        clear HJ'
        clear HPP
        have HPP := HPP'
        clear HPP'
        clear hb
        go_wp2_with fail
        have hcall := awake_any w8
        refine hcall.mono ?_
        clear hcall
        rintro e w9 ⟨rfl, hb⟩
        have HB' := Lib.hid (HB.out.trans (hb.mono HB.out.size))
        have HR' := Lib.hid ((hb.block _ (lt_of_block HR.out)).trans HR.out)
        have HP' := Lib.hid (HP.out.below hb)
        have HLO' := Lib.hid (HLO.out.below hb)
        have HHI' := Lib.hid (HHI.out.below hb)
        have HJ' := Lib.hid ((hb.block _ (lt_of_block HJ.out)).trans HJ.out)
        have HPP' := Lib.hid (HPP.out.below hb)
        clear HB
        have HB := HB'
        clear HB'
        clear HR
        have HR := HR'
        clear HR'
        clear HP
        have HP := HP'
        clear HP'
        clear HLO
        have HLO := HLO'
        clear HLO'
        clear HHI
        have HHI := HHI'
        clear HHI'
        clear HJ
        have HJ := HJ'
        clear HJ'
        clear HPP
        have HPP := HPP'
        clear HPP'
        clear hb
        go_wp2
        go_ret
        exact ⟨rfl, HB.out⟩

set_option maxRecDepth 100000 in
set_option maxHeartbeats 16000000 in
theorem lbtw_any (r : Row) (pv xv : Value) (l : List Nat) (x y : Nat) (hx : x ≤ 255) (hy : y ≤ 255) (w : World) (hP : PtsAt w pv r.pts) (hU : U8At w xv l) :
    Calls Try.prog 7 #[.agg #[.int .i64 r.st, pv], xv, .agg #[.int .u8 x, .int .u8 y]] w fun e w' => e = .returned (.bool true) ∧ Below w.heap.size w w' := by
  obtain ⟨st, pts⟩ := r
  simp only at hP ⊢
  obtain ⟨lp, pa, pc, rfl, _, _⟩ := id hP
  by_cases hv : errR ⟨st, pts⟩ = 0
  · have h1 : 1 ≤ pts.length := ((check_valid _).1 hv).n1
    obtain ⟨pb, po, rfl, _⟩ := hP.get (show 0 < pts.length by omega)
    cases hc : crossB ⟨st, pts⟩
    · obtain ⟨b1, b2, b3, b4, b5, b6, b7⟩ := between ⟨st, pts⟩ hv hc
      have hj : x % pts.length < pts.length := Nat.mod_lt _ (by omega)
      have e1 : (bandsR ⟨st, pts⟩).getD (x % pts.length) (0, 0) = (bandsR ⟨st, pts⟩)[x % pts.length]'(by rw [b2]; exact hj) := by
        rw [List.getD_eq_getElem?_getD, List.getElem?_eq_getElem (by rw [b2]; exact hj)]
        rfl
      have p1 := b3 _ (List.getElem_mem (by rw [b2]; exact hj : x % pts.length < (bandsR ⟨st, pts⟩).length))
      rw [← e1] at p1
      have q0 := Int.emod_nonneg (y : Int) (show ((bandsR ⟨st, pts⟩).getD (x % pts.length) (0, 0)).2 - ((bandsR ⟨st, pts⟩).getD (x % pts.length) (0, 0)).1 + 1 ≠ 0 by omega)
      have q1 := Int.emod_lt_of_pos (y : Int) (show 0 < ((bandsR ⟨st, pts⟩).getD (x % pts.length) (0, 0)).2 - ((bandsR ⟨st, pts⟩).getD (x % pts.length) (0, 0)).1 + 1 by omega)
      obtain ⟨nn, hnn⟩ : ∃ nn, ((bandsR ⟨st, pts⟩).getD (x % pts.length) (0, 0)).1 + (y : Int) % (((bandsR ⟨st, pts⟩).getD (x % pts.length) (0, 0)).2 - ((bandsR ⟨st, pts⟩).getD (x % pts.length) (0, 0)).1 + 1) = nn := ⟨_, rfl⟩
      exact lbtw_ok st pts pb po pc xv l x y hx hy w hP hU hv (bandsR ⟨st, pts⟩) b1 b2 b3 b6 (x % pts.length) rfl nn hnn _ rfl (b7 _ hj nn (by omega) (by omega)) b4 b5
    · exact lbtw_down st pts pb po pc xv l x y hx hy w hP hU hv (by show _ = _; unfold boundsR boundE; rw [hv, hc]; rfl) (fun s hs => no_good ⟨st, pts⟩ hv hc s hs)
  · exact lbtw_no st pts pa pc xv l x y hx hy w hP hU hv

end Go.Proofs.Ytnciomoapajonaa
namespace Go.Proofs.Ytnciomoapajonaa
namespace ClaimCarveBetween
open Go.ChangeShapes Go.WideShapes Go.ChangeAt Go.RowKit

theorem own : ownKnob Try.prog.godebug = none := by kernel_rfl
theorem laidOutP : laidOutB Try.prog = true := by kernel_rfl

set_option maxRecDepth 100000 in
theorem contract (H : Type) (enc : TypeId × Value → H) (W : World) (base : Nat) (args : Array Value) (ds gs : List (DataW H)) (before : List MemPlace)
    (hval : ∀ (j : Nat) t v, Try.f7.params[j]? = some t → args[j]? = some v → Value.okWide Try.prog W .any base t v)
    (hW : DataW.Whole enc Try.prog Try.f7.params.toList Rows.carveBetweenSpec.vars false W args.toList ds gs before)
    (hsz : (DataW.weightsEach Try.prog (Try.f7.params.toList ++ Rows.carveBetweenSpec.plain.varTypes Try.prog) (ds ++ gs)).all (· ≤ reachBytes) = true) :
    Calls Try.prog 7 args W fun e W' => ∃ v, e = .returned v ∧ Rows.carveBetweenSpec.post enc Try.prog Try.f7 false true false false W args v W' := by
  have hW' := hW
  obtain ⟨p, q, hA0, hV, rfl, hfz, hnd⟩ := hW
  have hA : DataW.TrodAll enc Try.prog W 0 (fun _ => true) true Try.f7.params.toList args.toList ds p := hA0
  rw [Try.params7] at hA hval hsz
  obtain ⟨v0, vs0, d0, ds0, p0, q0, hargs, rfl, rfl, h0, r0⟩ := trodAll_cons hA
  obtain ⟨v1, vs1, d1, ds1, p1, q1, rfl, rfl, rfl, h1, r1⟩ := trodAll_cons r0
  obtain ⟨v2, vs2, d2, ds2, p2, q2, rfl, rfl, rfl, h2, r2⟩ := trodAll_cons r1
  obtain ⟨rfl, rfl, rfl⟩ := trodAll_nil r2
  obtain rfl : args = #[v0, v1, v2] := by cases args; simp_all
  obtain ⟨rfl, rfl⟩ := trodVars_none hV
  have w0 : ∀ x ∈ d0.weights Try.prog 24, x ≤ reachBytes := fun x hx => of_decide_eq_true (List.all_eq_true.1 hsz _ (DataW.weights_mem_each (j := 0) (t := 24) (d := d0) rfl rfl x hx))
  obtain ⟨r, pv, rfl, hP, hs0, hs9⟩ := open_row (hval 0 24 v0 rfl rfl) h0 w0
  have w1 : ∀ x ∈ d1.weights Try.prog 51, x ≤ reachBytes := fun x hx => of_decide_eq_true (List.all_eq_true.1 hsz _ (DataW.weights_mem_each (j := 1) (t := 51) (d := d1) rfl rfl x hx))
  obtain ⟨l1, hU1⟩ := open_u8s (hval 1 51 v1 rfl rfl) h1 w1
  obtain ⟨x2, y2, rfl, bx2, by2⟩ := open_u8x2 (hval 2 52 v2 rfl rfl) h2
  clear hA0
  refine (lbtw_any r pv v1 l1 x2 y2 bx2 by2 W hP hU1).mono fun e W' ⟨he, hb⟩ => ?_
  subst he
  exact ⟨_, rfl, post_law laidOutP (by rw [Try.params7]; intro t ht; simp at ht; rcases ht with rfl | rfl | rfl <;> exact ⟨by kernel_rfl, of_decide_eq_true (by kernel_rfl)⟩) rfl rfl Try.underlying4 rfl hW' hb⟩

set_option maxRecDepth 100000 in
theorem lifted (os : Os) (started : os.Started) (H : Type) (enc : TypeId × Value → H) :
    ReturnsInHanded {} Try.checked os 7 .any (Rows.carveBetweenSpec.pre6 enc Try.prog Try.f7 Rows.carveBetweenRow.domain false) (Rows.carveBetweenSpec.post enc Try.prog Try.f7 false true false false) := by
  refine returnsInHanded_of_change_sized (C := Try.checked) own started (by kernel_rfl) Try.func7
    (ChangeSpec.witness6 (enc := enc) (C := Try.checked) false ⟨#[], #[.agg #[.int .i64 0, .slice none 0 0], .slice none 0 0, .agg #[.int .u8 0, .int .u8 0]], []⟩ 8 (by kernel_rfl) (by kernel_rfl) (by kernel_rfl) (by kernel_rfl)) ?_
  intro W base args ds gs before hval hW _ hsz _
  exact contract H enc W base args ds gs before hval hW hsz

theorem over : Rows.CarveBetweenSaid :=
  OpenClaim.holds_of_wide 7 Try.f7 rfl rfl rfl rfl rfl rfl rfl ⟨rfl, rfl, rfl, rfl, rfl⟩ rfl rfl rfl rfl rfl (by kernel_rfl) Try.func7 (by kernel_rfl)
    (of_decide_eq_true (by kernel_rfl)) (by unfold Func.isWrapper; first | (rw [if_pos (by decide +kernel)]; kernel_rfl) | (rw [if_neg (by decide +kernel)]; exact ⟨rfl, rfl⟩))
    (fun os started H enc _ => lifted os started H enc)
end ClaimCarveBetween

theorem carveBetween_holds : Rows.CarveBetweenSaid := ClaimCarveBetween.over
end Go.Proofs.Ytnciomoapajonaa
