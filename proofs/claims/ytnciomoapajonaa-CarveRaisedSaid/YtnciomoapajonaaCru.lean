/- CarveRaised: the call returns true, whatever its arguments and the memory in which it begins; its arguments read as they did. -/
import Derived.Test.YtnciomoapajonaaRgc
import Derived.Test.YtnciomoapajonaaCxe
import Derived.Test.YtnciomoapajonaaCxf
import Derived.Test.YtnciomoapajonaaCwn
import Derived.Laws.AppendOwn
import Derived.OwnWalk
import Derived.Test.YtnciomoapajonaaCxg
import Derived.Laws.StructEq
import Derived.Deep.DeepCutAuto
import Derived.Test.YtnciomoapajonaaRows
import Derived.Test.YtnciomoapajonaaCar
import Derived.ProofKit
import Derived.JoinedOf
import Derived.JoinedAt
set_option linter.unusedSimpArgs false
set_option linter.unusedVariables false
namespace Go.Proofs.Ytnciomoapajonaa
open Go Go.RowKit Cv

theorem best_cases (r : Row) (h : errR r = 0) : (crossB r = true ∧ ∀ q, bestR r q = ([], 0, 0, 9)) ∨ (crossB r = false ∧ ∀ q, ∃ s, bestR r q = (s, fillsN r.pts s r.pts.length, manyL 0 (deepN r.pts s r.pts.length), 0) ∧ s.length = r.pts.length ∧ (∀ x, x ∈ s → 0 ≤ x ∧ x ≤ 9000) ∧ goodV r s = true ∧
    ∀ t, t.length = r.pts.length → goodV r t = true → ltN q (fillsN r.pts t r.pts.length, manyL 0 (deepN r.pts t r.pts.length)) (fillsN r.pts s r.pts.length, manyL 0 (deepN r.pts s r.pts.length)) = false) := by
  have hv := (check_valid r).1 h
  cases hc : crossB r
  · refine .inr ⟨rfl, fun q => ?_⟩
    have hb := best_is r hv hc q
    obtain ⟨hg, hn, hm⟩ := refL_some r.st q r.pts none _ hb
    simp only at hg hn hm
    have hl := hg.length
    refine ⟨surfL r.st q (bndR r) none, ?_, hl, ?_, (goodV_iff r _ hl).2 hg, fun t ht htg => ?_⟩
    · have e : boundE r = 0 := by unfold boundE; rw [h, hc]; rfl
      unfold bestR
      rw [if_pos e]
      have e2 : (wayK r q 0 none).2 = (wayL r.st q (bndR r) none).2 := by simp [wayK]
      rw [e2, hn, needS_is _ _ _ hl]
      rfl
    · intro x hx
      obtain ⟨i, hi, rfl⟩ := List.mem_iff_getElem.1 hx
      have := ((goodL_iff _ _ _ _).1 hg).2.1 i (by omega)
      have hp := hv.ok r.pts[i] (List.getElem_mem (by omega))
      rw [List.getD_eq_getElem?_getD, List.getElem?_eq_getElem (by omega), List.getD_eq_getElem?_getD, List.getElem?_eq_getElem hi] at this
      simp only [Option.getD_some] at this
      have := hp.l0
      have := hp.h9
      omega
    · have := hm t ((goodV_iff r t ht).1 htg)
      rw [hn, needS_is _ _ _ hl, needS_is _ _ _ ht] at this
      exact this
  · refine .inl ⟨rfl, fun q => ?_⟩
    have e : boundE r = 9 := by unfold boundE; rw [h, hc]; rfl
    unfold bestR
    rw [e]
    rfl
end Go.Proofs.Ytnciomoapajonaa
namespace Go.Proofs.Ytnciomoapajonaa
open Go Go.RowKit Cv

def upP (n : Int) (p : Pt) : Pt := ⟨p.bd + n, p.lo + n, p.hi + n⟩
def upR (n : Int) (r : Row) : Row := ⟨r.st, r.pts.map (upP n)⟩
theorem foldO_map (q : Bool) (g : Int → Rst) (φ : Int → Int) : ∀ (l : List Int) (a : Rst), foldO q g (l.map φ) a = foldO q (fun h => g (φ h)) l a := by
  intro l
  induction l with
  | nil => intro a; rfl
  | cons h l ih => intro a; exact ih _
theorem betO_map (q : Bool) (σ : List Int × Nd → List Int × Nd) (hσ : ∀ x, (σ x).2 = x.2) (a : Rst) (b : List Int × Nd) : betO q (a.map σ) (σ b) = (betO q a b).map σ := by
  cases a with
  | none => rfl
  | some a =>
    simp only [betO, Option.map_some, hσ]
    split <;> rfl
theorem foldO_val (q : Bool) (g g' : Int → Rst) (σ : List Int × Nd → List Int × Nd) (hσ : ∀ x, (σ x).2 = x.2) (hg : ∀ h, g' h = (g h).map σ) : ∀ (l : List Int) (a : Rst), foldO q g' l (a.map σ) = (foldO q g l a).map σ := by
  intro l
  induction l with
  | nil => intro a; rfl
  | cons h l ih =>
    intro a
    rw [foldO, foldO, hg h]
    cases hgh : g h with
    | none => exact ih a
    | some b =>
      simp only [Option.map_some]
      rw [betO_map q σ hσ]
      exact ih _
theorem spanL_up (lo hi n : Int) : spanL (lo + n) (hi + n) = (spanL lo hi).map (· + n) := by
  unfold spanL
  rw [show hi + n - (lo + n) + 1 = hi - lo + 1 by omega, List.map_map]
  refine List.map_congr_left fun k _ => ?_
  simp only [Function.comp]
  omega
def upF (n : Int) (f : From) : From := f.map fun x => (upP n x.1, x.2 + n)
theorem deepF_up (n : Int) (f : From) : deepF (upF n f) = deepF f := by
  cases f with
  | none => rfl
  | some x =>
    show max 0 (x.1.bd + n - (x.2 + n)) = max 0 (x.1.bd - x.2)
    congr 1
    omega
theorem nearF_up (st n : Int) (f : From) (h : Int) : nearF st (upF n f) (h + n) = nearF st f h := by
  cases f with
  | none => rfl
  | some x =>
    show (decide (x.2 + n - st ≤ h + n) && decide (h + n ≤ x.2 + n + st)) = (decide (x.2 - st ≤ h) && decide (h ≤ x.2 + st))
    congr 1 <;> exact decide_eq_decide.2 (by omega)
theorem stepN_up (n : Int) (f : From) (p : Pt) (h : Int) : stepN (upF n f) (upP n p) (h + n) = stepN f p h := by
  unfold stepN
  rw [deepF_up]
  show (max 0 (h + n - (p.bd + n)), max 0 (max 0 (p.bd + n - (h + n)) - deepF f)) = _
  rw [show h + n - (p.bd + n) = h - p.bd by omega, show p.bd + n - (h + n) = p.bd - h by omega]
def upS (n : Int) (x : List Int × Nd) : List Int × Nd := (x.1.map (· + n), x.2)
theorem refL_up (st : Int) (q : Bool) (n : Int) : ∀ (l : List Pt) (f : From), refL st q (l.map (upP n)) (upF n f) = (refL st q l f).map (upS n) := by
  intro l
  induction l with
  | nil => intro f; rfl
  | cons p l ih =>
    intro f
    rw [List.map_cons, refL_cons, refL_cons]
    show foldO q _ (spanL (p.lo + n) (p.hi + n)) none = _
    rw [spanL_up, foldO_map]
    refine foldO_val q _ _ (upS n) (fun _ => rfl) (fun h => ?_) _ none
    have e := ih (some (p, h))
    show candO st (upF n f) (upP n p) (h + n) (refL st q (l.map (upP n)) (some (upP n p, h + n))) = _
    rw [show (some (upP n p, h + n) : From) = upF n (some (p, h)) from rfl, e]
    unfold candO
    rw [nearF_up, stepN_up]
    split
    · cases refL st q l (some (p, h)) <;> rfl
    · rfl
theorem up_lo (n : Int) (r : Row) (i : Nat) (hi : i < r.pts.length) : loF (upR n r) i = loF r i + n := by
  rw [loF_get _ _ (by show i < (r.pts.map (upP n)).length; simpa using hi), loF_get _ _ hi]
  simp [upR, upP, List.getD_eq_getElem?_getD, hi]
theorem up_hi (n : Int) (r : Row) (i : Nat) (hi : i < r.pts.length) : hiF (upR n r) i = hiF r i + n := by
  rw [hiF_get _ _ (by show i < (r.pts.map (upP n)).length; simpa using hi), hiF_get _ _ hi]
  simp [upR, upP, List.getD_eq_getElem?_getD, hi]
theorem islow_add {n : Nat} {st : Int} {lo lo' g : Nat → Int} (c : Int) (h : IsLow n st lo g) (e : ∀ i, i < n → lo' i = lo i + c) : IsLow n st lo' (fun i => g i + c) := by
  refine ⟨fun i hi => ?_, fun i hi => ?_, fun i hi => ?_, fun k h1 h2 h3 i hi => ?_⟩
  · have := h.ge i hi
    have := e i hi
    try simp only
    omega
  · have := h.up i hi
    try simp only
    omega
  · have := h.dn i hi
    try simp only
    omega
  · have := h.least (fun j => k j - c) (fun j hj => ?_) (fun j hj => ?_) (fun j hj => ?_) i hi
    · try simp only at this ⊢
      omega
    · have := h1 j hj
      have := e j hj
      try simp only
      omega
    · have := h2 j hj
      try simp only
      omega
    · have := h3 j hj
      try simp only
      omega
theorem up_low (n : Int) (r : Row) (hst : 0 ≤ r.st) (i : Nat) (hi : i < r.pts.length) : lowF (upR n r) i = lowF r i + n := by
  have a := lowF_is (upR n r) hst
  have b := islow_add (lo' := loF (upR n r)) n (lowF_is r hst) (fun j hj => up_lo n r j hj)
  rw [show (upR n r).pts.length = r.pts.length from by show (r.pts.map (upP n)).length = _; simp] at a
  exact a.one b i hi
theorem up_high (n : Int) (r : Row) (hst : 0 ≤ r.st) (i : Nat) (hi : i < r.pts.length) : highF (upR n r) i = highF r i + n := by
  have a := highF_is (upR n r) hst
  have b := islow_add (lo' := fun i => -(hiF (upR n r) i)) (-n) (highF_is r hst) (fun j hj => by rw [up_hi n r j hj]; omega)
  rw [show (upR n r).pts.length = r.pts.length from by show (r.pts.map (upP n)).length = _; simp] at a
  have := a.one b i hi
  try simp only at this
  omega
theorem up_len (n : Int) (r : Row) : (upR n r).pts.length = r.pts.length := by show (r.pts.map (upP n)).length = _; simp
theorem up_cross (n : Int) (r : Row) (hst : 0 ≤ r.st) : crossB (upR n r) = crossB r := by
  unfold crossB
  rw [up_len]
  rw [Bool.eq_iff_iff, List.any_eq_true, List.any_eq_true]
  have key : ∀ i, i ∈ List.range r.pts.length → (decide ((highR (upR n r)).getD i 0 < (lowR (upR n r)).getD i 0) = true ↔ decide ((highR r).getD i 0 < (lowR r).getD i 0) = true) := fun i hi => by
    have hi' := List.mem_range.1 hi
    have a := up_low n r hst i hi'
    have b := up_high n r hst i hi'
    unfold lowF at a
    unfold highF at b
    rw [decide_eq_true_iff, decide_eq_true_iff]
    omega
  constructor
  · rintro ⟨i, hi, h⟩
    exact ⟨i, hi, (key i hi).1 h⟩
  · rintro ⟨i, hi, h⟩
    exact ⟨i, hi, (key i hi).2 h⟩
theorem up_bounds (n : Int) (r : Row) (h : errR r = 0) (hu : errR (upR n r) = 0) : (boundsR (upR n r)).2 = (boundsR r).2 ∧ (boundsR (upR n r)).1.length = (boundsR r).1.length ∧
    ∀ i, i < (boundsR r).1.length → (boundsR (upR n r)).1.getD i (0, 0) = (((boundsR r).1.getD i (0, 0)).1 + n, ((boundsR r).1.getD i (0, 0)).2 + n) := by
  have hv := (check_valid r).1 h
  have e : boundE (upR n r) = boundE r := by unfold boundE; rw [h, hu, up_cross n r hv.s0]
  unfold boundsR
  rw [e]
  split
  · refine ⟨rfl, ?_, fun i hi => ?_⟩
    · show (bandsR (upR n r)).length = (bandsR r).length
      rw [bandsR_length, bandsR_length, up_len]
    · have hi' : i < r.pts.length := by have : i < (bandsR r).length := hi; rwa [bandsR_length] at this
      show (bandsR (upR n r)).getD i (0, 0) = (((bandsR r).getD i (0, 0)).1 + n, ((bandsR r).getD i (0, 0)).2 + n)
      unfold bandsR
      rw [up_len, List.getD_eq_getElem?_getD, List.getD_eq_getElem?_getD]
      simp only [List.getElem?_map, List.getElem?_range hi', Option.map_some, Option.getD_some]
      rw [up_low n r hv.s0 i hi', up_high n r hv.s0 i hi']
  · exact ⟨rfl, rfl, fun i hi => absurd hi (Nat.not_lt_zero _)⟩
theorem up_best (n : Int) (r : Row) (h : errR r = 0) (hu : errR (upR n r) = 0) (q : Bool) : bestR (upR n r) q = ((bestR r q).1.map (· + n), (bestR r q).2) := by
  have hv := (check_valid r).1 h
  have hvu := (check_valid _).1 hu
  have e : boundE (upR n r) = boundE r := by unfold boundE; rw [h, hu, up_cross n r hv.s0]
  by_cases h0 : boundE r = 0
  · have hc := (boundE_ok h0).2
    have a := best_is r hv hc q
    have b := best_is (upR n r) hvu (by rw [up_cross n r hv.s0]; exact hc) q
    have c := refL_up r.st q n r.pts none
    rw [a] at c
    have d : refL (upR n r).st q (upR n r).pts none = some (upS n (surfL r.st q (bndR r) none, (wayL r.st q (bndR r) none).2)) := c
    rw [d] at b
    simp only [upS, Option.some.injEq, Prod.mk.injEq] at b
    obtain ⟨b1, b2⟩ := b
    unfold bestR
    rw [e, if_pos h0, if_pos h0]
    have w1 : (wayK (upR n r) q 0 none).2 = (wayL (upR n r).st q (bndR (upR n r)) none).2 := by simp [wayK]
    have w2 : (wayK r q 0 none).2 = (wayL r.st q (bndR r) none).2 := by simp [wayK]
    rw [w1, w2, ← b2, ← b1]
  · unfold bestR
    rw [e, if_neg h0, if_neg h0]
    rfl
theorem fills_zero (l : List Pt) (s : List Int) : ∀ k, (∀ i, i < k → s.getD i 0 ≤ (l.getD i default).bd) → fillsN l s k = 0 := by
  intro k
  induction k with
  | zero => intro _; rfl
  | succ k ih =>
    intro h
    rw [fillsN, ih (fun i hi => h i (by omega))]
    have := h k (by omega)
    omega
/-- If all boards are above all bands there is no plaster. -/
theorem above_none (r : Row) (h : errR r = 0) (h0 : (bestR r false).2.2.2 = 0) (ha : (r.pts.all fun p => decide (p.hi < p.bd)) = true) : (bestR r false).2.1 = 0 := by
  rcases best_cases r h with ⟨_, q⟩ | ⟨_, q⟩
  · rw [q false]
  · obtain ⟨s, e, hl, _, hg, _⟩ := q false
    rw [e]
    show fillsN r.pts s r.pts.length = 0
    refine fills_zero _ _ _ fun i hi => ?_
    have := ((goodL_iff _ _ _ _).1 ((goodV_iff r s hl).1 hg)).2.1 i hi
    have hp := of_decide_eq_true (List.all_eq_true.1 ha r.pts[i] (List.getElem_mem hi))
    have e1 : r.pts.getD i default = r.pts[i] := by simp [List.getD_eq_getElem?_getD, hi]
    rw [e1] at this ⊢
    omega
theorem bands_bd (r : Row) (h : errR r = 0) : ∀ p, p ∈ (boundsR r).1 → 0 ≤ p.1 ∧ p.1 ≤ 9000 ∧ 0 ≤ p.2 ∧ p.2 ≤ 9000 := by
  have hv := (check_valid r).1 h
  unfold boundsR
  split
  · rename_i h0
    have hc := (boundE_ok h0).2
    intro p hp
    have hp' : p ∈ bandsR r := hp
    unfold bandsR at hp'
    obtain ⟨i, hi, rfl⟩ := List.mem_map.1 hp'
    have hi' := List.mem_range.1 hi
    have a := (lowF_is r hv.s0).ge i hi'
    have b := (highF_is r hv.s0).ge i hi'
    have c : lowF r i ≤ highF r i := by
      have := List.any_eq_false.1 hc i hi
      simp only [decide_eq_true_iff] at this
      unfold lowF highF
      omega
    have o := hv.ok r.pts[i] (List.getElem_mem hi')
    rw [loF_get r i hi'] at a
    try simp only at b
    rw [hiF_get r i hi'] at b
    have e1 : r.pts.getD i default = r.pts[i] := by simp [List.getD_eq_getElem?_getD, hi']
    rw [e1] at a b
    have := o.l0
    have := o.h9
    simp only
    omega
  · intro p hp
    cases hp
theorem best_bd (r : Row) (h : errR r = 0) (q : Bool) : (bestR r q).1.length ≤ 10 ∧ ∀ x, x ∈ (bestR r q).1 → 0 ≤ x ∧ x ≤ 9000 := by
  have hv := (check_valid r).1 h
  rcases best_cases r h with ⟨_, e⟩ | ⟨_, e⟩
  · rw [e q]
    exact ⟨Nat.zero_le _, fun x hx => by cases hx⟩
  · obtain ⟨s, e, hl, hb, _⟩ := e q
    rw [e]
    exact ⟨by show s.length ≤ 10; rw [hl]; exact hv.n10, hb⟩
end Go.Proofs.Ytnciomoapajonaa
namespace Go.Proofs.Ytnciomoapajonaa
open Go Go.RowKit Cv

def ptC (l : List Pt) : List Value := l.flatMap fun p => [.int .i64 p.bd, .int .i64 p.lo, .int .i64 p.hi]
theorem ptC_append (a b : List Pt) : ptC (a ++ b) = ptC a ++ ptC b := by simp [ptC]
theorem ptC_one (p : Pt) : ptC [p] = [.int .i64 p.bd, .int .i64 p.lo, .int .i64 p.hi] := rfl
theorem ptC_get : ∀ (l : List Pt) (k : Nat) (h : k < l.length), (ptC l)[k * 3]? = some (.int .i64 l[k].bd) ∧ (ptC l)[k * 3 + 1]? = some (.int .i64 l[k].lo) ∧ (ptC l)[k * 3 + 2]? = some (.int .i64 l[k].hi) := by
  intro l
  induction l with
  | nil => intro k h; exact absurd h (Nat.not_lt_zero _)
  | cons p l ih =>
    intro k h
    cases k with
    | zero => exact ⟨rfl, rfl, rfl⟩
    | succ k =>
      have := ih k (by simpa using h)
      have e : ptC (p :: l) = .int .i64 p.bd :: .int .i64 p.lo :: .int .i64 p.hi :: ptC l := rfl
      rw [e, show (k + 1) * 3 = k * 3 + 1 + 1 + 1 by omega, show k * 3 + 1 + 1 + 1 + 1 = (k * 3 + 1) + 1 + 1 + 1 by omega, show k * 3 + 1 + 1 + 1 + 2 = (k * 3 + 2) + 1 + 1 + 1 by omega]
      simp only [List.getElem?_cons_succ, List.getElem_cons_succ]
      exact this
theorem ptsAt_own {w : World} {base e : Nat} {v : Value} {l : List Pt} (h : w.ownsRow base e 3 v l.length (ptC l)) (hl : l.length ≤ 4611686018427387904) : PtsAt w v l := by
  rcases h.2 with ⟨rfl, h0⟩ | ⟨g, cap, cur, rfl, hb, hg, hnc, hcm, hcs, htake⟩
  · have : l = [] := List.length_eq_zero_iff.1 h0
    subst this
    exact ⟨by simp, none, 0, rfl, by simp, fun hne => absurd rfl hne⟩
  · refine ⟨hl, _, cap, rfl, hnc, fun _ => ⟨g, 0, rfl, fun k hk => ?_⟩⟩
    have e1 := ptC_get l k hk
    rw [Nat.zero_add]
    exact ⟨(h.cellAt (k * 3) (by omega)).trans e1.1, (h.cellAt (k * 3 + 1) (by omega)).trans e1.2.1, (h.cellAt (k * 3 + 2) (by omega)).trans e1.2.2⟩
theorem own_other {w : World} {base e size n : Nat} {v : Value} {xs : List Value} (h : w.ownsRow base e size v n xs) (p : Addr) (hp : p.block < base) (u : Value) : (w.setCell p u).ownsRow base e size v n xs := by
  obtain ⟨h0, h⟩ := h
  refine ⟨h0, ?_⟩
  rcases h with h | ⟨g, cap, cur, r1, r2, r3, r4⟩
  · exact .inl h
  · exact .inr ⟨g, cap, cur, r1, r2, (heap_setCell_other w p g u (by omega)).trans r3, r4⟩
theorem ptInfo : (Try.prog.info? 58).map (fun i => (i.zero, i.size, i.bytes)) = some (some (.agg #[.int .i64 0, .int .i64 0, .int .i64 0]), 3, 24) := by kernel_rfl
set_option maxRecDepth 100000 in
set_option maxHeartbeats 4000000 in
theorem rturned_any (r : Row) (pv : Value) (w : World) (hP : PtsAt w pv r.pts) (h10 : r.pts.length ≤ 10) :
    Calls Try.prog 47 #[.agg #[.int .i64 r.st, pv]] w fun e w' => ∃ v, e = .returned (.agg #[.int .i64 r.st, v]) ∧ PtsAt w' v r.pts.reverse ∧ Below w.heap.size w w' := by
  obtain ⟨i0, hi0⟩ := info_of_underlying Try.underlying58
  have HI : Hid (i0.zero = some (.agg #[.int .i64 0, .int .i64 0, .int .i64 0]) ∧ i0.size = 3 ∧ i0.bytes = 24) := by
    have h := ptInfo
    rw [hi0] at h
    simp at h
    exact h
  obtain ⟨st, pts⟩ := r
  simp only at hP h10 ⊢
  obtain ⟨lp, pa, pc, rfl, _, _⟩ := id hP
  obtain ⟨W, hW, HA0, HZ0, hB0, hsz⟩ := al2 w (Obj.cells #[.int .i64 st, .slice pa pts.length pc] 24) (Obj.cells #[.int .i64 0, .slice none 0 0] 24)
  have HP := Lib.hid (hP.below hB0)
  have HA := Lib.hid HA0
  have HZ := Lib.hid HZ0
  have HB := Lib.hid hB0
  have HW := Lib.hid hW
  have HSZ := Lib.hid hsz
  clear hP HA0 HZ0 hB0 hW hsz
  have l10 : (pts.length : Int) ≤ 10 := by omega
  go_enter Try.func47, Try.ntmps47
  go_wp2_with fail
  rw [HW.out]
  clear HW
  go_loopg [3, 4] pts.length (fun g v i wr => ∃ (k : Nat) (j : Int) (oa : Option Addr) (oc : Nat), g + k = pts.length ∧ j + k + 1 = pts.length ∧ i = .int .i64 j ∧ v = .slice oa k oc ∧ wr.ownsRow W.heap.size 58 3 v k (ptC (pts.reverse.take k)) ∧ Hid (Below W.heap.size W wr))
  case atStart => exact ⟨0, (pts.length : Int) - 1, none, 0, by omega, by omega, rfl, rfl, World.ownsRow_nil _ _ _ _, Below.refl _ _⟩
  case round =>
    obtain ⟨k, j, oa, oc, hk, hj, rfl, rfl, hown, HR⟩ := hrel
    have hs2 := HR.out.size
    by_cases hlt : k < pts.length
    · obtain ⟨m, rfl⟩ : ∃ m : Nat, j = m := ⟨j.toNat, by omega⟩
      have hm : m < pts.length := by omega
      have l0 := cellOf ((HR.out.block _ (lt_of_block HA.out)).trans HA.out) 0 _ rfl
      have l1 := cellOf ((HR.out.block _ (lt_of_block HA.out)).trans HA.out) 1 _ rfl
      have ll := lt_of_block ((HR.out.block _ (lt_of_block HA.out)).trans HA.out)
      obtain ⟨b, o, rfl, c0, c1, c2⟩ := (HP.out.below HR.out).get hm
      have HT : Hid (ptC (pts.reverse.take (k + 1)) = ptC (pts.reverse.take k) ++ [.int .i64 pts[m].bd, .int .i64 pts[m].lo, .int .i64 pts[m].hi]) := by
        show _ = _
        have hkr : k < pts.reverse.length := by simpa using hlt
        rw [List.take_succ_eq_append_getElem hkr, ptC_append, ptC_one, List.getElem_reverse]
        have e : pts.length - 1 - k = m := by omega
        simp only [e]
      generalize pts[m] = p at *
      obtain ⟨bd, lo, hi⟩ := p
      simp only at c0 c1 c2 HT
      have mI : (m : Int) < (pts.length : Int) := by omega
      have m9 : (m : Int) ≤ 9 := by omega
      have hownA := Lib.hid (hown.alloc (Obj.cells #[.int .i64 bd, .int .i64 lo, .int .i64 hi] 58))
      have HBq : Hid (Below W.heap.size W (wr.alloc (Obj.cells #[.int .i64 bd, .int .i64 lo, .int .i64 hi] 58))) := HR.out.alloc hs2 _
      clear hown
      go_wp2_with (at_builtin; refine wpList_append_own _ rfl _ _ 22 rfl W.heap.size 58 i0 (.agg #[.int .i64 0, .int .i64 0, .int .i64 0]) 3 24 Try.underlying22 hi0 HI.out.1 HI.out.2.1 HI.out.2.2 rfl (by decide) _ _ _ rfl hownA.out ⟨wr.heap.size, 0, none⟩ 1 1 [.int .i64 bd, .int .i64 lo, .int .i64 hi] rfl rfl ?pa1 ?pa2 ?pa3 ?pa4 ?pa5 ?_)
      case pa1 =>
        intro j u hj
        match j, hj with
        | 0, hj => simp at hj; subst hj; simp [Addr.add]
        | 1, hj => simp at hj; subst hj; simp [Addr.add]
        | 2, hj => simp at hj; subst hj; simp [Addr.add]
        | j + 3, hj => simp at hj
      case pa2 =>
        intro u hu
        simp at hu
        rcases hu with rfl | rfl | rfl <;> rfl
      case pa3 => unfold maxLen; omega
      case pa4 => omega
      case pa5 => exact HBq.out.size
      · intro v' w3 hown3 hgrow _
        have hB3 : Hid (Below W.heap.size W w3) := HBq.out.grown hgrow HBq.out.size (fun g hg => (hownA.out.lt g hg).1)
        obtain ⟨sa', sc', rfl⟩ := own_slice hown3
        clear hgrow hownA
        go_wp2
        go_roundg (gk - 1)
        case measure => omega
        case rel => exact ⟨k + 1, (m : Int) - 1, sa', sc', by omega, by omega, by go_num, rfl, by rw [HT.out]; exact hown3, hB3⟩
    · obtain rfl : j = -1 := by omega
      have hkn : k = pts.length := by omega
      have hown : wr.ownsRow W.heap.size 58 3 (.slice oa k oc) pts.reverse.length (ptC pts.reverse) := by
        rw [show pts.reverse.take k = pts.reverse from List.take_of_length_le (by simp; omega)] at hown
        rw [show pts.reverse.length = k by simp; omega]
        exact hown
      have HO := Lib.hid hown
      have HAr := Lib.hid ((HR.out.block _ (lt_of_block HA.out)).trans HA.out)
      have HZr := Lib.hid ((HR.out.block _ (lt_of_block HZ.out)).trans HZ.out)
      have l0 := cellOf HAr.out 0 _ rfl
      have l1 := cellOf HAr.out 1 _ rfl
      have f0 := frozen_of_row _ _ 0 _ _ HAr.out
      have f1 := frozen_of_row _ _ 1 _ _ HAr.out
      have g0 := cellOf HZr.out 0 _ rfl
      have g1 := cellOf HZr.out 1 _ rfl
      have h0 := frozen_of_row _ _ 0 _ _ HZr.out
      have h1 := frozen_of_row _ _ 1 _ _ HZr.out
      clear hown hlt hk hkn
      go_wp2
      have z1 : (wr.setCell ⟨w.heap.size, 1, none⟩ (.slice oa k oc)).heap[w.heap.size + 1]? = some (.cells #[.int .i64 0, .slice none 0 0] 24 (0, 0)) := (heap_setCell_other wr (⟨w.heap.size, 1, none⟩ : Addr) _ _ (by simp)).trans HZr.out
      have z2 := two_set (x := .int .i64 st) (y := .slice oa k oc) z1
      have hz := HSZ.out
      refine bodyPost_ret (row_result rfl _ _ (w.heap.size + 1) _ _ rfl z2) rfl ⟨_, rfl, ?_, ?_⟩
      · exact ptsAt_own (own_other (own_other (own_other HO.out ⟨w.heap.size, 1, none⟩ (by show w.heap.size < _; omega) _) ⟨w.heap.size + 1, 0, none⟩ (by show w.heap.size + 1 < _; omega) _) ⟨w.heap.size + 1, 1, none⟩ (by show w.heap.size + 1 < _; omega) _) (by simp; omega)
      · exact two_below ((HB.out.trans (HR.out.mono HB.out.size)).setCell (p := ⟨w.heap.size, 1, none⟩) (Nat.le_refl _) _) (by omega)
end Go.Proofs.Ytnciomoapajonaa
namespace Go.Proofs.Ytnciomoapajonaa
open Go Go.RowKit Go.Shelf Cv

theorem keepC {w w' : World} {b q : Nat} {v : Value} (h : w.cell? ⟨b, q, none⟩ = some v) (hb : Below w.heap.size w w') : w'.cell? ⟨b, q, none⟩ = some v :=
  (hb.cell (p := ⟨b, q, none⟩) (World.block_lt_of_cell? w _ h)).trans h

set_option maxRecDepth 100000 in
set_option maxHeartbeats 16000000 in
theorem lraise_no (st : Int) (pts : List Pt) (pa : Option Addr) (pc : Nat) (n : Int) (n0 : 0 ≤ n) (n9 : n ≤ 65535) (w : World) (hP : PtsAt w (.slice pa pts.length pc) pts) (hv : ¬ errR ⟨st, pts⟩ = 0) :
    Calls Try.prog 14 #[.agg #[.int .i64 st, .slice pa pts.length pc], .int .u16 n] w fun e w' => e = .returned (.bool true) ∧ Below w.heap.size w w' := by
  generalize HE : errR ⟨st, pts⟩ = er at *
  have t1 : (er == 0) = false := by simp [hv]
  have HP := Lib.hid hP
  clear hP
  have HB := Lib.hid (Below.refl w.heap.size w)
  go_enter Try.func14, Try.ntmps14
  go_wp2_with fail
  have hb := (Below.refl w.heap.size w).alloc (Nat.le_refl _) (Obj.cells #[.int .i64 st, .slice pa pts.length pc] 24)
  have HR := Lib.hid (heap_alloc_new w (Obj.cells #[.int .i64 st, .slice pa pts.length pc] 24))
  have hz1 : (w.alloc (Obj.cells #[.int .i64 st, .slice pa pts.length pc] 24)).heap.size = w.heap.size + 1 := by simp
  have HB' := Lib.hid (HB.out.trans (hb.mono HB.out.size))
  have HP' := Lib.hid (HP.out.below hb)
  clear HB
  have HB := HB'
  clear HB'
  clear HP
  have HP := HP'
  clear HP'
  clear hb
  generalize w.alloc (Obj.cells #[.int .i64 st, .slice pa pts.length pc] 24) = w1 at *
  have hcall := valid_any ⟨st, pts⟩ _ w1 HP.out
  rw [HE, t1] at hcall
  refine hcall.mono ?_
  clear hcall
  rintro e w2 ⟨rfl, hb⟩
  have HB' := Lib.hid (HB.out.trans (hb.mono HB.out.size))
  have HP' := Lib.hid (HP.out.below hb)
  have HR' := Lib.hid ((hb.block _ (lt_of_block HR.out)).trans HR.out)
  clear HB
  have HB := HB'
  clear HB'
  clear HP
  have HP := HP'
  clear HP'
  clear HR
  have HR := HR'
  clear HR'
  clear hb
  go_wp2_with fail
  have hcall := awake_any w2
  refine hcall.mono ?_
  clear hcall
  rintro e w3 ⟨rfl, hb⟩
  have HB' := Lib.hid (HB.out.trans (hb.mono HB.out.size))
  have HP' := Lib.hid (HP.out.below hb)
  have HR' := Lib.hid ((hb.block _ (lt_of_block HR.out)).trans HR.out)
  clear HB
  have HB := HB'
  clear HB'
  clear HP
  have HP := HP'
  clear HP'
  clear HR
  have HR := HR'
  clear HR'
  clear hb
  go_wp2
  go_ret
  exact ⟨rfl, HB.out⟩

set_option maxRecDepth 100000 in
set_option maxHeartbeats 16000000 in
theorem lraise_bad (st : Int) (pts : List Pt) (pa : Option Addr) (pc : Nat) (n : Int) (n0 : 0 ≤ n) (n9 : n ≤ 65535) (w : World) (hP : PtsAt w (.slice pa pts.length pc) pts) (HE : Hid (errR ⟨st, pts⟩ = 0)) (up : List Pt) (HUP : Hid (pts.map (upP n) = up)) (AB : Bool) (HAA : Hid (pts.all (fun p => decide (p.hi < p.bd)) = AB)) (gp gm ge : Int) (HG : Hid ((bestR ⟨st, pts⟩ false).2 = (gp, gm, ge))) (hno : ge = 0 → AB = true → gp = 0) (hu : ¬ errR ⟨st, up⟩ = 0) :
    Calls Try.prog 14 #[.agg #[.int .i64 st, .slice pa pts.length pc], .int .u16 n] w fun e w' => e = .returned (.bool true) ∧ Below w.heap.size w w' := by
  obtain ⟨i0, hi0⟩ := info_of_underlying Try.underlying58
  have HI : Hid (i0.zero = some (.agg #[.int .i64 0, .int .i64 0, .int .i64 0]) ∧ i0.size = 3 ∧ i0.bytes = 24) := by
    have h := ptInfo
    rw [hi0] at h
    simp at h
    exact h
  have HVV : Hid (Valid ⟨st, pts⟩) := (check_valid _).1 HE.out
  have h10 : pts.length ≤ 10 := HVV.out.n10
  have l10 : (pts.length : Int) ≤ 10 := by omega
  have HP := Lib.hid hP
  clear hP
  have HB := Lib.hid (Below.refl w.heap.size w)
  go_enter Try.func14, Try.ntmps14
  go_wp2_with fail
  have hb := (Below.refl w.heap.size w).alloc (Nat.le_refl _) (Obj.cells #[.int .i64 st, .slice pa pts.length pc] 24)
  have HR := Lib.hid (heap_alloc_new w (Obj.cells #[.int .i64 st, .slice pa pts.length pc] 24))
  have hz1 : (w.alloc (Obj.cells #[.int .i64 st, .slice pa pts.length pc] 24)).heap.size = w.heap.size + 1 := by simp
  have HB' := Lib.hid (HB.out.trans (hb.mono HB.out.size))
  have HP' := Lib.hid (HP.out.below hb)
  clear HB
  have HB := HB'
  clear HB'
  clear HP
  have HP := HP'
  clear HP'
  clear hb
  generalize w.alloc (Obj.cells #[.int .i64 st, .slice pa pts.length pc] 24) = w1 at *
  have hcall := valid_any ⟨st, pts⟩ _ w1 HP.out
  rw [HE.out] at hcall
  have e0 : ((0 : Int) == 0) = true := rfl
  rw [e0] at hcall
  clear e0
  refine hcall.mono ?_
  clear hcall
  rintro e w2 ⟨rfl, hb⟩
  have HB' := Lib.hid (HB.out.trans (hb.mono HB.out.size))
  have HP' := Lib.hid (HP.out.below hb)
  have HR' := Lib.hid ((hb.block _ (lt_of_block HR.out)).trans HR.out)
  clear HB
  have HB := HB'
  clear HB'
  clear HP
  have HP := HP'
  clear HP'
  clear HR
  have HR := HR'
  clear HR'
  clear hb
  have ra := cellOf HR.out 0 _ rfl
  have rb := cellOf HR.out 1 _ rfl
  have rl := lt_of_block HR.out
  go_wp2_with fail
  clear ra rb rl
  have HJ0 := Lib.hid (heap_alloc_new w2 (Obj.cells #[.int .i64 st, .slice none 0 0] 24))
  have hbJ := Lib.hid ((Below.refl w2.heap.size w2).alloc (Nat.le_refl _) (Obj.cells #[.int .i64 st, .slice none 0 0] 24))
  have HSZ : Hid ((w2.alloc (Obj.cells #[.int .i64 st, .slice none 0 0] 24)).heap.size = w2.heap.size + 1) := by show _ = _; simp
  generalize w2.alloc (Obj.cells #[.int .i64 st, .slice none 0 0] 24) = W at *
  go_loopg [6, 7] pts.length (fun g v i wr => ∃ (k : Nat) (B : Bool) (oa : Option Addr) (oc : Nat), g + k = pts.length ∧ i = .int .i64 k ∧ v = .bool B ∧ Hid ((pts.take k).all (fun p => decide (p.hi < p.bd)) = B) ∧ Hid (wr.heap[w2.heap.size]? = some (.cells #[.int .i64 st, .slice oa k oc] 24 (0, 0))) ∧ wr.ownsRow W.heap.size 58 3 (.slice oa k oc) k (ptC ((pts.map (upP n)).take k)) ∧ Hid (Below w2.heap.size w2 wr))
  case atStart => exact ⟨0, true, none, 0, by omega, rfl, rfl, rfl, HJ0.out, World.ownsRow_nil _ _ _ _, hbJ.out⟩
  case round =>
    obtain ⟨k, B, oa, oc, hk, rfl, rfl, HAB, HJ, hown, HL⟩ := hrel
    clear HJ0 hbJ
    obtain ⟨wq, hwq⟩ : ∃ wq, wr = wq := ⟨_, rfl⟩
    rw [hwq] at HJ hown HL ⊢
    clear hwq
    have hJl : w2.heap.size < wq.heap.size := lt_of_block HJ.out
    have hb := HL.out
    have HB' := Lib.hid (HB.out.trans (hb.mono HB.out.size))
    have HP' := Lib.hid (HP.out.below hb)
    have HR' := Lib.hid ((hb.block _ (lt_of_block HR.out)).trans HR.out)
    clear HB
    have HB := HB'
    clear HB'
    clear HP
    have HP := HP'
    clear HP'
    clear HR
    have HR := HR'
    clear HR'
    clear hb
    by_cases hlt : k < pts.length
    · skip
      have kI : (k : Int) < (pts.length : Int) := by omega
      have k9 : (k : Int) ≤ 9 := by omega
      obtain ⟨b, o, rfl, c0, c1, c2⟩ := HP.out.get hlt
      obtain ⟨b0, b9, l0, l9, h0, h9, hle, hwd⟩ := HVV.out.ok pts[k] (List.getElem_mem hlt)
      have HAN : Hid ((pts.take (k + 1)).all (fun p => decide (p.hi < p.bd)) = (B && decide (pts[k].hi < pts[k].bd))) := by show _ = _; rw [List.take_succ_eq_append_getElem hlt, List.all_append, HAB.out]; simp
      have HT : Hid (ptC ((pts.map (upP n)).take (k + 1)) = ptC ((pts.map (upP n)).take k) ++ [.int .i64 (upP n pts[k]).bd, .int .i64 (upP n pts[k]).lo, .int .i64 (upP n pts[k]).hi]) := by show _ = _; rw [List.take_succ_eq_append_getElem (show k < (pts.map (upP n)).length by rw [List.length_map]; exact hlt), ptC_append, List.getElem_map]; rfl
      generalize pts[k] = p at *
      obtain ⟨bd, lo, hi⟩ := p
      simp only at c0 c1 c2 b0 b9 l0 l9 h0 h9 hle hwd HT HAN
      have hown1 := hown.alloc (Obj.cells #[.int .i64 bd, .int .i64 lo, .int .i64 hi] 58)
      have hownA := Lib.hid (hown1.alloc (Obj.cells #[.int .i64 (bd + n), .int .i64 (lo + n), .int .i64 (hi + n)] 58))
      clear hown hown1
      have hWq : W.heap.size ≤ wq.heap.size := by rw [HSZ.out]; omega
      have HBq : Hid (Below W.heap.size wq ((wq.alloc (Obj.cells #[.int .i64 bd, .int .i64 lo, .int .i64 hi] 58)).alloc (Obj.cells #[.int .i64 (bd + n), .int .i64 (lo + n), .int .i64 (hi + n)] 58))) := ((Below.refl W.heap.size wq).alloc hWq _).alloc (by simp; omega) _
      have HSQ : Hid (((wq.alloc (Obj.cells #[.int .i64 bd, .int .i64 lo, .int .i64 hi] 58)).alloc (Obj.cells #[.int .i64 (bd + n), .int .i64 (lo + n), .int .i64 (hi + n)] 58)).heap.size = wq.heap.size + 2) := by show _ = _; simp
      have bl := World.block_lt_of_cell? wq ⟨b, o + k * 3, none⟩ c0
      have ra := cellOf HR.out 0 _ rfl
      have rb := cellOf HR.out 1 _ rfl
      have rl := lt_of_block HR.out
      have jb := cellOf HJ.out 1 _ rfl
      have fJ := frozen_of_row _ _ 1 _ _ HJ.out
      cases B
      · skip
        go_wp2_with (at_builtin; refine wpList_append_own _ rfl _ _ 22 rfl W.heap.size 58 i0 (.agg #[.int .i64 0, .int .i64 0, .int .i64 0]) 3 24 Try.underlying22 hi0 HI.out.1 HI.out.2.1 HI.out.2.2 rfl (by decide) _ _ _ rfl hownA.out ⟨wq.heap.size + 1, 0, none⟩ 1 1 [.int .i64 (bd + n), .int .i64 (lo + n), .int .i64 (hi + n)] rfl rfl ?pa1 ?pa2 ?pa3 ?pa4 ?pa5 ?_)
        case pa2 => exact ⟨rfl, rfl, rfl⟩
        case pa3 => unfold maxLen; omega
        case pa4 => omega
        case pa5 => omega
        · intro v' wz hown3 hgrow _
          have hB3 : Below W.heap.size wq wz := HBq.out.grown hgrow (by rw [HSQ.out]; omega) (fun g hg => (hownA.out.lt g hg).1)
          obtain ⟨sa', sc', rfl⟩ := own_slice hown3
          have HJ3 := Lib.hid ((hB3.block _ (by rw [HSZ.out]; omega)).trans HJ.out)
          have ho3 : (wz.setCell ⟨w2.heap.size, 1, none⟩ (.slice sa' (k + 1) sc')).ownsRow W.heap.size 58 3 (.slice sa' (k + 1) sc') (k + 1) (ptC ((pts.map (upP n)).take (k + 1))) := own_other (by rw [HT.out]; exact hown3) ⟨w2.heap.size, 1, none⟩ (by show w2.heap.size < _; rw [HSZ.out]; omega) _
          have HL3 : Hid (Below w2.heap.size w2 (wz.setCell ⟨w2.heap.size, 1, none⟩ (.slice sa' (k + 1) sc'))) := (HL.out.trans (hB3.mono (by rw [HSZ.out]; omega))).setCell (p := ⟨w2.heap.size, 1, none⟩) (Nat.le_refl _) _
          have HJ4 : Hid ((wz.setCell ⟨w2.heap.size, 1, none⟩ (.slice sa' (k + 1) sc')).heap[w2.heap.size]? = some (.cells #[.int .i64 st, .slice sa' (k + 1) sc'] 24 (0, 0))) := heap_setCell_same wz w2.heap.size 1 _ _ _ HJ3.out
          clear hgrow hownA hown3 hB3 HBq ra rb rl jb fJ c0 c1 c2
          have jb := cellOf HJ3.out 1 _ rfl
          have fJ := frozen_of_row _ _ 1 _ _ HJ3.out
          go_wp2
          go_roundg (gk - 1)
          case measure => omega
          case rel => exact ⟨k + 1, false, sa', sc', by omega, by go_num, rfl, by show _ = _; rw [HAN.out]; rfl, HJ4.out, ho3, HL3.out⟩
      · skip
        go_wp2_with (at_builtin; refine wpList_append_own _ rfl _ _ 22 rfl W.heap.size 58 i0 (.agg #[.int .i64 0, .int .i64 0, .int .i64 0]) 3 24 Try.underlying22 hi0 HI.out.1 HI.out.2.1 HI.out.2.2 rfl (by decide) _ _ _ rfl hownA.out ⟨wq.heap.size + 1, 0, none⟩ 1 1 [.int .i64 (bd + n), .int .i64 (lo + n), .int .i64 (hi + n)] rfl rfl ?pa1 ?pa2 ?pa3 ?pa4 ?pa5 ?_)
        case pa2 => exact ⟨rfl, rfl, rfl⟩
        case pa3 => unfold maxLen; omega
        case pa4 => omega
        case pa5 => omega
        · intro v' wz hown3 hgrow _
          have hB3 : Below W.heap.size wq wz := HBq.out.grown hgrow (by rw [HSQ.out]; omega) (fun g hg => (hownA.out.lt g hg).1)
          obtain ⟨sa', sc', rfl⟩ := own_slice hown3
          have HJ3 := Lib.hid ((hB3.block _ (by rw [HSZ.out]; omega)).trans HJ.out)
          have ho3 : (wz.setCell ⟨w2.heap.size, 1, none⟩ (.slice sa' (k + 1) sc')).ownsRow W.heap.size 58 3 (.slice sa' (k + 1) sc') (k + 1) (ptC ((pts.map (upP n)).take (k + 1))) := own_other (by rw [HT.out]; exact hown3) ⟨w2.heap.size, 1, none⟩ (by show w2.heap.size < _; rw [HSZ.out]; omega) _
          have HL3 : Hid (Below w2.heap.size w2 (wz.setCell ⟨w2.heap.size, 1, none⟩ (.slice sa' (k + 1) sc'))) := (HL.out.trans (hB3.mono (by rw [HSZ.out]; omega))).setCell (p := ⟨w2.heap.size, 1, none⟩) (Nat.le_refl _) _
          have HJ4 : Hid ((wz.setCell ⟨w2.heap.size, 1, none⟩ (.slice sa' (k + 1) sc')).heap[w2.heap.size]? = some (.cells #[.int .i64 st, .slice sa' (k + 1) sc'] 24 (0, 0))) := heap_setCell_same wz w2.heap.size 1 _ _ _ HJ3.out
          clear hgrow hownA hown3 hB3 HBq ra rb rl jb fJ c0 c1 c2
          have jb := cellOf HJ3.out 1 _ rfl
          have fJ := frozen_of_row _ _ 1 _ _ HJ3.out
          go_wp2
          go_roundg (gk - 1)
          case measure => omega
          case rel => exact ⟨k + 1, decide (hi < bd), sa', sc', by omega, by go_num, rfl, by show _ = _; rw [HAN.out]; rfl, HJ4.out, ho3, HL3.out⟩
    · obtain rfl : k = pts.length := by omega
      have hww : PtsAt wq (.slice oa pts.length oc) up := by
        rw [← HUP.out]
        refine ptsAt_own (base := W.heap.size) (e := 58) ?_ (by simp; omega)
        rw [List.length_map]
        have := hown
        rwa [List.take_of_length_le (by simp)] at this
      have HT := Lib.hid hww
      clear hww hown hlt hk
      rw [List.take_of_length_le (Nat.le_refl _), HAA.out] at HAB
      obtain rfl : AB = B := HAB.out
      clear HAB
      have ra := cellOf HR.out 0 _ rfl
      have rb := cellOf HR.out 1 _ rfl
      have rl := lt_of_block HR.out
      go_wp2_with fail
      clear ra rb rl
      have hcall := Best_any ⟨st, pts⟩ false _ wq HP.out
      rw [HG.out] at hcall
      simp only at hcall
      refine hcall.mono ?_
      clear hcall
      rintro e w3 ⟨v1, rfl, hown, hb⟩
      have HB' := Lib.hid (HB.out.trans (hb.mono HB.out.size))
      have HP' := Lib.hid (HP.out.below hb)
      have HR' := Lib.hid ((hb.block _ (lt_of_block HR.out)).trans HR.out)
      have HT' := Lib.hid (HT.out.below hb)
      have HJ' := Lib.hid ((hb.block _ (lt_of_block HJ.out)).trans HJ.out)
      clear HB
      have HB := HB'
      clear HB'
      clear HP
      have HP := HP'
      clear HP'
      clear HR
      have HR := HR'
      clear HR'
      clear HT
      have HT := HT'
      clear HT'
      clear HJ
      have HJ := HJ'
      clear HJ'
      clear hb
      clear hown
      go_upto_region 14 with fail
      go_cut [89] (fun v wx => v = .bool false ∧ Below w3.heap.size w3 wx)
      case first =>
        by_cases he : ge = 0
        · subst he
          cases AB
          · go_wp2
            go_meet
            exact ⟨rfl, Below.refl _ _⟩
          · obtain rfl : gp = 0 := hno rfl rfl
            go_wp2
            go_meet
            exact ⟨rfl, Below.refl _ _⟩
        · have te : (ge == 0) = false := by simp [he]
          go_wp2
          go_meet
          exact ⟨rfl, Below.refl _ _⟩
      case rest =>
        obtain ⟨rfl, hb⟩ := hcut
        have HB' := Lib.hid (HB.out.trans (hb.mono HB.out.size))
        have HP' := Lib.hid (HP.out.below hb)
        have HR' := Lib.hid ((hb.block _ (lt_of_block HR.out)).trans HR.out)
        have HT' := Lib.hid (HT.out.below hb)
        have HJ' := Lib.hid ((hb.block _ (lt_of_block HJ.out)).trans HJ.out)
        clear HB
        have HB := HB'
        clear HB'
        clear HP
        have HP := HP'
        clear HP'
        clear HR
        have HR := HR'
        clear HR'
        clear HT
        have HT := HT'
        clear HT'
        clear HJ
        have HJ := HJ'
        clear HJ'
        clear hb
        have ja := cellOf HJ.out 0 _ rfl
        have jb := cellOf HJ.out 1 _ rfl
        have jl := lt_of_block HJ.out
        go_wp2_with fail
        clear ja jb jl
        generalize HU : errR ⟨st, up⟩ = er at *
        have t1 : (er == 0) = false := by simp [hu]
        have hcall := valid_any ⟨st, up⟩ _ wc HT.out
        rw [HU, t1] at hcall
        refine hcall.mono ?_
        clear hcall
        rintro e w4 ⟨rfl, hb⟩
        have HB' := Lib.hid (HB.out.trans (hb.mono HB.out.size))
        have HP' := Lib.hid (HP.out.below hb)
        have HR' := Lib.hid ((hb.block _ (lt_of_block HR.out)).trans HR.out)
        have HT' := Lib.hid (HT.out.below hb)
        have HJ' := Lib.hid ((hb.block _ (lt_of_block HJ.out)).trans HJ.out)
        clear HB
        have HB := HB'
        clear HB'
        clear HP
        have HP := HP'
        clear HP'
        clear HR
        have HR := HR'
        clear HR'
        clear HT
        have HT := HT'
        clear HT'
        clear HJ
        have HJ := HJ'
        clear HJ'
        clear hb
        go_wp2_with fail
        have hcall := awake_any w4
        refine hcall.mono ?_
        clear hcall
        rintro e w5 ⟨rfl, hb⟩
        have HB' := Lib.hid (HB.out.trans (hb.mono HB.out.size))
        have HP' := Lib.hid (HP.out.below hb)
        have HR' := Lib.hid ((hb.block _ (lt_of_block HR.out)).trans HR.out)
        have HT' := Lib.hid (HT.out.below hb)
        have HJ' := Lib.hid ((hb.block _ (lt_of_block HJ.out)).trans HJ.out)
        clear HB
        have HB := HB'
        clear HB'
        clear HP
        have HP := HP'
        clear HP'
        clear HR
        have HR := HR'
        clear HR'
        clear HT
        have HT := HT'
        clear HT'
        clear HJ
        have HJ := HJ'
        clear HJ'
        clear hb
        go_wp2
        go_ret
        exact ⟨rfl, HB.out⟩

set_option maxRecDepth 100000 in
set_option maxHeartbeats 16000000 in
theorem lraise_ok (st : Int) (pts : List Pt) (pa : Option Addr) (pc : Nat) (n : Int) (n0 : 0 ≤ n) (n9 : n ≤ 65535) (w : World) (hP : PtsAt w (.slice pa pts.length pc) pts) (HE : Hid (errR ⟨st, pts⟩ = 0)) (up : List Pt) (HUP : Hid (pts.map (upP n) = up)) (AB : Bool) (HAA : Hid (pts.all (fun p => decide (p.hi < p.bd)) = AB)) (gp gm ge : Int) (HG : Hid ((bestR ⟨st, pts⟩ false).2 = (gp, gm, ge))) (hno : ge = 0 → AB = true → gp = 0) (HU : Hid (errR ⟨st, up⟩ = 0)) (bl bm : List Sp) (be : Int) (ln : Nat) (hln : ln ≤ 10) (HBL : Hid (boundsR ⟨st, pts⟩ = (bl, be))) (HBM : Hid (boundsR ⟨st, up⟩ = (bm, be))) (HLN : Hid (bl.length = ln)) (HLM : Hid (bm.length = ln)) (HBB : Hid (∀ p, p ∈ bl → 0 ≤ p.1 ∧ p.1 ≤ 9000 ∧ 0 ≤ p.2 ∧ p.2 ≤ 9000)) (HGG : Hid (∀ i, i < ln → bm.getD i (0, 0) = ((bl.getD i (0, 0)).1 + n, (bl.getD i (0, 0)).2 + n))) (HBQ : Hid (∀ q, (bestR ⟨st, pts⟩ q).1.length ≤ 10 ∧ (∀ x, x ∈ (bestR ⟨st, pts⟩ q).1 → 0 ≤ x ∧ x ≤ 9000) ∧ bestR ⟨st, up⟩ q = ((bestR ⟨st, pts⟩ q).1.map (· + n), (bestR ⟨st, pts⟩ q).2))) :
    Calls Try.prog 14 #[.agg #[.int .i64 st, .slice pa pts.length pc], .int .u16 n] w fun e w' => e = .returned (.bool true) ∧ Below w.heap.size w w' := by
  obtain ⟨i0, hi0⟩ := info_of_underlying Try.underlying58
  have HI : Hid (i0.zero = some (.agg #[.int .i64 0, .int .i64 0, .int .i64 0]) ∧ i0.size = 3 ∧ i0.bytes = 24) := by
    have h := ptInfo
    rw [hi0] at h
    simp at h
    exact h
  have HVV : Hid (Valid ⟨st, pts⟩) := (check_valid _).1 HE.out
  have h10 : pts.length ≤ 10 := HVV.out.n10
  have l10 : (pts.length : Int) ≤ 10 := by omega
  have HP := Lib.hid hP
  clear hP
  have HB := Lib.hid (Below.refl w.heap.size w)
  go_enter Try.func14, Try.ntmps14
  go_wp2_with fail
  have hb := (Below.refl w.heap.size w).alloc (Nat.le_refl _) (Obj.cells #[.int .i64 st, .slice pa pts.length pc] 24)
  have HR := Lib.hid (heap_alloc_new w (Obj.cells #[.int .i64 st, .slice pa pts.length pc] 24))
  have hz1 : (w.alloc (Obj.cells #[.int .i64 st, .slice pa pts.length pc] 24)).heap.size = w.heap.size + 1 := by simp
  have HB' := Lib.hid (HB.out.trans (hb.mono HB.out.size))
  have HP' := Lib.hid (HP.out.below hb)
  clear HB
  have HB := HB'
  clear HB'
  clear HP
  have HP := HP'
  clear HP'
  clear hb
  generalize w.alloc (Obj.cells #[.int .i64 st, .slice pa pts.length pc] 24) = w1 at *
  have hcall := valid_any ⟨st, pts⟩ _ w1 HP.out
  rw [HE.out] at hcall
  have e0 : ((0 : Int) == 0) = true := rfl
  rw [e0] at hcall
  clear e0
  refine hcall.mono ?_
  clear hcall
  rintro e w2 ⟨rfl, hb⟩
  have HB' := Lib.hid (HB.out.trans (hb.mono HB.out.size))
  have HP' := Lib.hid (HP.out.below hb)
  have HR' := Lib.hid ((hb.block _ (lt_of_block HR.out)).trans HR.out)
  clear HB
  have HB := HB'
  clear HB'
  clear HP
  have HP := HP'
  clear HP'
  clear HR
  have HR := HR'
  clear HR'
  clear hb
  have ra := cellOf HR.out 0 _ rfl
  have rb := cellOf HR.out 1 _ rfl
  have rl := lt_of_block HR.out
  go_wp2_with fail
  clear ra rb rl
  have HJ0 := Lib.hid (heap_alloc_new w2 (Obj.cells #[.int .i64 st, .slice none 0 0] 24))
  have hbJ := Lib.hid ((Below.refl w2.heap.size w2).alloc (Nat.le_refl _) (Obj.cells #[.int .i64 st, .slice none 0 0] 24))
  have HSZ : Hid ((w2.alloc (Obj.cells #[.int .i64 st, .slice none 0 0] 24)).heap.size = w2.heap.size + 1) := by show _ = _; simp
  generalize w2.alloc (Obj.cells #[.int .i64 st, .slice none 0 0] 24) = W at *
  go_loopg [6, 7] pts.length (fun g v i wr => ∃ (k : Nat) (B : Bool) (oa : Option Addr) (oc : Nat), g + k = pts.length ∧ i = .int .i64 k ∧ v = .bool B ∧ Hid ((pts.take k).all (fun p => decide (p.hi < p.bd)) = B) ∧ Hid (wr.heap[w2.heap.size]? = some (.cells #[.int .i64 st, .slice oa k oc] 24 (0, 0))) ∧ wr.ownsRow W.heap.size 58 3 (.slice oa k oc) k (ptC ((pts.map (upP n)).take k)) ∧ Hid (Below w2.heap.size w2 wr))
  case atStart => exact ⟨0, true, none, 0, by omega, rfl, rfl, rfl, HJ0.out, World.ownsRow_nil _ _ _ _, hbJ.out⟩
  case round =>
    obtain ⟨k, B, oa, oc, hk, rfl, rfl, HAB, HJ, hown, HL⟩ := hrel
    clear HJ0 hbJ
    obtain ⟨wq, hwq⟩ : ∃ wq, wr = wq := ⟨_, rfl⟩
    rw [hwq] at HJ hown HL ⊢
    clear hwq
    have hJl : w2.heap.size < wq.heap.size := lt_of_block HJ.out
    have hb := HL.out
    have HB' := Lib.hid (HB.out.trans (hb.mono HB.out.size))
    have HP' := Lib.hid (HP.out.below hb)
    have HR' := Lib.hid ((hb.block _ (lt_of_block HR.out)).trans HR.out)
    clear HB
    have HB := HB'
    clear HB'
    clear HP
    have HP := HP'
    clear HP'
    clear HR
    have HR := HR'
    clear HR'
    clear hb
    by_cases hlt : k < pts.length
    · skip
      have kI : (k : Int) < (pts.length : Int) := by omega
      have k9 : (k : Int) ≤ 9 := by omega
      obtain ⟨b, o, rfl, c0, c1, c2⟩ := HP.out.get hlt
      obtain ⟨b0, b9, l0, l9, h0, h9, hle, hwd⟩ := HVV.out.ok pts[k] (List.getElem_mem hlt)
      have HAN : Hid ((pts.take (k + 1)).all (fun p => decide (p.hi < p.bd)) = (B && decide (pts[k].hi < pts[k].bd))) := by show _ = _; rw [List.take_succ_eq_append_getElem hlt, List.all_append, HAB.out]; simp
      have HT : Hid (ptC ((pts.map (upP n)).take (k + 1)) = ptC ((pts.map (upP n)).take k) ++ [.int .i64 (upP n pts[k]).bd, .int .i64 (upP n pts[k]).lo, .int .i64 (upP n pts[k]).hi]) := by show _ = _; rw [List.take_succ_eq_append_getElem (show k < (pts.map (upP n)).length by rw [List.length_map]; exact hlt), ptC_append, List.getElem_map]; rfl
      generalize pts[k] = p at *
      obtain ⟨bd, lo, hi⟩ := p
      simp only at c0 c1 c2 b0 b9 l0 l9 h0 h9 hle hwd HT HAN
      have hown1 := hown.alloc (Obj.cells #[.int .i64 bd, .int .i64 lo, .int .i64 hi] 58)
      have hownA := Lib.hid (hown1.alloc (Obj.cells #[.int .i64 (bd + n), .int .i64 (lo + n), .int .i64 (hi + n)] 58))
      clear hown hown1
      have hWq : W.heap.size ≤ wq.heap.size := by rw [HSZ.out]; omega
      have HBq : Hid (Below W.heap.size wq ((wq.alloc (Obj.cells #[.int .i64 bd, .int .i64 lo, .int .i64 hi] 58)).alloc (Obj.cells #[.int .i64 (bd + n), .int .i64 (lo + n), .int .i64 (hi + n)] 58))) := ((Below.refl W.heap.size wq).alloc hWq _).alloc (by simp; omega) _
      have HSQ : Hid (((wq.alloc (Obj.cells #[.int .i64 bd, .int .i64 lo, .int .i64 hi] 58)).alloc (Obj.cells #[.int .i64 (bd + n), .int .i64 (lo + n), .int .i64 (hi + n)] 58)).heap.size = wq.heap.size + 2) := by show _ = _; simp
      have bl := World.block_lt_of_cell? wq ⟨b, o + k * 3, none⟩ c0
      have ra := cellOf HR.out 0 _ rfl
      have rb := cellOf HR.out 1 _ rfl
      have rl := lt_of_block HR.out
      have jb := cellOf HJ.out 1 _ rfl
      have fJ := frozen_of_row _ _ 1 _ _ HJ.out
      cases B
      · skip
        go_wp2_with (at_builtin; refine wpList_append_own _ rfl _ _ 22 rfl W.heap.size 58 i0 (.agg #[.int .i64 0, .int .i64 0, .int .i64 0]) 3 24 Try.underlying22 hi0 HI.out.1 HI.out.2.1 HI.out.2.2 rfl (by decide) _ _ _ rfl hownA.out ⟨wq.heap.size + 1, 0, none⟩ 1 1 [.int .i64 (bd + n), .int .i64 (lo + n), .int .i64 (hi + n)] rfl rfl ?pa1 ?pa2 ?pa3 ?pa4 ?pa5 ?_)
        case pa2 => exact ⟨rfl, rfl, rfl⟩
        case pa3 => unfold maxLen; omega
        case pa4 => omega
        case pa5 => omega
        · intro v' wz hown3 hgrow _
          have hB3 : Below W.heap.size wq wz := HBq.out.grown hgrow (by rw [HSQ.out]; omega) (fun g hg => (hownA.out.lt g hg).1)
          obtain ⟨sa', sc', rfl⟩ := own_slice hown3
          have HJ3 := Lib.hid ((hB3.block _ (by rw [HSZ.out]; omega)).trans HJ.out)
          have ho3 : (wz.setCell ⟨w2.heap.size, 1, none⟩ (.slice sa' (k + 1) sc')).ownsRow W.heap.size 58 3 (.slice sa' (k + 1) sc') (k + 1) (ptC ((pts.map (upP n)).take (k + 1))) := own_other (by rw [HT.out]; exact hown3) ⟨w2.heap.size, 1, none⟩ (by show w2.heap.size < _; rw [HSZ.out]; omega) _
          have HL3 : Hid (Below w2.heap.size w2 (wz.setCell ⟨w2.heap.size, 1, none⟩ (.slice sa' (k + 1) sc'))) := (HL.out.trans (hB3.mono (by rw [HSZ.out]; omega))).setCell (p := ⟨w2.heap.size, 1, none⟩) (Nat.le_refl _) _
          have HJ4 : Hid ((wz.setCell ⟨w2.heap.size, 1, none⟩ (.slice sa' (k + 1) sc')).heap[w2.heap.size]? = some (.cells #[.int .i64 st, .slice sa' (k + 1) sc'] 24 (0, 0))) := heap_setCell_same wz w2.heap.size 1 _ _ _ HJ3.out
          clear hgrow hownA hown3 hB3 HBq ra rb rl jb fJ c0 c1 c2
          have jb := cellOf HJ3.out 1 _ rfl
          have fJ := frozen_of_row _ _ 1 _ _ HJ3.out
          go_wp2
          go_roundg (gk - 1)
          case measure => omega
          case rel => exact ⟨k + 1, false, sa', sc', by omega, by go_num, rfl, by show _ = _; rw [HAN.out]; rfl, HJ4.out, ho3, HL3.out⟩
      · skip
        go_wp2_with (at_builtin; refine wpList_append_own _ rfl _ _ 22 rfl W.heap.size 58 i0 (.agg #[.int .i64 0, .int .i64 0, .int .i64 0]) 3 24 Try.underlying22 hi0 HI.out.1 HI.out.2.1 HI.out.2.2 rfl (by decide) _ _ _ rfl hownA.out ⟨wq.heap.size + 1, 0, none⟩ 1 1 [.int .i64 (bd + n), .int .i64 (lo + n), .int .i64 (hi + n)] rfl rfl ?pa1 ?pa2 ?pa3 ?pa4 ?pa5 ?_)
        case pa2 => exact ⟨rfl, rfl, rfl⟩
        case pa3 => unfold maxLen; omega
        case pa4 => omega
        case pa5 => omega
        · intro v' wz hown3 hgrow _
          have hB3 : Below W.heap.size wq wz := HBq.out.grown hgrow (by rw [HSQ.out]; omega) (fun g hg => (hownA.out.lt g hg).1)
          obtain ⟨sa', sc', rfl⟩ := own_slice hown3
          have HJ3 := Lib.hid ((hB3.block _ (by rw [HSZ.out]; omega)).trans HJ.out)
          have ho3 : (wz.setCell ⟨w2.heap.size, 1, none⟩ (.slice sa' (k + 1) sc')).ownsRow W.heap.size 58 3 (.slice sa' (k + 1) sc') (k + 1) (ptC ((pts.map (upP n)).take (k + 1))) := own_other (by rw [HT.out]; exact hown3) ⟨w2.heap.size, 1, none⟩ (by show w2.heap.size < _; rw [HSZ.out]; omega) _
          have HL3 : Hid (Below w2.heap.size w2 (wz.setCell ⟨w2.heap.size, 1, none⟩ (.slice sa' (k + 1) sc'))) := (HL.out.trans (hB3.mono (by rw [HSZ.out]; omega))).setCell (p := ⟨w2.heap.size, 1, none⟩) (Nat.le_refl _) _
          have HJ4 : Hid ((wz.setCell ⟨w2.heap.size, 1, none⟩ (.slice sa' (k + 1) sc')).heap[w2.heap.size]? = some (.cells #[.int .i64 st, .slice sa' (k + 1) sc'] 24 (0, 0))) := heap_setCell_same wz w2.heap.size 1 _ _ _ HJ3.out
          clear hgrow hownA hown3 hB3 HBq ra rb rl jb fJ c0 c1 c2
          have jb := cellOf HJ3.out 1 _ rfl
          have fJ := frozen_of_row _ _ 1 _ _ HJ3.out
          go_wp2
          go_roundg (gk - 1)
          case measure => omega
          case rel => exact ⟨k + 1, decide (hi < bd), sa', sc', by omega, by go_num, rfl, by show _ = _; rw [HAN.out]; rfl, HJ4.out, ho3, HL3.out⟩
    · obtain rfl : k = pts.length := by omega
      have hww : PtsAt wq (.slice oa pts.length oc) up := by
        rw [← HUP.out]
        refine ptsAt_own (base := W.heap.size) (e := 58) ?_ (by simp; omega)
        rw [List.length_map]
        have := hown
        rwa [List.take_of_length_le (by simp)] at this
      have HT := Lib.hid hww
      clear hww hown hlt hk
      rw [List.take_of_length_le (Nat.le_refl _), HAA.out] at HAB
      obtain rfl : AB = B := HAB.out
      clear HAB
      have ra := cellOf HR.out 0 _ rfl
      have rb := cellOf HR.out 1 _ rfl
      have rl := lt_of_block HR.out
      go_wp2_with fail
      clear ra rb rl
      have hcall := Best_any ⟨st, pts⟩ false _ wq HP.out
      rw [HG.out] at hcall
      simp only at hcall
      refine hcall.mono ?_
      clear hcall
      rintro e w3 ⟨v1, rfl, hown, hb⟩
      have HB' := Lib.hid (HB.out.trans (hb.mono HB.out.size))
      have HP' := Lib.hid (HP.out.below hb)
      have HR' := Lib.hid ((hb.block _ (lt_of_block HR.out)).trans HR.out)
      have HT' := Lib.hid (HT.out.below hb)
      have HJ' := Lib.hid ((hb.block _ (lt_of_block HJ.out)).trans HJ.out)
      clear HB
      have HB := HB'
      clear HB'
      clear HP
      have HP := HP'
      clear HP'
      clear HR
      have HR := HR'
      clear HR'
      clear HT
      have HT := HT'
      clear HT'
      clear HJ
      have HJ := HJ'
      clear HJ'
      clear hb
      clear hown
      go_upto_region 14 with fail
      go_cut [89] (fun v wx => v = .bool false ∧ Below w3.heap.size w3 wx)
      case first =>
        by_cases he : ge = 0
        · subst he
          cases AB
          · go_wp2
            go_meet
            exact ⟨rfl, Below.refl _ _⟩
          · obtain rfl : gp = 0 := hno rfl rfl
            go_wp2
            go_meet
            exact ⟨rfl, Below.refl _ _⟩
        · have te : (ge == 0) = false := by simp [he]
          go_wp2
          go_meet
          exact ⟨rfl, Below.refl _ _⟩
      case rest =>
        obtain ⟨rfl, hb⟩ := hcut
        have HB' := Lib.hid (HB.out.trans (hb.mono HB.out.size))
        have HP' := Lib.hid (HP.out.below hb)
        have HR' := Lib.hid ((hb.block _ (lt_of_block HR.out)).trans HR.out)
        have HT' := Lib.hid (HT.out.below hb)
        have HJ' := Lib.hid ((hb.block _ (lt_of_block HJ.out)).trans HJ.out)
        clear HB
        have HB := HB'
        clear HB'
        clear HP
        have HP := HP'
        clear HP'
        clear HR
        have HR := HR'
        clear HR'
        clear HT
        have HT := HT'
        clear HT'
        clear HJ
        have HJ := HJ'
        clear HJ'
        clear hb
        have ja := cellOf HJ.out 0 _ rfl
        have jb := cellOf HJ.out 1 _ rfl
        have jl := lt_of_block HJ.out
        go_wp2_with fail
        clear ja jb jl
        have hcall := valid_any ⟨st, up⟩ _ wc HT.out
        rw [HU.out] at hcall
        have e0 : ((0 : Int) == 0) = true := rfl
        rw [e0] at hcall
        clear e0
        refine hcall.mono ?_
        clear hcall
        rintro e w4 ⟨rfl, hb⟩
        have HB' := Lib.hid (HB.out.trans (hb.mono HB.out.size))
        have HP' := Lib.hid (HP.out.below hb)
        have HR' := Lib.hid ((hb.block _ (lt_of_block HR.out)).trans HR.out)
        have HT' := Lib.hid (HT.out.below hb)
        have HJ' := Lib.hid ((hb.block _ (lt_of_block HJ.out)).trans HJ.out)
        clear HB
        have HB := HB'
        clear HB'
        clear HP
        have HP := HP'
        clear HP'
        clear HR
        have HR := HR'
        clear HR'
        clear HT
        have HT := HT'
        clear HT'
        clear HJ
        have HJ := HJ'
        clear HJ'
        clear hb
        have ra := cellOf HR.out 0 _ rfl
        have rb := cellOf HR.out 1 _ rfl
        have rl := lt_of_block HR.out
        go_wp2_with fail
        clear ra rb rl
        have hcall := Bounds_any ⟨st, pts⟩ _ w4 HP.out
        rw [HBL.out] at hcall
        simp only at hcall
        refine hcall.mono ?_
        clear hcall
        rintro e w5 ⟨v2, rfl, hown, hb⟩
        have HB' := Lib.hid (HB.out.trans (hb.mono HB.out.size))
        have HP' := Lib.hid (HP.out.below hb)
        have HR' := Lib.hid ((hb.block _ (lt_of_block HR.out)).trans HR.out)
        have HT' := Lib.hid (HT.out.below hb)
        have HJ' := Lib.hid ((hb.block _ (lt_of_block HJ.out)).trans HJ.out)
        clear HB
        have HB := HB'
        clear HB'
        clear HP
        have HP := HP'
        clear HP'
        clear HR
        have HR := HR'
        clear HR'
        clear HT
        have HT := HT'
        clear HT'
        clear HJ
        have HJ := HJ'
        clear HJ'
        clear hb
        have hpa := passAt_own hown (by rw [HLN.out]; omega)
        obtain ⟨sa, sc, rfl⟩ := own_slice hown
        rw [HLN.out] at hpa ⊢
        have HX := Lib.hid hpa
        clear hown hpa
        have ja := cellOf HJ.out 0 _ rfl
        have jb := cellOf HJ.out 1 _ rfl
        have jl := lt_of_block HJ.out
        go_wp2_with fail
        clear ja jb jl
        have hcall := Bounds_any ⟨st, up⟩ _ w5 HT.out
        rw [HBM.out] at hcall
        simp only at hcall
        refine hcall.mono ?_
        clear hcall
        rintro e w6 ⟨v3, rfl, hown, hb⟩
        have HB' := Lib.hid (HB.out.trans (hb.mono HB.out.size))
        have HP' := Lib.hid (HP.out.below hb)
        have HR' := Lib.hid ((hb.block _ (lt_of_block HR.out)).trans HR.out)
        have HT' := Lib.hid (HT.out.below hb)
        have HJ' := Lib.hid ((hb.block _ (lt_of_block HJ.out)).trans HJ.out)
        have HX' := Lib.hid (HX.out.below hb)
        clear HB
        have HB := HB'
        clear HB'
        clear HP
        have HP := HP'
        clear HP'
        clear HR
        have HR := HR'
        clear HR'
        clear HT
        have HT := HT'
        clear HT'
        clear HJ
        have HJ := HJ'
        clear HJ'
        clear HX
        have HX := HX'
        clear HX'
        clear hb
        have hpa := passAt_own hown (by rw [HLM.out]; omega)
        obtain ⟨sb, sd, rfl⟩ := own_slice hown
        rw [HLM.out] at hpa ⊢
        have HZ := Lib.hid hpa
        clear hown hpa HL
        go_wp2_with fail
        have HL := Lib.hid (Below.refl w6.heap.size w6)
        go_loopg [17] ln (fun g i wr => ∃ k : Nat, g + k = ln ∧ i = .int .i64 k ∧ Hid (Below w6.heap.size w6 wr))
        case atStart => exact ⟨0, by omega, rfl, HL.out⟩
        case round =>
          clear HL
          obtain ⟨k, hk, rfl, HL⟩ := hrel
          obtain ⟨wr7, hwr⟩ : ∃ wr7, wr = wr7 := ⟨_, rfl⟩
          rw [hwr] at HL ⊢
          clear hwr
          have hb := HL.out
          have HB' := Lib.hid (HB.out.trans (hb.mono HB.out.size))
          have HP' := Lib.hid (HP.out.below hb)
          have HR' := Lib.hid ((hb.block _ (lt_of_block HR.out)).trans HR.out)
          have HT' := Lib.hid (HT.out.below hb)
          have HJ' := Lib.hid ((hb.block _ (lt_of_block HJ.out)).trans HJ.out)
          have HX' := Lib.hid (HX.out.below hb)
          have HZ' := Lib.hid (HZ.out.below hb)
          clear HB
          have HB := HB'
          clear HB'
          clear HP
          have HP := HP'
          clear HP'
          clear HR
          have HR := HR'
          clear HR'
          clear HT
          have HT := HT'
          clear HT'
          clear HJ
          have HJ := HJ'
          clear HJ'
          clear HX
          have HX := HX'
          clear HX'
          clear HZ
          have HZ := HZ'
          clear HZ'
          clear hb
          by_cases hlt : k < ln
          · skip
            obtain ⟨b1, o1, rfl, c0, c1⟩ := HX.out.get (show k < bl.length by rw [HLN.out]; exact hlt)
            obtain ⟨b2, o2, rfl, d0, d1⟩ := HZ.out.get (show k < bm.length by rw [HLM.out]; omega)
            have hg := HGG.out k hlt
            rw [List.getD_eq_getElem?_getD, List.getD_eq_getElem?_getD, List.getElem?_eq_getElem (show k < bl.length by rw [HLN.out]; exact hlt), List.getElem?_eq_getElem (show k < bm.length by rw [HLM.out]; omega)] at hg
            simp only [Option.getD_some] at hg
            have hbb := HBB.out (bl[k]'(by rw [HLN.out]; exact hlt)) (List.getElem_mem _)
            rw [hg] at d0 d1
            generalize bl[k]'(by rw [HLN.out]; exact hlt) = sp at *
            obtain ⟨x1, y1⟩ := sp
            simp only at c0 c1 d0 d1 hbb
            clear hg
            obtain ⟨x0, x9, y0, y9⟩ := hbb
            have kI : (k : Int) < (ln : Int) := by omega
            have ln10 : (ln : Int) ≤ 10 := by omega
            have wn : IntKind.i64.wrap n = n := by rw [IntKind.wrap_i64]; omega
            have wx : IntKind.i64.wrap (x1 + n) = x1 + n := by rw [IntKind.wrap_i64]; omega
            have wy : IntKind.i64.wrap (y1 + n) = y1 + n := by rw [IntKind.wrap_i64]; omega
            go_wp2_with fail
            refine wp_region_noPanic ?_
            refine wp_region_held_drew (S := (fun W' => W'.cell? ⟨b1, o1 + k * 2, none⟩ = some (.int .i64 x1) ∧ W'.cell? ⟨b1, o1 + k * 2 + 1, none⟩ = some (.int .i64 y1) ∧ W'.cell? ⟨b2, o2 + k * 2, none⟩ = some (.int .i64 (x1 + n)) ∧ W'.cell? ⟨b2, o2 + k * 2 + 1, none⟩ = some (.int .i64 (y1 + n)) ∧ Below wr7.heap.size wr7 W')) (by kernel_rfl) ?_ (fun hh0 => ?_)
            · try dsimp only
              exact ⟨c0, c1, d0, d1, (Below.refl _ _).drew⟩
            refine wpAnyH_take (i := 0) (v := ?_) rfl (by as_aux_lemma => kernel_rfl) (by as_aux_lemma => kernel_rfl) (by as_aux_lemma => kernel_rfl) (fun _ _ _ h => h) (Or.inl ⟨by rfl, ?_⟩) (by assumption) ?_
            rotate_left
            · intro w hSw
              try dsimp only at hSw
              go_simp
              try with_reducible rfl
            try simp only [Act.put, List.getElem_toArray, List.getElem_cons_succ, List.getElem_cons_zero, List.setIfInBounds_toArray, List.set_cons_zero, List.set_cons_succ]
            refine wpAnyH_take (i := 1) (v := ?_) rfl (by as_aux_lemma => kernel_rfl) (by as_aux_lemma => kernel_rfl) (by as_aux_lemma => kernel_rfl) (fun _ _ _ h => h) (Or.inl ⟨by rfl, ?_⟩) (by assumption) ?_
            rotate_left
            · intro w hSw
              try dsimp only at hSw
              go_simp
              try with_reducible rfl
            try simp only [Act.put, List.getElem_toArray, List.getElem_cons_succ, List.getElem_cons_zero, List.setIfInBounds_toArray, List.set_cons_zero, List.set_cons_succ]
            refine wpAnyH_take (i := 2) (v := ?_) rfl (by as_aux_lemma => kernel_rfl) (by as_aux_lemma => kernel_rfl) (by as_aux_lemma => kernel_rfl) (fun _ _ _ h => h) (Or.inl ⟨by rfl, ?_⟩) (by assumption) ?_
            rotate_left
            · intro w hSw
              try dsimp only at hSw
              go_simp
              try with_reducible rfl
            try simp only [Act.put, List.getElem_toArray, List.getElem_cons_succ, List.getElem_cons_zero, List.setIfInBounds_toArray, List.set_cons_zero, List.set_cons_succ]
            refine wpAnyH_take (i := 3) (v := ?_) rfl (by as_aux_lemma => kernel_rfl) (by as_aux_lemma => kernel_rfl) (by as_aux_lemma => kernel_rfl) (fun _ _ _ h => h) (Or.inl ⟨by rfl, ?_⟩) (by assumption) ?_
            rotate_left
            · intro w hSw
              try dsimp only at hSw
              go_simp
              try with_reducible rfl
            try simp only [Act.put, List.getElem_toArray, List.getElem_cons_succ, List.getElem_cons_zero, List.setIfInBounds_toArray, List.set_cons_zero, List.set_cons_succ]
            refine wpAnyH_take (i := 4) (v := ?_) rfl (by as_aux_lemma => kernel_rfl) (by as_aux_lemma => kernel_rfl) (by as_aux_lemma => kernel_rfl) (fun _ _ _ h => h) (Or.inl ⟨by rfl, ?_⟩) (by assumption) ?_
            rotate_left
            · intro w hSw
              try dsimp only at hSw
              go_simp
              try with_reducible rfl
            try simp only [Act.put, List.getElem_toArray, List.getElem_cons_succ, List.getElem_cons_zero, List.setIfInBounds_toArray, List.set_cons_zero, List.set_cons_succ]
            refine wpAnyH_take (i := 5) (v := ?_) rfl (by as_aux_lemma => kernel_rfl) (by as_aux_lemma => kernel_rfl) (by as_aux_lemma => kernel_rfl) (fun _ _ _ h => h) (Or.inl ⟨by rfl, ?_⟩) (by assumption) ?_
            rotate_left
            · intro w hSw
              try dsimp only at hSw
              go_simp
              try with_reducible rfl
            try simp only [Act.put, List.getElem_toArray, List.getElem_cons_succ, List.getElem_cons_zero, List.setIfInBounds_toArray, List.set_cons_zero, List.set_cons_succ]
            refine wpAnyH_take (i := 6) (v := ?_) rfl (by as_aux_lemma => kernel_rfl) (by as_aux_lemma => kernel_rfl) (by as_aux_lemma => kernel_rfl) (fun _ _ _ h => h) (Or.inl ⟨by rfl, ?_⟩) (by assumption) ?_
            rotate_left
            · intro w hSw
              try dsimp only at hSw
              go_simp
              try with_reducible rfl
            try simp only [Act.put, List.getElem_toArray, List.getElem_cons_succ, List.getElem_cons_zero, List.setIfInBounds_toArray, List.set_cons_zero, List.set_cons_succ]
            refine wpAnyH_take (i := 7) (v := ?_) rfl (by as_aux_lemma => kernel_rfl) (by as_aux_lemma => kernel_rfl) (by as_aux_lemma => kernel_rfl) (fun _ _ _ h => h) (Or.inl ⟨by rfl, ?_⟩) (by assumption) ?_
            rotate_left
            · intro w hSw
              try dsimp only at hSw
              go_simp
              try with_reducible rfl
            try simp only [Act.put, List.getElem_toArray, List.getElem_cons_succ, List.getElem_cons_zero, List.setIfInBounds_toArray, List.set_cons_zero, List.set_cons_succ]
            refine wpAnyH_take (i := 8) (v := ?_) rfl (by as_aux_lemma => kernel_rfl) (by as_aux_lemma => kernel_rfl) (by as_aux_lemma => kernel_rfl) (fun _ _ _ h => h) (Or.inl ⟨by rfl, ?_⟩) (by assumption) ?_
            rotate_left
            · intro w hSw
              try dsimp only at hSw
              go_simp
              try with_reducible rfl
            try simp only [Act.put, List.getElem_toArray, List.getElem_cons_succ, List.getElem_cons_zero, List.setIfInBounds_toArray, List.set_cons_zero, List.set_cons_succ]
            refine wpAnyH_take (i := 9) (v := ?_) rfl (by as_aux_lemma => kernel_rfl) (by as_aux_lemma => kernel_rfl) (by as_aux_lemma => kernel_rfl) (fun _ _ _ h => h) (Or.inl ⟨by rfl, ?_⟩) (by assumption) ?_
            rotate_left
            · intro w hSw
              try dsimp only at hSw
              go_simp
              try with_reducible rfl
            try simp only [Act.put, List.getElem_toArray, List.getElem_cons_succ, List.getElem_cons_zero, List.setIfInBounds_toArray, List.set_cons_zero, List.set_cons_succ]
            refine wpAnyH_take (i := 10) (v := ?_) rfl (by as_aux_lemma => kernel_rfl) (by as_aux_lemma => kernel_rfl) (by as_aux_lemma => kernel_rfl) (fun _ _ _ h => h) (Or.inl ⟨by rfl, ?_⟩) (by assumption) ?_
            rotate_left
            · intro w hSw
              try dsimp only at hSw
              go_simp
              try with_reducible rfl
            try simp only [Act.put, List.getElem_toArray, List.getElem_cons_succ, List.getElem_cons_zero, List.setIfInBounds_toArray, List.set_cons_zero, List.set_cons_succ]
            refine wpAnyH_take (i := 11) (v := ?_) rfl (by as_aux_lemma => kernel_rfl) (by as_aux_lemma => kernel_rfl) (by as_aux_lemma => kernel_rfl) (fun _ _ _ h => h) (Or.inl ⟨by rfl, ?_⟩) (by assumption) ?_
            rotate_left
            · intro w hSw
              try dsimp only at hSw
              go_simp
              try with_reducible rfl
            try simp only [Act.put, List.getElem_toArray, List.getElem_cons_succ, List.getElem_cons_zero, List.setIfInBounds_toArray, List.set_cons_zero, List.set_cons_succ]
            refine wpAnyH_take (i := 12) (v := ?_) rfl (by as_aux_lemma => kernel_rfl) (by as_aux_lemma => kernel_rfl) (by as_aux_lemma => kernel_rfl) (fun _ _ _ h => h) (Or.inl ⟨by rfl, ?_⟩) (by assumption) ?_
            rotate_left
            · intro w hSw
              try dsimp only at hSw
              go_simp
              try with_reducible rfl
            try simp only [Act.put, List.getElem_toArray, List.getElem_cons_succ, List.getElem_cons_zero, List.setIfInBounds_toArray, List.set_cons_zero, List.set_cons_succ]
            refine wpAnyH_take (i := 13) (v := ?_) rfl (by as_aux_lemma => kernel_rfl) (by as_aux_lemma => kernel_rfl) (by as_aux_lemma => kernel_rfl) (fun _ _ _ h => h) (Or.inl ⟨by rfl, ?_⟩) (by assumption) ?_
            rotate_left
            · intro w hSw
              try dsimp only at hSw
              go_simp
              try with_reducible rfl
            try simp only [Act.put, List.getElem_toArray, List.getElem_cons_succ, List.getElem_cons_zero, List.setIfInBounds_toArray, List.set_cons_zero, List.set_cons_succ]
            refine wpAnyH_take (i := 14) (v := ?_) rfl (by as_aux_lemma => kernel_rfl) (by as_aux_lemma => kernel_rfl) (by as_aux_lemma => kernel_rfl) (fun _ _ _ h => h) (Or.inl ⟨by rfl, ?_⟩) (by assumption) ?_
            rotate_left
            · intro w hSw
              try dsimp only at hSw
              go_simp
              try with_reducible rfl
            try simp only [Act.put, List.getElem_toArray, List.getElem_cons_succ, List.getElem_cons_zero, List.setIfInBounds_toArray, List.set_cons_zero, List.set_cons_succ]
            refine wpAnyH_take (i := 15) (v := ?_) rfl (by as_aux_lemma => kernel_rfl) (by as_aux_lemma => kernel_rfl) (by as_aux_lemma => kernel_rfl) (fun _ _ _ h => h) (Or.inl ⟨by rfl, ?_⟩) (by assumption) ?_
            rotate_left
            · intro w hSw
              try dsimp only at hSw
              go_simp
              try with_reducible rfl
            try simp only [Act.put, List.getElem_toArray, List.getElem_cons_succ, List.getElem_cons_zero, List.setIfInBounds_toArray, List.set_cons_zero, List.set_cons_succ]
            refine wpAnyH_take (i := 16) (v := ?_) rfl (by as_aux_lemma => kernel_rfl) (by as_aux_lemma => kernel_rfl) (by as_aux_lemma => kernel_rfl) (fun _ _ _ h => h) (Or.inl ⟨by rfl, ?_⟩) (by assumption) ?_
            rotate_left
            · intro w hSw
              try dsimp only at hSw
              go_simp
              try with_reducible rfl
            try simp only [Act.put, List.getElem_toArray, List.getElem_cons_succ, List.getElem_cons_zero, List.setIfInBounds_toArray, List.set_cons_zero, List.set_cons_succ]
            refine wpAnyH_take (i := 17) (v := ?_) rfl (by as_aux_lemma => kernel_rfl) (by as_aux_lemma => kernel_rfl) (by as_aux_lemma => kernel_rfl) (fun _ _ _ h => h) (Or.inl ⟨by rfl, ?_⟩) (by assumption) ?_
            rotate_left
            · intro w hSw
              try dsimp only at hSw
              go_simp
              try with_reducible rfl
            try simp only [Act.put, List.getElem_toArray, List.getElem_cons_succ, List.getElem_cons_zero, List.setIfInBounds_toArray, List.set_cons_zero, List.set_cons_succ]
            refine wpAnyH_take (i := 18) (v := ?_) rfl (by as_aux_lemma => kernel_rfl) (by as_aux_lemma => kernel_rfl) (by as_aux_lemma => kernel_rfl) (fun _ _ _ h => h) (Or.inl ⟨by rfl, ?_⟩) (by assumption) ?_
            rotate_left
            · intro w hSw
              try dsimp only at hSw
              go_simp
              try with_reducible rfl
            try simp only [Act.put, List.getElem_toArray, List.getElem_cons_succ, List.getElem_cons_zero, List.setIfInBounds_toArray, List.set_cons_zero, List.set_cons_succ]
            refine wpAnyH_take (i := 19) (v := ?_) rfl (by as_aux_lemma => kernel_rfl) (by as_aux_lemma => kernel_rfl) (by as_aux_lemma => kernel_rfl) (fun _ _ _ h => h) (Or.inl ⟨by rfl, ?_⟩) (by assumption) ?_
            rotate_left
            · intro w hSw
              try dsimp only at hSw
              go_simp
              try with_reducible rfl
            try simp only [Act.put, List.getElem_toArray, List.getElem_cons_succ, List.getElem_cons_zero, List.setIfInBounds_toArray, List.set_cons_zero, List.set_cons_succ]
            refine wpAnyH_ready (rs := [20]) (by as_aux_lemma => kernel_rfl) (by simp) ?_
            refine AllReadyH.cons rfl (fun K hK => ?_) AllReadyH.nil
            go_simp
            refine (lspan_any _ _ _).mono ?_
            rintro e ws ⟨rfl, hbs⟩
            refine hK.out _ _ ?_ (fun hh1 => ?_)
            · try dsimp only
              exact ⟨keepC hh0.1 hbs, keepC hh0.2.1 hbs, keepC hh0.2.2.1 hbs, keepC hh0.2.2.2.1 hbs, hh0.2.2.2.2.trans (hbs.mono hh0.2.2.2.2.size)⟩
            clear hK K hh0
            try simp only [Act.put, List.getElem_toArray, List.getElem_cons_succ, List.getElem_cons_zero, List.setIfInBounds_toArray, List.set_cons_zero, List.set_cons_succ]
            refine wpAnyH_take (i := 21) (v := ?_) rfl (by as_aux_lemma => kernel_rfl) (by as_aux_lemma => kernel_rfl) (by as_aux_lemma => kernel_rfl) (fun _ _ _ h => h) (Or.inl ⟨by rfl, ?_⟩) (by assumption) ?_
            rotate_left
            · intro w hSw
              try dsimp only at hSw
              go_simp
              try with_reducible rfl
            try simp only [Act.put, List.getElem_toArray, List.getElem_cons_succ, List.getElem_cons_zero, List.setIfInBounds_toArray, List.set_cons_zero, List.set_cons_succ]
            refine wpAnyH_done (by as_aux_lemma => kernel_rfl) ?_ _
            refine NoPanic.normal ?_
            go_wp2
            go_roundg (gk - 1)
            case measure => omega
            case rel => exact ⟨k + 1, by omega, by go_num, HL.out.trans (hh1.2.2.2.2.mono HL.out.size)⟩
          · obtain rfl : k = ln := by omega
            clear hlt hk HGG HBB HX HZ HL
            go_wp2_with fail
            have HL := Lib.hid (Below.refl wr7.heap.size wr7)
            go_loopg [18] 2 (fun g i wr => ∃ k : Nat, g + k = 2 ∧ i = .int .i64 k ∧ Hid (Below wr7.heap.size wr7 wr))
            case atStart => exact ⟨0, by omega, rfl, HL.out⟩
            case round =>
              clear HL
              obtain ⟨k, hk, rfl, HL⟩ := hrel
              obtain ⟨wr8, hwr⟩ : ∃ wr8, wr = wr8 := ⟨_, rfl⟩
              rw [hwr] at HL ⊢
              clear hwr
              have hb := HL.out
              have HB' := Lib.hid (HB.out.trans (hb.mono HB.out.size))
              have HP' := Lib.hid (HP.out.below hb)
              have HR' := Lib.hid ((hb.block _ (lt_of_block HR.out)).trans HR.out)
              have HT' := Lib.hid (HT.out.below hb)
              have HJ' := Lib.hid ((hb.block _ (lt_of_block HJ.out)).trans HJ.out)
              clear HB
              have HB := HB'
              clear HB'
              clear HP
              have HP := HP'
              clear HP'
              clear HR
              have HR := HR'
              clear HR'
              clear HT
              have HT := HT'
              clear HT'
              clear HJ
              have HJ := HJ'
              clear HJ'
              clear hb
              have hk3 : k = 0 ∨ k = 1 ∨ k = 2 := by omega
              rcases hk3 with rfl | rfl | rfl
              · obtain rfl : gk = 2 := by omega
                have HL2 := HL
                clear HL hk
                obtain ⟨hs10, hs9, hup⟩ := HBQ.out false
                obtain ⟨⟨s, a, b, c⟩, HQ⟩ : ∃ q : List Int × Int × Int × Int, Hid (bestR ⟨st, pts⟩ false = q) := ⟨_, rfl⟩
                rw [HQ.out] at hs10 hs9 hup
                have HQ2 := Lib.hid hup
                have HS9 := Lib.hid hs9
                clear hup hs9
                simp only at hs10
                obtain ⟨sn, hsn⟩ : ∃ sn, s.length = sn := ⟨_, rfl⟩
                rw [hsn] at hs10
                have HSN := Lib.hid hsn
                clear hsn
                have ra := cellOf HR.out 0 _ rfl
                have rb := cellOf HR.out 1 _ rfl
                have rl := lt_of_block HR.out
                go_wp2_with fail
                clear ra rb rl
                have hcall := Best_any ⟨st, pts⟩ false _ wr8 HP.out
                rw [HQ.out] at hcall
                simp only at hcall
                refine hcall.mono ?_
                clear hcall
                rintro e w9 ⟨v4, rfl, hown, hb⟩
                have HB' := Lib.hid (HB.out.trans (hb.mono HB.out.size))
                have HP' := Lib.hid (HP.out.below hb)
                have HR' := Lib.hid ((hb.block _ (lt_of_block HR.out)).trans HR.out)
                have HT' := Lib.hid (HT.out.below hb)
                have HJ' := Lib.hid ((hb.block _ (lt_of_block HJ.out)).trans HJ.out)
                have HL2' := Lib.hid (HL2.out.trans (hb.mono HL2.out.size))
                clear HB
                have HB := HB'
                clear HB'
                clear HP
                have HP := HP'
                clear HP'
                clear HR
                have HR := HR'
                clear HR'
                clear HT
                have HT := HT'
                clear HT'
                clear HJ
                have HJ := HJ'
                clear HJ'
                clear HL2
                have HL2 := HL2'
                clear HL2'
                clear hb
                have hsi := intsAt_own hown (by rw [HSN.out]; omega)
                obtain ⟨ua, uc, rfl⟩ := own_slice hown
                rw [HSN.out] at hsi ⊢
                have HSI := Lib.hid hsi
                clear hown hsi HQ
                have ja := cellOf HJ.out 0 _ rfl
                have jb := cellOf HJ.out 1 _ rfl
                have jl := lt_of_block HJ.out
                go_wp2_with fail
                clear ja jb jl
                have hcall := Best_any ⟨st, up⟩ false _ w9 HT.out
                rw [HQ2.out] at hcall
                simp only at hcall
                refine hcall.mono ?_
                clear hcall
                rintro e w10 ⟨v5, rfl, hown, hb⟩
                have HB' := Lib.hid (HB.out.trans (hb.mono HB.out.size))
                have HP' := Lib.hid (HP.out.below hb)
                have HR' := Lib.hid ((hb.block _ (lt_of_block HR.out)).trans HR.out)
                have HT' := Lib.hid (HT.out.below hb)
                have HJ' := Lib.hid ((hb.block _ (lt_of_block HJ.out)).trans HJ.out)
                have HL2' := Lib.hid (HL2.out.trans (hb.mono HL2.out.size))
                have HSI' := Lib.hid (HSI.out.below hb)
                clear HB
                have HB := HB'
                clear HB'
                clear HP
                have HP := HP'
                clear HP'
                clear HR
                have HR := HR'
                clear HR'
                clear HT
                have HT := HT'
                clear HT'
                clear HJ
                have HJ := HJ'
                clear HJ'
                clear HL2
                have HL2 := HL2'
                clear HL2'
                clear HSI
                have HSI := HSI'
                clear HSI'
                clear hb
                have hsi := intsAt_own hown (by rw [List.length_map, HSN.out]; omega)
                obtain ⟨va, vc, rfl⟩ := own_slice hown
                rw [List.length_map, HSN.out] at hsi ⊢
                have HTI := Lib.hid hsi
                clear hown hsi HQ2
                go_wp2_with fail
                have HL := Lib.hid (Below.refl w10.heap.size w10)
                go_loopg [27] sn (fun g i wr => ∃ k : Nat, g + k = sn ∧ i = .int .i64 k ∧ Hid (Below w10.heap.size w10 wr))
                case atStart => exact ⟨0, by omega, rfl, HL.out⟩
                case round =>
                  clear HL
                  obtain ⟨k, hk, rfl, HL⟩ := hrel
                  obtain ⟨wr11, hwr⟩ : ∃ wr11, wr = wr11 := ⟨_, rfl⟩
                  rw [hwr] at HL ⊢
                  clear hwr
                  have hb := HL.out
                  have HB' := Lib.hid (HB.out.trans (hb.mono HB.out.size))
                  have HP' := Lib.hid (HP.out.below hb)
                  have HR' := Lib.hid ((hb.block _ (lt_of_block HR.out)).trans HR.out)
                  have HT' := Lib.hid (HT.out.below hb)
                  have HJ' := Lib.hid ((hb.block _ (lt_of_block HJ.out)).trans HJ.out)
                  have HL2' := Lib.hid (HL2.out.trans (hb.mono HL2.out.size))
                  have HSI' := Lib.hid (HSI.out.below hb)
                  have HTI' := Lib.hid (HTI.out.below hb)
                  clear HB
                  have HB := HB'
                  clear HB'
                  clear HP
                  have HP := HP'
                  clear HP'
                  clear HR
                  have HR := HR'
                  clear HR'
                  clear HT
                  have HT := HT'
                  clear HT'
                  clear HJ
                  have HJ := HJ'
                  clear HJ'
                  clear HL2
                  have HL2 := HL2'
                  clear HL2'
                  clear HSI
                  have HSI := HSI'
                  clear HSI'
                  clear HTI
                  have HTI := HTI'
                  clear HTI'
                  clear hb
                  by_cases hlt : k < sn
                  · skip
                    obtain ⟨b1, o1, rfl, c0⟩ := HSI.out.get (show k < s.length by rw [HSN.out]; exact hlt)
                    obtain ⟨b2, o2, rfl, d0⟩ := HTI.out.get (show k < (s.map (· + n)).length by rw [List.length_map, HSN.out]; exact hlt)
                    obtain ⟨x0, x9⟩ := HS9.out (s[k]'(by rw [HSN.out]; exact hlt)) (List.getElem_mem _)
                    rw [List.getElem_map] at d0
                    generalize s[k]'(by rw [HSN.out]; exact hlt) = x at *
                    have kI : (k : Int) < (sn : Int) := by omega
                    have sn10 : (sn : Int) ≤ 10 := by omega
                    go_wp2_with fail
                    go_quiet (fail)
                    go_wp2
                    go_roundg (gk - 1)
                    case measure => omega
                    case rel => exact ⟨k + 1, by omega, by go_num, HL.out.trans (Below.mono (B := wr11.heap.size) ⟨rfl, rfl, rfl, Nat.le_refl _, fun _ _ => rfl⟩ HL.out.size)⟩
                  · obtain rfl : k = sn := by omega
                    clear hlt hk HSI HTI HL
                    go_wp2
                    go_roundg 1
                    case measure => omega
                    case rel => exact ⟨1, by omega, by go_num, HL2.out⟩
              · obtain rfl : gk = 1 := by omega
                have HL2 := HL
                clear HL hk
                obtain ⟨hs10, hs9, hup⟩ := HBQ.out true
                obtain ⟨⟨s, a, b, c⟩, HQ⟩ : ∃ q : List Int × Int × Int × Int, Hid (bestR ⟨st, pts⟩ true = q) := ⟨_, rfl⟩
                rw [HQ.out] at hs10 hs9 hup
                have HQ2 := Lib.hid hup
                have HS9 := Lib.hid hs9
                clear hup hs9
                simp only at hs10
                obtain ⟨sn, hsn⟩ : ∃ sn, s.length = sn := ⟨_, rfl⟩
                rw [hsn] at hs10
                have HSN := Lib.hid hsn
                clear hsn
                have ra := cellOf HR.out 0 _ rfl
                have rb := cellOf HR.out 1 _ rfl
                have rl := lt_of_block HR.out
                go_wp2_with fail
                clear ra rb rl
                have hcall := Best_any ⟨st, pts⟩ true _ wr8 HP.out
                rw [HQ.out] at hcall
                simp only at hcall
                refine hcall.mono ?_
                clear hcall
                rintro e w12 ⟨v4, rfl, hown, hb⟩
                have HB' := Lib.hid (HB.out.trans (hb.mono HB.out.size))
                have HP' := Lib.hid (HP.out.below hb)
                have HR' := Lib.hid ((hb.block _ (lt_of_block HR.out)).trans HR.out)
                have HT' := Lib.hid (HT.out.below hb)
                have HJ' := Lib.hid ((hb.block _ (lt_of_block HJ.out)).trans HJ.out)
                have HL2' := Lib.hid (HL2.out.trans (hb.mono HL2.out.size))
                clear HB
                have HB := HB'
                clear HB'
                clear HP
                have HP := HP'
                clear HP'
                clear HR
                have HR := HR'
                clear HR'
                clear HT
                have HT := HT'
                clear HT'
                clear HJ
                have HJ := HJ'
                clear HJ'
                clear HL2
                have HL2 := HL2'
                clear HL2'
                clear hb
                have hsi := intsAt_own hown (by rw [HSN.out]; omega)
                obtain ⟨ua, uc, rfl⟩ := own_slice hown
                rw [HSN.out] at hsi ⊢
                have HSI := Lib.hid hsi
                clear hown hsi HQ
                have ja := cellOf HJ.out 0 _ rfl
                have jb := cellOf HJ.out 1 _ rfl
                have jl := lt_of_block HJ.out
                go_wp2_with fail
                clear ja jb jl
                have hcall := Best_any ⟨st, up⟩ true _ w12 HT.out
                rw [HQ2.out] at hcall
                simp only at hcall
                refine hcall.mono ?_
                clear hcall
                rintro e w13 ⟨v5, rfl, hown, hb⟩
                have HB' := Lib.hid (HB.out.trans (hb.mono HB.out.size))
                have HP' := Lib.hid (HP.out.below hb)
                have HR' := Lib.hid ((hb.block _ (lt_of_block HR.out)).trans HR.out)
                have HT' := Lib.hid (HT.out.below hb)
                have HJ' := Lib.hid ((hb.block _ (lt_of_block HJ.out)).trans HJ.out)
                have HL2' := Lib.hid (HL2.out.trans (hb.mono HL2.out.size))
                have HSI' := Lib.hid (HSI.out.below hb)
                clear HB
                have HB := HB'
                clear HB'
                clear HP
                have HP := HP'
                clear HP'
                clear HR
                have HR := HR'
                clear HR'
                clear HT
                have HT := HT'
                clear HT'
                clear HJ
                have HJ := HJ'
                clear HJ'
                clear HL2
                have HL2 := HL2'
                clear HL2'
                clear HSI
                have HSI := HSI'
                clear HSI'
                clear hb
                have hsi := intsAt_own hown (by rw [List.length_map, HSN.out]; omega)
                obtain ⟨va, vc, rfl⟩ := own_slice hown
                rw [List.length_map, HSN.out] at hsi ⊢
                have HTI := Lib.hid hsi
                clear hown hsi HQ2
                go_wp2_with fail
                have HL := Lib.hid (Below.refl w13.heap.size w13)
                go_loopg [27] sn (fun g i wr => ∃ k : Nat, g + k = sn ∧ i = .int .i64 k ∧ Hid (Below w13.heap.size w13 wr))
                case atStart => exact ⟨0, by omega, rfl, HL.out⟩
                case round =>
                  clear HL
                  obtain ⟨k, hk, rfl, HL⟩ := hrel
                  obtain ⟨wr14, hwr⟩ : ∃ wr14, wr = wr14 := ⟨_, rfl⟩
                  rw [hwr] at HL ⊢
                  clear hwr
                  have hb := HL.out
                  have HB' := Lib.hid (HB.out.trans (hb.mono HB.out.size))
                  have HP' := Lib.hid (HP.out.below hb)
                  have HR' := Lib.hid ((hb.block _ (lt_of_block HR.out)).trans HR.out)
                  have HT' := Lib.hid (HT.out.below hb)
                  have HJ' := Lib.hid ((hb.block _ (lt_of_block HJ.out)).trans HJ.out)
                  have HL2' := Lib.hid (HL2.out.trans (hb.mono HL2.out.size))
                  have HSI' := Lib.hid (HSI.out.below hb)
                  have HTI' := Lib.hid (HTI.out.below hb)
                  clear HB
                  have HB := HB'
                  clear HB'
                  clear HP
                  have HP := HP'
                  clear HP'
                  clear HR
                  have HR := HR'
                  clear HR'
                  clear HT
                  have HT := HT'
                  clear HT'
                  clear HJ
                  have HJ := HJ'
                  clear HJ'
                  clear HL2
                  have HL2 := HL2'
                  clear HL2'
                  clear HSI
                  have HSI := HSI'
                  clear HSI'
                  clear HTI
                  have HTI := HTI'
                  clear HTI'
                  clear hb
                  by_cases hlt : k < sn
                  · skip
                    obtain ⟨b1, o1, rfl, c0⟩ := HSI.out.get (show k < s.length by rw [HSN.out]; exact hlt)
                    obtain ⟨b2, o2, rfl, d0⟩ := HTI.out.get (show k < (s.map (· + n)).length by rw [List.length_map, HSN.out]; exact hlt)
                    obtain ⟨x0, x9⟩ := HS9.out (s[k]'(by rw [HSN.out]; exact hlt)) (List.getElem_mem _)
                    rw [List.getElem_map] at d0
                    generalize s[k]'(by rw [HSN.out]; exact hlt) = x at *
                    have kI : (k : Int) < (sn : Int) := by omega
                    have sn10 : (sn : Int) ≤ 10 := by omega
                    go_wp2_with fail
                    go_quiet (fail)
                    go_wp2
                    go_roundg (gk - 1)
                    case measure => omega
                    case rel => exact ⟨k + 1, by omega, by go_num, HL.out.trans (Below.mono (B := wr14.heap.size) ⟨rfl, rfl, rfl, Nat.le_refl _, fun _ _ => rfl⟩ HL.out.size)⟩
                  · obtain rfl : k = sn := by omega
                    clear hlt hk HSI HTI HL
                    go_wp2
                    go_roundg 0
                    case measure => omega
                    case rel => exact ⟨2, by omega, by go_num, HL2.out⟩
              · obtain rfl : gk = 0 := by omega
                go_wp2_with fail
                have hcall := awake_any wr8
                refine hcall.mono ?_
                clear hcall
                rintro e w15 ⟨rfl, hb⟩
                have HB' := Lib.hid (HB.out.trans (hb.mono HB.out.size))
                have HP' := Lib.hid (HP.out.below hb)
                have HR' := Lib.hid ((hb.block _ (lt_of_block HR.out)).trans HR.out)
                have HT' := Lib.hid (HT.out.below hb)
                have HJ' := Lib.hid ((hb.block _ (lt_of_block HJ.out)).trans HJ.out)
                have HL' := Lib.hid (HL.out.trans (hb.mono HL.out.size))
                clear HB
                have HB := HB'
                clear HB'
                clear HP
                have HP := HP'
                clear HP'
                clear HR
                have HR := HR'
                clear HR'
                clear HT
                have HT := HT'
                clear HT'
                clear HJ
                have HJ := HJ'
                clear HJ'
                clear HL
                have HL := HL'
                clear HL'
                clear hb
                go_wp2
                go_ret
                exact ⟨rfl, HB.out⟩

set_option maxRecDepth 100000 in
set_option maxHeartbeats 16000000 in
theorem lraise_any (r : Row) (pv : Value) (n : Int) (n0 : 0 ≤ n) (n9 : n ≤ 65535) (w : World) (hP : PtsAt w pv r.pts) :
    Calls Try.prog 14 #[.agg #[.int .i64 r.st, pv], .int .u16 n] w fun e w' => e = .returned (.bool true) ∧ Below w.heap.size w w' := by
  obtain ⟨st, pts⟩ := r
  simp only at hP ⊢
  obtain ⟨lp, pa, pc, rfl, _, _⟩ := id hP
  by_cases hv : errR ⟨st, pts⟩ = 0
  · have hno : (bestR ⟨st, pts⟩ false).2.2.2 = 0 → (pts.all fun p => decide (p.hi < p.bd)) = true → (bestR ⟨st, pts⟩ false).2.1 = 0 := fun h1 h2 => above_none ⟨st, pts⟩ hv h1 h2
    by_cases hu : errR ⟨st, pts.map (upP n)⟩ = 0
    · obtain ⟨b1, b2, b3⟩ := up_bounds n ⟨st, pts⟩ hv hu
      have hl : (boundsR ⟨st, pts⟩).1.length ≤ 10 := by
        unfold boundsR
        split
        · show (bandsR ⟨st, pts⟩).length ≤ 10
          rw [bandsR_length]; exact ((check_valid _).1 hv).n10
        · exact Nat.zero_le _
      exact lraise_ok st pts pa pc n n0 n9 w hP hv _ rfl _ rfl _ _ _ rfl hno hu (boundsR ⟨st, pts⟩).1 (boundsR (upR n ⟨st, pts⟩)).1 (boundsR ⟨st, pts⟩).2 _ hl rfl (by show _ = _; rw [← b1]; rfl) rfl b2 (bands_bd ⟨st, pts⟩ hv) b3 (fun q => ⟨(best_bd ⟨st, pts⟩ hv q).1, (best_bd ⟨st, pts⟩ hv q).2, up_best n ⟨st, pts⟩ hv hu q⟩)
    · exact lraise_bad st pts pa pc n n0 n9 w hP hv _ rfl _ rfl _ _ _ rfl hno hu
  · exact lraise_no st pts pa pc n n0 n9 w hP hv

end Go.Proofs.Ytnciomoapajonaa
namespace Go.Proofs.Ytnciomoapajonaa
namespace ClaimCarveRaised
open Go.ChangeShapes Go.WideShapes Go.ChangeAt Go.RowKit

theorem own : ownKnob Try.prog.godebug = none := by kernel_rfl
theorem laidOutP : laidOutB Try.prog = true := by kernel_rfl

set_option maxRecDepth 100000 in
theorem contract (H : Type) (enc : TypeId × Value → H) (W : World) (base : Nat) (args : Array Value) (ds gs : List (DataW H)) (before : List MemPlace)
    (hval : ∀ (j : Nat) t v, Try.f14.params[j]? = some t → args[j]? = some v → Value.okWide Try.prog W .any base t v)
    (hW : DataW.Whole enc Try.prog Try.f14.params.toList Rows.carveRaisedSpec.vars false W args.toList ds gs before)
    (hsz : (DataW.weightsEach Try.prog (Try.f14.params.toList ++ Rows.carveRaisedSpec.plain.varTypes Try.prog) (ds ++ gs)).all (· ≤ reachBytes) = true) :
    Calls Try.prog 14 args W fun e W' => ∃ v, e = .returned v ∧ Rows.carveRaisedSpec.post enc Try.prog Try.f14 false true false false W args v W' := by
  have hW' := hW
  obtain ⟨p, q, hA0, hV, rfl, hfz, hnd⟩ := hW
  have hA : DataW.TrodAll enc Try.prog W 0 (fun _ => true) true Try.f14.params.toList args.toList ds p := hA0
  rw [Try.params14] at hA hval hsz
  obtain ⟨v0, vs0, d0, ds0, p0, q0, hargs, rfl, rfl, h0, r0⟩ := trodAll_cons hA
  obtain ⟨v1, vs1, d1, ds1, p1, q1, rfl, rfl, rfl, h1, r1⟩ := trodAll_cons r0
  obtain ⟨rfl, rfl, rfl⟩ := trodAll_nil r1
  obtain rfl : args = #[v0, v1] := by cases args; simp_all
  obtain ⟨rfl, rfl⟩ := trodVars_none hV
  have w0 : ∀ x ∈ d0.weights Try.prog 24, x ≤ reachBytes := fun x hx => of_decide_eq_true (List.all_eq_true.1 hsz _ (DataW.weights_mem_each (j := 0) (t := 24) (d := d0) rfl rfl x hx))
  obtain ⟨r, pv, rfl, hP, hs0, hs9⟩ := open_row (hval 0 24 v0 rfl rfl) h0 w0
  obtain ⟨n1, rfl, _, _, k1⟩ := open_int Try.underlying65 (hval 1 65 v1 rfl rfl) h1
  have b1 : 0 ≤ n1 ∧ n1 ≤ 65535 := by simpa [Lit.wf, IntKind.min, IntKind.max, IntKind.signed, IntKind.bits] using k1
  clear hA0
  refine (lraise_any r pv n1 b1.1 b1.2 W hP ).mono fun e W' ⟨he, hb⟩ => ?_
  subst he
  exact ⟨_, rfl, post_law laidOutP (by rw [Try.params14]; intro t ht; simp at ht; rcases ht with rfl | rfl <;> exact ⟨by kernel_rfl, of_decide_eq_true (by kernel_rfl)⟩) rfl rfl Try.underlying4 rfl hW' hb⟩

set_option maxRecDepth 100000 in
theorem lifted (os : Os) (started : os.Started) (H : Type) (enc : TypeId × Value → H) :
    ReturnsInHanded {} Try.checked os 14 .any (Rows.carveRaisedSpec.pre6 enc Try.prog Try.f14 Rows.carveRaisedRow.domain false) (Rows.carveRaisedSpec.post enc Try.prog Try.f14 false true false false) := by
  refine returnsInHanded_of_change_sized (C := Try.checked) own started (by kernel_rfl) Try.func14
    (ChangeSpec.witness6 (enc := enc) (C := Try.checked) false ⟨#[], #[.agg #[.int .i64 0, .slice none 0 0], .int .u16 0], []⟩ 8 (by kernel_rfl) (by kernel_rfl) (by kernel_rfl) (by kernel_rfl)) ?_
  intro W base args ds gs before hval hW _ hsz _
  exact contract H enc W base args ds gs before hval hW hsz

theorem over : Rows.CarveRaisedSaid :=
  OpenClaim.holds_of_wide 14 Try.f14 rfl rfl rfl rfl rfl rfl rfl ⟨rfl, rfl, rfl, rfl, rfl⟩ rfl rfl rfl rfl rfl (by kernel_rfl) Try.func14 (by kernel_rfl)
    (of_decide_eq_true (by kernel_rfl)) (by unfold Func.isWrapper; first | (rw [if_pos (by decide +kernel)]; kernel_rfl) | (rw [if_neg (by decide +kernel)]; exact ⟨rfl, rfl⟩))
    (fun os started H enc _ => lifted os started H enc)
end ClaimCarveRaised

theorem carveRaised_holds : Rows.CarveRaisedSaid := ClaimCarveRaised.over
end Go.Proofs.Ytnciomoapajonaa
