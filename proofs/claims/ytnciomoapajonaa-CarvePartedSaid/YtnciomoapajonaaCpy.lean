/- CarveParted: the call returns true, whatever its arguments and the memory in which it begins; its arguments read as they did. -/
import Derived.Test.YtnciomoapajonaaRgc
import Derived.Test.YtnciomoapajonaaCxe
import Derived.Test.YtnciomoapajonaaCxf
import Derived.Test.YtnciomoapajonaaCwn
import Derived.Laws.AppendOwn
import Derived.OwnWalk
import Derived.Test.YtnciomoapajonaaCxg
import Derived.Deep.DeepCutAuto
import Derived.BigRegion
import Derived.BigQuiet
import Derived.Test.YtnciomoapajonaaRows
import Derived.Test.YtnciomoapajonaaCar
import Derived.ProofKit
import Derived.JoinedOf
import Derived.JoinedAt
set_option linter.unusedSimpArgs false
set_option linter.unusedVariables false
namespace Go.Proofs.Ytnciomoapajonaa
open Go Go.RowKit Cv

theorem best_cases (r : Row) (h : errR r = 0) : (crossB r = true ∧ ∀ q, bestR r q = ([], 0, 0, 9)) ∨ (crossB r = false ∧ ∀ q, ∃ s, bestR r q = (s, fillsN r.pts s r.pts.length, manyL 0 (deepN r.pts s r.pts.length), 0) ∧ s.length = r.pts.length ∧ (∀ x, x ∈ s → 0 ≤ x ∧ x ≤ 9000) ∧ goodV r s = true ∧
    ∀ t, t.length = r.pts.length → goodV r t = true → ltN q (fillsN r.pts t r.pts.length, manyL 0 (deepN r.pts t r.pts.length)) (fillsN r.pts s r.pts.length, manyL 0 (deepN r.pts s r.pts.length)) = false) := by
  have hv := (check_valid r).1 h
  cases hc : crossB r
  · refine .inr ⟨rfl, fun q => ?_⟩
    have hb := best_is r hv hc q
    obtain ⟨hg, hn, hm⟩ := refL_some r.st q r.pts none _ hb
    simp only at hg hn hm
    have hl := hg.length
    refine ⟨surfL r.st q (bndR r) none, ?_, hl, ?_, (goodV_iff r _ hl).2 hg, fun t ht htg => ?_⟩
    · have e : boundE r = 0 := by unfold boundE; rw [h, hc]; rfl
      unfold bestR
      rw [if_pos e]
      have e2 : (wayK r q 0 none).2 = (wayL r.st q (bndR r) none).2 := by simp [wayK]
      rw [e2, hn, needS_is _ _ _ hl]
      rfl
    · intro x hx
      obtain ⟨i, hi, rfl⟩ := List.mem_iff_getElem.1 hx
      have := ((goodL_iff _ _ _ _).1 hg).2.1 i (by omega)
      have hp := hv.ok r.pts[i] (List.getElem_mem (by omega))
      rw [List.getD_eq_getElem?_getD, List.getElem?_eq_getElem (by omega), List.getD_eq_getElem?_getD, List.getElem?_eq_getElem hi] at this
      simp only [Option.getD_some] at this
      have := hp.l0
      have := hp.h9
      omega
    · have := hm t ((goodV_iff r t ht).1 htg)
      rw [hn, needS_is _ _ _ hl, needS_is _ _ _ ht] at this
      exact this
  · refine .inl ⟨rfl, fun q => ?_⟩
    have e : boundE r = 9 := by unfold boundE; rw [h, hc]; rfl
    unfold bestR
    rw [e]
    rfl
end Go.Proofs.Ytnciomoapajonaa
namespace Go.Proofs.Ytnciomoapajonaa
open Go Go.RowKit Cv

theorem getD_takeP (l : List Pt) (m k : Nat) (h : k < m) : (l.take m).getD k default = l.getD k default := by
  simp [List.getD_eq_getElem?_getD, List.getElem?_take, h]
theorem getD_takeI (l : List Int) (m k : Nat) (h : k < m) : (l.take m).getD k 0 = l.getD k 0 := by
  simp [List.getD_eq_getElem?_getD, List.getElem?_take, h]
theorem getD_dropI (l : List Int) (i k : Nat) : (l.drop i).getD k 0 = l.getD (i + k) 0 := by simp [List.getD_eq_getElem?_getD]
theorem good_take (st : Int) (l : List Pt) (s : List Int) (i : Nat) (hi : i < l.length) (h : GoodL st none l s) : GoodL st none (l.take (i + 1)) (s.take (i + 1)) := by
  obtain ⟨hl, h1, h2, _⟩ := (goodL_iff _ _ _ _).1 h
  refine (goodL_iff _ _ _ _).2 ⟨by simp [hl], fun k hk => ?_, fun k hk => ?_, fun _ => rfl⟩
  · have hk' : k < i + 1 := by rw [List.length_take] at hk; omega
    rw [getD_takeP _ _ _ hk', getD_takeI _ _ _ hk']
    exact h1 k (by omega)
  · have hk' : k + 1 < i + 1 := by rw [List.length_take] at hk; omega
    rw [getD_takeI _ _ _ hk', getD_takeI _ _ _ (show k < i + 1 by omega)]
    exact h2 k (by omega)
theorem good_drop (st : Int) (l : List Pt) (s : List Int) (i : Nat) (h : GoodL st none l s) : GoodL st none (l.drop i) (s.drop i) := by
  obtain ⟨hl, h1, h2, _⟩ := (goodL_iff _ _ _ _).1 h
  refine (goodL_iff _ _ _ _).2 ⟨by simp [hl], fun k hk => ?_, fun k hk => ?_, fun _ => rfl⟩
  · rw [List.length_drop] at hk
    rw [getD_drop, getD_dropI]
    exact h1 (i + k) (by omega)
  · rw [List.length_drop] at hk
    rw [getD_dropI, getD_dropI]
    have := h2 (i + k) (by omega)
    rw [show i + (k + 1) = i + k + 1 by omega]
    exact this
/-- Two parts that meet in one height. -/
theorem good_join (st : Int) (l : List Pt) (u : List Int) (i : Nat) (hi : i < l.length) (hl : u.length = l.length) (ha : GoodL st none (l.take (i + 1)) (u.take (i + 1))) (hb : GoodL st none (l.drop i) (u.drop i)) : GoodL st none l u := by
  obtain ⟨_, a1, a2, _⟩ := (goodL_iff _ _ _ _).1 ha
  obtain ⟨_, b1, b2, _⟩ := (goodL_iff _ _ _ _).1 hb
  refine (goodL_iff _ _ _ _).2 ⟨hl, fun k hk => ?_, fun k hk => ?_, fun _ => rfl⟩
  · rcases Nat.lt_or_ge k (i + 1) with q | q
    · have := a1 k (by rw [List.length_take]; omega)
      rwa [getD_takeP _ _ _ q, getD_takeI _ _ _ q] at this
    · have := b1 (k - i) (by rw [List.length_drop]; omega)
      rw [getD_drop, getD_dropI, show i + (k - i) = k by omega] at this
      exact this
  · rcases Nat.lt_or_ge (k + 1) (i + 1) with q | q
    · have := a2 k (by rw [List.length_take]; omega)
      rwa [getD_takeI _ _ _ q, getD_takeI _ _ _ (show k < i + 1 by omega)] at this
    · have := b2 (k - i) (by rw [List.length_drop]; omega)
      rw [getD_dropI, getD_dropI, show i + (k - i) = k by omega, show i + (k - i + 1) = k + 1 by omega] at this
      exact this
theorem fillsN_take (l : List Pt) (s : List Int) (m : Nat) : ∀ k, k ≤ m → fillsN (l.take m) (s.take m) k = fillsN l s k := by
  intro k
  induction k with
  | zero => intro _; rfl
  | succ k ih =>
    intro h
    rw [fillsN, fillsN, ih (by omega), getD_takeP _ _ _ (by omega), getD_takeI _ _ _ (by omega)]
theorem fillsN_add (l : List Pt) (s : List Int) (a : Nat) : ∀ b, fillsN l s (a + b) = fillsN l s a + fillsN (l.drop a) (s.drop a) b := by
  intro b
  induction b with
  | zero => simp [fillsN]
  | succ b ih =>
    rw [show a + (b + 1) = a + b + 1 by omega, fillsN, ih, fillsN, getD_drop, getD_dropI]
    omega
theorem fills_parts (l : List Pt) (s : List Int) (i : Nat) (hi : i < l.length) (hl : s.length = l.length) :
    fillsN l s l.length = fillsN (l.take (i + 1)) (s.take (i + 1)) (l.take (i + 1)).length + fillsN (l.drop i) (s.drop i) (l.drop i).length - max 0 (s.getD i 0 - (l.getD i default).bd) := by
  rw [List.length_take, List.length_drop, show min (i + 1) l.length = i + 1 by omega, fillsN_take l s (i + 1) (i + 1) (Nat.le_refl _), fillsN]
  have := fillsN_add l s i (l.length - i)
  rw [show i + (l.length - i) = l.length by omega] at this
  omega
theorem best_none (r : Row) (h : errR r = 0) : (crossB r = true ∧ (bestR r false).2.2.2 = 9) ∨ (crossB r = false ∧ (bestR r false).2.2.2 = 0 ∧ ∃ s, GoodL r.st none r.pts s ∧ s.length = r.pts.length ∧ (bestR r false).2.1 = fillsN r.pts s r.pts.length ∧ ∀ t, GoodL r.st none r.pts t → fillsN r.pts s r.pts.length ≤ fillsN r.pts t r.pts.length) := by
  rcases best_cases r h with ⟨hc, e⟩ | ⟨hc, e⟩
  · exact .inl ⟨hc, by rw [e false]⟩
  · obtain ⟨s, e1, hl, _, hg, hm⟩ := e false
    refine .inr ⟨hc, by rw [e1], s, (goodV_iff r s hl).1 hg, hl, by rw [e1], fun t ht => ?_⟩
    have := hm t ht.length ((goodV_iff r t ht.length).2 ht)
    rw [← Bool.not_eq_true, ltN_iff] at this
    simp at this
    omega
theorem parted (r : Row) (i : Nat) (hi : i < r.pts.length) (n : Int) (h1 : (r.pts.getD i default).lo = n) (h2 : (r.pts.getD i default).hi = n) (hr : errR r = 0) (hL : errR ⟨r.st, r.pts.take (i + 1)⟩ = 0) (hR : errR ⟨r.st, r.pts.drop i⟩ = 0) :
    ((bestR r false).2.2.2 = 9 ∧ (bestR ⟨r.st, r.pts.take (i + 1)⟩ false).2.2.2 = 9 ∧ ((bestR ⟨r.st, r.pts.drop i⟩ false).2.2.2 = 0 ∨ (bestR ⟨r.st, r.pts.drop i⟩ false).2.2.2 = 9)) ∨
    ((bestR r false).2.2.2 = 9 ∧ (bestR ⟨r.st, r.pts.take (i + 1)⟩ false).2.2.2 = 0 ∧ (bestR ⟨r.st, r.pts.drop i⟩ false).2.2.2 = 9) ∨
    ((bestR r false).2.2.2 = 0 ∧ (bestR ⟨r.st, r.pts.take (i + 1)⟩ false).2.2.2 = 0 ∧ (bestR ⟨r.st, r.pts.drop i⟩ false).2.2.2 = 0 ∧
      (bestR r false).2.1 = (bestR ⟨r.st, r.pts.take (i + 1)⟩ false).2.1 + (bestR ⟨r.st, r.pts.drop i⟩ false).2.1 - max 0 (n - (r.pts.getD i default).bd)) := by
  have atI : ∀ s, GoodL r.st none r.pts s → s.getD i 0 = n := fun s hs => by
    have := ((goodL_iff _ _ _ _).1 hs).2.1 i hi
    omega
  have join : ∀ a b, GoodL r.st none (r.pts.take (i + 1)) a → GoodL r.st none (r.pts.drop i) b → ∃ u, GoodL r.st none r.pts u ∧ u.take (i + 1) = a ∧ u.drop i = b := fun a b ha hb => by
    have la : a.length = i + 1 := by have := ha.length; rw [List.length_take] at this; omega
    have lb : b.length = r.pts.length - i := by have := hb.length; rw [List.length_drop] at this; omega
    have ea : a.getD i 0 = n := by
      have := ((goodL_iff _ _ _ _).1 ha).2.1 i (by rw [List.length_take]; omega)
      rw [getD_takeP _ _ _ (show i < i + 1 by omega)] at this
      omega
    have eb : b.getD 0 0 = n := by
      have := ((goodL_iff _ _ _ _).1 hb).2.1 0 (by rw [List.length_drop]; omega)
      rw [getD_drop] at this
      simp only [Nat.add_zero] at this
      omega
    have t1 : (a ++ b.drop 1).take (i + 1) = a := by rw [← la]; simp
    have t2 : (a ++ b.drop 1).drop i = b := by
      rw [List.drop_append_of_le_length (by omega)]
      have e1 : a.drop i = [n] := by
        apply List.ext_getElem
        · simp [la]
        · intro j q1 q2
          have : j = 0 := by simp [la] at q1; omega
          subst this
          rw [List.getD_eq_getElem?_getD, List.getElem?_eq_getElem (by omega)] at ea
          simpa using ea
      rw [e1]
      cases b with
      | nil => simp at lb; omega
      | cons x b =>
        simp only [List.getD_cons_zero] at eb
        rw [eb]
        rfl
    refine ⟨a ++ b.drop 1, good_join r.st r.pts _ i hi (by simp [la, lb]; omega) (by rw [t1]; exact ha) (by rw [t2]; exact hb), t1, t2⟩
  rcases best_none _ hL with ⟨cL, eL⟩ | ⟨cL, eL, a, ga, la, pa, ma⟩
  · have hc : crossB r = true := by
      rw [← Bool.not_eq_false]
      intro q
      obtain ⟨s, hs⟩ := (good_iff r ((check_valid r).1 hr).s0).1 q
      have := (good_iff ⟨r.st, r.pts.take (i + 1)⟩ ((check_valid r).1 hr).s0).2 ⟨_, good_take r.st r.pts s i hi hs⟩
      rw [cL] at this
      cases this
    rcases best_none r hr with ⟨_, e⟩ | ⟨q, _⟩
    · refine .inl ⟨e, eL, ?_⟩
      rcases best_none _ hR with ⟨_, e⟩ | ⟨_, e, _⟩
      · exact .inr e
      · exact .inl e
    · rw [hc] at q; cases q
  rcases best_none _ hR with ⟨cR, eR⟩ | ⟨cR, eR, b, gb, lb, pb, mb⟩
  · have hc : crossB r = true := by
      rw [← Bool.not_eq_false]
      intro q
      obtain ⟨s, hs⟩ := (good_iff r ((check_valid r).1 hr).s0).1 q
      have := (good_iff ⟨r.st, r.pts.drop i⟩ ((check_valid r).1 hr).s0).2 ⟨_, good_drop r.st r.pts s i hs⟩
      rw [cR] at this
      cases this
    rcases best_none r hr with ⟨_, e⟩ | ⟨q, _⟩
    · exact .inr (.inl ⟨e, eL, eR⟩)
    · rw [hc] at q; cases q
  obtain ⟨u, gu, tu, du⟩ := join a b ga gb
  rcases best_none r hr with ⟨q, _⟩ | ⟨_, e, s, gs, ls, ps, ms⟩
  · have := (good_iff r ((check_valid r).1 hr).s0).2 ⟨u, gu⟩
    rw [q] at this
    cases this
  refine .inr (.inr ⟨e, eL, eR, ?_⟩)
  have f1 := fills_parts r.pts u i hi gu.length
  have f2 := fills_parts r.pts s i hi gs.length
  rw [atI u gu, tu, du] at f1
  rw [atI s gs] at f2
  have m1 := ms u gu
  have m2 := ma _ (good_take r.st r.pts s i hi gs)
  have m3 := mb _ (good_drop r.st r.pts s i gs)
  simp only at m2 m3 pa pb
  omega
theorem best_pl (r : Row) (h : errR r = 0) : 0 ≤ (bestR r false).2.1 ∧ (bestR r false).2.1 ≤ 90000 := by
  have hv := (check_valid r).1 h
  rcases best_cases r h with ⟨_, e⟩ | ⟨_, e⟩
  · rw [e false]
    exact ⟨Int.le_refl _, by decide⟩
  · obtain ⟨s, e1, hl, hb, _⟩ := e false
    rw [e1]
    have := fillsN_bd r.pts s hv.ok hb r.pts.length (Nat.le_refl _) (by omega)
    have n10 := hv.n10
    show 0 ≤ fillsN r.pts s r.pts.length ∧ fillsN r.pts s r.pts.length ≤ 90000
    omega
/-- A row with just one height at a point. -/
def fixR (r : Row) (i : Nat) (n : Int) : Row := ⟨r.st, r.pts.set i ⟨(r.pts.getD i default).bd, n, n⟩⟩
theorem fix_err (r : Row) (i : Nat) (hi : i < r.pts.length) (n : Int) (h1 : (r.pts.getD i default).lo ≤ n) (h2 : n ≤ (r.pts.getD i default).hi) (h : errR r = 0) : errR (fixR r i n) = 0 ∧ errR ⟨r.st, (fixR r i n).pts.take (i + 1)⟩ = 0 ∧ errR ⟨r.st, (fixR r i n).pts.drop i⟩ = 0 ∧
    (fixR r i n).pts.getD i default = ⟨(r.pts.getD i default).bd, n, n⟩ := by
  have hv := (check_valid r).1 h
  have e1 : r.pts.getD i default = r.pts[i] := by simp [List.getD_eq_getElem?_getD, hi]
  have o := hv.ok r.pts[i] (List.getElem_mem hi)
  rw [e1] at h1 h2
  have a := o.b0
  have b := o.b9
  have c := o.l0
  have d := o.h9
  have hok : ∀ p, p ∈ (fixR r i n).pts → PtOk p := fun p hp => by
    rcases List.mem_or_eq_of_mem_set hp with q | q
    · exact hv.ok p q
    · rw [q, e1]
      refine ⟨a, b, ?_, ?_, ?_, ?_, ?_, ?_⟩ <;> simp only <;> omega
  have hl : (fixR r i n).pts.length = r.pts.length := by simp [fixR]
  have n1 := hv.n1
  have n10 := hv.n10
  refine ⟨(check_valid _).2 ⟨hv.s0, hv.s200, by rw [hl]; exact n1, by rw [hl]; exact n10, hok⟩, (check_valid _).2 ⟨hv.s0, hv.s200, ?_, ?_, fun p hp => hok p (List.mem_of_mem_take hp)⟩, (check_valid _).2 ⟨hv.s0, hv.s200, ?_, ?_, fun p hp => hok p (List.mem_of_mem_drop hp)⟩, ?_⟩
  · simp only [List.length_take, hl]; omega
  · simp only [List.length_take, hl]; omega
  · simp only [List.length_drop, hl]; omega
  · simp only [List.length_drop, hl]; omega
  · simp [fixR, List.getD_eq_getElem?_getD, hi]
end Go.Proofs.Ytnciomoapajonaa
namespace Go.Proofs.Ytnciomoapajonaa
open Go Go.RowKit Cv

def ptC (l : List Pt) : List Value := l.flatMap fun p => [.int .i64 p.bd, .int .i64 p.lo, .int .i64 p.hi]
theorem ptC_append (a b : List Pt) : ptC (a ++ b) = ptC a ++ ptC b := by simp [ptC]
theorem ptC_one (p : Pt) : ptC [p] = [.int .i64 p.bd, .int .i64 p.lo, .int .i64 p.hi] := rfl
theorem ptC_get : ∀ (l : List Pt) (k : Nat) (h : k < l.length), (ptC l)[k * 3]? = some (.int .i64 l[k].bd) ∧ (ptC l)[k * 3 + 1]? = some (.int .i64 l[k].lo) ∧ (ptC l)[k * 3 + 2]? = some (.int .i64 l[k].hi) := by
  intro l
  induction l with
  | nil => intro k h; exact absurd h (Nat.not_lt_zero _)
  | cons p l ih =>
    intro k h
    cases k with
    | zero => exact ⟨rfl, rfl, rfl⟩
    | succ k =>
      have := ih k (by simpa using h)
      have e : ptC (p :: l) = .int .i64 p.bd :: .int .i64 p.lo :: .int .i64 p.hi :: ptC l := rfl
      rw [e, show (k + 1) * 3 = k * 3 + 1 + 1 + 1 by omega, show k * 3 + 1 + 1 + 1 + 1 = (k * 3 + 1) + 1 + 1 + 1 by omega, show k * 3 + 1 + 1 + 1 + 2 = (k * 3 + 2) + 1 + 1 + 1 by omega]
      simp only [List.getElem?_cons_succ, List.getElem_cons_succ]
      exact this
theorem ptsAt_own {w : World} {base e : Nat} {v : Value} {l : List Pt} (h : w.ownsRow base e 3 v l.length (ptC l)) (hl : l.length ≤ 4611686018427387904) : PtsAt w v l := by
  rcases h.2 with ⟨rfl, h0⟩ | ⟨g, cap, cur, rfl, hb, hg, hnc, hcm, hcs, htake⟩
  · have : l = [] := List.length_eq_zero_iff.1 h0
    subst this
    exact ⟨by simp, none, 0, rfl, by simp, fun hne => absurd rfl hne⟩
  · refine ⟨hl, _, cap, rfl, hnc, fun _ => ⟨g, 0, rfl, fun k hk => ?_⟩⟩
    have e1 := ptC_get l k hk
    rw [Nat.zero_add]
    exact ⟨(h.cellAt (k * 3) (by omega)).trans e1.1, (h.cellAt (k * 3 + 1) (by omega)).trans e1.2.1, (h.cellAt (k * 3 + 2) (by omega)).trans e1.2.2⟩
theorem own_other {w : World} {base e size n : Nat} {v : Value} {xs : List Value} (h : w.ownsRow base e size v n xs) (p : Addr) (hp : p.block < base) (u : Value) : (w.setCell p u).ownsRow base e size v n xs := by
  obtain ⟨h0, h⟩ := h
  refine ⟨h0, ?_⟩
  rcases h with h | ⟨g, cap, cur, r1, r2, r3, r4⟩
  · exact .inl h
  · exact .inr ⟨g, cap, cur, r1, r2, (heap_setCell_other w p g u (by omega)).trans r3, r4⟩
theorem ptInfo : (Try.prog.info? 58).map (fun i => (i.zero, i.size, i.bytes)) = some (some (.agg #[.int .i64 0, .int .i64 0, .int .i64 0]), 3, 24) := by kernel_rfl
set_option maxRecDepth 100000 in
set_option maxHeartbeats 4000000 in
theorem rturned_any (r : Row) (pv : Value) (w : World) (hP : PtsAt w pv r.pts) (h10 : r.pts.length ≤ 10) :
    Calls Try.prog 47 #[.agg #[.int .i64 r.st, pv]] w fun e w' => ∃ v, e = .returned (.agg #[.int .i64 r.st, v]) ∧ PtsAt w' v r.pts.reverse ∧ Below w.heap.size w w' := by
  obtain ⟨i0, hi0⟩ := info_of_underlying Try.underlying58
  have HI : Hid (i0.zero = some (.agg #[.int .i64 0, .int .i64 0, .int .i64 0]) ∧ i0.size = 3 ∧ i0.bytes = 24) := by
    have h := ptInfo
    rw [hi0] at h
    simp at h
    exact h
  obtain ⟨st, pts⟩ := r
  simp only at hP h10 ⊢
  obtain ⟨lp, pa, pc, rfl, _, _⟩ := id hP
  obtain ⟨W, hW, HA0, HZ0, hB0, hsz⟩ := al2 w (Obj.cells #[.int .i64 st, .slice pa pts.length pc] 24) (Obj.cells #[.int .i64 0, .slice none 0 0] 24)
  have HP := Lib.hid (hP.below hB0)
  have HA := Lib.hid HA0
  have HZ := Lib.hid HZ0
  have HB := Lib.hid hB0
  have HW := Lib.hid hW
  have HSZ := Lib.hid hsz
  clear hP HA0 HZ0 hB0 hW hsz
  have l10 : (pts.length : Int) ≤ 10 := by omega
  go_enter Try.func47, Try.ntmps47
  go_wp2_with fail
  rw [HW.out]
  clear HW
  go_loopg [3, 4] pts.length (fun g v i wr => ∃ (k : Nat) (j : Int) (oa : Option Addr) (oc : Nat), g + k = pts.length ∧ j + k + 1 = pts.length ∧ i = .int .i64 j ∧ v = .slice oa k oc ∧ wr.ownsRow W.heap.size 58 3 v k (ptC (pts.reverse.take k)) ∧ Hid (Below W.heap.size W wr))
  case atStart => exact ⟨0, (pts.length : Int) - 1, none, 0, by omega, by omega, rfl, rfl, World.ownsRow_nil _ _ _ _, Below.refl _ _⟩
  case round =>
    obtain ⟨k, j, oa, oc, hk, hj, rfl, rfl, hown, HR⟩ := hrel
    have hs2 := HR.out.size
    by_cases hlt : k < pts.length
    · obtain ⟨m, rfl⟩ : ∃ m : Nat, j = m := ⟨j.toNat, by omega⟩
      have hm : m < pts.length := by omega
      have l0 := cellOf ((HR.out.block _ (lt_of_block HA.out)).trans HA.out) 0 _ rfl
      have l1 := cellOf ((HR.out.block _ (lt_of_block HA.out)).trans HA.out) 1 _ rfl
      have ll := lt_of_block ((HR.out.block _ (lt_of_block HA.out)).trans HA.out)
      obtain ⟨b, o, rfl, c0, c1, c2⟩ := (HP.out.below HR.out).get hm
      have HT : Hid (ptC (pts.reverse.take (k + 1)) = ptC (pts.reverse.take k) ++ [.int .i64 pts[m].bd, .int .i64 pts[m].lo, .int .i64 pts[m].hi]) := by
        show _ = _
        have hkr : k < pts.reverse.length := by simpa using hlt
        rw [List.take_succ_eq_append_getElem hkr, ptC_append, ptC_one, List.getElem_reverse]
        have e : pts.length - 1 - k = m := by omega
        simp only [e]
      generalize pts[m] = p at *
      obtain ⟨bd, lo, hi⟩ := p
      simp only at c0 c1 c2 HT
      have mI : (m : Int) < (pts.length : Int) := by omega
      have m9 : (m : Int) ≤ 9 := by omega
      have hownA := Lib.hid (hown.alloc (Obj.cells #[.int .i64 bd, .int .i64 lo, .int .i64 hi] 58))
      have HBq : Hid (Below W.heap.size W (wr.alloc (Obj.cells #[.int .i64 bd, .int .i64 lo, .int .i64 hi] 58))) := HR.out.alloc hs2 _
      clear hown
      go_wp2_with (at_builtin; refine wpList_append_own _ rfl _ _ 22 rfl W.heap.size 58 i0 (.agg #[.int .i64 0, .int .i64 0, .int .i64 0]) 3 24 Try.underlying22 hi0 HI.out.1 HI.out.2.1 HI.out.2.2 rfl (by decide) _ _ _ rfl hownA.out ⟨wr.heap.size, 0, none⟩ 1 1 [.int .i64 bd, .int .i64 lo, .int .i64 hi] rfl rfl ?pa1 ?pa2 ?pa3 ?pa4 ?pa5 ?_)
      case pa1 =>
        intro j u hj
        match j, hj with
        | 0, hj => simp at hj; subst hj; simp [Addr.add]
        | 1, hj => simp at hj; subst hj; simp [Addr.add]
        | 2, hj => simp at hj; subst hj; simp [Addr.add]
        | j + 3, hj => simp at hj
      case pa2 =>
        intro u hu
        simp at hu
        rcases hu with rfl | rfl | rfl <;> rfl
      case pa3 => unfold maxLen; omega
      case pa4 => omega
      case pa5 => exact HBq.out.size
      · intro v' w3 hown3 hgrow _
        have hB3 : Hid (Below W.heap.size W w3) := HBq.out.grown hgrow HBq.out.size (fun g hg => (hownA.out.lt g hg).1)
        obtain ⟨sa', sc', rfl⟩ := own_slice hown3
        clear hgrow hownA
        go_wp2
        go_roundg (gk - 1)
        case measure => omega
        case rel => exact ⟨k + 1, (m : Int) - 1, sa', sc', by omega, by omega, by go_num, rfl, by rw [HT.out]; exact hown3, hB3⟩
    · obtain rfl : j = -1 := by omega
      have hkn : k = pts.length := by omega
      have hown : wr.ownsRow W.heap.size 58 3 (.slice oa k oc) pts.reverse.length (ptC pts.reverse) := by
        rw [show pts.reverse.take k = pts.reverse from List.take_of_length_le (by simp; omega)] at hown
        rw [show pts.reverse.length = k by simp; omega]
        exact hown
      have HO := Lib.hid hown
      have HAr := Lib.hid ((HR.out.block _ (lt_of_block HA.out)).trans HA.out)
      have HZr := Lib.hid ((HR.out.block _ (lt_of_block HZ.out)).trans HZ.out)
      have l0 := cellOf HAr.out 0 _ rfl
      have l1 := cellOf HAr.out 1 _ rfl
      have f0 := frozen_of_row _ _ 0 _ _ HAr.out
      have f1 := frozen_of_row _ _ 1 _ _ HAr.out
      have g0 := cellOf HZr.out 0 _ rfl
      have g1 := cellOf HZr.out 1 _ rfl
      have h0 := frozen_of_row _ _ 0 _ _ HZr.out
      have h1 := frozen_of_row _ _ 1 _ _ HZr.out
      clear hown hlt hk hkn
      go_wp2
      have z1 : (wr.setCell ⟨w.heap.size, 1, none⟩ (.slice oa k oc)).heap[w.heap.size + 1]? = some (.cells #[.int .i64 0, .slice none 0 0] 24 (0, 0)) := (heap_setCell_other wr (⟨w.heap.size, 1, none⟩ : Addr) _ _ (by simp)).trans HZr.out
      have z2 := two_set (x := .int .i64 st) (y := .slice oa k oc) z1
      have hz := HSZ.out
      refine bodyPost_ret (row_result rfl _ _ (w.heap.size + 1) _ _ rfl z2) rfl ⟨_, rfl, ?_, ?_⟩
      · exact ptsAt_own (own_other (own_other (own_other HO.out ⟨w.heap.size, 1, none⟩ (by show w.heap.size < _; omega) _) ⟨w.heap.size + 1, 0, none⟩ (by show w.heap.size + 1 < _; omega) _) ⟨w.heap.size + 1, 1, none⟩ (by show w.heap.size + 1 < _; omega) _) (by simp; omega)
      · exact two_below ((HB.out.trans (HR.out.mono HB.out.size)).setCell (p := ⟨w.heap.size, 1, none⟩) (Nat.le_refl _) _) (by omega)
end Go.Proofs.Ytnciomoapajonaa
namespace Go.Proofs.Ytnciomoapajonaa
open Go Go.RowKit Go.Shelf Cv

theorem ptC_length (l : List Pt) : (ptC l).length = l.length * 3 := by
  induction l with
  | nil => rfl
  | cons p l ih =>
    have e : ptC (p :: l) = .int .i64 p.bd :: .int .i64 p.lo :: .int .i64 p.hi :: ptC l := rfl
    rw [e]
    simp only [List.length_cons, ih]
    omega
theorem pts_cells {w : World} {b o n cap : Nat} {l : List Pt} (h : PtsAt w (.slice (some ⟨b, o, none⟩) n cap) l) : ∀ j u, (ptC l)[j]? = some u → w.cell? ((⟨b, o, none⟩ : Addr).add j) = some u := by
  intro j u hu
  have hj : j < l.length * 3 := by rw [← ptC_length]; exact (List.getElem?_eq_some_iff.1 hu).1
  have hk : j / 3 < l.length := by omega
  obtain ⟨b', o', e, c0, c1, c2⟩ := h.get hk
  simp only [Option.some.injEq, Addr.mk.injEq, and_true] at e
  obtain ⟨rfl, rfl⟩ := e
  have g := ptC_get l (j / 3) hk
  rw [Go.WideShapes.add_plain]
  have hr : j % 3 = 0 ∨ j % 3 = 1 ∨ j % 3 = 2 := by omega
  rcases hr with q | q | q
  · have e : j = j / 3 * 3 := by omega
    rw [e] at hu ⊢
    rw [g.1] at hu
    rw [← hu]
    exact c0
  · have e : j = j / 3 * 3 + 1 := by omega
    have e2 : o + j = o + j / 3 * 3 + 1 := by omega
    rw [e2]
    rw [e, g.2.1] at hu
    rw [← hu]
    exact c1
  · have e : j = j / 3 * 3 + 2 := by omega
    have e2 : o + j = o + j / 3 * 3 + 2 := by omega
    rw [e2]
    rw [e, g.2.2] at hu
    rw [← hu]
    exact c2
theorem ptC_cell (l : List Pt) : ∀ u ∈ ptC l, u.oneCell' = true := by
  intro u hu
  obtain ⟨p, _, h⟩ := List.mem_flatMap.1 hu
  simp only [List.mem_cons, List.not_mem_nil, or_false] at h
  rcases h with rfl | rfl | rfl <;> rfl
theorem cur_get {cur : Array Value} {m : Nat} {xs : List Value} (h : cur.toList.take m = xs) {i : Nat} (hi : i < m) : cur[i]? = xs[i]? := by
  rw [← h, List.getElem?_take, if_pos hi, Array.getElem?_toList]
theorem two_new (w : World) (x y : Obj) : ((w.alloc x).alloc y).drew.heap[w.heap.size]? = some x ∧ ((w.alloc x).alloc y).drew.heap[w.heap.size + 1]? = some y ∧ Below w.heap.size w ((w.alloc x).alloc y).drew := by
  have h1 := heap_alloc_new w x
  have h2 := heap_alloc_new (w.alloc x) y
  rw [show (w.alloc x).heap.size = w.heap.size + 1 by simp] at h2
  have b2 := Below.heap_alloc (w.alloc x) y
  refine ⟨(b2 _ (lt_of_block h1)).trans h1, h2, ?_⟩
  go_grown
theorem fix_pts {w : World} {g n cap j : Nat} {cur : Array Value} {t : TypeId} {pts : List Pt} {bd nn : Int} (hg : w.heap[g]? = some (.cells ((cur.setIfInBounds (j * 3 + 1) (.int .i64 nn)).setIfInBounds (j * 3 + 2) (.int .i64 nn)) t (0, 0))) (htk : cur.toList.take (n * 3) = ptC pts) (hcs : cur.size = cap * 3) (hnc : n ≤ cap)
    (hj : j < pts.length) (hbd : (pts.getD j default).bd = bd) (hn : n = pts.length ∧ n ≤ 4611686018427387904) : PtsAt w (.slice (some ⟨g, 0, none⟩) n cap) (pts.set j ⟨bd, nn, nn⟩) := by
  obtain ⟨rfl, hn⟩ := hn
  refine ⟨by simpa using hn, some ⟨g, 0, none⟩, cap, by simp, by simpa using hnc, fun _ => ⟨g, 0, rfl, fun k hk => ?_⟩⟩
  have hk' : k < pts.length := by simpa using hk
  have old := ptC_get pts k hk'
  have o0 := (cur_get htk (show k * 3 < pts.length * 3 by omega)).trans old.1
  have o1 := (cur_get htk (show k * 3 + 1 < pts.length * 3 by omega)).trans old.2.1
  have o2 := (cur_get htk (show k * 3 + 2 < pts.length * 3 by omega)).trans old.2.2
  rw [Nat.zero_add]
  have sz : ∀ i, i < pts.length * 3 → i < cur.size := fun i hi => by rw [hcs]; omega
  rw [List.getElem_set]
  by_cases e : j = k
  · subst e
    rw [if_pos rfl]
    have hb : pts[j].bd = bd := by rw [← hbd]; simp [List.getD_eq_getElem?_getD, hj]
    refine ⟨cellOf hg _ _ ?_, cellOf hg _ _ ?_, cellOf hg _ _ ?_⟩
    · rw [Array.getElem?_setIfInBounds_ne (by omega), Array.getElem?_setIfInBounds_ne (by omega), o0, hb]
    · rw [Array.getElem?_setIfInBounds_ne (by omega), Array.getElem?_setIfInBounds_self_of_lt (sz _ (by omega))]
    · rw [Array.getElem?_setIfInBounds_self_of_lt (by rw [Array.size_setIfInBounds]; exact sz _ (by omega))]
  · rw [if_neg e]
    refine ⟨cellOf hg _ _ ?_, cellOf hg _ _ ?_, cellOf hg _ _ ?_⟩
    · rw [Array.getElem?_setIfInBounds_ne (by omega), Array.getElem?_setIfInBounds_ne (by omega), o0]
    · rw [Array.getElem?_setIfInBounds_ne (by omega), Array.getElem?_setIfInBounds_ne (by omega), o1]
    · rw [Array.getElem?_setIfInBounds_ne (by omega), Array.getElem?_setIfInBounds_ne (by omega), o2]
theorem PtsAt.take {w : World} {sa : Option Addr} {n sc : Nat} {l : List Pt} (h : PtsAt w (.slice sa n sc) l) (k : Nat) (hk : k ≤ l.length) : PtsAt w (.slice sa k sc) (l.take k) := by
  obtain ⟨h1, a, cap, e, hc, h2⟩ := h
  simp only [Value.slice.injEq] at e
  obtain ⟨rfl, rfl, rfl⟩ := e
  have hl : (l.take k).length = k := by simp; omega
  refine ⟨by omega, sa, sc, by rw [hl], by omega, fun hne => ?_⟩
  obtain ⟨b, o, rfl, hk'⟩ := h2 (by rintro rfl; simp at hne)
  refine ⟨b, o, rfl, fun j hj => ?_⟩
  rw [hl] at hj
  have := hk' j (by omega)
  simpa [List.getElem_take] using this
theorem PtsAt.drop {w : World} {b o n sc : Nat} {l : List Pt} (h : PtsAt w (.slice (some ⟨b, o, none⟩) n sc) l) (k : Nat) (hk : k ≤ l.length) : PtsAt w (.slice (some ⟨b, o + k * 3, none⟩) (l.length - k) (sc - k)) (l.drop k) := by
  obtain ⟨h1, a, cap, e, hc, h2⟩ := h
  simp only [Value.slice.injEq] at e
  obtain ⟨rfl, rfl, rfl⟩ := e
  have hl : (l.drop k).length = l.length - k := by simp
  refine ⟨by omega, some ⟨b, o + k * 3, none⟩, sc - k, by rw [hl], by omega, fun hne => ?_⟩
  obtain ⟨b', o', e, hk'⟩ := h2 (by rintro rfl; simp at hne)
  simp only [Option.some.injEq, Addr.mk.injEq, and_true] at e
  obtain ⟨rfl, rfl⟩ := e
  refine ⟨b, o + k * 3, rfl, fun j hj => ?_⟩
  rw [hl] at hj
  have := hk' (k + j) (by omega)
  rw [show o + (k + j) * 3 = o + k * 3 + j * 3 by omega] at this
  simpa [List.getElem_drop] using this
theorem own_made (w : World) (e : TypeId) (size : Nat) : (w.alloc (.cells #[] e)).ownsRow w.heap.size e size (.slice (some ⟨w.heap.size, 0, none⟩) 0 0) 0 [] :=
  ⟨by simp, .inr ⟨w.heap.size, 0, #[], rfl, Nat.le_refl _, heap_alloc_new w _, Nat.le_refl _, Nat.zero_le _, by simp, by simp⟩⟩

set_option maxRecDepth 100000 in
set_option maxHeartbeats 16000000 in
theorem lpart_no (st : Int) (pts : List Pt) (pa : Option Addr) (pc : Nat) (x y : Nat) (hx : x ≤ 255) (hy : y ≤ 255) (w : World) (hP : PtsAt w (.slice pa pts.length pc) pts) (hv : ¬ errR ⟨st, pts⟩ = 0) :
    Calls Try.prog 15 #[.agg #[.int .i64 st, .slice pa pts.length pc], .agg #[.int .u8 x, .int .u8 y]] w fun e w' => e = .returned (.bool true) ∧ Below w.heap.size w w' := by
  generalize HE : errR ⟨st, pts⟩ = er at *
  have t1 : (er == 0) = false := by simp [hv]
  have HP := Lib.hid hP
  clear hP
  have HB := Lib.hid (Below.refl w.heap.size w)
  have xI : (x : Int) ≤ 255 := by omega
  have yI : (y : Int) ≤ 255 := by omega
  go_enter Try.func15, Try.ntmps15
  go_wp2_with fail
  have hb := (Below.refl w.heap.size w).alloc (Nat.le_refl _) (Obj.cells #[.int .i64 st, .slice pa pts.length pc] 24)
  have HR := Lib.hid (heap_alloc_new w (Obj.cells #[.int .i64 st, .slice pa pts.length pc] 24))
  have hz1 : (w.alloc (Obj.cells #[.int .i64 st, .slice pa pts.length pc] 24)).heap.size = w.heap.size + 1 := by simp
  have HB' := Lib.hid (HB.out.trans (hb.mono HB.out.size))
  have HP' := Lib.hid (HP.out.below hb)
  clear HB
  have HB := HB'
  clear HB'
  clear HP
  have HP := HP'
  clear HP'
  clear hb
  generalize w.alloc (Obj.cells #[.int .i64 st, .slice pa pts.length pc] 24) = w1 at *
  have hb := (Below.refl w1.heap.size w1).alloc (Nat.le_refl _) (Obj.cells #[.int .u8 x, .int .u8 y] 52)
  have HY := Lib.hid (heap_alloc_new w1 (Obj.cells #[.int .u8 x, .int .u8 y] 52))
  have hz2 : (w1.alloc (Obj.cells #[.int .u8 x, .int .u8 y] 52)).heap.size = w1.heap.size + 1 := by simp
  rw [hz1] at HY
  have HB' := Lib.hid (HB.out.trans (hb.mono HB.out.size))
  have HP' := Lib.hid (HP.out.below hb)
  have HR' := Lib.hid ((hb.block _ (lt_of_block HR.out)).trans HR.out)
  clear HB
  have HB := HB'
  clear HB'
  clear HP
  have HP := HP'
  clear HP'
  clear HR
  have HR := HR'
  clear HR'
  clear hb
  generalize w1.alloc (Obj.cells #[.int .u8 x, .int .u8 y] 52) = w2 at *
  have hcall := valid_any ⟨st, pts⟩ _ w2 HP.out
  rw [HE, t1] at hcall
  refine hcall.mono ?_
  clear hcall
  rintro e w3 ⟨rfl, hb⟩
  have HB' := Lib.hid (HB.out.trans (hb.mono HB.out.size))
  have HP' := Lib.hid (HP.out.below hb)
  have HR' := Lib.hid ((hb.block _ (lt_of_block HR.out)).trans HR.out)
  have HY' := Lib.hid ((hb.block _ (lt_of_block HY.out)).trans HY.out)
  clear HB
  have HB := HB'
  clear HB'
  clear HP
  have HP := HP'
  clear HP'
  clear HR
  have HR := HR'
  clear HR'
  clear HY
  have HY := HY'
  clear HY'
  clear hb
  go_wp2_with fail
  have hcall := awake_any w3
  refine hcall.mono ?_
  clear hcall
  rintro e w4 ⟨rfl, hb⟩
  have HB' := Lib.hid (HB.out.trans (hb.mono HB.out.size))
  have HP' := Lib.hid (HP.out.below hb)
  have HR' := Lib.hid ((hb.block _ (lt_of_block HR.out)).trans HR.out)
  have HY' := Lib.hid ((hb.block _ (lt_of_block HY.out)).trans HY.out)
  clear HB
  have HB := HB'
  clear HB'
  clear HP
  have HP := HP'
  clear HP'
  clear HR
  have HR := HR'
  clear HR'
  clear HY
  have HY := HY'
  clear HY'
  clear hb
  go_wp2
  go_ret
  exact ⟨rfl, HB.out⟩

set_option maxRecDepth 100000 in
set_option maxHeartbeats 16000000 in
theorem lpart_ok (st : Int) (pts : List Pt) (pb po : Nat) (pc : Nat) (x y : Nat) (hx : x ≤ 255) (hy : y ≤ 255) (w : World) (hP : PtsAt w (.slice (some ⟨pb, po, none⟩) pts.length pc) pts) (HE : Hid (errR ⟨st, pts⟩ = 0)) (j : Nat) (HJX : Hid (x % pts.length = j)) (nn : Int) (HNN : Hid ((pts.getD j default).lo + (y : Int) % ((pts.getD j default).hi - (pts.getD j default).lo + 1) = nn)) (hnn0 : 0 ≤ nn) (hnn9 : nn ≤ 9000) (jp : List Pt) (HJP : Hid (pts.set j ⟨(pts.getD j default).bd, nn, nn⟩ = jp)) (a a2 ea b b2 eb c c2 ec : Int) (hb0 : 0 ≤ b) (hb9 : b ≤ 90000) (hc0 : 0 ≤ c) (hc9 : c ≤ 90000) (HQ1 : Hid ((bestR ⟨st, jp⟩ false).2 = (a, a2, ea))) (HQ2 : Hid ((bestR ⟨st, jp.take (j + 1)⟩ false).2 = (b, b2, eb))) (HQ3 : Hid ((bestR ⟨st, jp.drop j⟩ false).2 = (c, c2, ec))) (hcase : (ea = 9 ∧ eb = 9 ∧ (ec = 0 ∨ ec = 9)) ∨ (ea = 9 ∧ eb = 0 ∧ ec = 9) ∨ (ea = 0 ∧ eb = 0 ∧ ec = 0 ∧ a = b + c - max 0 (nn - (pts.getD j default).bd))) :
    Calls Try.prog 15 #[.agg #[.int .i64 st, .slice (some ⟨pb, po, none⟩) pts.length pc], .agg #[.int .u8 x, .int .u8 y]] w fun e w' => e = .returned (.bool true) ∧ Below w.heap.size w w' := by
  obtain ⟨i0, hi0⟩ := info_of_underlying Try.underlying58
  have HI : Hid (i0.zero = some (.agg #[.int .i64 0, .int .i64 0, .int .i64 0]) ∧ i0.size = 3 ∧ i0.bytes = 24) := by
    have h := ptInfo
    rw [hi0] at h
    simp at h
    exact h
  have HVV : Hid (Valid ⟨st, pts⟩) := (check_valid _).1 HE.out
  have h10 : pts.length ≤ 10 := HVV.out.n10
  have h1 : 1 ≤ pts.length := HVV.out.n1
  have l10 : (pts.length : Int) ≤ 10 := by omega
  have l1 : (1 : Int) ≤ (pts.length : Int) := by omega
  have z0 : ((pts.length : Int) == 0) = false := by rw [beq_eq_false_iff_ne]; omega
  have e1 := tmod_nat x pts.length
  rw [HJX.out] at e1
  have HP := Lib.hid hP
  clear hP
  have HB := Lib.hid (Below.refl w.heap.size w)
  have xI : (x : Int) ≤ 255 := by omega
  have yI : (y : Int) ≤ 255 := by omega
  go_enter Try.func15, Try.ntmps15
  go_wp2_with fail
  have hb := (Below.refl w.heap.size w).alloc (Nat.le_refl _) (Obj.cells #[.int .i64 st, .slice (some ⟨pb, po, none⟩) pts.length pc] 24)
  have HR := Lib.hid (heap_alloc_new w (Obj.cells #[.int .i64 st, .slice (some ⟨pb, po, none⟩) pts.length pc] 24))
  have hz1 : (w.alloc (Obj.cells #[.int .i64 st, .slice (some ⟨pb, po, none⟩) pts.length pc] 24)).heap.size = w.heap.size + 1 := by simp
  have HB' := Lib.hid (HB.out.trans (hb.mono HB.out.size))
  have HP' := Lib.hid (HP.out.below hb)
  clear HB
  have HB := HB'
  clear HB'
  clear HP
  have HP := HP'
  clear HP'
  clear hb
  generalize w.alloc (Obj.cells #[.int .i64 st, .slice (some ⟨pb, po, none⟩) pts.length pc] 24) = w1 at *
  have hb := (Below.refl w1.heap.size w1).alloc (Nat.le_refl _) (Obj.cells #[.int .u8 x, .int .u8 y] 52)
  have HY := Lib.hid (heap_alloc_new w1 (Obj.cells #[.int .u8 x, .int .u8 y] 52))
  have hz2 : (w1.alloc (Obj.cells #[.int .u8 x, .int .u8 y] 52)).heap.size = w1.heap.size + 1 := by simp
  rw [hz1] at HY
  have HB' := Lib.hid (HB.out.trans (hb.mono HB.out.size))
  have HP' := Lib.hid (HP.out.below hb)
  have HR' := Lib.hid ((hb.block _ (lt_of_block HR.out)).trans HR.out)
  clear HB
  have HB := HB'
  clear HB'
  clear HP
  have HP := HP'
  clear HP'
  clear HR
  have HR := HR'
  clear HR'
  clear hb
  generalize w1.alloc (Obj.cells #[.int .u8 x, .int .u8 y] 52) = w2 at *
  have hcall := valid_any ⟨st, pts⟩ _ w2 HP.out
  rw [HE.out] at hcall
  have e0 : ((0 : Int) == 0) = true := rfl
  rw [e0] at hcall
  clear e0
  refine hcall.mono ?_
  clear hcall
  rintro e w3 ⟨rfl, hb⟩
  have HB' := Lib.hid (HB.out.trans (hb.mono HB.out.size))
  have HP' := Lib.hid (HP.out.below hb)
  have HR' := Lib.hid ((hb.block _ (lt_of_block HR.out)).trans HR.out)
  have HY' := Lib.hid ((hb.block _ (lt_of_block HY.out)).trans HY.out)
  clear HB
  have HB := HB'
  clear HB'
  clear HP
  have HP := HP'
  clear HP'
  clear HR
  have HR := HR'
  clear HR'
  clear HY
  have HY := HY'
  clear HY'
  clear hb
  have HBj := HB
  have HPj := HP
  have HRj := HR
  have HYj := HY
  have HJ0 := Lib.hid (heap_alloc_new w3 (Obj.cells #[.int .i64 st, .slice (some ⟨pb, po, none⟩) pts.length pc] 24))
  have HSZ : Hid ((w3.alloc (Obj.cells #[.int .i64 st, .slice (some ⟨pb, po, none⟩) pts.length pc] 24)).heap.size = w3.heap.size + 1) := by show _ = _; simp
  have hownA := Lib.hid (own_made (w3.alloc (Obj.cells #[.int .i64 st, .slice (some ⟨pb, po, none⟩) pts.length pc] 24)) 58 3)
  have HBq : Hid (Below (w3.alloc (Obj.cells #[.int .i64 st, .slice (some ⟨pb, po, none⟩) pts.length pc] 24)).heap.size (w3.alloc (Obj.cells #[.int .i64 st, .slice (some ⟨pb, po, none⟩) pts.length pc] 24)) ((w3.alloc (Obj.cells #[.int .i64 st, .slice (some ⟨pb, po, none⟩) pts.length pc] 24)).alloc (Obj.cells #[] 58))) := (Below.refl _ _).alloc (Nat.le_refl _) _
  have HSQ : Hid (((w3.alloc (Obj.cells #[.int .i64 st, .slice (some ⟨pb, po, none⟩) pts.length pc] 24)).alloc (Obj.cells #[] 58)).heap.size = w3.heap.size + 2) := by show _ = _; simp
  have hbJ := Lib.hid ((Below.refl w3.heap.size w3).alloc (Nat.le_refl _) (Obj.cells #[.int .i64 st, .slice (some ⟨pb, po, none⟩) pts.length pc] 24))
  have HPJ := Lib.hid ((HP.out.below hbJ.out).below ((w3.alloc (Obj.cells #[.int .i64 st, .slice (some ⟨pb, po, none⟩) pts.length pc] 24)).heap.size |> fun _ => HBq.out))
  rw [HSZ.out] at hownA HBq
  have hpl : pb < w3.heap.size := by obtain ⟨b', o', e, c0, _, _⟩ := HP.out.get (show 0 < pts.length by omega); simp only [Option.some.injEq, Addr.mk.injEq, and_true] at e; obtain ⟨rfl, rfl⟩ := e; exact World.block_lt_of_cell? _ _ c0
  have ra := cellOf HR.out 0 _ rfl
  have rb := cellOf HR.out 1 _ rfl
  have rl := lt_of_block HR.out
  have ya := cellOf HY.out 0 _ rfl
  have yb := cellOf HY.out 1 _ rfl
  have yl := lt_of_block HY.out
  go_wp2_with (at_builtin; refine wpList_append_own _ rfl _ _ 22 rfl (w3.heap.size + 1) 58 i0 (.agg #[.int .i64 0, .int .i64 0, .int .i64 0]) 3 24 Try.underlying22 hi0 HI.out.1 HI.out.2.1 HI.out.2.2 rfl (by decide) _ 0 [] rfl hownA.out ⟨pb, po, none⟩ pts.length pc (ptC pts) rfl (ptC_length pts) (pts_cells HPJ.out) ?pa2 ?pa3 ?pa4 ?pa5 ?_)
  case pa2 => exact ptC_cell pts
  case pa3 => unfold maxLen; omega
  case pa4 => omega
  case pa5 => rw [HSQ.out]; omega
  intro v' wz hown3 hgrow _
  have hB3 : Below (w3.heap.size + 1) (w3.alloc (Obj.cells #[.int .i64 st, .slice (some ⟨pb, po, none⟩) pts.length pc] 24)) wz := HBq.out.grown hgrow (by rw [HSQ.out]; omega) (fun g hg => (hownA.out.lt g hg).1)
  obtain ⟨g, cap, cur, rfl, hgb, hgh, hnc, hcm, hcs, htk⟩ := (hown3.2).resolve_left (fun h => by have := h.2; omega)
  have HTK := Lib.hid htk
  clear htk hown3 hgrow hownA HPJ
  have HJ3 := Lib.hid ((hB3.block _ (show w3.heap.size < _ by omega)).trans HJ0.out)
  have hb : Below w3.heap.size w3 (wz.setCell ⟨w3.heap.size, 1, none⟩ (.slice (some ⟨g, 0, none⟩) pts.length cap)) := (hbJ.out.trans (hB3.mono (by omega))).setCell (p := ⟨w3.heap.size, 1, none⟩) (Nat.le_refl _) _
  have HJ : Hid ((wz.setCell ⟨w3.heap.size, 1, none⟩ (.slice (some ⟨g, 0, none⟩) pts.length cap)).heap[w3.heap.size]? = some (.cells #[.int .i64 st, (.slice (some ⟨g, 0, none⟩) pts.length cap)] 24 (0, 0))) := heap_setCell_same wz w3.heap.size 1 _ _ _ HJ3.out
  have HG : Hid ((wz.setCell ⟨w3.heap.size, 1, none⟩ (.slice (some ⟨g, 0, none⟩) pts.length cap)).heap[g]? = some (.cells cur 58 (0, 0))) := (heap_setCell_other wz (⟨w3.heap.size, 1, none⟩ : Addr) g _ (by show g ≠ w3.heap.size; omega)).trans hgh
  have HL := Lib.hid hb
  clear ra rb rl ya yb yl
  have jb := cellOf HJ3.out 1 _ rfl
  have fJ := frozen_of_row _ _ 1 _ _ HJ3.out
  go_upto_region 6 with fail
  clear jb fJ HJ3 hB3 HBq hgh HJ0 hbJ
  generalize wz.setCell ⟨w3.heap.size, 1, none⟩ (.slice (some ⟨g, 0, none⟩) pts.length cap) = wk at *
  have HB' := Lib.hid (HB.out.trans (hb.mono HB.out.size))
  have HP' := Lib.hid (HP.out.below hb)
  have HR' := Lib.hid ((hb.block _ (lt_of_block HR.out)).trans HR.out)
  have HY' := Lib.hid ((hb.block _ (lt_of_block HY.out)).trans HY.out)
  clear HB
  have HB := HB'
  clear HB'
  clear HP
  have HP := HP'
  clear HP'
  clear HR
  have HR := HR'
  clear HR'
  clear HY
  have HY := HY'
  clear HY'
  clear hb
  have hj : j < pts.length := by rw [← HJX.out]; exact Nat.mod_lt _ (by omega)
  obtain ⟨pb', po', e, c0, c1, c2⟩ := HP.out.get hj
  simp only [Option.some.injEq, Addr.mk.injEq, and_true] at e
  obtain ⟨rfl, rfl⟩ := e
  obtain ⟨b0, b9, l0, l9, h0, h9, hle, hwd⟩ := HVV.out.ok pts[j] (List.getElem_mem hj)
  have hg1 := (cur_get HTK.out (show j * 3 + 1 < pts.length * 3 by omega)).trans (ptC_get pts j hj).2.1
  have hg2 := (cur_get HTK.out (show j * 3 + 2 < pts.length * 3 by omega)).trans (ptC_get pts j hj).2.2
  have hge : pts.getD j default = pts[j] := by simp [List.getD_eq_getElem?_getD, hj]
  rw [hge] at HNN
  clear hge
  have hbj0 : (pts.getD j default).bd = pts[j].bd := by simp [List.getD_eq_getElem?_getD, hj]
  generalize pts[j] = p at *
  obtain ⟨bd, lo, hi⟩ := p
  simp only at c0 c1 c2 b0 b9 l0 l9 h0 h9 hle hwd hg1 hg2 HNN hbj0
  have hbj := hbj0
  have hgk : g < wk.heap.size := lt_of_block HG.out
  have jI : (j : Int) < (pts.length : Int) := by omega
  have j9 : (j : Int) ≤ 9 := by omega
  have ra := cellOf HR.out 0 _ rfl
  have rb := cellOf HR.out 1 _ rfl
  have rl := lt_of_block HR.out
  go_wp2_with fail
  clear ra rb rl
  have hb := (Below.refl wk.heap.size wk).alloc (Nat.le_refl _) (Obj.cells #[.int .i64 bd, .int .i64 lo, .int .i64 hi] 58)
  have HQ := Lib.hid (heap_alloc_new wk (Obj.cells #[.int .i64 bd, .int .i64 lo, .int .i64 hi] 58))
  have hz4 : (wk.alloc (Obj.cells #[.int .i64 bd, .int .i64 lo, .int .i64 hi] 58)).heap.size = wk.heap.size + 1 := by simp
  have HB' := Lib.hid (HB.out.trans (hb.mono HB.out.size))
  have HP' := Lib.hid (HP.out.below hb)
  have HR' := Lib.hid ((hb.block _ (lt_of_block HR.out)).trans HR.out)
  have HY' := Lib.hid ((hb.block _ (lt_of_block HY.out)).trans HY.out)
  have HJ' := Lib.hid ((hb.block _ (lt_of_block HJ.out)).trans HJ.out)
  have HG' := Lib.hid ((hb.block _ (lt_of_block HG.out)).trans HG.out)
  have HL' := Lib.hid (HL.out.trans (hb.mono HL.out.size))
  clear HB
  have HB := HB'
  clear HB'
  clear HP
  have HP := HP'
  clear HP'
  clear HR
  have HR := HR'
  clear HR'
  clear HY
  have HY := HY'
  clear HY'
  clear HJ
  have HJ := HJ'
  clear HJ'
  clear HG
  have HG := HG'
  clear HG'
  clear HL
  have HL := HL'
  clear HL'
  clear hb
  generalize wk.alloc (Obj.cells #[.int .i64 bd, .int .i64 lo, .int .i64 hi] 58) = w4 at *
  clear c0 c1 c2
  have dz : (hi - lo + 1 == 0) = false := by rw [beq_eq_false_iff_ne]; omega
  have dpos : (1 : Int) ≤ hi - lo + 1 := by omega
  have em : (y : Int).tmod (hi - lo + 1) = (y : Int) % (hi - lo + 1) := Int.tmod_eq_emod_of_nonneg (by omega)
  have em0 : 0 ≤ (y : Int) % (hi - lo + 1) := Int.emod_nonneg _ (by omega)
  have em1 : (y : Int) % (hi - lo + 1) < hi - lo + 1 := Int.emod_lt_of_pos _ (by omega)
  obtain ⟨d, hd⟩ : ∃ d : Int, (y : Int) % (hi - lo + 1) = d := ⟨_, rfl⟩
  rw [hd] at em em0 em1 HNN
  clear hd
  go_cut [8] (fun v wx => v = .int .i64 (lo + d) ∧ Below w4.heap.size w4 wx)
  case first =>
    have q0 := cellOf HQ.out 0 _ rfl
    have q1 := cellOf HQ.out 1 _ rfl
    have q2 := cellOf HQ.out 2 _ rfl
    have ql := lt_of_block HQ.out
    have yb := cellOf HY.out 1 _ rfl
    have yl := lt_of_block HY.out
    go_quiet (fail)
    go_wp2
    go_meet
    exact ⟨rfl, rfl, rfl, rfl, Nat.le_refl _, fun _ _ => rfl⟩
  case rest =>
    obtain ⟨rfl, hb⟩ := hcut
    rw [HNN.out]
    have HB' := Lib.hid (HB.out.trans (hb.mono HB.out.size))
    have HP' := Lib.hid (HP.out.below hb)
    have HR' := Lib.hid ((hb.block _ (lt_of_block HR.out)).trans HR.out)
    have HY' := Lib.hid ((hb.block _ (lt_of_block HY.out)).trans HY.out)
    have HJ' := Lib.hid ((hb.block _ (lt_of_block HJ.out)).trans HJ.out)
    have HG' := Lib.hid ((hb.block _ (lt_of_block HG.out)).trans HG.out)
    have HL' := Lib.hid (HL.out.trans (hb.mono HL.out.size))
    have HQ' := Lib.hid ((hb.block _ (lt_of_block HQ.out)).trans HQ.out)
    clear HB
    have HB := HB'
    clear HB'
    clear HP
    have HP := HP'
    clear HP'
    clear HR
    have HR := HR'
    clear HR'
    clear HY
    have HY := HY'
    clear HY'
    clear HJ
    have HJ := HJ'
    clear HJ'
    clear HG
    have HG := HG'
    clear HG'
    clear HL
    have HL := HL'
    clear HL'
    clear HQ
    have HQ := HQ'
    clear HQ'
    clear hb em em0 em1 dz dpos
    go_upto_region 8 with fail
    have jb := cellOf HJ.out 1 _ rfl
    have jl := lt_of_block HJ.out
    have g1 := cellOf HG.out (j * 3 + 1) _ hg1
    have g2 := cellOf HG.out (j * 3 + 2) _ hg2
    have f1 := frozen_of_row _ _ (j * 3 + 1) _ _ HG.out
    have f2 := frozen_of_row _ _ (j * 3 + 2) _ _ HG.out
    have gl := lt_of_block HG.out
    go_region
    clear jb jl g1 g2 f1 f2 gl
    have hb : Below w3.heap.size w3 (((wc.setCell ⟨g, j * 3 + 1, none⟩ (.int .i64 nn)).setCell ⟨g, j * 3 + 2, none⟩ (.int .i64 nn)).drew) := ((HL.out.setCell (p := ⟨g, j * 3 + 1, none⟩) (show w3.heap.size ≤ g by omega) _).setCell (p := ⟨g, j * 3 + 2, none⟩) (show w3.heap.size ≤ g by omega) _).trans ⟨rfl, rfl, rfl, Nat.le_refl _, fun _ _ => rfl⟩
    have HG' : Hid ((((wc.setCell ⟨g, j * 3 + 1, none⟩ (.int .i64 nn)).setCell ⟨g, j * 3 + 2, none⟩ (.int .i64 nn)).drew).heap[g]? = some (.cells ((cur.setIfInBounds (j * 3 + 1) (.int .i64 nn)).setIfInBounds (j * 3 + 2) (.int .i64 nn)) 58 (0, 0))) := heap_setCell_same _ g (j * 3 + 2) _ _ _ (heap_setCell_same wc g (j * 3 + 1) _ _ _ HG.out)
    have HJ' : Hid ((((wc.setCell ⟨g, j * 3 + 1, none⟩ (.int .i64 nn)).setCell ⟨g, j * 3 + 2, none⟩ (.int .i64 nn)).drew).heap[w3.heap.size]? = some (.cells #[.int .i64 st, (.slice (some ⟨g, 0, none⟩) pts.length cap)] 24 (0, 0))) := (heap_setCell_other _ (⟨g, j * 3 + 2, none⟩ : Addr) _ _ (by show w3.heap.size ≠ g; omega)).trans ((heap_setCell_other wc (⟨g, j * 3 + 1, none⟩ : Addr) _ _ (by show w3.heap.size ≠ g; omega)).trans HJ.out)
    have HQ' : Hid ((((wc.setCell ⟨g, j * 3 + 1, none⟩ (.int .i64 nn)).setCell ⟨g, j * 3 + 2, none⟩ (.int .i64 nn)).drew).heap[wk.heap.size]? = some (.cells #[.int .i64 bd, .int .i64 lo, .int .i64 hi] 58 (0, 0))) := (heap_setCell_other _ (⟨g, j * 3 + 2, none⟩ : Addr) _ _ (by show wk.heap.size ≠ g; omega)).trans ((heap_setCell_other wc (⟨g, j * 3 + 1, none⟩ : Addr) _ _ (by show wk.heap.size ≠ g; omega)).trans HQ.out)
    clear HG HJ HQ HB HP HR HY HL
    have HG := HG'
    have HJ := HJ'
    have HQ := HQ'
    clear HG' HJ' HQ'
    generalize ((wc.setCell ⟨g, j * 3 + 1, none⟩ (.int .i64 nn)).setCell ⟨g, j * 3 + 2, none⟩ (.int .i64 nn)).drew = wd at *
    have HB := Lib.hid (HBj.out.trans (hb.mono HBj.out.size))
    have HR := Lib.hid ((hb.block _ (lt_of_block HRj.out)).trans HRj.out)
    clear HBj HPj HRj HYj hb
    have HPP : Hid (PtsAt wd (.slice (some ⟨g, 0, none⟩) pts.length cap) jp) := by show PtsAt _ _ _; rw [← HJP.out, hbj]; exact fix_pts HG.out HTK.out hcs hnc hj hbj (by omega)
    clear HG HTK hg1 hg2
    have hjw : w3.heap.size < wd.heap.size := lt_of_block HJ.out
    go_upto_region 9 with fail
    go_cut [9, 10] (fun a b wx => ∃ bl br, a = .pointer (some ⟨bl, 0, none⟩) ∧ b = .pointer (some ⟨br, 0, none⟩) ∧ bl ≠ br ∧ wd.heap.size ≤ bl ∧ wd.heap.size ≤ br ∧ Hid (wx.heap[bl]? = some (.cells #[.int .i64 st, (.slice (some ⟨g, 0, none⟩) pts.length cap)] 24 (0, 0))) ∧ Hid (wx.heap[br]? = some (.cells #[.int .i64 st, (.slice (some ⟨g, 0, none⟩) pts.length cap)] 24 (0, 0))) ∧ Hid (Below wd.heap.size wd wx))
    case first =>
      have ja := cellOf HJ.out 0 _ rfl
      have jb := cellOf HJ.out 1 _ rfl
      have jl := lt_of_block HJ.out
      go_region
      · go_wp2
        go_meet
        obtain ⟨z1, z2, z3⟩ := two_new wd (Obj.cells #[.int .i64 st, (.slice (some ⟨g, 0, none⟩) pts.length cap)] 24) (Obj.cells #[.int .i64 st, (.slice (some ⟨g, 0, none⟩) pts.length cap)] 24)
        exact ⟨wd.heap.size, wd.heap.size + 1, rfl, rfl, by omega, Nat.le_refl _, by omega, z1, z2, z3⟩
      · go_wp2
        go_meet
        obtain ⟨z1, z2, z3⟩ := two_new wd (Obj.cells #[.int .i64 st, (.slice (some ⟨g, 0, none⟩) pts.length cap)] 24) (Obj.cells #[.int .i64 st, (.slice (some ⟨g, 0, none⟩) pts.length cap)] 24)
        exact ⟨wd.heap.size + 1, wd.heap.size, rfl, rfl, by omega, by omega, Nat.le_refl _, z2, z1, z3⟩
    case rest =>
      obtain ⟨bl, br, rfl, rfl, hlr, hbl, hbr, HLL, HRR, hb⟩ := hcut
      have HBd := HB
      have HRd := HR
      have HJd := HJ
      have HQd := HQ
      have HPPd := HPP
      have HCB := hb
      have HB' := Lib.hid (HB.out.trans (hb.out.mono HB.out.size))
      have HR' := Lib.hid ((hb.out.block _ (lt_of_block HR.out)).trans HR.out)
      have HJ' := Lib.hid ((hb.out.block _ (lt_of_block HJ.out)).trans HJ.out)
      have HQ' := Lib.hid ((hb.out.block _ (lt_of_block HQ.out)).trans HQ.out)
      have HPP' := Lib.hid (HPP.out.below hb.out)
      clear HB
      have HB := HB'
      clear HB'
      clear HR
      have HR := HR'
      clear HR'
      clear HJ
      have HJ := HJ'
      clear HJ'
      clear HQ
      have HQ := HQ'
      clear HQ'
      clear HPP
      have HPP := HPP'
      clear HPP'
      clear hb
      go_upto_region 10 with fail
      have jb := cellOf HJ.out 1 _ rfl
      have jl := lt_of_block HJ.out
      have lb := cellOf HLL.out 1 _ rfl
      have rb := cellOf HRR.out 1 _ rfl
      have fl := frozen_of_row _ _ 1 _ _ HLL.out
      have fr := frozen_of_row _ _ 1 _ _ HRR.out
      have k1 : ¬ w3.heap.size = bl := by omega
      have k2 : ¬ bl = w3.heap.size := by omega
      have k3 : ¬ w3.heap.size = br := by omega
      have k4 : ¬ br = w3.heap.size := by omega
      have k5 : ¬ br = bl := fun h => hlr h.symm
      have k6 : ¬ bl = br := hlr
      have k7 : ¬ cap = j := by omega
      have k8 : ¬ j = cap := by omega
      have jc : (j : Int) + 1 ≤ (cap : Int) := by omega
      have capI : (cap : Int) ≤ 9223372036854775807 := by have : cap ≤ maxLen := hcm; unfold maxLen at this; omega
      go_region
      have hb : Below wd.heap.size wd (((wc.setCell ⟨bl, 1, none⟩ (.slice (some ⟨g, 0, none⟩) (j + 1) cap)).setCell ⟨br, 1, none⟩ (.slice (some ⟨g, j * 3, none⟩) (pts.length - j) (cap - j))).drew) := ((HCB.out.setCell (p := ⟨bl, 1, none⟩) hbl _).setCell (p := ⟨br, 1, none⟩) hbr _).trans ⟨rfl, rfl, rfl, Nat.le_refl _, fun _ _ => rfl⟩
      have HLL' : Hid ((((wc.setCell ⟨bl, 1, none⟩ (.slice (some ⟨g, 0, none⟩) (j + 1) cap)).setCell ⟨br, 1, none⟩ (.slice (some ⟨g, j * 3, none⟩) (pts.length - j) (cap - j))).drew).heap[bl]? = some (.cells #[.int .i64 st, (.slice (some ⟨g, 0, none⟩) (j + 1) cap)] 24 (0, 0))) := (heap_setCell_other _ (⟨br, 1, none⟩ : Addr) bl _ k6).trans (heap_setCell_same wc bl 1 _ _ _ HLL.out)
      have HRR' : Hid ((((wc.setCell ⟨bl, 1, none⟩ (.slice (some ⟨g, 0, none⟩) (j + 1) cap)).setCell ⟨br, 1, none⟩ (.slice (some ⟨g, j * 3, none⟩) (pts.length - j) (cap - j))).drew).heap[br]? = some (.cells #[.int .i64 st, (.slice (some ⟨g, j * 3, none⟩) (pts.length - j) (cap - j))] 24 (0, 0))) := heap_setCell_same _ br 1 _ _ _ ((heap_setCell_other wc (⟨bl, 1, none⟩ : Addr) br _ k5).trans HRR.out)
      clear jb jl lb rb fl fr HLL HRR HB HR HJ HQ HPP
      have HLL := HLL'
      have HRR := HRR'
      clear HLL' HRR' HCB
      generalize ((wc.setCell ⟨bl, 1, none⟩ (.slice (some ⟨g, 0, none⟩) (j + 1) cap)).setCell ⟨br, 1, none⟩ (.slice (some ⟨g, j * 3, none⟩) (pts.length - j) (cap - j))).drew = we at *
      have HB := Lib.hid (HBd.out.trans (hb.mono HBd.out.size))
      clear HBd
      have HR := Lib.hid ((hb.block _ (lt_of_block HRd.out)).trans HRd.out)
      clear HRd
      have HJ := Lib.hid ((hb.block _ (lt_of_block HJd.out)).trans HJd.out)
      clear HJd
      have HQ := Lib.hid ((hb.block _ (lt_of_block HQd.out)).trans HQd.out)
      clear HQd
      have HPP := Lib.hid (HPPd.out.below hb)
      clear HPPd
      clear hb
      have hjl : jp.length = pts.length := by rw [← HJP.out]; simp
      have HPL := Lib.hid (PtsAt.take HPP.out (j + 1) (by omega))
      have HPR := Lib.hid (PtsAt.drop HPP.out j (by omega))
      rw [hjl, Nat.zero_add] at HPR
      clear hjl
      have ja := cellOf HJ.out 0 _ rfl
      have jb := cellOf HJ.out 1 _ rfl
      have jl := lt_of_block HJ.out
      go_wp2_with fail
      clear ja jb jl
      have hcall := Best_any ⟨st, jp⟩ false _ we HPP.out
      rw [HQ1.out] at hcall
      simp only at hcall
      refine hcall.mono ?_
      clear hcall
      rintro e w5 ⟨v1, rfl, hown, hb⟩
      have HB' := Lib.hid (HB.out.trans (hb.mono HB.out.size))
      have HR' := Lib.hid ((hb.block _ (lt_of_block HR.out)).trans HR.out)
      have HJ' := Lib.hid ((hb.block _ (lt_of_block HJ.out)).trans HJ.out)
      have HQ' := Lib.hid ((hb.block _ (lt_of_block HQ.out)).trans HQ.out)
      have HPP' := Lib.hid (HPP.out.below hb)
      have HLL' := Lib.hid ((hb.block _ (lt_of_block HLL.out)).trans HLL.out)
      have HRR' := Lib.hid ((hb.block _ (lt_of_block HRR.out)).trans HRR.out)
      have HPL' := Lib.hid (HPL.out.below hb)
      have HPR' := Lib.hid (HPR.out.below hb)
      clear HB
      have HB := HB'
      clear HB'
      clear HR
      have HR := HR'
      clear HR'
      clear HJ
      have HJ := HJ'
      clear HJ'
      clear HQ
      have HQ := HQ'
      clear HQ'
      clear HPP
      have HPP := HPP'
      clear HPP'
      clear HLL
      have HLL := HLL'
      clear HLL'
      clear HRR
      have HRR := HRR'
      clear HRR'
      clear HPL
      have HPL := HPL'
      clear HPL'
      clear HPR
      have HPR := HPR'
      clear HPR'
      clear hb
      clear hown HQ1
      have ja := cellOf HLL.out 0 _ rfl
      have jb := cellOf HLL.out 1 _ rfl
      have jl := lt_of_block HLL.out
      go_wp2_with fail
      clear ja jb jl
      have hcall := Best_any ⟨st, jp.take (j + 1)⟩ false _ w5 HPL.out
      rw [HQ2.out] at hcall
      simp only at hcall
      refine hcall.mono ?_
      clear hcall
      rintro e w6 ⟨v2, rfl, hown, hb⟩
      have HB' := Lib.hid (HB.out.trans (hb.mono HB.out.size))
      have HR' := Lib.hid ((hb.block _ (lt_of_block HR.out)).trans HR.out)
      have HJ' := Lib.hid ((hb.block _ (lt_of_block HJ.out)).trans HJ.out)
      have HQ' := Lib.hid ((hb.block _ (lt_of_block HQ.out)).trans HQ.out)
      have HPP' := Lib.hid (HPP.out.below hb)
      have HLL' := Lib.hid ((hb.block _ (lt_of_block HLL.out)).trans HLL.out)
      have HRR' := Lib.hid ((hb.block _ (lt_of_block HRR.out)).trans HRR.out)
      have HPL' := Lib.hid (HPL.out.below hb)
      have HPR' := Lib.hid (HPR.out.below hb)
      clear HB
      have HB := HB'
      clear HB'
      clear HR
      have HR := HR'
      clear HR'
      clear HJ
      have HJ := HJ'
      clear HJ'
      clear HQ
      have HQ := HQ'
      clear HQ'
      clear HPP
      have HPP := HPP'
      clear HPP'
      clear HLL
      have HLL := HLL'
      clear HLL'
      clear HRR
      have HRR := HRR'
      clear HRR'
      clear HPL
      have HPL := HPL'
      clear HPL'
      clear HPR
      have HPR := HPR'
      clear HPR'
      clear hb
      clear hown HQ2
      have ja := cellOf HRR.out 0 _ rfl
      have jb := cellOf HRR.out 1 _ rfl
      have jl := lt_of_block HRR.out
      go_wp2_with fail
      clear ja jb jl
      have hcall := Best_any ⟨st, jp.drop j⟩ false _ w6 HPR.out
      rw [HQ3.out] at hcall
      simp only at hcall
      refine hcall.mono ?_
      clear hcall
      rintro e w7 ⟨v3, rfl, hown, hb⟩
      have HB' := Lib.hid (HB.out.trans (hb.mono HB.out.size))
      have HR' := Lib.hid ((hb.block _ (lt_of_block HR.out)).trans HR.out)
      have HJ' := Lib.hid ((hb.block _ (lt_of_block HJ.out)).trans HJ.out)
      have HQ' := Lib.hid ((hb.block _ (lt_of_block HQ.out)).trans HQ.out)
      have HPP' := Lib.hid (HPP.out.below hb)
      have HLL' := Lib.hid ((hb.block _ (lt_of_block HLL.out)).trans HLL.out)
      have HRR' := Lib.hid ((hb.block _ (lt_of_block HRR.out)).trans HRR.out)
      have HPL' := Lib.hid (HPL.out.below hb)
      have HPR' := Lib.hid (HPR.out.below hb)
      clear HB
      have HB := HB'
      clear HB'
      clear HR
      have HR := HR'
      clear HR'
      clear HJ
      have HJ := HJ'
      clear HJ'
      clear HQ
      have HQ := HQ'
      clear HQ'
      clear HPP
      have HPP := HPP'
      clear HPP'
      clear HLL
      have HLL := HLL'
      clear HLL'
      clear HRR
      have HRR := HRR'
      clear HRR'
      clear HPL
      have HPL := HPL'
      clear HPL'
      clear HPR
      have HPR := HPR'
      clear HPR'
      clear hb
      clear hown HQ3
      rw [hbj] at hcase
      rcases hcase with ⟨rfl, rfl, rfl | rfl⟩ | ⟨rfl, rfl, rfl⟩ | ⟨rfl, rfl, rfl, rfl⟩
      · skip
        go_wp2_with fail
        have hcall := awake_any w7
        refine hcall.mono ?_
        clear hcall
        rintro e w8 ⟨rfl, hb⟩
        have HB' := Lib.hid (HB.out.trans (hb.mono HB.out.size))
        have HR' := Lib.hid ((hb.block _ (lt_of_block HR.out)).trans HR.out)
        have HJ' := Lib.hid ((hb.block _ (lt_of_block HJ.out)).trans HJ.out)
        have HQ' := Lib.hid ((hb.block _ (lt_of_block HQ.out)).trans HQ.out)
        have HPP' := Lib.hid (HPP.out.below hb)
        have HLL' := Lib.hid ((hb.block _ (lt_of_block HLL.out)).trans HLL.out)
        have HRR' := Lib.hid ((hb.block _ (lt_of_block HRR.out)).trans HRR.out)
        have HPL' := Lib.hid (HPL.out.below hb)
        have HPR' := Lib.hid (HPR.out.below hb)
        clear HB
        have HB := HB'
        clear HB'
        clear HR
        have HR := HR'
        clear HR'
        clear HJ
        have HJ := HJ'
        clear HJ'
        clear HQ
        have HQ := HQ'
        clear HQ'
        clear HPP
        have HPP := HPP'
        clear HPP'
        clear HLL
        have HLL := HLL'
        clear HLL'
        clear HRR
        have HRR := HRR'
        clear HRR'
        clear HPL
        have HPL := HPL'
        clear HPL'
        clear HPR
        have HPR := HPR'
        clear HPR'
        clear hb
        go_wp2
        go_ret
        exact ⟨rfl, HB.out⟩
      · skip
        go_wp2_with fail
        have hcall := awake_any w7
        refine hcall.mono ?_
        clear hcall
        rintro e w9 ⟨rfl, hb⟩
        have HB' := Lib.hid (HB.out.trans (hb.mono HB.out.size))
        have HR' := Lib.hid ((hb.block _ (lt_of_block HR.out)).trans HR.out)
        have HJ' := Lib.hid ((hb.block _ (lt_of_block HJ.out)).trans HJ.out)
        have HQ' := Lib.hid ((hb.block _ (lt_of_block HQ.out)).trans HQ.out)
        have HPP' := Lib.hid (HPP.out.below hb)
        have HLL' := Lib.hid ((hb.block _ (lt_of_block HLL.out)).trans HLL.out)
        have HRR' := Lib.hid ((hb.block _ (lt_of_block HRR.out)).trans HRR.out)
        have HPL' := Lib.hid (HPL.out.below hb)
        have HPR' := Lib.hid (HPR.out.below hb)
        clear HB
        have HB := HB'
        clear HB'
        clear HR
        have HR := HR'
        clear HR'
        clear HJ
        have HJ := HJ'
        clear HJ'
        clear HQ
        have HQ := HQ'
        clear HQ'
        clear HPP
        have HPP := HPP'
        clear HPP'
        clear HLL
        have HLL := HLL'
        clear HLL'
        clear HRR
        have HRR := HRR'
        clear HRR'
        clear HPL
        have HPL := HPL'
        clear HPL'
        clear HPR
        have HPR := HPR'
        clear HPR'
        clear hb
        go_wp2
        go_ret
        exact ⟨rfl, HB.out⟩
      · skip
        go_wp2_with fail
        have hcall := awake_any w7
        refine hcall.mono ?_
        clear hcall
        rintro e w10 ⟨rfl, hb⟩
        have HB' := Lib.hid (HB.out.trans (hb.mono HB.out.size))
        have HR' := Lib.hid ((hb.block _ (lt_of_block HR.out)).trans HR.out)
        have HJ' := Lib.hid ((hb.block _ (lt_of_block HJ.out)).trans HJ.out)
        have HQ' := Lib.hid ((hb.block _ (lt_of_block HQ.out)).trans HQ.out)
        have HPP' := Lib.hid (HPP.out.below hb)
        have HLL' := Lib.hid ((hb.block _ (lt_of_block HLL.out)).trans HLL.out)
        have HRR' := Lib.hid ((hb.block _ (lt_of_block HRR.out)).trans HRR.out)
        have HPL' := Lib.hid (HPL.out.below hb)
        have HPR' := Lib.hid (HPR.out.below hb)
        clear HB
        have HB := HB'
        clear HB'
        clear HR
        have HR := HR'
        clear HR'
        clear HJ
        have HJ := HJ'
        clear HJ'
        clear HQ
        have HQ := HQ'
        clear HQ'
        clear HPP
        have HPP := HPP'
        clear HPP'
        clear HLL
        have HLL := HLL'
        clear HLL'
        clear HRR
        have HRR := HRR'
        clear HRR'
        clear HPL
        have HPL := HPL'
        clear HPL'
        clear HPR
        have HPR := HPR'
        clear HPR'
        clear hb
        go_wp2
        go_ret
        exact ⟨rfl, HB.out⟩
      · skip
        have q0 := cellOf HQ.out 0 _ rfl
        have ql := lt_of_block HQ.out
        go_wp2_with fail
        have hcall := awake_any w7
        refine hcall.mono ?_
        clear hcall
        rintro e w11 ⟨rfl, hb⟩
        have HB' := Lib.hid (HB.out.trans (hb.mono HB.out.size))
        have HR' := Lib.hid ((hb.block _ (lt_of_block HR.out)).trans HR.out)
        have HJ' := Lib.hid ((hb.block _ (lt_of_block HJ.out)).trans HJ.out)
        have HQ' := Lib.hid ((hb.block _ (lt_of_block HQ.out)).trans HQ.out)
        have HPP' := Lib.hid (HPP.out.below hb)
        have HLL' := Lib.hid ((hb.block _ (lt_of_block HLL.out)).trans HLL.out)
        have HRR' := Lib.hid ((hb.block _ (lt_of_block HRR.out)).trans HRR.out)
        have HPL' := Lib.hid (HPL.out.below hb)
        have HPR' := Lib.hid (HPR.out.below hb)
        clear HB
        have HB := HB'
        clear HB'
        clear HR
        have HR := HR'
        clear HR'
        clear HJ
        have HJ := HJ'
        clear HJ'
        clear HQ
        have HQ := HQ'
        clear HQ'
        clear HPP
        have HPP := HPP'
        clear HPP'
        clear HLL
        have HLL := HLL'
        clear HLL'
        clear HRR
        have HRR := HRR'
        clear HRR'
        clear HPL
        have HPL := HPL'
        clear HPL'
        clear HPR
        have HPR := HPR'
        clear HPR'
        clear hb
        go_wp2
        go_ret
        exact ⟨rfl, HB.out⟩

set_option maxRecDepth 100000 in
set_option maxHeartbeats 16000000 in
theorem lpart_any (r : Row) (pv : Value) (x y : Nat) (hx : x ≤ 255) (hy : y ≤ 255) (w : World) (hP : PtsAt w pv r.pts) :
    Calls Try.prog 15 #[.agg #[.int .i64 r.st, pv], .agg #[.int .u8 x, .int .u8 y]] w fun e w' => e = .returned (.bool true) ∧ Below w.heap.size w w' := by
  obtain ⟨st, pts⟩ := r
  simp only at hP ⊢
  obtain ⟨lp, pa, pc, rfl, _, _⟩ := id hP
  by_cases hv : errR ⟨st, pts⟩ = 0
  · have hV := (check_valid _).1 hv
    have h1 : 1 ≤ pts.length := hV.n1
    obtain ⟨pb, po, rfl, _⟩ := hP.get (show 0 < pts.length by omega)
    have hj : x % pts.length < pts.length := Nat.mod_lt _ (by omega)
    have e1 : pts.getD (x % pts.length) default = pts[x % pts.length] := by simp [List.getD_eq_getElem?_getD, hj]
    have o := hV.ok pts[x % pts.length] (List.getElem_mem hj)
    have p1 := o.le
    have p2 := o.l0
    have p3 := o.h9
    rw [← e1] at p1 p2 p3
    have q0 := Int.emod_nonneg (y : Int) (show (pts.getD (x % pts.length) default).hi - (pts.getD (x % pts.length) default).lo + 1 ≠ 0 by omega)
    have q1 := Int.emod_lt_of_pos (y : Int) (show 0 < (pts.getD (x % pts.length) default).hi - (pts.getD (x % pts.length) default).lo + 1 by omega)
    obtain ⟨nn, hnn⟩ : ∃ nn, (pts.getD (x % pts.length) default).lo + (y : Int) % ((pts.getD (x % pts.length) default).hi - (pts.getD (x % pts.length) default).lo + 1) = nn := ⟨_, rfl⟩
    obtain ⟨f1, f2, f3, f4⟩ := fix_err ⟨st, pts⟩ (x % pts.length) hj nn (show (pts.getD (x % pts.length) default).lo ≤ nn by omega) (show nn ≤ (pts.getD (x % pts.length) default).hi by omega) hv
    have hp := parted (fixR ⟨st, pts⟩ (x % pts.length) nn) (x % pts.length) (by simp [fixR]; exact hj) nn (by rw [f4]) (by rw [f4]) f1 f2 f3
    rw [f4] at hp
    have b1 := best_pl _ f2
    have c1 := best_pl _ f3
    exact lpart_ok st pts pb po pc x y hx hy w hP hv (x % pts.length) rfl nn hnn (by omega) (by omega) _ rfl _ _ _ _ _ _ _ _ _ b1.1 b1.2 c1.1 c1.2 rfl rfl rfl hp
  · exact lpart_no st pts pa pc x y hx hy w hP hv

end Go.Proofs.Ytnciomoapajonaa
namespace Go.Proofs.Ytnciomoapajonaa
namespace ClaimCarveParted
open Go.ChangeShapes Go.WideShapes Go.ChangeAt Go.RowKit

theorem own : ownKnob Try.prog.godebug = none := by kernel_rfl
theorem laidOutP : laidOutB Try.prog = true := by kernel_rfl

set_option maxRecDepth 100000 in
theorem contract (H : Type) (enc : TypeId × Value → H) (W : World) (base : Nat) (args : Array Value) (ds gs : List (DataW H)) (before : List MemPlace)
    (hval : ∀ (j : Nat) t v, Try.f15.params[j]? = some t → args[j]? = some v → Value.okWide Try.prog W .any base t v)
    (hW : DataW.Whole enc Try.prog Try.f15.params.toList Rows.carvePartedSpec.vars false W args.toList ds gs before)
    (hsz : (DataW.weightsEach Try.prog (Try.f15.params.toList ++ Rows.carvePartedSpec.plain.varTypes Try.prog) (ds ++ gs)).all (· ≤ reachBytes) = true) :
    Calls Try.prog 15 args W fun e W' => ∃ v, e = .returned v ∧ Rows.carvePartedSpec.post enc Try.prog Try.f15 false true false false W args v W' := by
  have hW' := hW
  obtain ⟨p, q, hA0, hV, rfl, hfz, hnd⟩ := hW
  have hA : DataW.TrodAll enc Try.prog W 0 (fun _ => true) true Try.f15.params.toList args.toList ds p := hA0
  rw [Try.params15] at hA hval hsz
  obtain ⟨v0, vs0, d0, ds0, p0, q0, hargs, rfl, rfl, h0, r0⟩ := trodAll_cons hA
  obtain ⟨v1, vs1, d1, ds1, p1, q1, rfl, rfl, rfl, h1, r1⟩ := trodAll_cons r0
  obtain ⟨rfl, rfl, rfl⟩ := trodAll_nil r1
  obtain rfl : args = #[v0, v1] := by cases args; simp_all
  obtain ⟨rfl, rfl⟩ := trodVars_none hV
  have w0 : ∀ x ∈ d0.weights Try.prog 24, x ≤ reachBytes := fun x hx => of_decide_eq_true (List.all_eq_true.1 hsz _ (DataW.weights_mem_each (j := 0) (t := 24) (d := d0) rfl rfl x hx))
  obtain ⟨r, pv, rfl, hP, hs0, hs9⟩ := open_row (hval 0 24 v0 rfl rfl) h0 w0
  obtain ⟨x1, y1, rfl, bx1, by1⟩ := open_u8x2 (hval 1 52 v1 rfl rfl) h1
  clear hA0
  refine (lpart_any r pv x1 y1 bx1 by1 W hP ).mono fun e W' ⟨he, hb⟩ => ?_
  subst he
  exact ⟨_, rfl, post_law laidOutP (by rw [Try.params15]; intro t ht; simp at ht; rcases ht with rfl | rfl <;> exact ⟨by kernel_rfl, of_decide_eq_true (by kernel_rfl)⟩) rfl rfl Try.underlying4 rfl hW' hb⟩

set_option maxRecDepth 100000 in
theorem lifted (os : Os) (started : os.Started) (H : Type) (enc : TypeId × Value → H) :
    ReturnsInHanded {} Try.checked os 15 .any (Rows.carvePartedSpec.pre6 enc Try.prog Try.f15 Rows.carvePartedRow.domain false) (Rows.carvePartedSpec.post enc Try.prog Try.f15 false true false false) := by
  refine returnsInHanded_of_change_sized (C := Try.checked) own started (by kernel_rfl) Try.func15
    (ChangeSpec.witness6 (enc := enc) (C := Try.checked) false ⟨#[], #[.agg #[.int .i64 0, .slice none 0 0], .agg #[.int .u8 0, .int .u8 0]], []⟩ 8 (by kernel_rfl) (by kernel_rfl) (by kernel_rfl) (by kernel_rfl)) ?_
  intro W base args ds gs before hval hW _ hsz _
  exact contract H enc W base args ds gs before hval hW hsz

theorem over : Rows.CarvePartedSaid :=
  OpenClaim.holds_of_wide 15 Try.f15 rfl rfl rfl rfl rfl rfl rfl ⟨rfl, rfl, rfl, rfl, rfl⟩ rfl rfl rfl rfl rfl (by kernel_rfl) Try.func15 (by kernel_rfl)
    (of_decide_eq_true (by kernel_rfl)) (by unfold Func.isWrapper; first | (rw [if_pos (by decide +kernel)]; kernel_rfl) | (rw [if_neg (by decide +kernel)]; exact ⟨rfl, rfl⟩))
    (fun os started H enc _ => lifted os started H enc)
end ClaimCarveParted

theorem carveParted_holds : Rows.CarvePartedSaid := ClaimCarveParted.over
end Go.Proofs.Ytnciomoapajonaa
