/- CarveWider: the call returns true, whatever its arguments and the memory in which it begins; its arguments read as they did. -/
import Derived.Test.YtnciomoapajonaaRgc
import Derived.Test.YtnciomoapajonaaCxe
import Derived.Test.YtnciomoapajonaaCxf
import Derived.Test.YtnciomoapajonaaCwn
import Derived.Laws.AppendOwn
import Derived.OwnWalk
import Derived.Test.YtnciomoapajonaaCxg
import Derived.Test.YtnciomoapajonaaRows
import Derived.Test.YtnciomoapajonaaCar
import Derived.ProofKit
import Derived.JoinedOf
import Derived.JoinedAt
set_option linter.unusedSimpArgs false
set_option linter.unusedVariables false
namespace Go.Proofs.Ytnciomoapajonaa
open Go Go.RowKit Cv

theorem best_cases (r : Row) (h : errR r = 0) : (crossB r = true ∧ ∀ q, bestR r q = ([], 0, 0, 9)) ∨ (crossB r = false ∧ ∀ q, ∃ s, bestR r q = (s, fillsN r.pts s r.pts.length, manyL 0 (deepN r.pts s r.pts.length), 0) ∧ s.length = r.pts.length ∧ (∀ x, x ∈ s → 0 ≤ x ∧ x ≤ 9000) ∧ goodV r s = true ∧
    ∀ t, t.length = r.pts.length → goodV r t = true → ltN q (fillsN r.pts t r.pts.length, manyL 0 (deepN r.pts t r.pts.length)) (fillsN r.pts s r.pts.length, manyL 0 (deepN r.pts s r.pts.length)) = false) := by
  have hv := (check_valid r).1 h
  cases hc : crossB r
  · refine .inr ⟨rfl, fun q => ?_⟩
    have hb := best_is r hv hc q
    obtain ⟨hg, hn, hm⟩ := refL_some r.st q r.pts none _ hb
    simp only at hg hn hm
    have hl := hg.length
    refine ⟨surfL r.st q (bndR r) none, ?_, hl, ?_, (goodV_iff r _ hl).2 hg, fun t ht htg => ?_⟩
    · have e : boundE r = 0 := by unfold boundE; rw [h, hc]; rfl
      unfold bestR
      rw [if_pos e]
      have e2 : (wayK r q 0 none).2 = (wayL r.st q (bndR r) none).2 := by simp [wayK]
      rw [e2, hn, needS_is _ _ _ hl]
      rfl
    · intro x hx
      obtain ⟨i, hi, rfl⟩ := List.mem_iff_getElem.1 hx
      have := ((goodL_iff _ _ _ _).1 hg).2.1 i (by omega)
      have hp := hv.ok r.pts[i] (List.getElem_mem (by omega))
      rw [List.getD_eq_getElem?_getD, List.getElem?_eq_getElem (by omega), List.getD_eq_getElem?_getD, List.getElem?_eq_getElem hi] at this
      simp only [Option.getD_some] at this
      have := hp.l0
      have := hp.h9
      omega
    · have := hm t ((goodV_iff r t ht).1 htg)
      rw [hn, needS_is _ _ _ hl, needS_is _ _ _ ht] at this
      exact this
  · refine .inl ⟨rfl, fun q => ?_⟩
    have e : boundE r = 9 := by unfold boundE; rw [h, hc]; rfl
    unfold bestR
    rw [e]
    rfl
end Go.Proofs.Ytnciomoapajonaa
namespace Go.Proofs.Ytnciomoapajonaa
open Go Go.RowKit Cv

/-- The second row is as wide as the first one, or wider. -/
structure Wide (r s : Row) : Prop where
  len : s.pts.length = r.pts.length
  st : r.st ≤ s.st
  pt : ∀ i, i < r.pts.length → (s.pts.getD i default).bd = (r.pts.getD i default).bd ∧ (s.pts.getD i default).lo ≤ (r.pts.getD i default).lo ∧ (r.pts.getD i default).hi ≤ (s.pts.getD i default).hi
theorem Wide.good {r s : Row} (h : Wide r s) (t : List Int) (hg : GoodL r.st none r.pts t) : GoodL s.st none s.pts t := by
  obtain ⟨hl, h1, h2, _⟩ := (goodL_iff _ _ _ _).1 hg
  refine (goodL_iff _ _ _ _).2 ⟨hl.trans h.len.symm, fun k hk => ?_, fun k hk => ?_, fun _ => rfl⟩
  · have hk' : k < r.pts.length := by rw [← h.len]; exact hk
    have a := h1 k hk'
    have b := h.pt k hk'
    omega
  · have a := h2 k (by rw [← h.len]; exact hk)
    have b := h.st
    omega
theorem Wide.cross {r s : Row} (h : Wide r s) (h0 : 0 ≤ r.st) (hc : crossB r = false) : crossB s = false := by
  obtain ⟨t, ht⟩ := (good_iff r h0).1 hc
  exact (good_iff s (Int.le_trans h0 h.st)).2 ⟨t, h.good t ht⟩
theorem Wide.low {r s : Row} (h : Wide r s) (h0 : 0 ≤ r.st) (i : Nat) (hi : i < r.pts.length) : lowF s i ≤ lowF r i := by
  have a := lowF_is r h0
  have b := lowF_is s (Int.le_trans h0 h.st)
  rw [h.len] at b
  refine b.least (lowF r) (fun j hj => ?_) (fun j hj => ?_) (fun j hj => ?_) i hi
  · have x := a.ge j hj
    have y := (h.pt j hj).2.1
    rw [loF_get _ _ hj] at x
    rw [loF_get _ _ (by rw [h.len]; exact hj)]
    omega
  · have x := a.up j hj
    have y := h.st
    omega
  · have x := a.dn j hj
    have y := h.st
    omega
theorem Wide.high {r s : Row} (h : Wide r s) (h0 : 0 ≤ r.st) (i : Nat) (hi : i < r.pts.length) : highF r i ≤ highF s i := by
  have a := highF_is r h0
  have b := highF_is s (Int.le_trans h0 h.st)
  rw [h.len] at b
  have := b.least (fun j => -(highF r j)) (fun j hj => ?_) (fun j hj => ?_) (fun j hj => ?_) i hi
  · try simp only at this
    omega
  · have x := a.ge j hj
    have y := (h.pt j hj).2.2
    try simp only at x ⊢
    rw [hiF_get _ _ hj] at x
    rw [hiF_get _ _ (by rw [h.len]; exact hj)]
    omega
  · have x := a.up j hj
    have y := h.st
    try simp only at x ⊢
    omega
  · have x := a.dn j hj
    have y := h.st
    try simp only at x ⊢
    omega
theorem Wide.fills {r s : Row} (h : Wide r s) (t : List Int) : ∀ k, k ≤ r.pts.length → fillsN s.pts t k = fillsN r.pts t k := by
  intro k
  induction k with
  | zero => intro _; rfl
  | succ k ih =>
    intro hk
    rw [fillsN, fillsN, ih (by omega), (h.pt k (by omega)).1]
theorem Wide.deep {r s : Row} (h : Wide r s) (t : List Int) : deepN s.pts t s.pts.length = deepN r.pts t r.pts.length := by
  rw [h.len]
  unfold deepN
  refine List.map_congr_left fun k hk => ?_
  rw [(h.pt k (List.mem_range.1 hk)).1]
theorem Wide.best {r s : Row} (h : Wide r s) (hr : errR r = 0) (hs : errR s = 0) (hc : crossB r = false) : ∃ a b c a' b' c' d : Int, ∃ d', (bestR r false).2 = (a, b, 0) ∧ (bestR s false).2 = (a', b', 0) ∧ (bestR r true).2 = (c, d, 0) ∧ (bestR s true).2 = (c', d', 0) ∧ a' ≤ a ∧ d' ≤ d := by
  have hc' := h.cross ((check_valid r).1 hr).s0 hc
  rcases best_cases r hr with ⟨q, _⟩ | ⟨_, h1⟩
  · rw [hc] at q; cases q
  rcases best_cases s hs with ⟨q, _⟩ | ⟨_, h2⟩
  · rw [hc'] at q; cases q
  have key : ∀ q, ∃ x y, (bestR r q).2 = (x.1, x.2, 0) ∧ (bestR s q).2 = (y.1, y.2, 0) ∧ ltN q x y = false := fun q => by
    obtain ⟨t, e1, l1, _, g1, _⟩ := h1 q
    obtain ⟨u, e2, _, _, _, m2⟩ := h2 q
    rw [e1, e2]
    refine ⟨(_, _), (_, _), rfl, rfl, ?_⟩
    have := m2 t (l1.trans h.len.symm) ((goodV_iff s t (l1.trans h.len.symm)).2 (h.good t ((goodV_iff r t l1).1 g1)))
    rw [h.deep t] at this
    rw [show fillsN s.pts t s.pts.length = fillsN r.pts t r.pts.length by rw [h.len]; exact h.fills t _ (Nat.le_refl _)] at this
    exact this
  obtain ⟨⟨a, b⟩, ⟨a', b'⟩, e1, e2, k1⟩ := key false
  obtain ⟨⟨c, d⟩, ⟨c', d'⟩, e3, e4, k2⟩ := key true
  rw [← Bool.not_eq_true, ltN_iff] at k1 k2
  simp at k1 k2
  exact ⟨a, b, c, a', b', c', d, d', e1, e2, e3, e4, by omega, by omega⟩
theorem Wide.bounds {r s : Row} (h : Wide r s) (hr : errR r = 0) (hs : errR s = 0) (hc : crossB r = false) : boundsR r = (bandsR r, 0) ∧ boundsR s = (bandsR s, 0) ∧ (bandsR s).length = (bandsR r).length ∧
    ∀ i, i < (bandsR r).length → ((bandsR s).getD i (0, 0)).1 ≤ ((bandsR r).getD i (0, 0)).1 ∧ ((bandsR r).getD i (0, 0)).2 ≤ ((bandsR s).getD i (0, 0)).2 := by
  have h0 := ((check_valid r).1 hr).s0
  have hc' := h.cross h0 hc
  refine ⟨by unfold boundsR boundE; rw [hr, hc]; rfl, by unfold boundsR boundE; rw [hs, hc']; rfl, by rw [bandsR_length, bandsR_length, h.len], fun i hi => ?_⟩
  rw [bandsR_length] at hi
  unfold bandsR
  rw [h.len, List.getD_eq_getElem?_getD, List.getD_eq_getElem?_getD]
  simp only [List.getElem?_map, List.getElem?_range hi, Option.map_some, Option.getD_some]
  exact ⟨h.low h0 i hi, h.high h0 i hi⟩
/-- A point with a wider band. -/
def widP (b c : Int) (p : Pt) : Pt := ⟨p.bd, p.lo - min (30 - (p.hi - p.lo)) (min p.lo (b % 4)), min 9000 (p.hi + min (30 - (p.hi - p.lo) - min (30 - (p.hi - p.lo)) (min p.lo (b % 4))) (c % 4))⟩
def widR (a b c : Int) (r : Row) : Row := ⟨min 200 (r.st + a % 4), r.pts.map (widP b c)⟩
theorem widP_ok (b c : Int) (hb : 0 ≤ b) (hc : 0 ≤ c) (p : Pt) (h : PtOk p) : PtOk (widP b c p) ∧ (widP b c p).lo ≤ p.lo ∧ p.hi ≤ (widP b c p).hi := by
  obtain ⟨h1, h2, h3, h4, h5, h6, h7, h8⟩ := h
  have b0 := Int.emod_nonneg b (show (4 : Int) ≠ 0 by decide)
  have c0 := Int.emod_nonneg c (show (4 : Int) ≠ 0 by decide)
  refine ⟨⟨h1, h2, ?_, ?_, ?_, ?_, ?_, ?_⟩, ?_, ?_⟩ <;> simp only [widP] <;> omega
theorem wid_wide (a b c : Int) (ha : 0 ≤ a) (hb : 0 ≤ b) (hc : 0 ≤ c) (r : Row) (hr : errR r = 0) : Wide r (widR a b c r) ∧ errR (widR a b c r) = 0 := by
  have hv := (check_valid r).1 hr
  have a0 := Int.emod_nonneg a (show (4 : Int) ≠ 0 by decide)
  refine ⟨⟨by simp [widR], ?_, fun i hi => ?_⟩, (check_valid _).2 ⟨?_, ?_, ?_, ?_, ?_⟩⟩
  · have := hv.s200
    simp only [widR]
    omega
  · have hp := widP_ok b c hb hc r.pts[i] (hv.ok _ (List.getElem_mem hi))
    simp only [widR, List.getD_eq_getElem?_getD, List.getElem?_map, List.getElem?_eq_getElem hi, Option.map_some, Option.getD_some]
    exact ⟨rfl, hp.2.1, hp.2.2⟩
  · have := hv.s0
    simp only [widR]
    omega
  · simp only [widR]
    omega
  · simp only [widR, List.length_map]
    exact hv.n1
  · simp only [widR, List.length_map]
    exact hv.n10
  · intro p hp
    obtain ⟨x, hx, rfl⟩ := List.mem_map.1 hp
    exact (widP_ok b c hb hc x (hv.ok x hx)).1
end Go.Proofs.Ytnciomoapajonaa
namespace Go.Proofs.Ytnciomoapajonaa
open Go Go.RowKit Cv

def ptC (l : List Pt) : List Value := l.flatMap fun p => [.int .i64 p.bd, .int .i64 p.lo, .int .i64 p.hi]
theorem ptC_append (a b : List Pt) : ptC (a ++ b) = ptC a ++ ptC b := by simp [ptC]
theorem ptC_one (p : Pt) : ptC [p] = [.int .i64 p.bd, .int .i64 p.lo, .int .i64 p.hi] := rfl
theorem ptC_get : ∀ (l : List Pt) (k : Nat) (h : k < l.length), (ptC l)[k * 3]? = some (.int .i64 l[k].bd) ∧ (ptC l)[k * 3 + 1]? = some (.int .i64 l[k].lo) ∧ (ptC l)[k * 3 + 2]? = some (.int .i64 l[k].hi) := by
  intro l
  induction l with
  | nil => intro k h; exact absurd h (Nat.not_lt_zero _)
  | cons p l ih =>
    intro k h
    cases k with
    | zero => exact ⟨rfl, rfl, rfl⟩
    | succ k =>
      have := ih k (by simpa using h)
      have e : ptC (p :: l) = .int .i64 p.bd :: .int .i64 p.lo :: .int .i64 p.hi :: ptC l := rfl
      rw [e, show (k + 1) * 3 = k * 3 + 1 + 1 + 1 by omega, show k * 3 + 1 + 1 + 1 + 1 = (k * 3 + 1) + 1 + 1 + 1 by omega, show k * 3 + 1 + 1 + 1 + 2 = (k * 3 + 2) + 1 + 1 + 1 by omega]
      simp only [List.getElem?_cons_succ, List.getElem_cons_succ]
      exact this
theorem ptsAt_own {w : World} {base e : Nat} {v : Value} {l : List Pt} (h : w.ownsRow base e 3 v l.length (ptC l)) (hl : l.length ≤ 4611686018427387904) : PtsAt w v l := by
  rcases h.2 with ⟨rfl, h0⟩ | ⟨g, cap, cur, rfl, hb, hg, hnc, hcm, hcs, htake⟩
  · have : l = [] := List.length_eq_zero_iff.1 h0
    subst this
    exact ⟨by simp, none, 0, rfl, by simp, fun hne => absurd rfl hne⟩
  · refine ⟨hl, _, cap, rfl, hnc, fun _ => ⟨g, 0, rfl, fun k hk => ?_⟩⟩
    have e1 := ptC_get l k hk
    rw [Nat.zero_add]
    exact ⟨(h.cellAt (k * 3) (by omega)).trans e1.1, (h.cellAt (k * 3 + 1) (by omega)).trans e1.2.1, (h.cellAt (k * 3 + 2) (by omega)).trans e1.2.2⟩
theorem own_other {w : World} {base e size n : Nat} {v : Value} {xs : List Value} (h : w.ownsRow base e size v n xs) (p : Addr) (hp : p.block < base) (u : Value) : (w.setCell p u).ownsRow base e size v n xs := by
  obtain ⟨h0, h⟩ := h
  refine ⟨h0, ?_⟩
  rcases h with h | ⟨g, cap, cur, r1, r2, r3, r4⟩
  · exact .inl h
  · exact .inr ⟨g, cap, cur, r1, r2, (heap_setCell_other w p g u (by omega)).trans r3, r4⟩
theorem ptInfo : (Try.prog.info? 58).map (fun i => (i.zero, i.size, i.bytes)) = some (some (.agg #[.int .i64 0, .int .i64 0, .int .i64 0]), 3, 24) := by kernel_rfl
set_option maxRecDepth 100000 in
set_option maxHeartbeats 4000000 in
theorem rturned_any (r : Row) (pv : Value) (w : World) (hP : PtsAt w pv r.pts) (h10 : r.pts.length ≤ 10) :
    Calls Try.prog 47 #[.agg #[.int .i64 r.st, pv]] w fun e w' => ∃ v, e = .returned (.agg #[.int .i64 r.st, v]) ∧ PtsAt w' v r.pts.reverse ∧ Below w.heap.size w w' := by
  obtain ⟨i0, hi0⟩ := info_of_underlying Try.underlying58
  have HI : Hid (i0.zero = some (.agg #[.int .i64 0, .int .i64 0, .int .i64 0]) ∧ i0.size = 3 ∧ i0.bytes = 24) := by
    have h := ptInfo
    rw [hi0] at h
    simp at h
    exact h
  obtain ⟨st, pts⟩ := r
  simp only at hP h10 ⊢
  obtain ⟨lp, pa, pc, rfl, _, _⟩ := id hP
  obtain ⟨W, hW, HA0, HZ0, hB0, hsz⟩ := al2 w (Obj.cells #[.int .i64 st, .slice pa pts.length pc] 24) (Obj.cells #[.int .i64 0, .slice none 0 0] 24)
  have HP := Lib.hid (hP.below hB0)
  have HA := Lib.hid HA0
  have HZ := Lib.hid HZ0
  have HB := Lib.hid hB0
  have HW := Lib.hid hW
  have HSZ := Lib.hid hsz
  clear hP HA0 HZ0 hB0 hW hsz
  have l10 : (pts.length : Int) ≤ 10 := by omega
  go_enter Try.func47, Try.ntmps47
  go_wp2_with fail
  rw [HW.out]
  clear HW
  go_loopg [3, 4] pts.length (fun g v i wr => ∃ (k : Nat) (j : Int) (oa : Option Addr) (oc : Nat), g + k = pts.length ∧ j + k + 1 = pts.length ∧ i = .int .i64 j ∧ v = .slice oa k oc ∧ wr.ownsRow W.heap.size 58 3 v k (ptC (pts.reverse.take k)) ∧ Hid (Below W.heap.size W wr))
  case atStart => exact ⟨0, (pts.length : Int) - 1, none, 0, by omega, by omega, rfl, rfl, World.ownsRow_nil _ _ _ _, Below.refl _ _⟩
  case round =>
    obtain ⟨k, j, oa, oc, hk, hj, rfl, rfl, hown, HR⟩ := hrel
    have hs2 := HR.out.size
    by_cases hlt : k < pts.length
    · obtain ⟨m, rfl⟩ : ∃ m : Nat, j = m := ⟨j.toNat, by omega⟩
      have hm : m < pts.length := by omega
      have l0 := cellOf ((HR.out.block _ (lt_of_block HA.out)).trans HA.out) 0 _ rfl
      have l1 := cellOf ((HR.out.block _ (lt_of_block HA.out)).trans HA.out) 1 _ rfl
      have ll := lt_of_block ((HR.out.block _ (lt_of_block HA.out)).trans HA.out)
      obtain ⟨b, o, rfl, c0, c1, c2⟩ := (HP.out.below HR.out).get hm
      have HT : Hid (ptC (pts.reverse.take (k + 1)) = ptC (pts.reverse.take k) ++ [.int .i64 pts[m].bd, .int .i64 pts[m].lo, .int .i64 pts[m].hi]) := by
        show _ = _
        have hkr : k < pts.reverse.length := by simpa using hlt
        rw [List.take_succ_eq_append_getElem hkr, ptC_append, ptC_one, List.getElem_reverse]
        have e : pts.length - 1 - k = m := by omega
        simp only [e]
      generalize pts[m] = p at *
      obtain ⟨bd, lo, hi⟩ := p
      simp only at c0 c1 c2 HT
      have mI : (m : Int) < (pts.length : Int) := by omega
      have m9 : (m : Int) ≤ 9 := by omega
      have hownA := Lib.hid (hown.alloc (Obj.cells #[.int .i64 bd, .int .i64 lo, .int .i64 hi] 58))
      have HBq : Hid (Below W.heap.size W (wr.alloc (Obj.cells #[.int .i64 bd, .int .i64 lo, .int .i64 hi] 58))) := HR.out.alloc hs2 _
      clear hown
      go_wp2_with (at_builtin; refine wpList_append_own _ rfl _ _ 22 rfl W.heap.size 58 i0 (.agg #[.int .i64 0, .int .i64 0, .int .i64 0]) 3 24 Try.underlying22 hi0 HI.out.1 HI.out.2.1 HI.out.2.2 rfl (by decide) _ _ _ rfl hownA.out ⟨wr.heap.size, 0, none⟩ 1 1 [.int .i64 bd, .int .i64 lo, .int .i64 hi] rfl rfl ?pa1 ?pa2 ?pa3 ?pa4 ?pa5 ?_)
      case pa1 =>
        intro j u hj
        match j, hj with
        | 0, hj => simp at hj; subst hj; simp [Addr.add]
        | 1, hj => simp at hj; subst hj; simp [Addr.add]
        | 2, hj => simp at hj; subst hj; simp [Addr.add]
        | j + 3, hj => simp at hj
      case pa2 =>
        intro u hu
        simp at hu
        rcases hu with rfl | rfl | rfl <;> rfl
      case pa3 => unfold maxLen; omega
      case pa4 => omega
      case pa5 => exact HBq.out.size
      · intro v' w3 hown3 hgrow _
        have hB3 : Hid (Below W.heap.size W w3) := HBq.out.grown hgrow HBq.out.size (fun g hg => (hownA.out.lt g hg).1)
        obtain ⟨sa', sc', rfl⟩ := own_slice hown3
        clear hgrow hownA
        go_wp2
        go_roundg (gk - 1)
        case measure => omega
        case rel => exact ⟨k + 1, (m : Int) - 1, sa', sc', by omega, by omega, by go_num, rfl, by rw [HT.out]; exact hown3, hB3⟩
    · obtain rfl : j = -1 := by omega
      have hkn : k = pts.length := by omega
      have hown : wr.ownsRow W.heap.size 58 3 (.slice oa k oc) pts.reverse.length (ptC pts.reverse) := by
        rw [show pts.reverse.take k = pts.reverse from List.take_of_length_le (by simp; omega)] at hown
        rw [show pts.reverse.length = k by simp; omega]
        exact hown
      have HO := Lib.hid hown
      have HAr := Lib.hid ((HR.out.block _ (lt_of_block HA.out)).trans HA.out)
      have HZr := Lib.hid ((HR.out.block _ (lt_of_block HZ.out)).trans HZ.out)
      have l0 := cellOf HAr.out 0 _ rfl
      have l1 := cellOf HAr.out 1 _ rfl
      have f0 := frozen_of_row _ _ 0 _ _ HAr.out
      have f1 := frozen_of_row _ _ 1 _ _ HAr.out
      have g0 := cellOf HZr.out 0 _ rfl
      have g1 := cellOf HZr.out 1 _ rfl
      have h0 := frozen_of_row _ _ 0 _ _ HZr.out
      have h1 := frozen_of_row _ _ 1 _ _ HZr.out
      clear hown hlt hk hkn
      go_wp2
      have z1 : (wr.setCell ⟨w.heap.size, 1, none⟩ (.slice oa k oc)).heap[w.heap.size + 1]? = some (.cells #[.int .i64 0, .slice none 0 0] 24 (0, 0)) := (heap_setCell_other wr (⟨w.heap.size, 1, none⟩ : Addr) _ _ (by simp)).trans HZr.out
      have z2 := two_set (x := .int .i64 st) (y := .slice oa k oc) z1
      have hz := HSZ.out
      refine bodyPost_ret (row_result rfl _ _ (w.heap.size + 1) _ _ rfl z2) rfl ⟨_, rfl, ?_, ?_⟩
      · exact ptsAt_own (own_other (own_other (own_other HO.out ⟨w.heap.size, 1, none⟩ (by show w.heap.size < _; omega) _) ⟨w.heap.size + 1, 0, none⟩ (by show w.heap.size + 1 < _; omega) _) ⟨w.heap.size + 1, 1, none⟩ (by show w.heap.size + 1 < _; omega) _) (by simp; omega)
      · exact two_below ((HB.out.trans (HR.out.mono HB.out.size)).setCell (p := ⟨w.heap.size, 1, none⟩) (Nat.le_refl _) _) (by omega)
end Go.Proofs.Ytnciomoapajonaa
namespace Go.Proofs.Ytnciomoapajonaa
open Go Go.RowKit Go.Shelf Cv

set_option maxRecDepth 100000 in
set_option maxHeartbeats 16000000 in
theorem lwide_no (st : Int) (pts : List Pt) (pa : Option Addr) (pc : Nat) (x y z : Nat) (hx : x ≤ 255) (hy : y ≤ 255) (hz : z ≤ 255) (w : World) (hP : PtsAt w (.slice pa pts.length pc) pts) (hv : ¬ errR ⟨st, pts⟩ = 0) :
    Calls Try.prog 12 #[.agg #[.int .i64 st, .slice pa pts.length pc], .agg #[.int .u8 x, .int .u8 y, .int .u8 z]] w fun e w' => e = .returned (.bool true) ∧ Below w.heap.size w w' := by
  generalize HE : errR ⟨st, pts⟩ = er at *
  have t1 : (er == 0) = false := by simp [hv]
  have HP := Lib.hid hP
  clear hP
  have HB := Lib.hid (Below.refl w.heap.size w)
  have xI : (x : Int) ≤ 255 := by omega
  have yI : (y : Int) ≤ 255 := by omega
  have zI : (z : Int) ≤ 255 := by omega
  go_enter Try.func12, Try.ntmps12
  go_wp2_with fail
  have hb := (Below.refl w.heap.size w).alloc (Nat.le_refl _) (Obj.cells #[.int .i64 st, .slice pa pts.length pc] 24)
  have HR := Lib.hid (heap_alloc_new w (Obj.cells #[.int .i64 st, .slice pa pts.length pc] 24))
  have hz1 : (w.alloc (Obj.cells #[.int .i64 st, .slice pa pts.length pc] 24)).heap.size = w.heap.size + 1 := by simp
  have HB' := Lib.hid (HB.out.trans (hb.mono HB.out.size))
  have HP' := Lib.hid (HP.out.below hb)
  clear HB
  have HB := HB'
  clear HB'
  clear HP
  have HP := HP'
  clear HP'
  clear hb
  generalize w.alloc (Obj.cells #[.int .i64 st, .slice pa pts.length pc] 24) = w1 at *
  have hb := (Below.refl w1.heap.size w1).alloc (Nat.le_refl _) (Obj.cells #[.int .u8 x, .int .u8 y, .int .u8 z] 67)
  have HY := Lib.hid (heap_alloc_new w1 (Obj.cells #[.int .u8 x, .int .u8 y, .int .u8 z] 67))
  have hz2 : (w1.alloc (Obj.cells #[.int .u8 x, .int .u8 y, .int .u8 z] 67)).heap.size = w1.heap.size + 1 := by simp
  rw [hz1] at HY
  have HB' := Lib.hid (HB.out.trans (hb.mono HB.out.size))
  have HP' := Lib.hid (HP.out.below hb)
  have HR' := Lib.hid ((hb.block _ (lt_of_block HR.out)).trans HR.out)
  clear HB
  have HB := HB'
  clear HB'
  clear HP
  have HP := HP'
  clear HP'
  clear HR
  have HR := HR'
  clear HR'
  clear hb
  generalize w1.alloc (Obj.cells #[.int .u8 x, .int .u8 y, .int .u8 z] 67) = w2 at *
  have hcall := valid_any ⟨st, pts⟩ _ w2 HP.out
  rw [HE, t1] at hcall
  refine hcall.mono ?_
  clear hcall
  rintro e w3 ⟨rfl, hb⟩
  have HB' := Lib.hid (HB.out.trans (hb.mono HB.out.size))
  have HP' := Lib.hid (HP.out.below hb)
  have HR' := Lib.hid ((hb.block _ (lt_of_block HR.out)).trans HR.out)
  have HY' := Lib.hid ((hb.block _ (lt_of_block HY.out)).trans HY.out)
  clear HB
  have HB := HB'
  clear HB'
  clear HP
  have HP := HP'
  clear HP'
  clear HR
  have HR := HR'
  clear HR'
  clear HY
  have HY := HY'
  clear HY'
  clear hb
  go_wp2_with fail
  have hcall := awake_any w3
  refine hcall.mono ?_
  clear hcall
  rintro e w4 ⟨rfl, hb⟩
  have HB' := Lib.hid (HB.out.trans (hb.mono HB.out.size))
  have HP' := Lib.hid (HP.out.below hb)
  have HR' := Lib.hid ((hb.block _ (lt_of_block HR.out)).trans HR.out)
  have HY' := Lib.hid ((hb.block _ (lt_of_block HY.out)).trans HY.out)
  clear HB
  have HB := HB'
  clear HB'
  clear HP
  have HP := HP'
  clear HP'
  clear HR
  have HR := HR'
  clear HR'
  clear HY
  have HY := HY'
  clear HY'
  clear hb
  go_wp2
  go_ret
  exact ⟨rfl, HB.out⟩

set_option maxRecDepth 100000 in
set_option maxHeartbeats 16000000 in
theorem lwide_down (st : Int) (pts : List Pt) (pa : Option Addr) (pc : Nat) (x y z : Nat) (hx : x ≤ 255) (hy : y ≤ 255) (hz : z ≤ 255) (w : World) (hP : PtsAt w (.slice pa pts.length pc) pts) (HE : Hid (errR ⟨st, pts⟩ = 0)) (sw : Int) (HSW : Hid (min 200 (st + (x : Int) % 4) = sw)) (wp : List Pt) (HWP : Hid (pts.map (widP y z) = wp)) (bf : Int) (hbf : bf = 0 ∨ bf = 9) (HBL : Hid (boundsR ⟨st, pts⟩ = ([], 9))) (HBM : Hid ((boundsR ⟨sw, wp⟩).2 = bf)) :
    Calls Try.prog 12 #[.agg #[.int .i64 st, .slice pa pts.length pc], .agg #[.int .u8 x, .int .u8 y, .int .u8 z]] w fun e w' => e = .returned (.bool true) ∧ Below w.heap.size w w' := by
  obtain ⟨i0, hi0⟩ := info_of_underlying Try.underlying58
  have HI : Hid (i0.zero = some (.agg #[.int .i64 0, .int .i64 0, .int .i64 0]) ∧ i0.size = 3 ∧ i0.bytes = 24) := by
    have h := ptInfo
    rw [hi0] at h
    simp at h
    exact h
  have HVV : Hid (Valid ⟨st, pts⟩) := (check_valid _).1 HE.out
  have st0 : 0 ≤ st := HVV.out.s0
  have st2 : st ≤ 200 := HVV.out.s200
  have h10 : pts.length ≤ 10 := HVV.out.n10
  have l10 : (pts.length : Int) ≤ 10 := by omega
  have HP := Lib.hid hP
  clear hP
  have HB := Lib.hid (Below.refl w.heap.size w)
  have xI : (x : Int) ≤ 255 := by omega
  have yI : (y : Int) ≤ 255 := by omega
  have zI : (z : Int) ≤ 255 := by omega
  go_enter Try.func12, Try.ntmps12
  go_wp2_with fail
  have hb := (Below.refl w.heap.size w).alloc (Nat.le_refl _) (Obj.cells #[.int .i64 st, .slice pa pts.length pc] 24)
  have HR := Lib.hid (heap_alloc_new w (Obj.cells #[.int .i64 st, .slice pa pts.length pc] 24))
  have hz1 : (w.alloc (Obj.cells #[.int .i64 st, .slice pa pts.length pc] 24)).heap.size = w.heap.size + 1 := by simp
  have HB' := Lib.hid (HB.out.trans (hb.mono HB.out.size))
  have HP' := Lib.hid (HP.out.below hb)
  clear HB
  have HB := HB'
  clear HB'
  clear HP
  have HP := HP'
  clear HP'
  clear hb
  generalize w.alloc (Obj.cells #[.int .i64 st, .slice pa pts.length pc] 24) = w1 at *
  have hb := (Below.refl w1.heap.size w1).alloc (Nat.le_refl _) (Obj.cells #[.int .u8 x, .int .u8 y, .int .u8 z] 67)
  have HY := Lib.hid (heap_alloc_new w1 (Obj.cells #[.int .u8 x, .int .u8 y, .int .u8 z] 67))
  have hz2 : (w1.alloc (Obj.cells #[.int .u8 x, .int .u8 y, .int .u8 z] 67)).heap.size = w1.heap.size + 1 := by simp
  rw [hz1] at HY
  have HB' := Lib.hid (HB.out.trans (hb.mono HB.out.size))
  have HP' := Lib.hid (HP.out.below hb)
  have HR' := Lib.hid ((hb.block _ (lt_of_block HR.out)).trans HR.out)
  clear HB
  have HB := HB'
  clear HB'
  clear HP
  have HP := HP'
  clear HP'
  clear HR
  have HR := HR'
  clear HR'
  clear hb
  generalize w1.alloc (Obj.cells #[.int .u8 x, .int .u8 y, .int .u8 z] 67) = w2 at *
  have hcall := valid_any ⟨st, pts⟩ _ w2 HP.out
  rw [HE.out] at hcall
  have e0 : ((0 : Int) == 0) = true := rfl
  rw [e0] at hcall
  clear e0
  refine hcall.mono ?_
  clear hcall
  rintro e w3 ⟨rfl, hb⟩
  have HB' := Lib.hid (HB.out.trans (hb.mono HB.out.size))
  have HP' := Lib.hid (HP.out.below hb)
  have HR' := Lib.hid ((hb.block _ (lt_of_block HR.out)).trans HR.out)
  have HY' := Lib.hid ((hb.block _ (lt_of_block HY.out)).trans HY.out)
  clear HB
  have HB := HB'
  clear HB'
  clear HP
  have HP := HP'
  clear HP'
  clear HR
  have HR := HR'
  clear HR'
  clear HY
  have HY := HY'
  clear HY'
  clear hb
  have ra := cellOf HR.out 0 _ rfl
  have rb := cellOf HR.out 1 _ rfl
  have rl := lt_of_block HR.out
  have ya := cellOf HY.out 0 _ rfl
  have yb := cellOf HY.out 1 _ rfl
  have yc := cellOf HY.out 2 _ rfl
  have yl := lt_of_block HY.out
  go_wp2_with fail
  clear ra rb rl
  clear ya yb yc yl
  rw [HSW.out]
  have HJ0 := Lib.hid (heap_alloc_new w3 (Obj.cells #[.int .i64 sw, .slice none 0 0] 24))
  have hbJ := Lib.hid ((Below.refl w3.heap.size w3).alloc (Nat.le_refl _) (Obj.cells #[.int .i64 sw, .slice none 0 0] 24))
  have HSZ : Hid ((w3.alloc (Obj.cells #[.int .i64 sw, .slice none 0 0] 24)).heap.size = w3.heap.size + 1) := by show _ = _; simp
  generalize w3.alloc (Obj.cells #[.int .i64 sw, .slice none 0 0] 24) = W at *
  go_loopg [6] pts.length (fun g i wr => ∃ (k : Nat) (oa : Option Addr) (oc : Nat), g + k = pts.length ∧ i = .int .i64 k ∧ Hid (wr.heap[w3.heap.size]? = some (.cells #[.int .i64 sw, .slice oa k oc] 24 (0, 0))) ∧ wr.ownsRow W.heap.size 58 3 (.slice oa k oc) k (ptC ((pts.map (widP y z)).take k)) ∧ Hid (Below w3.heap.size w3 wr))
  case atStart => exact ⟨0, none, 0, by omega, rfl, HJ0.out, World.ownsRow_nil _ _ _ _, hbJ.out⟩
  case round =>
    obtain ⟨k, oa, oc, hk, rfl, HJ, hown, HL⟩ := hrel
    clear HJ0 hbJ
    obtain ⟨wq, hwq⟩ : ∃ wq, wr = wq := ⟨_, rfl⟩
    rw [hwq] at HJ hown HL ⊢
    clear hwq
    have hJl : w3.heap.size < wq.heap.size := lt_of_block HJ.out
    have hb := HL.out
    have HB' := Lib.hid (HB.out.trans (hb.mono HB.out.size))
    have HP' := Lib.hid (HP.out.below hb)
    have HR' := Lib.hid ((hb.block _ (lt_of_block HR.out)).trans HR.out)
    have HY' := Lib.hid ((hb.block _ (lt_of_block HY.out)).trans HY.out)
    clear HB
    have HB := HB'
    clear HB'
    clear HP
    have HP := HP'
    clear HP'
    clear HR
    have HR := HR'
    clear HR'
    clear HY
    have HY := HY'
    clear HY'
    clear hb
    by_cases hlt : k < pts.length
    · skip
      have kI : (k : Int) < (pts.length : Int) := by omega
      have k9 : (k : Int) ≤ 9 := by omega
      obtain ⟨b, o, rfl, c0, c1, c2⟩ := HP.out.get hlt
      obtain ⟨b0, b9, l0, l9, h0, h9, hle, hwd⟩ := HVV.out.ok pts[k] (List.getElem_mem hlt)
      have HT : Hid (ptC ((pts.map (widP y z)).take (k + 1)) = ptC ((pts.map (widP y z)).take k) ++ [.int .i64 (widP y z pts[k]).bd, .int .i64 (widP y z pts[k]).lo, .int .i64 (widP y z pts[k]).hi]) := by show _ = _; rw [List.take_succ_eq_append_getElem (show k < (pts.map (widP y z)).length by rw [List.length_map]; exact hlt), ptC_append, List.getElem_map]; rfl
      generalize pts[k] = p at *
      obtain ⟨bd, lo, hi⟩ := p
      simp only at c0 c1 c2 b0 b9 l0 l9 h0 h9 hle hwd HT
      have hown1 := hown.alloc (Obj.cells #[.int .i64 bd, .int .i64 (lo - min (30 - (hi - lo)) (min lo ((y : Int) % 4))), .int .i64 (min 9000 (hi + min (30 - (hi - lo) - min (30 - (hi - lo)) (min lo ((y : Int) % 4))) ((z : Int) % 4)))] 58)
      have hownA := Lib.hid (hown1.alloc (Obj.cells #[.int .i64 bd, .int .i64 (lo - min (30 - (hi - lo)) (min lo ((y : Int) % 4))), .int .i64 (min 9000 (hi + min (30 - (hi - lo) - min (30 - (hi - lo)) (min lo ((y : Int) % 4))) ((z : Int) % 4)))] 58))
      clear hown hown1
      have hWq : W.heap.size ≤ wq.heap.size := by rw [HSZ.out]; omega
      have HBq : Hid (Below W.heap.size wq ((wq.alloc (Obj.cells #[.int .i64 bd, .int .i64 (lo - min (30 - (hi - lo)) (min lo ((y : Int) % 4))), .int .i64 (min 9000 (hi + min (30 - (hi - lo) - min (30 - (hi - lo)) (min lo ((y : Int) % 4))) ((z : Int) % 4)))] 58)).alloc (Obj.cells #[.int .i64 bd, .int .i64 (lo - min (30 - (hi - lo)) (min lo ((y : Int) % 4))), .int .i64 (min 9000 (hi + min (30 - (hi - lo) - min (30 - (hi - lo)) (min lo ((y : Int) % 4))) ((z : Int) % 4)))] 58))) := ((Below.refl W.heap.size wq).alloc hWq _).alloc (by simp; omega) _
      have hszq : ((wq.alloc (Obj.cells #[.int .i64 bd, .int .i64 (lo - min (30 - (hi - lo)) (min lo ((y : Int) % 4))), .int .i64 (min 9000 (hi + min (30 - (hi - lo) - min (30 - (hi - lo)) (min lo ((y : Int) % 4))) ((z : Int) % 4)))] 58)).alloc (Obj.cells #[.int .i64 bd, .int .i64 (lo - min (30 - (hi - lo)) (min lo ((y : Int) % 4))), .int .i64 (min 9000 (hi + min (30 - (hi - lo) - min (30 - (hi - lo)) (min lo ((y : Int) % 4))) ((z : Int) % 4)))] 58)).heap.size = wq.heap.size + 2 := by simp
      have HSQ := Lib.hid hszq
      clear hszq
      have bl := World.block_lt_of_cell? wq ⟨b, o + k * 3, none⟩ c0
      have ra := cellOf HR.out 0 _ rfl
      have rb := cellOf HR.out 1 _ rfl
      have rl := lt_of_block HR.out
      have ya := cellOf HY.out 0 _ rfl
      have yb := cellOf HY.out 1 _ rfl
      have yc := cellOf HY.out 2 _ rfl
      have yl := lt_of_block HY.out
      have jb := cellOf HJ.out 1 _ rfl
      have fJ := frozen_of_row _ _ 1 _ _ HJ.out
      go_wp2_with (at_builtin; refine wpList_append_own _ rfl _ _ 22 rfl W.heap.size 58 i0 (.agg #[.int .i64 0, .int .i64 0, .int .i64 0]) 3 24 Try.underlying22 hi0 HI.out.1 HI.out.2.1 HI.out.2.2 rfl (by decide) _ _ _ rfl hownA.out ⟨wq.heap.size + 1, 0, none⟩ 1 1 [.int .i64 bd, .int .i64 (lo - min (30 - (hi - lo)) (min lo ((y : Int) % 4))), .int .i64 (min 9000 (hi + min (30 - (hi - lo) - min (30 - (hi - lo)) (min lo ((y : Int) % 4))) ((z : Int) % 4)))] rfl rfl ?pa1 ?pa2 ?pa3 ?pa4 ?pa5 ?_)
      case pa2 => exact ⟨rfl, rfl, rfl⟩
      case pa3 => unfold maxLen; omega
      case pa4 => omega
      case pa5 => omega
      · intro v' wz hown3 hgrow _
        have hB3 : Below W.heap.size wq wz := HBq.out.grown hgrow (by rw [HSQ.out]; omega) (fun g hg => (hownA.out.lt g hg).1)
        obtain ⟨sa', sc', rfl⟩ := own_slice hown3
        have HJ3 := Lib.hid ((hB3.block _ (by rw [HSZ.out]; omega)).trans HJ.out)
        have ho3 : (wz.setCell ⟨w3.heap.size, 1, none⟩ (.slice sa' (k + 1) sc')).ownsRow W.heap.size 58 3 (.slice sa' (k + 1) sc') (k + 1) (ptC ((pts.map (widP y z)).take (k + 1))) := own_other (by rw [HT.out]; exact hown3) ⟨w3.heap.size, 1, none⟩ (by show w3.heap.size < _; rw [HSZ.out]; omega) _
        have HL3 : Hid (Below w3.heap.size w3 (wz.setCell ⟨w3.heap.size, 1, none⟩ (.slice sa' (k + 1) sc'))) := (HL.out.trans (hB3.mono (by rw [HSZ.out]; omega))).setCell (p := ⟨w3.heap.size, 1, none⟩) (Nat.le_refl _) _
        have HJ4 : Hid ((wz.setCell ⟨w3.heap.size, 1, none⟩ (.slice sa' (k + 1) sc')).heap[w3.heap.size]? = some (.cells #[.int .i64 sw, .slice sa' (k + 1) sc'] 24 (0, 0))) := heap_setCell_same wz w3.heap.size 1 _ _ _ HJ3.out
        clear hgrow hownA hown3 hB3 HBq ra rb rl ya yb yc yl jb fJ c0 c1 c2
        have jb := cellOf HJ3.out 1 _ rfl
        have fJ := frozen_of_row _ _ 1 _ _ HJ3.out
        go_wp2
        go_roundg (gk - 1)
        case measure => omega
        case rel => exact ⟨k + 1, sa', sc', by omega, by go_num, HJ4.out, ho3, HL3.out⟩
    · obtain rfl : k = pts.length := by omega
      have hww : PtsAt wq (.slice oa pts.length oc) wp := by
        rw [← HWP.out]
        refine ptsAt_own (base := W.heap.size) (e := 58) ?_ (by simp; omega)
        rw [List.length_map]
        have := hown
        rwa [List.take_of_length_le (by simp)] at this
      have HT := Lib.hid hww
      clear hww hown hlt hk
      have ra := cellOf HR.out 0 _ rfl
      have rb := cellOf HR.out 1 _ rfl
      have rl := lt_of_block HR.out
      go_wp2_with fail
      clear ra rb rl
      have hcall := Bounds_any ⟨st, pts⟩ _ wq HP.out
      rw [HBL.out] at hcall
      simp only at hcall
      refine hcall.mono ?_
      clear hcall
      rintro e w4 ⟨v1, rfl, hown, hb⟩
      have HB' := Lib.hid (HB.out.trans (hb.mono HB.out.size))
      have HP' := Lib.hid (HP.out.below hb)
      have HR' := Lib.hid ((hb.block _ (lt_of_block HR.out)).trans HR.out)
      have HY' := Lib.hid ((hb.block _ (lt_of_block HY.out)).trans HY.out)
      have HT' := Lib.hid (HT.out.below hb)
      have HJ' := Lib.hid ((hb.block _ (lt_of_block HJ.out)).trans HJ.out)
      clear HB
      have HB := HB'
      clear HB'
      clear HP
      have HP := HP'
      clear HP'
      clear HR
      have HR := HR'
      clear HR'
      clear HY
      have HY := HY'
      clear HY'
      clear HT
      have HT := HT'
      clear HT'
      clear HJ
      have HJ := HJ'
      clear HJ'
      clear hb
      clear hown
      have ja := cellOf HJ.out 0 _ rfl
      have jb := cellOf HJ.out 1 _ rfl
      have jl := lt_of_block HJ.out
      go_wp2_with fail
      clear ja jb jl
      have hcall := Bounds_any ⟨sw, wp⟩ _ w4 HT.out
      rw [HBM.out] at hcall
      refine hcall.mono ?_
      clear hcall
      rintro e w5 ⟨v2, rfl, hown, hb⟩
      have HB' := Lib.hid (HB.out.trans (hb.mono HB.out.size))
      have HP' := Lib.hid (HP.out.below hb)
      have HR' := Lib.hid ((hb.block _ (lt_of_block HR.out)).trans HR.out)
      have HY' := Lib.hid ((hb.block _ (lt_of_block HY.out)).trans HY.out)
      have HT' := Lib.hid (HT.out.below hb)
      have HJ' := Lib.hid ((hb.block _ (lt_of_block HJ.out)).trans HJ.out)
      clear HB
      have HB := HB'
      clear HB'
      clear HP
      have HP := HP'
      clear HP'
      clear HR
      have HR := HR'
      clear HR'
      clear HY
      have HY := HY'
      clear HY'
      clear HT
      have HT := HT'
      clear HT'
      clear HJ
      have HJ := HJ'
      clear HJ'
      clear hb
      clear hown
      rcases hbf with rfl | rfl
      · skip
        go_wp2_with fail
        have hcall := awake_any w5
        refine hcall.mono ?_
        clear hcall
        rintro e w6 ⟨rfl, hb⟩
        have HB' := Lib.hid (HB.out.trans (hb.mono HB.out.size))
        have HP' := Lib.hid (HP.out.below hb)
        have HR' := Lib.hid ((hb.block _ (lt_of_block HR.out)).trans HR.out)
        have HY' := Lib.hid ((hb.block _ (lt_of_block HY.out)).trans HY.out)
        have HT' := Lib.hid (HT.out.below hb)
        have HJ' := Lib.hid ((hb.block _ (lt_of_block HJ.out)).trans HJ.out)
        clear HB
        have HB := HB'
        clear HB'
        clear HP
        have HP := HP'
        clear HP'
        clear HR
        have HR := HR'
        clear HR'
        clear HY
        have HY := HY'
        clear HY'
        clear HT
        have HT := HT'
        clear HT'
        clear HJ
        have HJ := HJ'
        clear HJ'
        clear hb
        go_wp2
        go_ret
        exact ⟨rfl, HB.out⟩
      · skip
        go_wp2_with fail
        have hcall := awake_any w5
        refine hcall.mono ?_
        clear hcall
        rintro e w7 ⟨rfl, hb⟩
        have HB' := Lib.hid (HB.out.trans (hb.mono HB.out.size))
        have HP' := Lib.hid (HP.out.below hb)
        have HR' := Lib.hid ((hb.block _ (lt_of_block HR.out)).trans HR.out)
        have HY' := Lib.hid ((hb.block _ (lt_of_block HY.out)).trans HY.out)
        have HT' := Lib.hid (HT.out.below hb)
        have HJ' := Lib.hid ((hb.block _ (lt_of_block HJ.out)).trans HJ.out)
        clear HB
        have HB := HB'
        clear HB'
        clear HP
        have HP := HP'
        clear HP'
        clear HR
        have HR := HR'
        clear HR'
        clear HY
        have HY := HY'
        clear HY'
        clear HT
        have HT := HT'
        clear HT'
        clear HJ
        have HJ := HJ'
        clear HJ'
        clear hb
        go_wp2
        go_ret
        exact ⟨rfl, HB.out⟩

set_option maxRecDepth 100000 in
set_option maxHeartbeats 16000000 in
theorem lwide_ok (st : Int) (pts : List Pt) (pa : Option Addr) (pc : Nat) (x y z : Nat) (hx : x ≤ 255) (hy : y ≤ 255) (hz : z ≤ 255) (w : World) (hP : PtsAt w (.slice pa pts.length pc) pts) (HE : Hid (errR ⟨st, pts⟩ = 0)) (sw : Int) (HSW : Hid (min 200 (st + (x : Int) % 4) = sw)) (wp : List Pt) (HWP : Hid (pts.map (widP y z) = wp)) (bl bm : List Sp) (ln : Nat) (hln : ln ≤ 10) (HBL : Hid (boundsR ⟨st, pts⟩ = (bl, 0))) (HBM : Hid (boundsR ⟨sw, wp⟩ = (bm, 0))) (HLN : Hid (bl.length = ln)) (HLM : Hid (bm.length = ln)) (HG : Hid (∀ i, i < ln → (bm.getD i (0, 0)).1 ≤ (bl.getD i (0, 0)).1 ∧ (bl.getD i (0, 0)).2 ≤ (bm.getD i (0, 0)).2)) (ga gb gc gd ga' gb' gc' gd' : Int) (hga : ga' ≤ ga) (hgd : gd' ≤ gd) (HQ1 : Hid ((bestR ⟨st, pts⟩ false).2 = (ga, gb, 0))) (HQ2 : Hid ((bestR ⟨sw, wp⟩ false).2 = (ga', gb', 0))) (HQ3 : Hid ((bestR ⟨st, pts⟩ true).2 = (gc, gd, 0))) (HQ4 : Hid ((bestR ⟨sw, wp⟩ true).2 = (gc', gd', 0))) :
    Calls Try.prog 12 #[.agg #[.int .i64 st, .slice pa pts.length pc], .agg #[.int .u8 x, .int .u8 y, .int .u8 z]] w fun e w' => e = .returned (.bool true) ∧ Below w.heap.size w w' := by
  obtain ⟨i0, hi0⟩ := info_of_underlying Try.underlying58
  have HI : Hid (i0.zero = some (.agg #[.int .i64 0, .int .i64 0, .int .i64 0]) ∧ i0.size = 3 ∧ i0.bytes = 24) := by
    have h := ptInfo
    rw [hi0] at h
    simp at h
    exact h
  have HVV : Hid (Valid ⟨st, pts⟩) := (check_valid _).1 HE.out
  have st0 : 0 ≤ st := HVV.out.s0
  have st2 : st ≤ 200 := HVV.out.s200
  have h10 : pts.length ≤ 10 := HVV.out.n10
  have l10 : (pts.length : Int) ≤ 10 := by omega
  have HP := Lib.hid hP
  clear hP
  have HB := Lib.hid (Below.refl w.heap.size w)
  have xI : (x : Int) ≤ 255 := by omega
  have yI : (y : Int) ≤ 255 := by omega
  have zI : (z : Int) ≤ 255 := by omega
  go_enter Try.func12, Try.ntmps12
  go_wp2_with fail
  have hb := (Below.refl w.heap.size w).alloc (Nat.le_refl _) (Obj.cells #[.int .i64 st, .slice pa pts.length pc] 24)
  have HR := Lib.hid (heap_alloc_new w (Obj.cells #[.int .i64 st, .slice pa pts.length pc] 24))
  have hz1 : (w.alloc (Obj.cells #[.int .i64 st, .slice pa pts.length pc] 24)).heap.size = w.heap.size + 1 := by simp
  have HB' := Lib.hid (HB.out.trans (hb.mono HB.out.size))
  have HP' := Lib.hid (HP.out.below hb)
  clear HB
  have HB := HB'
  clear HB'
  clear HP
  have HP := HP'
  clear HP'
  clear hb
  generalize w.alloc (Obj.cells #[.int .i64 st, .slice pa pts.length pc] 24) = w1 at *
  have hb := (Below.refl w1.heap.size w1).alloc (Nat.le_refl _) (Obj.cells #[.int .u8 x, .int .u8 y, .int .u8 z] 67)
  have HY := Lib.hid (heap_alloc_new w1 (Obj.cells #[.int .u8 x, .int .u8 y, .int .u8 z] 67))
  have hz2 : (w1.alloc (Obj.cells #[.int .u8 x, .int .u8 y, .int .u8 z] 67)).heap.size = w1.heap.size + 1 := by simp
  rw [hz1] at HY
  have HB' := Lib.hid (HB.out.trans (hb.mono HB.out.size))
  have HP' := Lib.hid (HP.out.below hb)
  have HR' := Lib.hid ((hb.block _ (lt_of_block HR.out)).trans HR.out)
  clear HB
  have HB := HB'
  clear HB'
  clear HP
  have HP := HP'
  clear HP'
  clear HR
  have HR := HR'
  clear HR'
  clear hb
  generalize w1.alloc (Obj.cells #[.int .u8 x, .int .u8 y, .int .u8 z] 67) = w2 at *
  have hcall := valid_any ⟨st, pts⟩ _ w2 HP.out
  rw [HE.out] at hcall
  have e0 : ((0 : Int) == 0) = true := rfl
  rw [e0] at hcall
  clear e0
  refine hcall.mono ?_
  clear hcall
  rintro e w3 ⟨rfl, hb⟩
  have HB' := Lib.hid (HB.out.trans (hb.mono HB.out.size))
  have HP' := Lib.hid (HP.out.below hb)
  have HR' := Lib.hid ((hb.block _ (lt_of_block HR.out)).trans HR.out)
  have HY' := Lib.hid ((hb.block _ (lt_of_block HY.out)).trans HY.out)
  clear HB
  have HB := HB'
  clear HB'
  clear HP
  have HP := HP'
  clear HP'
  clear HR
  have HR := HR'
  clear HR'
  clear HY
  have HY := HY'
  clear HY'
  clear hb
  have ra := cellOf HR.out 0 _ rfl
  have rb := cellOf HR.out 1 _ rfl
  have rl := lt_of_block HR.out
  have ya := cellOf HY.out 0 _ rfl
  have yb := cellOf HY.out 1 _ rfl
  have yc := cellOf HY.out 2 _ rfl
  have yl := lt_of_block HY.out
  go_wp2_with fail
  clear ra rb rl
  clear ya yb yc yl
  rw [HSW.out]
  have HJ0 := Lib.hid (heap_alloc_new w3 (Obj.cells #[.int .i64 sw, .slice none 0 0] 24))
  have hbJ := Lib.hid ((Below.refl w3.heap.size w3).alloc (Nat.le_refl _) (Obj.cells #[.int .i64 sw, .slice none 0 0] 24))
  have HSZ : Hid ((w3.alloc (Obj.cells #[.int .i64 sw, .slice none 0 0] 24)).heap.size = w3.heap.size + 1) := by show _ = _; simp
  generalize w3.alloc (Obj.cells #[.int .i64 sw, .slice none 0 0] 24) = W at *
  go_loopg [6] pts.length (fun g i wr => ∃ (k : Nat) (oa : Option Addr) (oc : Nat), g + k = pts.length ∧ i = .int .i64 k ∧ Hid (wr.heap[w3.heap.size]? = some (.cells #[.int .i64 sw, .slice oa k oc] 24 (0, 0))) ∧ wr.ownsRow W.heap.size 58 3 (.slice oa k oc) k (ptC ((pts.map (widP y z)).take k)) ∧ Hid (Below w3.heap.size w3 wr))
  case atStart => exact ⟨0, none, 0, by omega, rfl, HJ0.out, World.ownsRow_nil _ _ _ _, hbJ.out⟩
  case round =>
    obtain ⟨k, oa, oc, hk, rfl, HJ, hown, HL⟩ := hrel
    clear HJ0 hbJ
    obtain ⟨wq, hwq⟩ : ∃ wq, wr = wq := ⟨_, rfl⟩
    rw [hwq] at HJ hown HL ⊢
    clear hwq
    have hJl : w3.heap.size < wq.heap.size := lt_of_block HJ.out
    have hb := HL.out
    have HB' := Lib.hid (HB.out.trans (hb.mono HB.out.size))
    have HP' := Lib.hid (HP.out.below hb)
    have HR' := Lib.hid ((hb.block _ (lt_of_block HR.out)).trans HR.out)
    have HY' := Lib.hid ((hb.block _ (lt_of_block HY.out)).trans HY.out)
    clear HB
    have HB := HB'
    clear HB'
    clear HP
    have HP := HP'
    clear HP'
    clear HR
    have HR := HR'
    clear HR'
    clear HY
    have HY := HY'
    clear HY'
    clear hb
    by_cases hlt : k < pts.length
    · skip
      have kI : (k : Int) < (pts.length : Int) := by omega
      have k9 : (k : Int) ≤ 9 := by omega
      obtain ⟨b, o, rfl, c0, c1, c2⟩ := HP.out.get hlt
      obtain ⟨b0, b9, l0, l9, h0, h9, hle, hwd⟩ := HVV.out.ok pts[k] (List.getElem_mem hlt)
      have HT : Hid (ptC ((pts.map (widP y z)).take (k + 1)) = ptC ((pts.map (widP y z)).take k) ++ [.int .i64 (widP y z pts[k]).bd, .int .i64 (widP y z pts[k]).lo, .int .i64 (widP y z pts[k]).hi]) := by show _ = _; rw [List.take_succ_eq_append_getElem (show k < (pts.map (widP y z)).length by rw [List.length_map]; exact hlt), ptC_append, List.getElem_map]; rfl
      generalize pts[k] = p at *
      obtain ⟨bd, lo, hi⟩ := p
      simp only at c0 c1 c2 b0 b9 l0 l9 h0 h9 hle hwd HT
      have hown1 := hown.alloc (Obj.cells #[.int .i64 bd, .int .i64 (lo - min (30 - (hi - lo)) (min lo ((y : Int) % 4))), .int .i64 (min 9000 (hi + min (30 - (hi - lo) - min (30 - (hi - lo)) (min lo ((y : Int) % 4))) ((z : Int) % 4)))] 58)
      have hownA := Lib.hid (hown1.alloc (Obj.cells #[.int .i64 bd, .int .i64 (lo - min (30 - (hi - lo)) (min lo ((y : Int) % 4))), .int .i64 (min 9000 (hi + min (30 - (hi - lo) - min (30 - (hi - lo)) (min lo ((y : Int) % 4))) ((z : Int) % 4)))] 58))
      clear hown hown1
      have hWq : W.heap.size ≤ wq.heap.size := by rw [HSZ.out]; omega
      have HBq : Hid (Below W.heap.size wq ((wq.alloc (Obj.cells #[.int .i64 bd, .int .i64 (lo - min (30 - (hi - lo)) (min lo ((y : Int) % 4))), .int .i64 (min 9000 (hi + min (30 - (hi - lo) - min (30 - (hi - lo)) (min lo ((y : Int) % 4))) ((z : Int) % 4)))] 58)).alloc (Obj.cells #[.int .i64 bd, .int .i64 (lo - min (30 - (hi - lo)) (min lo ((y : Int) % 4))), .int .i64 (min 9000 (hi + min (30 - (hi - lo) - min (30 - (hi - lo)) (min lo ((y : Int) % 4))) ((z : Int) % 4)))] 58))) := ((Below.refl W.heap.size wq).alloc hWq _).alloc (by simp; omega) _
      have hszq : ((wq.alloc (Obj.cells #[.int .i64 bd, .int .i64 (lo - min (30 - (hi - lo)) (min lo ((y : Int) % 4))), .int .i64 (min 9000 (hi + min (30 - (hi - lo) - min (30 - (hi - lo)) (min lo ((y : Int) % 4))) ((z : Int) % 4)))] 58)).alloc (Obj.cells #[.int .i64 bd, .int .i64 (lo - min (30 - (hi - lo)) (min lo ((y : Int) % 4))), .int .i64 (min 9000 (hi + min (30 - (hi - lo) - min (30 - (hi - lo)) (min lo ((y : Int) % 4))) ((z : Int) % 4)))] 58)).heap.size = wq.heap.size + 2 := by simp
      have HSQ := Lib.hid hszq
      clear hszq
      have bl := World.block_lt_of_cell? wq ⟨b, o + k * 3, none⟩ c0
      have ra := cellOf HR.out 0 _ rfl
      have rb := cellOf HR.out 1 _ rfl
      have rl := lt_of_block HR.out
      have ya := cellOf HY.out 0 _ rfl
      have yb := cellOf HY.out 1 _ rfl
      have yc := cellOf HY.out 2 _ rfl
      have yl := lt_of_block HY.out
      have jb := cellOf HJ.out 1 _ rfl
      have fJ := frozen_of_row _ _ 1 _ _ HJ.out
      go_wp2_with (at_builtin; refine wpList_append_own _ rfl _ _ 22 rfl W.heap.size 58 i0 (.agg #[.int .i64 0, .int .i64 0, .int .i64 0]) 3 24 Try.underlying22 hi0 HI.out.1 HI.out.2.1 HI.out.2.2 rfl (by decide) _ _ _ rfl hownA.out ⟨wq.heap.size + 1, 0, none⟩ 1 1 [.int .i64 bd, .int .i64 (lo - min (30 - (hi - lo)) (min lo ((y : Int) % 4))), .int .i64 (min 9000 (hi + min (30 - (hi - lo) - min (30 - (hi - lo)) (min lo ((y : Int) % 4))) ((z : Int) % 4)))] rfl rfl ?pa1 ?pa2 ?pa3 ?pa4 ?pa5 ?_)
      case pa2 => exact ⟨rfl, rfl, rfl⟩
      case pa3 => unfold maxLen; omega
      case pa4 => omega
      case pa5 => omega
      · intro v' wz hown3 hgrow _
        have hB3 : Below W.heap.size wq wz := HBq.out.grown hgrow (by rw [HSQ.out]; omega) (fun g hg => (hownA.out.lt g hg).1)
        obtain ⟨sa', sc', rfl⟩ := own_slice hown3
        have HJ3 := Lib.hid ((hB3.block _ (by rw [HSZ.out]; omega)).trans HJ.out)
        have ho3 : (wz.setCell ⟨w3.heap.size, 1, none⟩ (.slice sa' (k + 1) sc')).ownsRow W.heap.size 58 3 (.slice sa' (k + 1) sc') (k + 1) (ptC ((pts.map (widP y z)).take (k + 1))) := own_other (by rw [HT.out]; exact hown3) ⟨w3.heap.size, 1, none⟩ (by show w3.heap.size < _; rw [HSZ.out]; omega) _
        have HL3 : Hid (Below w3.heap.size w3 (wz.setCell ⟨w3.heap.size, 1, none⟩ (.slice sa' (k + 1) sc'))) := (HL.out.trans (hB3.mono (by rw [HSZ.out]; omega))).setCell (p := ⟨w3.heap.size, 1, none⟩) (Nat.le_refl _) _
        have HJ4 : Hid ((wz.setCell ⟨w3.heap.size, 1, none⟩ (.slice sa' (k + 1) sc')).heap[w3.heap.size]? = some (.cells #[.int .i64 sw, .slice sa' (k + 1) sc'] 24 (0, 0))) := heap_setCell_same wz w3.heap.size 1 _ _ _ HJ3.out
        clear hgrow hownA hown3 hB3 HBq ra rb rl ya yb yc yl jb fJ c0 c1 c2
        have jb := cellOf HJ3.out 1 _ rfl
        have fJ := frozen_of_row _ _ 1 _ _ HJ3.out
        go_wp2
        go_roundg (gk - 1)
        case measure => omega
        case rel => exact ⟨k + 1, sa', sc', by omega, by go_num, HJ4.out, ho3, HL3.out⟩
    · obtain rfl : k = pts.length := by omega
      have hww : PtsAt wq (.slice oa pts.length oc) wp := by
        rw [← HWP.out]
        refine ptsAt_own (base := W.heap.size) (e := 58) ?_ (by simp; omega)
        rw [List.length_map]
        have := hown
        rwa [List.take_of_length_le (by simp)] at this
      have HT := Lib.hid hww
      clear hww hown hlt hk
      have ra := cellOf HR.out 0 _ rfl
      have rb := cellOf HR.out 1 _ rfl
      have rl := lt_of_block HR.out
      go_wp2_with fail
      clear ra rb rl
      have hcall := Bounds_any ⟨st, pts⟩ _ wq HP.out
      rw [HBL.out] at hcall
      simp only at hcall
      refine hcall.mono ?_
      clear hcall
      rintro e w4 ⟨v1, rfl, hown, hb⟩
      have HB' := Lib.hid (HB.out.trans (hb.mono HB.out.size))
      have HP' := Lib.hid (HP.out.below hb)
      have HR' := Lib.hid ((hb.block _ (lt_of_block HR.out)).trans HR.out)
      have HY' := Lib.hid ((hb.block _ (lt_of_block HY.out)).trans HY.out)
      have HT' := Lib.hid (HT.out.below hb)
      have HJ' := Lib.hid ((hb.block _ (lt_of_block HJ.out)).trans HJ.out)
      clear HB
      have HB := HB'
      clear HB'
      clear HP
      have HP := HP'
      clear HP'
      clear HR
      have HR := HR'
      clear HR'
      clear HY
      have HY := HY'
      clear HY'
      clear HT
      have HT := HT'
      clear HT'
      clear HJ
      have HJ := HJ'
      clear HJ'
      clear hb
      have hpa := passAt_own hown (by rw [HLN.out]; omega)
      obtain ⟨sa, sc, rfl⟩ := own_slice hown
      rw [HLN.out] at hpa ⊢
      have HX := Lib.hid hpa
      clear hown hpa
      have ja := cellOf HJ.out 0 _ rfl
      have jb := cellOf HJ.out 1 _ rfl
      have jl := lt_of_block HJ.out
      go_wp2_with fail
      clear ja jb jl
      have hcall := Bounds_any ⟨sw, wp⟩ _ w4 HT.out
      rw [HBM.out] at hcall
      simp only at hcall
      refine hcall.mono ?_
      clear hcall
      rintro e w5 ⟨v2, rfl, hown, hb⟩
      have HB' := Lib.hid (HB.out.trans (hb.mono HB.out.size))
      have HP' := Lib.hid (HP.out.below hb)
      have HR' := Lib.hid ((hb.block _ (lt_of_block HR.out)).trans HR.out)
      have HY' := Lib.hid ((hb.block _ (lt_of_block HY.out)).trans HY.out)
      have HT' := Lib.hid (HT.out.below hb)
      have HJ' := Lib.hid ((hb.block _ (lt_of_block HJ.out)).trans HJ.out)
      have HX' := Lib.hid (HX.out.below hb)
      clear HB
      have HB := HB'
      clear HB'
      clear HP
      have HP := HP'
      clear HP'
      clear HR
      have HR := HR'
      clear HR'
      clear HY
      have HY := HY'
      clear HY'
      clear HT
      have HT := HT'
      clear HT'
      clear HJ
      have HJ := HJ'
      clear HJ'
      clear HX
      have HX := HX'
      clear HX'
      clear hb
      have hpa := passAt_own hown (by rw [HLM.out]; omega)
      obtain ⟨sb, sd, rfl⟩ := own_slice hown
      rw [HLM.out] at hpa ⊢
      have HZ := Lib.hid hpa
      clear hown hpa HL
      go_wp2_with fail
      have HL := Lib.hid (Below.refl w5.heap.size w5)
      go_loopg [14] ln (fun g i wr => ∃ k : Nat, g + k = ln ∧ i = .int .i64 k ∧ Hid (Below w5.heap.size w5 wr))
      case atStart => exact ⟨0, by omega, rfl, HL.out⟩
      case round =>
        clear HL
        obtain ⟨k, hk, rfl, HL⟩ := hrel
        obtain ⟨wr6, hwr⟩ : ∃ wr6, wr = wr6 := ⟨_, rfl⟩
        rw [hwr] at HL ⊢
        clear hwr
        have hb := HL.out
        have HB' := Lib.hid (HB.out.trans (hb.mono HB.out.size))
        have HP' := Lib.hid (HP.out.below hb)
        have HR' := Lib.hid ((hb.block _ (lt_of_block HR.out)).trans HR.out)
        have HY' := Lib.hid ((hb.block _ (lt_of_block HY.out)).trans HY.out)
        have HT' := Lib.hid (HT.out.below hb)
        have HJ' := Lib.hid ((hb.block _ (lt_of_block HJ.out)).trans HJ.out)
        have HX' := Lib.hid (HX.out.below hb)
        have HZ' := Lib.hid (HZ.out.below hb)
        clear HB
        have HB := HB'
        clear HB'
        clear HP
        have HP := HP'
        clear HP'
        clear HR
        have HR := HR'
        clear HR'
        clear HY
        have HY := HY'
        clear HY'
        clear HT
        have HT := HT'
        clear HT'
        clear HJ
        have HJ := HJ'
        clear HJ'
        clear HX
        have HX := HX'
        clear HX'
        clear HZ
        have HZ := HZ'
        clear HZ'
        clear hb
        by_cases hlt : k < ln
        · skip
          obtain ⟨b1, o1, rfl, c0, c1⟩ := HX.out.get (show k < bl.length by rw [HLN.out]; exact hlt)
          obtain ⟨b2, o2, rfl, d0, d1⟩ := HZ.out.get (show k < bm.length by rw [HLM.out]; omega)
          have hg := HG.out k hlt
          rw [List.getD_eq_getElem?_getD, List.getD_eq_getElem?_getD, List.getElem?_eq_getElem (show k < bl.length by rw [HLN.out]; exact hlt), List.getElem?_eq_getElem (show k < bm.length by rw [HLM.out]; omega)] at hg
          simp only [Option.getD_some] at hg
          generalize bl[k]'(by rw [HLN.out]; exact hlt) = sp at *
          generalize bm[k]'(by rw [HLM.out]; exact hlt) = sq at *
          obtain ⟨x1, y1⟩ := sp
          obtain ⟨x2, y2⟩ := sq
          simp only at c0 c1 d0 d1 hg
          have q1 : decide (x1 < x2) = false := by simp; omega
          have q2 : decide (y2 < y1) = false := by simp; omega
          clear hg
          have kI : (k : Int) < (ln : Int) := by omega
          have ln10 : (ln : Int) ≤ 10 := by omega
          go_wp2_with fail
          go_quiet (fail)
          go_wp2
          go_roundg (gk - 1)
          case measure => omega
          case rel => exact ⟨k + 1, by omega, by go_num, HL.out.trans (Below.mono (B := wr6.heap.size) ⟨rfl, rfl, rfl, Nat.le_refl _, fun _ _ => rfl⟩ HL.out.size)⟩
        · obtain rfl : k = ln := by omega
          clear hlt hk HG HX HZ HL
          have ra := cellOf HR.out 0 _ rfl
          have rb := cellOf HR.out 1 _ rfl
          have rl := lt_of_block HR.out
          go_wp2_with fail
          clear ra rb rl
          have hcall := Best_any ⟨st, pts⟩ false _ wr6 HP.out
          rw [HQ1.out] at hcall
          simp only at hcall
          refine hcall.mono ?_
          clear hcall
          rintro e w7 ⟨v3, rfl, hown, hb⟩
          have HB' := Lib.hid (HB.out.trans (hb.mono HB.out.size))
          have HP' := Lib.hid (HP.out.below hb)
          have HR' := Lib.hid ((hb.block _ (lt_of_block HR.out)).trans HR.out)
          have HY' := Lib.hid ((hb.block _ (lt_of_block HY.out)).trans HY.out)
          have HT' := Lib.hid (HT.out.below hb)
          have HJ' := Lib.hid ((hb.block _ (lt_of_block HJ.out)).trans HJ.out)
          clear HB
          have HB := HB'
          clear HB'
          clear HP
          have HP := HP'
          clear HP'
          clear HR
          have HR := HR'
          clear HR'
          clear HY
          have HY := HY'
          clear HY'
          clear HT
          have HT := HT'
          clear HT'
          clear HJ
          have HJ := HJ'
          clear HJ'
          clear hb
          clear hown HQ1
          have ja := cellOf HJ.out 0 _ rfl
          have jb := cellOf HJ.out 1 _ rfl
          have jl := lt_of_block HJ.out
          go_wp2_with fail
          clear ja jb jl
          have hcall := Best_any ⟨sw, wp⟩ false _ w7 HT.out
          rw [HQ2.out] at hcall
          simp only at hcall
          refine hcall.mono ?_
          clear hcall
          rintro e w8 ⟨v4, rfl, hown, hb⟩
          have HB' := Lib.hid (HB.out.trans (hb.mono HB.out.size))
          have HP' := Lib.hid (HP.out.below hb)
          have HR' := Lib.hid ((hb.block _ (lt_of_block HR.out)).trans HR.out)
          have HY' := Lib.hid ((hb.block _ (lt_of_block HY.out)).trans HY.out)
          have HT' := Lib.hid (HT.out.below hb)
          have HJ' := Lib.hid ((hb.block _ (lt_of_block HJ.out)).trans HJ.out)
          clear HB
          have HB := HB'
          clear HB'
          clear HP
          have HP := HP'
          clear HP'
          clear HR
          have HR := HR'
          clear HR'
          clear HY
          have HY := HY'
          clear HY'
          clear HT
          have HT := HT'
          clear HT'
          clear HJ
          have HJ := HJ'
          clear HJ'
          clear hb
          clear hown HQ2
          have ra := cellOf HR.out 0 _ rfl
          have rb := cellOf HR.out 1 _ rfl
          have rl := lt_of_block HR.out
          go_wp2_with fail
          clear ra rb rl
          have hcall := Best_any ⟨st, pts⟩ true _ w8 HP.out
          rw [HQ3.out] at hcall
          simp only at hcall
          refine hcall.mono ?_
          clear hcall
          rintro e w9 ⟨v5, rfl, hown, hb⟩
          have HB' := Lib.hid (HB.out.trans (hb.mono HB.out.size))
          have HP' := Lib.hid (HP.out.below hb)
          have HR' := Lib.hid ((hb.block _ (lt_of_block HR.out)).trans HR.out)
          have HY' := Lib.hid ((hb.block _ (lt_of_block HY.out)).trans HY.out)
          have HT' := Lib.hid (HT.out.below hb)
          have HJ' := Lib.hid ((hb.block _ (lt_of_block HJ.out)).trans HJ.out)
          clear HB
          have HB := HB'
          clear HB'
          clear HP
          have HP := HP'
          clear HP'
          clear HR
          have HR := HR'
          clear HR'
          clear HY
          have HY := HY'
          clear HY'
          clear HT
          have HT := HT'
          clear HT'
          clear HJ
          have HJ := HJ'
          clear HJ'
          clear hb
          clear hown HQ3
          have ja := cellOf HJ.out 0 _ rfl
          have jb := cellOf HJ.out 1 _ rfl
          have jl := lt_of_block HJ.out
          go_wp2_with fail
          clear ja jb jl
          have hcall := Best_any ⟨sw, wp⟩ true _ w9 HT.out
          rw [HQ4.out] at hcall
          simp only at hcall
          refine hcall.mono ?_
          clear hcall
          rintro e w10 ⟨v6, rfl, hown, hb⟩
          have HB' := Lib.hid (HB.out.trans (hb.mono HB.out.size))
          have HP' := Lib.hid (HP.out.below hb)
          have HR' := Lib.hid ((hb.block _ (lt_of_block HR.out)).trans HR.out)
          have HY' := Lib.hid ((hb.block _ (lt_of_block HY.out)).trans HY.out)
          have HT' := Lib.hid (HT.out.below hb)
          have HJ' := Lib.hid ((hb.block _ (lt_of_block HJ.out)).trans HJ.out)
          clear HB
          have HB := HB'
          clear HB'
          clear HP
          have HP := HP'
          clear HP'
          clear HR
          have HR := HR'
          clear HR'
          clear HY
          have HY := HY'
          clear HY'
          clear HT
          have HT := HT'
          clear HT'
          clear HJ
          have HJ := HJ'
          clear HJ'
          clear hb
          clear hown HQ4
          have q1 : decide (ga' ≤ ga) = true := by simp; omega
          have q2 : decide (gd' ≤ gd) = true := by simp; omega
          go_wp2_with fail
          have hcall := awake_any w10
          refine hcall.mono ?_
          clear hcall
          rintro e w11 ⟨rfl, hb⟩
          have HB' := Lib.hid (HB.out.trans (hb.mono HB.out.size))
          have HP' := Lib.hid (HP.out.below hb)
          have HR' := Lib.hid ((hb.block _ (lt_of_block HR.out)).trans HR.out)
          have HY' := Lib.hid ((hb.block _ (lt_of_block HY.out)).trans HY.out)
          have HT' := Lib.hid (HT.out.below hb)
          have HJ' := Lib.hid ((hb.block _ (lt_of_block HJ.out)).trans HJ.out)
          clear HB
          have HB := HB'
          clear HB'
          clear HP
          have HP := HP'
          clear HP'
          clear HR
          have HR := HR'
          clear HR'
          clear HY
          have HY := HY'
          clear HY'
          clear HT
          have HT := HT'
          clear HT'
          clear HJ
          have HJ := HJ'
          clear HJ'
          clear hb
          go_wp2
          go_ret
          exact ⟨rfl, HB.out⟩

set_option maxRecDepth 100000 in
set_option maxHeartbeats 16000000 in
theorem lwide_any (r : Row) (pv : Value) (x y z : Nat) (hx : x ≤ 255) (hy : y ≤ 255) (hz : z ≤ 255) (w : World) (hP : PtsAt w pv r.pts) :
    Calls Try.prog 12 #[.agg #[.int .i64 r.st, pv], .agg #[.int .u8 x, .int .u8 y, .int .u8 z]] w fun e w' => e = .returned (.bool true) ∧ Below w.heap.size w w' := by
  obtain ⟨st, pts⟩ := r
  simp only at hP ⊢
  obtain ⟨lp, pa, pc, rfl, _, _⟩ := id hP
  by_cases hv : errR ⟨st, pts⟩ = 0
  · obtain ⟨hw, hs⟩ := wid_wide x y z (by omega) (by omega) (by omega) ⟨st, pts⟩ hv
    have h10 : pts.length ≤ 10 := ((check_valid _).1 hv).n10
    cases hc : crossB ⟨st, pts⟩
    · obtain ⟨b1, b2, b3, b4⟩ := hw.bounds hv hs hc
      obtain ⟨a, b, c, a', b', c', d, d', e1, e2, e3, e4, k1, k2⟩ := hw.best hv hs hc
      have hl : (bandsR ⟨st, pts⟩).length = pts.length := bandsR_length _
      exact lwide_ok st pts pa pc x y z hx hy hz w hP hv _ rfl _ rfl _ _ pts.length h10 b1 b2 hl (b3.trans hl) (fun i hi => b4 i (by rw [hl]; exact hi)) a b c d a' b' c' d' k1 k2 e1 e2 e3 e4
    · refine lwide_down st pts pa pc x y z hx hy hz w hP hv _ rfl _ rfl _ ?_ (by show _ = _; unfold boundsR boundE; rw [hv, hc]; rfl) rfl
      show (boundsR (widR x y z ⟨st, pts⟩)).2 = 0 ∨ (boundsR (widR x y z ⟨st, pts⟩)).2 = 9
      unfold boundsR boundE
      rw [hs]
      cases crossB (widR x y z ⟨st, pts⟩)
      · exact .inl rfl
      · exact .inr rfl
  · exact lwide_no st pts pa pc x y z hx hy hz w hP hv

end Go.Proofs.Ytnciomoapajonaa
namespace Go.Proofs.Ytnciomoapajonaa
namespace ClaimCarveWider
open Go.ChangeShapes Go.WideShapes Go.ChangeAt Go.RowKit

theorem own : ownKnob Try.prog.godebug = none := by kernel_rfl
theorem laidOutP : laidOutB Try.prog = true := by kernel_rfl

set_option maxRecDepth 100000 in
theorem contract (H : Type) (enc : TypeId × Value → H) (W : World) (base : Nat) (args : Array Value) (ds gs : List (DataW H)) (before : List MemPlace)
    (hval : ∀ (j : Nat) t v, Try.f12.params[j]? = some t → args[j]? = some v → Value.okWide Try.prog W .any base t v)
    (hW : DataW.Whole enc Try.prog Try.f12.params.toList Rows.carveWiderSpec.vars false W args.toList ds gs before)
    (hsz : (DataW.weightsEach Try.prog (Try.f12.params.toList ++ Rows.carveWiderSpec.plain.varTypes Try.prog) (ds ++ gs)).all (· ≤ reachBytes) = true) :
    Calls Try.prog 12 args W fun e W' => ∃ v, e = .returned v ∧ Rows.carveWiderSpec.post enc Try.prog Try.f12 false true false false W args v W' := by
  have hW' := hW
  obtain ⟨p, q, hA0, hV, rfl, hfz, hnd⟩ := hW
  have hA : DataW.TrodAll enc Try.prog W 0 (fun _ => true) true Try.f12.params.toList args.toList ds p := hA0
  rw [Try.params12] at hA hval hsz
  obtain ⟨v0, vs0, d0, ds0, p0, q0, hargs, rfl, rfl, h0, r0⟩ := trodAll_cons hA
  obtain ⟨v1, vs1, d1, ds1, p1, q1, rfl, rfl, rfl, h1, r1⟩ := trodAll_cons r0
  obtain ⟨rfl, rfl, rfl⟩ := trodAll_nil r1
  obtain rfl : args = #[v0, v1] := by cases args; simp_all
  obtain ⟨rfl, rfl⟩ := trodVars_none hV
  have w0 : ∀ x ∈ d0.weights Try.prog 24, x ≤ reachBytes := fun x hx => of_decide_eq_true (List.all_eq_true.1 hsz _ (DataW.weights_mem_each (j := 0) (t := 24) (d := d0) rfl rfl x hx))
  obtain ⟨r, pv, rfl, hP, hs0, hs9⟩ := open_row (hval 0 24 v0 rfl rfl) h0 w0
  obtain ⟨x1, y1, z1, rfl, bx1, by1, bz1⟩ := open_u8x3 (hval 1 67 v1 rfl rfl) h1
  clear hA0
  refine (lwide_any r pv x1 y1 z1 bx1 by1 bz1 W hP ).mono fun e W' ⟨he, hb⟩ => ?_
  subst he
  exact ⟨_, rfl, post_law laidOutP (by rw [Try.params12]; intro t ht; simp at ht; rcases ht with rfl | rfl <;> exact ⟨by kernel_rfl, of_decide_eq_true (by kernel_rfl)⟩) rfl rfl Try.underlying4 rfl hW' hb⟩

set_option maxRecDepth 100000 in
theorem lifted (os : Os) (started : os.Started) (H : Type) (enc : TypeId × Value → H) :
    ReturnsInHanded {} Try.checked os 12 .any (Rows.carveWiderSpec.pre6 enc Try.prog Try.f12 Rows.carveWiderRow.domain false) (Rows.carveWiderSpec.post enc Try.prog Try.f12 false true false false) := by
  refine returnsInHanded_of_change_sized (C := Try.checked) own started (by kernel_rfl) Try.func12
    (ChangeSpec.witness6 (enc := enc) (C := Try.checked) false ⟨#[], #[.agg #[.int .i64 0, .slice none 0 0], .agg #[.int .u8 0, .int .u8 0, .int .u8 0]], []⟩ 8 (by kernel_rfl) (by kernel_rfl) (by kernel_rfl) (by kernel_rfl)) ?_
  intro W base args ds gs before hval hW _ hsz _
  exact contract H enc W base args ds gs before hval hW hsz

theorem over : Rows.CarveWiderSaid :=
  OpenClaim.holds_of_wide 12 Try.f12 rfl rfl rfl rfl rfl rfl rfl ⟨rfl, rfl, rfl, rfl, rfl⟩ rfl rfl rfl rfl rfl (by kernel_rfl) Try.func12 (by kernel_rfl)
    (of_decide_eq_true (by kernel_rfl)) (by unfold Func.isWrapper; first | (rw [if_pos (by decide +kernel)]; kernel_rfl) | (rw [if_neg (by decide +kernel)]; exact ⟨rfl, rfl⟩))
    (fun os started H enc _ => lifted os started H enc)
end ClaimCarveWider

theorem carveWider_holds : Rows.CarveWiderSaid := ClaimCarveWider.over
end Go.Proofs.Ytnciomoapajonaa
