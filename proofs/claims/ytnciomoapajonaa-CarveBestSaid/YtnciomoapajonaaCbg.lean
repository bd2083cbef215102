/- CarveBest: the call returns true, whatever its arguments and the memory in which it begins; its arguments read as they did. -/
import Derived.Test.YtnciomoapajonaaRgc
import Derived.Test.YtnciomoapajonaaCvba
import Derived.Maps.AppendAt
import Derived.Test.YtnciomoapajonaaCvbb
import Derived.Test.YtnciomoapajonaaCxb
import Derived.BigQuiet
import Derived.Test.YtnciomoapajonaaHeld
import Derived.OwnWalk
import Derived.Test.YtnciomoapajonaaLasti
import Derived.Deep.DeepCutAuto
import Derived.Deep.LoopGhost
import Derived.BigRegion
import Derived.Test.YtnciomoapajonaaRca
import Derived.Test.YtnciomoapajonaaCxi
import Derived.Test.YtnciomoapajonaaCxe
import Derived.Test.YtnciomoapajonaaCxg
import Derived.Test.YtnciomoapajonaaRows
import Derived.Test.YtnciomoapajonaaCar
import Derived.ProofKit
import Derived.JoinedOf
import Derived.JoinedAt
set_option linter.unusedSimpArgs false
set_option linter.unusedVariables false
namespace Go.Proofs.Ytnciomoapajonaa
open Go Go.RowKit Cv

theorem own_tagR {w : World} {base e size n : Nat} {v : Value} {xs : List Value} (h : w.ownsRow base e size v n xs) {g : Nat} (hg : v.ownBlock = some g) : ∃ cur, w.heap[g]? = some (.cells cur e (0, 0)) := by
  rcases h.2 with ⟨rfl, _⟩ | ⟨g', cap, cur, rfl, _, q, _⟩
  · simp [Value.ownBlock] at hg
  · simp [Value.ownBlock] at hg
    subst hg
    exact ⟨cur, q⟩
theorem own_apartR {w : World} {b1 b2 s1 s2 n1 n2 : Nat} {v1 v2 : Value} {x1 x2 : List Value} (h1 : w.ownsRow b1 3 s1 v1 n1 x1) (h2 : w.ownsRow b2 110 s2 v2 n2 x2) : v1.ownBlock = none ∨ v1.ownBlock ≠ v2.ownBlock := by
  rcases e : v1.ownBlock with _ | g
  · exact .inl rfl
  · refine .inr fun e2 => ?_
    obtain ⟨c1, q1⟩ := own_tagR h1 e
    obtain ⟨c2, q2⟩ := own_tagR h2 e2.symm
    rw [q1] at q2
    injection q2 with q
    injection q with _ q
    exact absurd q (by decide)
/-- The cells of a rest whose surface is a value. -/
def restV (u : Value) : Rst → List Value
  | none => [.bool false, u, .int .i64 0, .int .i64 0]
  | some x => [.bool true, u, .int .i64 x.2.1, .int .i64 x.2.2]
def restC (l : List (Value × Rst)) : List Value := l.flatMap fun x => restV x.1 x.2
def restS : Rst → List Int
  | none => []
  | some x => x.1
theorem restV_length (u : Value) (r : Rst) : (restV u r).length = 4 := by cases r <;> rfl
theorem restC_append (a b : List (Value × Rst)) : restC (a ++ b) = restC a ++ restC b := by simp [restC]
theorem restC_get : ∀ (l : List (Value × Rst)) (k j : Nat) (h : k < l.length) (_ : j < 4), (restC l)[k * 4 + j]? = (restV l[k].1 l[k].2)[j]? := by
  intro l
  induction l with
  | nil => intro k j h; exact absurd h (Nat.not_lt_zero _)
  | cons x l ih =>
    intro k j h hj
    have e : restC (x :: l) = restV x.1 x.2 ++ restC l := rfl
    rw [e]
    cases k with
    | zero => rw [Nat.zero_mul, Nat.zero_add, List.getElem?_append_left (by rw [restV_length]; exact hj)]; rfl
    | succ k =>
      rw [List.getElem?_append_right (by rw [restV_length]; omega), restV_length, show (k + 1) * 4 + j - 4 = k * 4 + j by omega]
      exact ih k j (by simpa using h) hj
/-- A row of rests of the call's own. -/
structure RsIn (B : Nat) (w : World) (v : Value) (l : List (Value × Rst)) : Prop where
  outer : w.ownsRow B 110 4 v l.length (restC l)
  inn : ∀ x, x ∈ l → w.ownsRow B 3 1 x.1 (restS x.2).length ((restS x.2).map (Value.int .i64))
theorem RsIn.up {B : Nat} {w w' : World} {v : Value} {l : List (Value × Rst)} (h : RsIn B w v l) (hb : Below w.heap.size w w') : RsIn B w' v l :=
  ⟨own_below h.outer hb, fun x hx => own_below (h.inn x hx) hb⟩
theorem RsIn.base {B B' : Nat} {w : World} {v : Value} {l : List (Value × Rst)} (h : RsIn B w v l) (hB : B' ≤ B) : RsIn B' w v l :=
  ⟨own_base h.outer hB, fun x hx => own_base (h.inn x hx) hB⟩
theorem RsIn.nil (B : Nat) (w : World) : RsIn B w (.slice none 0 0) [] := ⟨World.ownsRow_nil _ _ _ _, fun x hx => by simp at hx⟩
theorem RsIn.next {B : Nat} {w w' : World} {v v' u : Value} {l : List (Value × Rst)} {r : Rst} (h : RsIn B w v l)
    (hu : w.ownsRow B 3 1 u (restS r).length ((restS r).map (Value.int .i64))) (hg : w.grownBy w' v.ownBlock) (ho : w'.ownsRow B 110 4 v' (l.length + 1) (restC l ++ restV u r)) :
    RsIn B w' v' (l ++ [(u, r)]) := by
  refine ⟨by rw [List.length_append, restC_append]; simpa [restC] using ho, fun x hx => ?_⟩
  rcases List.mem_append.1 hx with hx | hx
  · exact (h.inn x hx).kept hg (own_apartR (h.inn x hx) h.outer)
  · obtain rfl : x = (u, r) := by simpa using hx
    exact hu.kept hg (own_apartR hu h.outer)
theorem RsIn.shape {B : Nat} {w : World} {v : Value} {l : List (Value × Rst)} (h : RsIn B w v l) : ∃ (sa : Option Addr) (sc : Nat), v = .slice sa l.length sc := own_slice h.outer
theorem RsIn.get {B : Nat} {w : World} {sa : Option Addr} {n sc : Nat} {l : List (Value × Rst)} (h : RsIn B w (.slice sa n sc) l) {k : Nat} (hk : k < l.length) :
    ∃ g, sa = some ⟨g, 0, none⟩ ∧ B ≤ g ∧ ∀ j, j < 4 → w.cell? ⟨g, k * 4 + j, none⟩ = (restV l[k].1 l[k].2)[j]? := by
  have h' := h.outer
  rcases h'.2 with ⟨_, e⟩ | ⟨g, cap, cu, e, hb, q⟩
  · omega
  · simp only [Value.slice.injEq] at e
    obtain ⟨rfl, rfl, rfl⟩ := e
    refine ⟨g, rfl, hb, fun j hj => ?_⟩
    rw [h'.cellAt (k * 4 + j) (by omega)]
    exact restC_get l k j hk hj
theorem RsIn.surf {B : Nat} {w : World} {v : Value} {l : List (Value × Rst)} (h : RsIn B w v l) {k : Nat} (hk : k < l.length) :
    w.ownsRow B 3 1 l[k].1 (restS l[k].2).length ((restS l[k].2).map (Value.int .i64)) := h.inn _ (List.getElem_mem hk)
end Go.Proofs.Ytnciomoapajonaa
namespace Go.Proofs.Ytnciomoapajonaa
open Go Go.RowKit Cv

theorem foldO_append (q : Bool) (g : Int → Rst) : ∀ (l m : List Int) (a : Rst), foldO q g (l ++ m) a = foldO q g m (foldO q g l a) := by
  intro l
  induction l with
  | nil => intro m a; rfl
  | cons h l ih => intro m a; exact ih m _
/-- The best one of the first so many. -/
def partO (q : Bool) (g : Int → Rst) (lo : Int) (k : Nat) : Rst := foldO q g ((List.range k).map fun (j : Nat) => lo + (j : Int)) none
theorem partO_none {q : Bool} {g : Int → Rst} {lo : Int} {k : Nat} (h : g (lo + k) = none) : partO q g lo (k + 1) = partO q g lo k := by
  unfold partO
  rw [List.range_succ, List.map_append, foldO_append]
  simp only [List.map_cons, List.map_nil, foldO, h]
theorem partO_some {q : Bool} {g : Int → Rst} {lo : Int} {k : Nat} {b : List Int × Nd} (h : g (lo + k) = some b) : partO q g lo (k + 1) = betO q (partO q g lo k) b := by
  unfold partO
  rw [List.range_succ, List.map_append, foldO_append]
  simp only [List.map_cons, List.map_nil, foldO, h]
theorem partO_all (st : Int) (q : Bool) (p : Pt) (l : List Pt) (f : From) : partO q (fun h => candO st f p h (refL st q l (some (p, h)))) p.lo (p.hi - p.lo + 1).toNat = refL st q (p :: l) f := (refL_cons st q p l f).symm
/-- The rests behind each height of a point. -/
def restsAt (st : Int) (q : Bool) (pts : List Pt) (i : Nat) : List Rst :=
  (List.range ((pts.getD i default).hi - (pts.getD i default).lo + 1).toNat).map fun (k : Nat) => refL st q (pts.drop (i + 1)) (some (pts.getD i default, (pts.getD i default).lo + (k : Int)))
theorem restsAt_length (st : Int) (q : Bool) (pts : List Pt) (i : Nat) : (restsAt st q pts i).length = ((pts.getD i default).hi - (pts.getD i default).lo + 1).toNat := by simp [restsAt]
/-- Bounds of a rest. -/
def RBd (x : Rst) : Prop := ∀ y, x = some y → y.1.length ≤ 10 ∧ 0 ≤ y.2.1 ∧ y.2.1 ≤ 90000 ∧ 0 ≤ y.2.2 ∧ y.2.2 ≤ 90000
theorem refL_rbd (st : Int) (q : Bool) (l : List Pt) (hl : l.length ≤ 10) (hok : ∀ p, p ∈ l → PtOk p) (f : From) (hf : 0 ≤ deepF f) : RBd (refL st q l f) := by
  intro y hy
  obtain ⟨h1, h2, _⟩ := refL_some st q l f y hy
  have h3 := needS_bd st l f y.1 hok h1 hf
  have h4 := h1.length
  rw [← h2] at h3
  omega
theorem restsAt_rbd (st : Int) (q : Bool) (pts : List Pt) (hl : pts.length ≤ 10) (hok : ∀ p, p ∈ pts → PtOk p) (i : Nat) : ∀ x, x ∈ restsAt st q pts i → RBd x := by
  intro x hx
  obtain ⟨k, _, rfl⟩ := List.mem_map.1 hx
  exact refL_rbd st q _ (by rw [List.length_drop]; omega) (fun p hp => hok p (List.mem_of_mem_drop hp)) _ (by simp only [deepF]; omega)
/-- What a height at the next point leads to, where the rest behind it is known. -/
def nextX (p' p : Pt) (h o : Int) (y : List Int × Nd) : List Int × Nd := (o :: y.1, (y.2.1 + max 0 (o - p'.bd), y.2.2 + max 0 (max 0 (p'.bd - o) - max 0 (p.bd - h))))
theorem candO_far (st : Int) (p p' : Pt) (h o : Int) (r : Rst) (hs : st < max (h - o) (o - h)) : candO st (some (p, h)) p' o r = none := by
  unfold candO nearF
  rw [if_neg]
  simp
  omega
theorem candO_near (st : Int) (p p' : Pt) (h o : Int) (y : List Int × Nd) (hs : ¬ st < max (h - o) (o - h)) : candO st (some (p, h)) p' o (some y) = some (nextX p' p h o y) := by
  unfold candO nearF
  rw [if_pos (by simp; omega)]
  unfold nextX stepN deepF addN
  simp only [Option.map_some, Option.some.injEq, Prod.mk.injEq, true_and]
  omega
theorem candO_none (st : Int) (f : From) (p' : Pt) (o : Int) : candO st f p' o none = none := by unfold candO; split <;> rfl
theorem betO_none (q : Bool) (b : List Int × Nd) : betO q none b = some b := rfl
theorem betO_yes {q : Bool} {c b : List Int × Nd} (h : ltN q b.2 c.2 = true) : betO q (some c) b = some b := by simp [betO, h]
theorem betO_no {q : Bool} {c b : List Int × Nd} (h : ltN q b.2 c.2 = false) : betO q (some c) b = some c := by simp [betO, h]
/-- The first point: nothing is before it. -/
def firstX (p : Pt) (h : Int) (y : List Int × Nd) : List Int × Nd := (h :: y.1, (y.2.1 + max 0 (h - p.bd), y.2.2 + max 0 (p.bd - h)))
theorem candO_first (st : Int) (p : Pt) (h : Int) (y : List Int × Nd) : candO st none p h (some y) = some (firstX p h y) := by
  unfold candO nearF
  rw [if_pos rfl]
  unfold firstX stepN deepF addN
  simp only [Option.map_some, Option.some.injEq, Prod.mk.injEq, true_and]
  omega
end Go.Proofs.Ytnciomoapajonaa
namespace Go.Proofs.Ytnciomoapajonaa
open Go Go.RowKit Cv

set_option maxRecDepth 100000 in
set_option maxHeartbeats 2000000 in
theorem rbetter_any (q f1 f2 : Bool) (a1 a2 : Option Addr) (n1 c1 n2 c2 : Nat) (p1 m1 p2 m2 : Int) (w : World) :
    Calls Try.prog 73 #[.agg #[.bool f1, .slice a1 n1 c1, .int .i64 p1, .int .i64 m1], .agg #[.bool f2, .slice a2 n2 c2, .int .i64 p2, .int .i64 m2], .bool q] w fun e w' => e = .returned (.bool (ltN q (p1, m1) (p2, m2))) ∧ Below w.heap.size w w' := by
  obtain ⟨W, hW, hx, hy, hb, _⟩ := al2 w (Obj.cells #[.bool f1, .slice a1 n1 c1, .int .i64 p1, .int .i64 m1] 110) (Obj.cells #[.bool f2, .slice a2 n2 c2, .int .i64 p2, .int .i64 m2] 110)
  have HX := Lib.hid hx
  have HY := Lib.hid hy
  have HB := Lib.hid hb
  have HW := Lib.hid hW
  clear hx hy hb hW
  cases q
  · by_cases h1 : p1 < p2
    · skip
      have HE : Hid (ltN false (p1, m1) (p2, m2) = true) := by show _ = _; rw [ltN_iff]; simp; omega
      rw [HE.out]
      clear HE
      go_enter Try.func73, Try.ntmps73
      go_wp2_with fail
      rw [HW.out]
      clear HW
      have x2 := cellOf HX.out 2 _ rfl
      have y2 := cellOf HY.out 2 _ rfl
      have x3 := cellOf HX.out 3 _ rfl
      have y3 := cellOf HY.out 3 _ rfl
      have xl := lt_of_block HX.out
      have yl := lt_of_block HY.out
      go_quiet (fail)
      go_wp2
      go_ret
      exact ⟨rfl, HB.out.trans ⟨rfl, rfl, rfl, Nat.le_refl _, fun _ _ => rfl⟩⟩
    · by_cases h2 : p1 = p2
      · subst h2
        by_cases h3 : m1 < m2
        · skip
          have HE : Hid (ltN false (p1, m1) (p1, m2) = true) := by show _ = _; rw [ltN_iff]; simp; omega
          rw [HE.out]
          clear HE
          go_enter Try.func73, Try.ntmps73
          go_wp2_with fail
          rw [HW.out]
          clear HW
          have x2 := cellOf HX.out 2 _ rfl
          have y2 := cellOf HY.out 2 _ rfl
          have x3 := cellOf HX.out 3 _ rfl
          have y3 := cellOf HY.out 3 _ rfl
          have xl := lt_of_block HX.out
          have yl := lt_of_block HY.out
          go_quiet (fail)
          go_wp2
          go_ret
          exact ⟨rfl, HB.out.trans ⟨rfl, rfl, rfl, Nat.le_refl _, fun _ _ => rfl⟩⟩
        · skip
          have HE : Hid (ltN false (p1, m1) (p1, m2) = false) := by show _ = _; rw [← Bool.not_eq_true, ltN_iff]; simp; omega
          rw [HE.out]
          have q3 : decide (m1 < m2) = false := by simp; omega
          clear HE
          go_enter Try.func73, Try.ntmps73
          go_wp2_with fail
          rw [HW.out]
          clear HW
          have x2 := cellOf HX.out 2 _ rfl
          have y2 := cellOf HY.out 2 _ rfl
          have x3 := cellOf HX.out 3 _ rfl
          have y3 := cellOf HY.out 3 _ rfl
          have xl := lt_of_block HX.out
          have yl := lt_of_block HY.out
          go_quiet (fail)
          go_wp2
          go_ret
          exact ⟨rfl, HB.out.trans ⟨rfl, rfl, rfl, Nat.le_refl _, fun _ _ => rfl⟩⟩
      · skip
        have HE : Hid (ltN false (p1, m1) (p2, m2) = false) := by show _ = _; rw [← Bool.not_eq_true, ltN_iff]; simp; omega
        rw [HE.out]
        have q1 : decide (p1 < p2) = false := by simp; omega
        have q2 : (p1 == p2) = false := by rw [beq_eq_false_iff_ne]; exact h2
        clear HE
        go_enter Try.func73, Try.ntmps73
        go_wp2_with fail
        rw [HW.out]
        clear HW
        have x2 := cellOf HX.out 2 _ rfl
        have y2 := cellOf HY.out 2 _ rfl
        have x3 := cellOf HX.out 3 _ rfl
        have y3 := cellOf HY.out 3 _ rfl
        have xl := lt_of_block HX.out
        have yl := lt_of_block HY.out
        go_quiet (fail)
        go_wp2
        go_ret
        exact ⟨rfl, HB.out.trans ⟨rfl, rfl, rfl, Nat.le_refl _, fun _ _ => rfl⟩⟩
  · by_cases h1 : m1 < m2
    · skip
      have HE : Hid (ltN true (p1, m1) (p2, m2) = true) := by show _ = _; rw [ltN_iff]; simp; omega
      rw [HE.out]
      clear HE
      go_enter Try.func73, Try.ntmps73
      go_wp2_with fail
      rw [HW.out]
      clear HW
      have x2 := cellOf HX.out 2 _ rfl
      have y2 := cellOf HY.out 2 _ rfl
      have x3 := cellOf HX.out 3 _ rfl
      have y3 := cellOf HY.out 3 _ rfl
      have xl := lt_of_block HX.out
      have yl := lt_of_block HY.out
      go_quiet (fail)
      go_wp2
      go_ret
      exact ⟨rfl, HB.out.trans ⟨rfl, rfl, rfl, Nat.le_refl _, fun _ _ => rfl⟩⟩
    · by_cases h2 : m1 = m2
      · subst h2
        by_cases h3 : p1 < p2
        · skip
          have HE : Hid (ltN true (p1, m1) (p2, m1) = true) := by show _ = _; rw [ltN_iff]; simp; omega
          rw [HE.out]
          clear HE
          go_enter Try.func73, Try.ntmps73
          go_wp2_with fail
          rw [HW.out]
          clear HW
          have x2 := cellOf HX.out 2 _ rfl
          have y2 := cellOf HY.out 2 _ rfl
          have x3 := cellOf HX.out 3 _ rfl
          have y3 := cellOf HY.out 3 _ rfl
          have xl := lt_of_block HX.out
          have yl := lt_of_block HY.out
          go_quiet (fail)
          go_wp2
          go_ret
          exact ⟨rfl, HB.out.trans ⟨rfl, rfl, rfl, Nat.le_refl _, fun _ _ => rfl⟩⟩
        · skip
          have HE : Hid (ltN true (p1, m1) (p2, m1) = false) := by show _ = _; rw [← Bool.not_eq_true, ltN_iff]; simp; omega
          rw [HE.out]
          have q3 : decide (p1 < p2) = false := by simp; omega
          clear HE
          go_enter Try.func73, Try.ntmps73
          go_wp2_with fail
          rw [HW.out]
          clear HW
          have x2 := cellOf HX.out 2 _ rfl
          have y2 := cellOf HY.out 2 _ rfl
          have x3 := cellOf HX.out 3 _ rfl
          have y3 := cellOf HY.out 3 _ rfl
          have xl := lt_of_block HX.out
          have yl := lt_of_block HY.out
          go_quiet (fail)
          go_wp2
          go_ret
          exact ⟨rfl, HB.out.trans ⟨rfl, rfl, rfl, Nat.le_refl _, fun _ _ => rfl⟩⟩
      · skip
        have HE : Hid (ltN true (p1, m1) (p2, m2) = false) := by show _ = _; rw [← Bool.not_eq_true, ltN_iff]; simp; omega
        rw [HE.out]
        have q1 : decide (m1 < m2) = false := by simp; omega
        have q2 : (m1 == m2) = false := by rw [beq_eq_false_iff_ne]; exact h2
        clear HE
        go_enter Try.func73, Try.ntmps73
        go_wp2_with fail
        rw [HW.out]
        clear HW
        have x2 := cellOf HX.out 2 _ rfl
        have y2 := cellOf HY.out 2 _ rfl
        have x3 := cellOf HX.out 3 _ rfl
        have y3 := cellOf HY.out 3 _ rfl
        have xl := lt_of_block HX.out
        have yl := lt_of_block HY.out
        go_quiet (fail)
        go_wp2
        go_ret
        exact ⟨rfl, HB.out.trans ⟨rfl, rfl, rfl, Nat.le_refl _, fun _ _ => rfl⟩⟩
end Go.Proofs.Ytnciomoapajonaa
namespace Go.Proofs.Ytnciomoapajonaa
open Go Go.RowKit Go.Shelf Cv

theorem restInfo : (Try.prog.info? 110).map (fun i => (i.zero, i.size, i.bytes)) = some (some (.agg #[.bool false, .slice none 0 0, .int .i64 0, .int .i64 0]), 4, 48) := by kernel_rfl
theorem steps9_any (a b : Int) (ha : 0 ≤ a ∧ a ≤ 9000) (hb : 0 ≤ b ∧ b ≤ 9000) (w : World) :
    Calls Try.prog 54 #[.int .i64 a, .int .i64 b] w fun e w' => e = .returned (.int .i64 (max (a - b) (b - a))) ∧ w = w' := by
  obtain ⟨a0, a9⟩ := ha
  obtain ⟨b0, b9⟩ := hb
  go_enter Try.func54, Try.ntmps54
  go_wp2
  go_ret
  exact ⟨rfl, rfl⟩
theorem own_oneN (W : World) (e : TypeId) (x : Value) (n : Nat) (h : W.heap.size = n) : (W.alloc (.cells #[x] e)).ownsRow n e 1 (.slice (some ⟨n, 0, none⟩) 1 1) 1 [x] := by
  subst h
  exact ⟨rfl, .inr ⟨W.heap.size, 1, _, rfl, Nat.le_refl _, heap_alloc_new W _, Nat.le_refl _, by decide, rfl, rfl⟩⟩
theorem rest_made {w w3 : World} {g base ob n : Nat} {v a p m : Value} {xs : List Value} {cs : Array Value} (hg : w3.heap[g]? = some (.cells cs 110 (0, 0))) (hcs : cs.size = 4) (ho : w3.ownsRow ob 3 1 v n xs) (hB : Below base w w3) (hb : base ≤ g) :
    ((((w3.setCell ⟨g, 0, none⟩ a).setCell ⟨g, 1, none⟩ v).setCell ⟨g, 2, none⟩ p).setCell ⟨g, 3, none⟩ m).heap[g]? = some (.cells #[a, v, p, m] 110 (0, 0)) ∧
    ((((w3.setCell ⟨g, 0, none⟩ a).setCell ⟨g, 1, none⟩ v).setCell ⟨g, 2, none⟩ p).setCell ⟨g, 3, none⟩ m).ownsRow ob 3 1 v n xs ∧
    Below base w ((((w3.setCell ⟨g, 0, none⟩ a).setCell ⟨g, 1, none⟩ v).setCell ⟨g, 2, none⟩ p).setCell ⟨g, 3, none⟩ m) := by
  refine ⟨?_, ?_, (((hB.setCell (p := ⟨g, 0, none⟩) hb _).setCell (p := ⟨g, 1, none⟩) hb _).setCell (p := ⟨g, 2, none⟩) hb _).setCell (p := ⟨g, 3, none⟩) hb _⟩
  · have h0 := heap_setCell_same w3 g 0 _ _ a hg
    have h1 := heap_setCell_same _ g 1 _ _ v h0
    have h2 := heap_setCell_same _ g 2 _ _ p h1
    have h3 := heap_setCell_same _ g 3 _ _ m h2
    rw [h3]
    match cs, hcs with
    | ⟨[c0, c1, c2, c3]⟩, _ => rfl
  · have key : ∀ (w' : World) (i : Nat) (u : Value), (∃ c, w'.heap[g]? = some (.cells c 110 (0, 0))) → w'.ownsRow ob 3 1 v n xs → (∃ c, (w'.setCell ⟨g, i, none⟩ u).heap[g]? = some (.cells c 110 (0, 0))) ∧ (w'.setCell ⟨g, i, none⟩ u).ownsRow ob 3 1 v n xs := by
      rintro w' i u ⟨c, hc⟩ h
      refine ⟨⟨_, heap_setCell_same w' g i _ _ u hc⟩, h.1, ?_⟩
      rcases h.2 with h' | ⟨g', cap, cur, r1, r2, r3, r4⟩
      · exact .inl h'
      · refine .inr ⟨g', cap, cur, r1, r2, (heap_setCell_other w' (⟨g, i, none⟩ : Addr) g' u ?_).trans r3, r4⟩
        show g' ≠ g
        rintro rfl
        rw [hc] at r3
        injection r3 with r
        injection r with _ r
        exact absurd r (by decide)
    have k0 := key w3 0 a ⟨_, hg⟩ ho
    have k1 := key _ 1 v k0.1 k0.2
    have k2 := key _ 2 p k1.1 k1.2
    exact (key _ 3 m k2.1 k2.2).2
theorem block_kept {w w' : World} {row : Option Nat} {k : Nat} {x : Obj} (h : w.heap[k]? = some x) (hg : w.grownBy w' row) (hne : row ≠ some k) : w'.heap[k]? = some x := by
  obtain ⟨_, _, _, _, hk⟩ := hg
  exact (hk k (lt_of_block h) (fun e => hne e.symm)).trans h
theorem two_at (w : World) (x y : Obj) : ((w.alloc x).alloc y).heap[w.heap.size]? = some x ∧ ((w.alloc x).alloc y).heap[w.heap.size + 1]? = some y := by
  obtain ⟨_, rfl, h1, h2, _, _⟩ := al2 w x y
  exact ⟨h1, h2⟩
theorem own_rest {w : World} {g i ob n : Nat} {u v : Value} {xs : List Value} {c : Array Value} (hc : w.heap[g]? = some (.cells c 110 (0, 0))) (h : w.ownsRow ob 3 1 v n xs) : (w.setCell ⟨g, i, none⟩ u).ownsRow ob 3 1 v n xs := by
  refine ⟨h.1, ?_⟩
  rcases h.2 with h' | ⟨g', cap, cur, r1, r2, r3, r4⟩
  · exact .inl h'
  · refine .inr ⟨g', cap, cur, r1, r2, (heap_setCell_other w (⟨g, i, none⟩ : Addr) g' u ?_).trans r3, r4⟩
    show g' ≠ g
    rintro rfl
    rw [hc] at r3
    injection r3 with r
    injection r with _ r
    exact absurd r (by decide)
theorem restV_shape (u : Value) (r : Rst) : ∃ f x y, restV u r = [.bool f, u, .int .i64 x, .int .i64 y] := by
  cases r with
  | none => exact ⟨_, _, _, rfl⟩
  | some z => exact ⟨_, _, _, rfl⟩
theorem cells4_new (W : World) (t : TypeId) (x y z u : Value) : ∀ j v, [x, y, z, u][j]? = some v → (W.alloc (Obj.cells #[x, y, z, u] t)).cell? ((⟨W.heap.size, 0, none⟩ : Addr).add j) = some v := by
  intro j v hj
  match j, hj with
  | 0, hj => simp at hj; subst hj; exact cellOf (heap_alloc_new W (Obj.cells #[x, y, z, u] t)) 0 _ rfl
  | 1, hj => simp at hj; subst hj; exact cellOf (heap_alloc_new W (Obj.cells #[x, y, z, u] t)) 1 _ rfl
  | 2, hj => simp at hj; subst hj; exact cellOf (heap_alloc_new W (Obj.cells #[x, y, z, u] t)) 2 _ rfl
  | 3, hj => simp at hj; subst hj; exact cellOf (heap_alloc_new W (Obj.cells #[x, y, z, u] t)) 3 _ rfl
  | j + 4, hj => simp at hj
theorem ones4 (f : Bool) (a : Option Addr) (n c : Nat) (x y : Int) : ∀ v ∈ [Value.bool f, Value.slice a n c, Value.int .i64 x, Value.int .i64 y], v.oneCell' = true := by
  intro v hv
  simp at hv
  rcases hv with rfl | rfl | rfl | rfl <;> rfl
theorem keepK {w w' : World} {b q : Nat} {v : Value} (h : w.cell? ⟨b, q, none⟩ = some v) (hb : Below w.heap.size w w') : w'.cell? ⟨b, q, none⟩ = some v :=
  (hb.cell (p := ⟨b, q, none⟩) (World.block_lt_of_cell? w _ h)).trans h
theorem own_one (W : World) (e : TypeId) (x : Value) : (W.alloc (.cells #[x] e)).ownsRow W.heap.size e 1 (.slice (some ⟨W.heap.size, 0, none⟩) 1 1) 1 [x] :=
  ⟨rfl, .inr ⟨W.heap.size, 1, _, rfl, Nat.le_refl _, heap_alloc_new W _, Nat.le_refl _, by decide, rfl, rfl⟩⟩
def BehindP (st : Int) (q : Bool) (pts : List Pt) (i : Nat) (w : World) (e : Ending) (w' : World) : Prop := ∃ v l, e = .returned v ∧ RsIn w.heap.size w' v l ∧ l.map (·.2) = restsAt st q pts i ∧ Below w.heap.size w w'
/-- The best rest so far, in a box. -/
structure BestIn (B g : Nat) (w : World) (r : Rst) (ua : Option Addr) (un uc : Nat) : Prop where
  box : w.heap[g]? = some (.cells (restV (.slice ua un uc) r).toArray 110 (0, 0))
  row : w.ownsRow B 3 1 (.slice ua un uc) (restS r).length ((restS r).map (Value.int .i64))
set_option maxRecDepth 100000 in
set_option maxHeartbeats 16000000 in
theorem rbehind_any (st : Int) (pts : List Pt) (pb po : Nat) (pc : Nat) (i : Nat) (q : Bool) (nv : Value) (l : List (Value × Rst)) (B0 : Nat) (w : World) (hP : PtsAt w (.slice (some ⟨pb, po, none⟩) pts.length pc) pts) (hv : Valid ⟨st, pts⟩) (hi : i + 1 < pts.length)
    (hN : RsIn B0 w nv l) (hl : l.map (·.2) = restsAt st q pts (i + 1)) :
    Calls Try.prog 72 #[.agg #[.int .i64 st, .slice (some ⟨pb, po, none⟩) pts.length pc], .int .i64 i, nv, .bool q] w (BehindP st q pts i w) := by
  obtain ⟨i0, hi0⟩ := info_of_underlying Try.underlying110
  have HI : Hid (i0.zero = some (.agg #[.bool false, .slice none 0 0, .int .i64 0, .int .i64 0]) ∧ i0.size = 4 ∧ i0.bytes = 48) := by
    have h := restInfo
    rw [hi0] at h
    simp at h
    exact h
  obtain ⟨j0, hj0⟩ := info_of_underlying Try.underlying3
  have HJ0 : Hid (j0.zero = some (.int .i64 0) ∧ j0.size = 1 ∧ j0.bytes = 8) := by
    have h := intInfo
    rw [hj0] at h
    simp at h
    exact h
  obtain ⟨na, nc, rfl⟩ := hN.shape
  have n10 : pts.length ≤ 10 := hv.n10
  have hll : l.length = ((pts.getD (i + 1) default).hi - (pts.getD (i + 1) default).lo + 1).toNat := by
    have := congrArg List.length hl
    rw [List.length_map, restsAt_length] at this
    exact this
  obtain ⟨b1', o1', e1, c0, c1, c2⟩ := hP.get (show i < pts.length by omega)
  simp only [Option.some.injEq, Addr.mk.injEq, and_true] at e1
  obtain ⟨rfl, rfl⟩ := e1
  obtain ⟨b2', o2', e2, d0, d1, d2⟩ := hP.get hi
  simp only [Option.some.injEq, Addr.mk.injEq, and_true] at e2
  obtain ⟨rfl, rfl⟩ := e2
  have hdr : pts.drop (i + 1) = pts[i + 1] :: pts.drop (i + 2) := List.drop_eq_getElem_cons hi
  have g1 : pts.getD i default = pts[i] := by simp [List.getD_eq_getElem?_getD, show i < pts.length by omega]
  have g2 : pts.getD (i + 1) default = pts[i + 1] := by simp [List.getD_eq_getElem?_getD, hi]
  have HRB : Hid (∀ x, x ∈ l → RBd x.2) := fun x hx => restsAt_rbd st q pts n10 hv.ok (i + 1) x.2 (by rw [← hl]; exact List.mem_map_of_mem hx)
  have HLK : Hid (∀ (k : Nat) (h : k < l.length), l[k].2 = refL st q (pts.drop (i + 2)) (some (pts[i + 1], pts[i + 1].lo + (k : Int)))) := fun k h => by
    have e : (l.map (·.2))[k]? = some l[k].2 := by simp [h]
    rw [hl, restsAt, g2, List.getElem?_map, List.getElem?_range (by rw [← g2, ← hll]; exact h)] at e
    simpa using e.symm
  have HRA : Hid (restsAt st q pts i = (List.range (pts[i].hi - pts[i].lo + 1).toNat).map fun (k : Nat) => refL st q (pts[i + 1] :: pts.drop (i + 2)) (some (pts[i], pts[i].lo + (k : Int)))) := by show _ = _; rw [restsAt, g1, hdr]
  rw [g2] at hll
  have HLL := Lib.hid hll
  obtain ⟨a0, a9, al0, al9, ah0, ah9, ale, _⟩ := hv.ok pts[i] (List.getElem_mem _)
  obtain ⟨e0, e9, el0, el9, eh0, eh9, ele, _⟩ := hv.ok pts[i + 1] (List.getElem_mem _)
  have hs0 : 0 ≤ st := hv.s0
  have hs2 : st ≤ 200 := hv.s200
  obtain ⟨W, hW, hA, hZ, hB, hsz⟩ := al2 w (Obj.cells #[.int .i64 st, .slice (some ⟨pb, po, none⟩) pts.length pc] 24) (Obj.cells #[.int .i64 pts[i].bd, .int .i64 pts[i].lo, .int .i64 pts[i].hi] 58)
  have HA := Lib.hid hA
  have HZ := Lib.hid hZ
  have HB := Lib.hid hB
  have HW := Lib.hid hW
  have HSZ := Lib.hid hsz
  have HN := Lib.hid (hN.up hB)
  have HD : Hid (W.cell? ⟨pb, po + (i + 1) * 3, none⟩ = some (.int .i64 pts[i + 1].bd) ∧ W.cell? ⟨pb, po + (i + 1) * 3 + 1, none⟩ = some (.int .i64 pts[i + 1].lo) ∧ W.cell? ⟨pb, po + (i + 1) * 3 + 2, none⟩ = some (.int .i64 pts[i + 1].hi) ∧ pb < W.heap.size) := by
    have lt := World.block_lt_of_cell? w ⟨pb, po + (i + 1) * 3, none⟩ d0
    exact ⟨(hB.cell (p := ⟨pb, po + (i + 1) * 3, none⟩) lt).trans d0, (hB.cell (p := ⟨pb, po + (i + 1) * 3 + 1, none⟩) lt).trans d1, (hB.cell (p := ⟨pb, po + (i + 1) * 3 + 2, none⟩) lt).trans d2, by have := hB.size; show pb < _; have : pb < w.heap.size := lt; omega⟩
  generalize pts.drop (i + 2) = rest at *
  generalize pts[i] = p at *
  generalize pts[i + 1] = p' at *
  obtain ⟨bd, lo, hi'⟩ := p
  obtain ⟨bd', lo', hi''⟩ := p'
  simp only at a0 a9 al0 al9 ah0 ah9 ale e0 e9 el0 el9 eh0 eh9 ele c0 c1 c2 HD HLK HLL HRA HW HZ
  obtain ⟨n, hn⟩ : ∃ n, pts.length = n := ⟨_, rfl⟩
  rw [hn] at hi n10 HA HW ⊢
  have iI : (i : Int) + 1 < (n : Int) := by omega
  have nI : (n : Int) ≤ 10 := by omega
  have iI0 : (i : Int) < (n : Int) := by omega
  have hpb := World.block_lt_of_cell? w ⟨pb, po + i * 3, none⟩ c0
  have t0 : ((i : Int) == (n : Int) - 1) = false := by rw [beq_eq_false_iff_ne]; omega
  obtain ⟨N, hNN⟩ : ∃ N, (hi' - lo + 1).toNat = N := ⟨_, rfl⟩
  have HNN : Hid ((N : Int) = hi' - lo + 1) := by show _ = _; omega
  obtain ⟨L, hL⟩ : ∃ L, l.length = L := ⟨_, rfl⟩
  have HLI : Hid ((L : Int) = hi'' - lo' + 1) := by have := HLL.out; show _ = _; omega
  have HLE := Lib.hid hL
  rw [hL] at HN ⊢
  clear hP hv hN hl hll hdr g1 g2 hA hZ hB hW hsz d0 d1 d2 hL
  go_enter Try.func72, Try.ntmps72
  go_wp2_with fail
  rw [HW.out]
  clear c0 c1 c2 HW hpb
  go_loopg [10, 11] N (fun g v x wr => ∃ (k : Nat) (oa : Option Addr) (oc : Nat) (m : List (Value × Rst)), g + k = N ∧ x = .int .i64 (lo + (k : Int)) ∧ v = .slice oa k oc ∧ Hid (RsIn W.heap.size wr (.slice oa k oc) m) ∧ Hid (m.map (·.2) = (restsAt st q pts i).take k) ∧ Hid (Below W.heap.size W wr))
  case atStart => exact ⟨0, none, 0, [], by omega, by simp, rfl, RsIn.nil _ _, by show _ = _; simp, Below.refl _ _⟩
  case round =>
    obtain ⟨k, oa, oc, m, hk, rfl, rfl, HM, HMM, HR⟩ := hrel
    obtain ⟨wq, hwq⟩ : ∃ wq, wr = wq := ⟨_, rfl⟩
    rw [hwq] at HM HR ⊢
    clear hwq
    have HML : Hid (m.length = k) := by
      obtain ⟨_, _, e⟩ := HM.out.shape
      simp only [Value.slice.injEq] at e
      exact e.2.1.symm
    obtain ⟨h, hh⟩ : ∃ h : Int, lo + (k : Int) = h := ⟨_, rfl⟩
    rw [hh]
    have hN' := HNN.out
    have ra := cellOf ((HR.out.block _ (lt_of_block HA.out)).trans HA.out) 0 _ rfl
    have rb := cellOf ((HR.out.block _ (lt_of_block HA.out)).trans HA.out) 1 _ rfl
    have rl := lt_of_block ((HR.out.block _ (lt_of_block HA.out)).trans HA.out)
    have z0 := cellOf ((HR.out.block _ (lt_of_block HZ.out)).trans HZ.out) 0 _ rfl
    have z1 := cellOf ((HR.out.block _ (lt_of_block HZ.out)).trans HZ.out) 1 _ rfl
    have z2 := cellOf ((HR.out.block _ (lt_of_block HZ.out)).trans HZ.out) 2 _ rfl
    have zl := lt_of_block ((HR.out.block _ (lt_of_block HZ.out)).trans HZ.out)
    obtain ⟨d0, d1, d2, dl⟩ := HD.out
    have d0 := (HR.out.cell (p := ⟨pb, po + (i + 1) * 3, none⟩) dl).trans d0
    have d1 := (HR.out.cell (p := ⟨pb, po + (i + 1) * 3 + 1, none⟩) dl).trans d1
    have d2 := (HR.out.cell (p := ⟨pb, po + (i + 1) * 3 + 2, none⟩) dl).trans d2
    by_cases hkN : k < N
    · obtain ⟨GKO, rfl⟩ : ∃ G, gk = G + 1 := ⟨gk - 1, by omega⟩
      have hhi : h ≤ hi' := by omega
      have hlo : lo ≤ h := by omega
      have HRT : Hid ((restsAt st q pts i).take (k + 1) = (restsAt st q pts i).take k ++ [refL st q (⟨bd', lo', hi''⟩ :: rest) (some (⟨bd, lo, hi'⟩, h))]) := by
        show _ = _
        have hlt : k < (restsAt st q pts i).length := by rw [HRA.out]; simp; omega
        rw [List.take_succ_eq_append_getElem hlt]
        congr 2
        have e : (restsAt st q pts i)[k]? = some (restsAt st q pts i)[k] := List.getElem?_eq_getElem hlt
        rw [← Option.some.injEq, ← e, HRA.out, List.getElem?_map, List.getElem?_range (by omega)]
        simp only [Option.map_some, hh]
      clear hN'
      obtain ⟨wo, hwo, hq1, hq2, hb, hsz⟩ := al2 wq (Obj.cells #[.int .i64 bd', .int .i64 lo', .int .i64 hi''] 58) (Obj.cells #[.bool false, .slice none 0 0, .int .i64 0, .int .i64 0] 110)
      have HWO := Lib.hid hwo
      have HQ1 := Lib.hid hq1
      have HQ2 := Lib.hid hq2
      have HBO := Lib.hid hb
      have HOS := Lib.hid hsz
      clear hwo hq1 hq2 hb hsz
      obtain ⟨PO, HPO⟩ : ∃ PO : Nat → Rst, Hid (PO = partO q (fun o => candO st (some (⟨bd, lo, hi'⟩, h)) ⟨bd', lo', hi''⟩ o (refL st q rest (some (⟨bd', lo', hi''⟩, o)))) lo') := ⟨_, rfl⟩
      have HP0 : Hid (PO 0 = none) := by show _ = _; rw [HPO.out]; rfl
      have HPL : Hid (PO L = refL st q (⟨bd', lo', hi''⟩ :: rest) (some (⟨bd, lo, hi'⟩, h))) := by show _ = _; rw [HPO.out, ← partO_all, ← HLL.out, HLE.out]
      go_wp2_with fail
      rw [HWO.out]
      clear HWO d0 d1 d2 dl z0 z1 z2 zl ra rb rl
      go_loopg [14] L (fun g v wi => ∃ (kk : Nat) (ua : Option Addr) (un uc : Nat), g + kk = L ∧ v = .int .i64 kk ∧ Hid (BestIn (wq.heap.size + 1) (wq.heap.size + 1) wi (PO kk) ua un uc) ∧ Hid (Below (wq.heap.size + 1) wo wi))
      case atStart => exact ⟨0, none, 0, 0, by omega, rfl, by show BestIn _ _ _ _ _ _ _; rw [HP0.out]; exact ⟨HQ2.out, World.ownsRow_nil _ _ _ _⟩, Below.refl _ _⟩
      case round =>
        obtain ⟨kk, ua, un, uc, hkk, rfl, HBI, HBW⟩ := hrel
        obtain ⟨wi, hwi⟩ : ∃ wi, wr = wi := ⟨_, rfl⟩
        rw [hwi] at HBI HBW ⊢
        clear hwi
        have HWI : Hid (Below wq.heap.size wq wi) := HBO.out.trans (HBW.out.mono (by omega))
        have HNI := Lib.hid ((HN.out.up HR.out).up HWI.out)
        have HQI := Lib.hid ((HBW.out.block _ (by omega)).trans HQ1.out)
        have HRI := Lib.hid (HR.out.trans (HWI.out.mono HR.out.size))
        have ra := cellOf ((HRI.out.block _ (lt_of_block HA.out)).trans HA.out) 0 _ rfl
        have rl := lt_of_block ((HRI.out.block _ (lt_of_block HA.out)).trans HA.out)
        have y0 := cellOf HQI.out 0 _ rfl
        have y1 := cellOf HQI.out 1 _ rfl
        have yl := lt_of_block HQI.out
        have z0 := cellOf ((HRI.out.block _ (lt_of_block HZ.out)).trans HZ.out) 0 _ rfl
        have zl := lt_of_block ((HRI.out.block _ (lt_of_block HZ.out)).trans HZ.out)
        by_cases hkL : kk < L
        · have hkL' : kk < l.length := by rw [HLE.out]; exact hkL
          obtain ⟨ng, rfl, hng, hcell⟩ := HNI.out.get hkL'
          have hsurf := HNI.out.surf hkL'
          have hX := HLK.out kk hkL'
          have hrb := HRB.out l[kk] (List.getElem_mem hkL')
          generalize l[kk] = X at *
          obtain ⟨uv, c⟩ := X
          simp only at hcell hsurf hX hrb
          obtain ⟨sa, sc, rfl⟩ := own_slice hsurf
          obtain ⟨o, ho⟩ : ∃ o : Int, lo' + (kk : Int) = o := ⟨_, rfl⟩
          rw [ho] at hX
          have hLI := HLI.out
          have o0 : lo' ≤ o := by omega
          have o9 : o ≤ hi'' := by omega
          clear hLI
          have so : IntKind.i64.wrap (lo' + (kk : Int)) = o := by rw [IntKind.wrap_i64] <;> omega
          have kI : (kk : Int) < (L : Int) := by omega
          have n0 := hcell 0 (by omega)
          have n1 := hcell 1 (by omega)
          have n2 := hcell 2 (by omega)
          have n3 := hcell 3 (by omega)
          simp only [Nat.add_zero] at n0
          have nl : ng < wi.heap.size := by cases c <;> exact World.block_lt_of_cell? wi ⟨ng, kk * 4, none⟩ n0
          clear hcell
          cases c with
          | none =>
            have HPN : Hid (PO (kk + 1) = PO kk) := by show _ = _; rw [HPO.out]; exact partO_none (by show candO _ _ _ _ _ = _; rw [ho, ← hX]; exact candO_none _ _ _ _)
            have n0 : wi.cell? ⟨ng, kk * 4, none⟩ = some (.bool false) := n0
            clear n1 n2 n3 hsurf hX hrb
            go_wp2_with fail
            refine wp_region_noPanic ?_
            refine wp_region_held_drew (S := (fun W' => W'.cell? ⟨ng, kk * 4, none⟩ = some (.bool false) ∧ W'.cell? ⟨w.heap.size, 0, none⟩ = some (.int .i64 st))) (by kernel_rfl) ?_ (fun hh0 => ?_)
            · try dsimp only
              exact ⟨n0, ra⟩
            refine wpAnyH_take (i := 0) (v := ?_) rfl (by as_aux_lemma => kernel_rfl) (by as_aux_lemma => kernel_rfl) (by as_aux_lemma => kernel_rfl) (fun _ _ _ h => h) (Or.inl ⟨by rfl, ?_⟩) (by assumption) ?_
            rotate_left
            · intro w hSw
              try dsimp only at hSw
              go_simp
              try with_reducible rfl
            try simp only [Act.put, List.getElem_toArray, List.getElem_cons_succ, List.getElem_cons_zero, List.setIfInBounds_toArray, List.set_cons_zero, List.set_cons_succ]
            refine wpAnyH_take (i := 1) (v := ?_) rfl (by as_aux_lemma => kernel_rfl) (by as_aux_lemma => kernel_rfl) (by as_aux_lemma => kernel_rfl) (fun _ _ _ h => h) (Or.inl ⟨by rfl, ?_⟩) (by assumption) ?_
            rotate_left
            · intro w hSw
              try dsimp only at hSw
              go_simp
              try with_reducible rfl
            try simp only [Act.put, List.getElem_toArray, List.getElem_cons_succ, List.getElem_cons_zero, List.setIfInBounds_toArray, List.set_cons_zero, List.set_cons_succ]
            refine wpAnyH_take (i := 2) (v := ?_) rfl (by as_aux_lemma => kernel_rfl) (by as_aux_lemma => kernel_rfl) (by as_aux_lemma => kernel_rfl) (fun _ _ _ h => h) (Or.inl ⟨by rfl, ?_⟩) (by assumption) ?_
            rotate_left
            · intro w hSw
              try dsimp only at hSw
              go_simp
              try with_reducible rfl
            try simp only [Act.put, List.getElem_toArray, List.getElem_cons_succ, List.getElem_cons_zero, List.setIfInBounds_toArray, List.set_cons_zero, List.set_cons_succ]
            refine wpAnyH_take (i := 3) (v := ?_) rfl (by as_aux_lemma => kernel_rfl) (by as_aux_lemma => kernel_rfl) (by as_aux_lemma => kernel_rfl) (fun _ _ _ h => h) (Or.inl ⟨by rfl, ?_⟩) (by assumption) ?_
            rotate_left
            · intro w hSw
              try dsimp only at hSw
              go_simp
              try with_reducible rfl
            try simp only [Act.put, List.getElem_toArray, List.getElem_cons_succ, List.getElem_cons_zero, List.setIfInBounds_toArray, List.set_cons_zero, List.set_cons_succ]
            refine wpAnyH_take (i := 4) (v := ?_) rfl (by as_aux_lemma => kernel_rfl) (by as_aux_lemma => kernel_rfl) (by as_aux_lemma => kernel_rfl) (fun _ _ _ h => h) (Or.inl ⟨by rfl, ?_⟩) (by assumption) ?_
            rotate_left
            · intro w hSw
              try dsimp only at hSw
              go_simp
              try with_reducible rfl
            try simp only [Act.put, List.getElem_toArray, List.getElem_cons_succ, List.getElem_cons_zero, List.setIfInBounds_toArray, List.set_cons_zero, List.set_cons_succ]
            refine wpAnyH_take (i := 5) (v := ?_) rfl (by as_aux_lemma => kernel_rfl) (by as_aux_lemma => kernel_rfl) (by as_aux_lemma => kernel_rfl) (fun _ _ _ h => h) (Or.inl ⟨by rfl, ?_⟩) (by assumption) ?_
            rotate_left
            · intro w hSw
              try dsimp only at hSw
              go_simp
              try with_reducible rfl
            try simp only [Act.put, List.getElem_toArray, List.getElem_cons_succ, List.getElem_cons_zero, List.setIfInBounds_toArray, List.set_cons_zero, List.set_cons_succ]
            refine wpAnyH_take (i := 6) (v := ?_) rfl (by as_aux_lemma => kernel_rfl) (by as_aux_lemma => kernel_rfl) (by as_aux_lemma => kernel_rfl) (fun _ _ _ h => h) (Or.inl ⟨by rfl, ?_⟩) (by assumption) ?_
            rotate_left
            · intro w hSw
              try dsimp only at hSw
              go_simp
              try with_reducible rfl
            try simp only [Act.put, List.getElem_toArray, List.getElem_cons_succ, List.getElem_cons_zero, List.setIfInBounds_toArray, List.set_cons_zero, List.set_cons_succ]
            refine wpAnyH_take (i := 7) (v := undef) rfl (by as_aux_lemma => kernel_rfl) (by as_aux_lemma => kernel_rfl) (by as_aux_lemma => kernel_rfl) (fun _ _ _ h => h) (Or.inr ⟨by rfl, rfl⟩) (by assumption) ?_
            try simp only [Act.put, List.getElem_toArray, List.getElem_cons_succ, List.getElem_cons_zero, List.setIfInBounds_toArray, List.set_cons_zero, List.set_cons_succ]
            refine wpAnyH_take (i := 8) (v := undef) rfl (by as_aux_lemma => kernel_rfl) (by as_aux_lemma => kernel_rfl) (by as_aux_lemma => kernel_rfl) (fun _ _ _ h => h) (Or.inr ⟨by rfl, rfl⟩) (by assumption) ?_
            try simp only [Act.put, List.getElem_toArray, List.getElem_cons_succ, List.getElem_cons_zero, List.setIfInBounds_toArray, List.set_cons_zero, List.set_cons_succ]
            refine wpAnyH_take (i := 9) (v := undef) rfl (by as_aux_lemma => kernel_rfl) (by as_aux_lemma => kernel_rfl) (by as_aux_lemma => kernel_rfl) (fun _ _ _ h => h) (Or.inr ⟨by rfl, rfl⟩) (by assumption) ?_
            try simp only [Act.put, List.getElem_toArray, List.getElem_cons_succ, List.getElem_cons_zero, List.setIfInBounds_toArray, List.set_cons_zero, List.set_cons_succ]
            refine wpAnyH_take (i := 10) (v := undef) rfl (by as_aux_lemma => kernel_rfl) (by as_aux_lemma => kernel_rfl) (by as_aux_lemma => kernel_rfl) (fun _ _ _ h => h) (Or.inr ⟨by rfl, rfl⟩) (by assumption) ?_
            try simp only [Act.put, List.getElem_toArray, List.getElem_cons_succ, List.getElem_cons_zero, List.setIfInBounds_toArray, List.set_cons_zero, List.set_cons_succ]
            refine wpAnyH_take (i := 11) (v := undef) rfl (by as_aux_lemma => kernel_rfl) (by as_aux_lemma => kernel_rfl) (by as_aux_lemma => kernel_rfl) (fun _ _ _ h => h) (Or.inr ⟨by rfl, rfl⟩) (by assumption) ?_
            try simp only [Act.put, List.getElem_toArray, List.getElem_cons_succ, List.getElem_cons_zero, List.setIfInBounds_toArray, List.set_cons_zero, List.set_cons_succ]
            refine wpAnyH_take (i := 12) (v := undef) rfl (by as_aux_lemma => kernel_rfl) (by as_aux_lemma => kernel_rfl) (by as_aux_lemma => kernel_rfl) (fun _ _ _ h => h) (Or.inr ⟨by rfl, rfl⟩) (by assumption) ?_
            try simp only [Act.put, List.getElem_toArray, List.getElem_cons_succ, List.getElem_cons_zero, List.setIfInBounds_toArray, List.set_cons_zero, List.set_cons_succ]
            refine wpAnyH_take (i := 13) (v := ?_) rfl (by as_aux_lemma => kernel_rfl) (by as_aux_lemma => kernel_rfl) (by as_aux_lemma => kernel_rfl) (fun _ _ _ h => h) (Or.inl ⟨by rfl, ?_⟩) (by assumption) ?_
            rotate_left
            · intro w hSw
              try dsimp only at hSw
              go_simp
              try with_reducible rfl
            try simp only [Act.put, List.getElem_toArray, List.getElem_cons_succ, List.getElem_cons_zero, List.setIfInBounds_toArray, List.set_cons_zero, List.set_cons_succ]
            refine wpAnyH_done (by as_aux_lemma => kernel_rfl) ?_ _
            refine NoPanic.normal ?_
            go_wp2
            go_roundg (gk - 1)
            case measure => omega
            case rel => exact ⟨kk + 1, ua, un, uc, by omega, by go_num, by show BestIn _ _ _ _ _ _ _; rw [HPN.out]; exact ⟨HBI.out.box, HBI.out.row⟩, HBW.out.trans ⟨rfl, rfl, rfl, Nat.le_refl _, fun _ _ => rfl⟩⟩
          | some y =>
            obtain ⟨s, pl, mn⟩ := y
            have n0 : wi.cell? ⟨ng, kk * 4, none⟩ = some (.bool true) := n0
            have n1 : wi.cell? ⟨ng, kk * 4 + 1, none⟩ = some (.slice sa s.length sc) := n1
            have n2 : wi.cell? ⟨ng, kk * 4 + 2, none⟩ = some (.int .i64 pl) := n2
            have n3 : wi.cell? ⟨ng, kk * 4 + 3, none⟩ = some (.int .i64 mn) := n3
            obtain ⟨s10, pl0, pl9, mn0, mn9⟩ := hrb _ rfl
            simp only at s10 pl0 pl9 mn0 mn9
            have hsurf : wi.ownsRow B0 3 1 (.slice sa s.length sc) s.length (s.map (Value.int .i64)) := hsurf
            have HSF := Lib.hid (intsAt_own hsurf (by omega))
            clear hsurf hrb
            obtain ⟨D, hD⟩ : ∃ D : Int, max (h - o) (o - h) = D := ⟨_, rfl⟩
            have HSTP : Hid (∀ W', Calls Try.prog 54 #[.int .i64 h, .int .i64 o] W' fun e w'' => e = .returned (.int .i64 D) ∧ W' = w'') := fun W' => (steps9_any h o ⟨by omega, by omega⟩ ⟨by omega, by omega⟩ W').mono (by rintro e w'' ⟨rfl, rfl⟩; exact ⟨by rw [hD], rfl⟩)
            have HHD := Lib.hid hD
            clear hD
            by_cases hfar : st < D
            · skip
              have HPN : Hid (PO (kk + 1) = PO kk) := by show _ = _; rw [HPO.out]; exact partO_none (by show candO _ _ _ _ _ = _; rw [ho]; exact candO_far _ _ _ _ _ _ (by rw [HHD.out]; exact hfar))
              have q1 : decide (st < D) = true := by simp; omega
              clear n1 n2 n3 hX
              go_wp2_with fail
              refine wp_region_noPanic ?_
              refine wp_region_held_drew (S := (fun W' => W'.cell? ⟨ng, kk * 4, none⟩ = some (.bool true) ∧ W'.cell? ⟨w.heap.size, 0, none⟩ = some (.int .i64 st))) (by kernel_rfl) ?_ (fun hh0 => ?_)
              · try dsimp only
                exact ⟨n0, ra⟩
              refine wpAnyH_take (i := 0) (v := ?_) rfl (by as_aux_lemma => kernel_rfl) (by as_aux_lemma => kernel_rfl) (by as_aux_lemma => kernel_rfl) (fun _ _ _ h => h) (Or.inl ⟨by rfl, ?_⟩) (by assumption) ?_
              rotate_left
              · intro w hSw
                try dsimp only at hSw
                go_simp
                try with_reducible rfl
              try simp only [Act.put, List.getElem_toArray, List.getElem_cons_succ, List.getElem_cons_zero, List.setIfInBounds_toArray, List.set_cons_zero, List.set_cons_succ]
              refine wpAnyH_take (i := 1) (v := ?_) rfl (by as_aux_lemma => kernel_rfl) (by as_aux_lemma => kernel_rfl) (by as_aux_lemma => kernel_rfl) (fun _ _ _ h => h) (Or.inl ⟨by rfl, ?_⟩) (by assumption) ?_
              rotate_left
              · intro w hSw
                try dsimp only at hSw
                go_simp
                try with_reducible rfl
              try simp only [Act.put, List.getElem_toArray, List.getElem_cons_succ, List.getElem_cons_zero, List.setIfInBounds_toArray, List.set_cons_zero, List.set_cons_succ]
              refine wpAnyH_take (i := 2) (v := ?_) rfl (by as_aux_lemma => kernel_rfl) (by as_aux_lemma => kernel_rfl) (by as_aux_lemma => kernel_rfl) (fun _ _ _ h => h) (Or.inl ⟨by rfl, ?_⟩) (by assumption) ?_
              rotate_left
              · intro w hSw
                try dsimp only at hSw
                go_simp
                try with_reducible rfl
              try simp only [Act.put, List.getElem_toArray, List.getElem_cons_succ, List.getElem_cons_zero, List.setIfInBounds_toArray, List.set_cons_zero, List.set_cons_succ]
              refine wpAnyH_take (i := 3) (v := ?_) rfl (by as_aux_lemma => kernel_rfl) (by as_aux_lemma => kernel_rfl) (by as_aux_lemma => kernel_rfl) (fun _ _ _ h => h) (Or.inl ⟨by rfl, ?_⟩) (by assumption) ?_
              rotate_left
              · intro w hSw
                try dsimp only at hSw
                go_simp
                try with_reducible rfl
              try simp only [Act.put, List.getElem_toArray, List.getElem_cons_succ, List.getElem_cons_zero, List.setIfInBounds_toArray, List.set_cons_zero, List.set_cons_succ]
              refine wpAnyH_take (i := 4) (v := ?_) rfl (by as_aux_lemma => kernel_rfl) (by as_aux_lemma => kernel_rfl) (by as_aux_lemma => kernel_rfl) (fun _ _ _ h => h) (Or.inl ⟨by rfl, ?_⟩) (by assumption) ?_
              rotate_left
              · intro w hSw
                try dsimp only at hSw
                go_simp
                try with_reducible rfl
              try simp only [Act.put, List.getElem_toArray, List.getElem_cons_succ, List.getElem_cons_zero, List.setIfInBounds_toArray, List.set_cons_zero, List.set_cons_succ]
              refine wpAnyH_take (i := 5) (v := ?_) rfl (by as_aux_lemma => kernel_rfl) (by as_aux_lemma => kernel_rfl) (by as_aux_lemma => kernel_rfl) (fun _ _ _ h => h) (Or.inl ⟨by rfl, ?_⟩) (by assumption) ?_
              rotate_left
              · intro w hSw
                try dsimp only at hSw
                go_simp
                try with_reducible rfl
              try simp only [Act.put, List.getElem_toArray, List.getElem_cons_succ, List.getElem_cons_zero, List.setIfInBounds_toArray, List.set_cons_zero, List.set_cons_succ]
              refine wpAnyH_take (i := 6) (v := ?_) rfl (by as_aux_lemma => kernel_rfl) (by as_aux_lemma => kernel_rfl) (by as_aux_lemma => kernel_rfl) (fun _ _ _ h => h) (Or.inl ⟨by rfl, ?_⟩) (by assumption) ?_
              rotate_left
              · intro w hSw
                try dsimp only at hSw
                go_simp
                try with_reducible rfl
              try simp only [Act.put, List.getElem_toArray, List.getElem_cons_succ, List.getElem_cons_zero, List.setIfInBounds_toArray, List.set_cons_zero, List.set_cons_succ]
              refine wpAnyH_take (i := 7) (v := ?_) rfl (by as_aux_lemma => kernel_rfl) (by as_aux_lemma => kernel_rfl) (by as_aux_lemma => kernel_rfl) (fun _ _ _ h => h) (Or.inl ⟨by rfl, ?_⟩) (by assumption) ?_
              rotate_left
              · intro w hSw
                try dsimp only at hSw
                go_simp
                try with_reducible rfl
              try simp only [Act.put, List.getElem_toArray, List.getElem_cons_succ, List.getElem_cons_zero, List.setIfInBounds_toArray, List.set_cons_zero, List.set_cons_succ]
              refine wpAnyH_take (i := 8) (v := ?_) rfl (by as_aux_lemma => kernel_rfl) (by as_aux_lemma => kernel_rfl) (by as_aux_lemma => kernel_rfl) (fun _ _ _ h => h) (Or.inl ⟨by rfl, ?_⟩) (by assumption) ?_
              rotate_left
              · intro w hSw
                try dsimp only at hSw
                go_simp
                try with_reducible rfl
              try simp only [Act.put, List.getElem_toArray, List.getElem_cons_succ, List.getElem_cons_zero, List.setIfInBounds_toArray, List.set_cons_zero, List.set_cons_succ]
              refine wpAnyH_take (i := 10) (v := ?_) rfl (by as_aux_lemma => kernel_rfl) (by as_aux_lemma => kernel_rfl) (by as_aux_lemma => kernel_rfl) (fun _ _ _ h => h) (Or.inl ⟨by rfl, ?_⟩) (by assumption) ?_
              rotate_left
              · intro w hSw
                try dsimp only at hSw
                go_simp
                try with_reducible rfl
              try simp only [Act.put, List.getElem_toArray, List.getElem_cons_succ, List.getElem_cons_zero, List.setIfInBounds_toArray, List.set_cons_zero, List.set_cons_succ]
              refine wpAnyH_take (i := 11) (v := ?_) rfl (by as_aux_lemma => kernel_rfl) (by as_aux_lemma => kernel_rfl) (by as_aux_lemma => kernel_rfl) (fun _ _ _ h => h) (Or.inl ⟨by rfl, ?_⟩) (by assumption) ?_
              rotate_left
              · intro w hSw
                try dsimp only at hSw
                go_simp
                try with_reducible rfl
              try simp only [Act.put, List.getElem_toArray, List.getElem_cons_succ, List.getElem_cons_zero, List.setIfInBounds_toArray, List.set_cons_zero, List.set_cons_succ]
              refine wpAnyH_ready (rs := [9]) (by as_aux_lemma => kernel_rfl) (by simp) ?_
              refine AllReadyH.cons rfl (fun K hK => ?_) AllReadyH.nil
              go_simp
              refine (HSTP.out _).mono ?_
              rintro e wg ⟨rfl, rfl⟩
              refine hK.out _ _ ?_ (fun hh1 => ?_)
              · try dsimp only
                exact hh0
              clear hK K hh0
              try simp only [Act.put, List.getElem_toArray, List.getElem_cons_succ, List.getElem_cons_zero, List.setIfInBounds_toArray, List.set_cons_zero, List.set_cons_succ]
              refine wpAnyH_take (i := 12) (v := ?_) rfl (by as_aux_lemma => kernel_rfl) (by as_aux_lemma => kernel_rfl) (by as_aux_lemma => kernel_rfl) (fun _ _ _ h => h) (Or.inl ⟨by rfl, ?_⟩) (by assumption) ?_
              rotate_left
              · intro w hSw
                try dsimp only at hSw
                go_simp
                try with_reducible rfl
              try simp only [Act.put, List.getElem_toArray, List.getElem_cons_succ, List.getElem_cons_zero, List.setIfInBounds_toArray, List.set_cons_zero, List.set_cons_succ]
              refine wpAnyH_take (i := 13) (v := ?_) rfl (by as_aux_lemma => kernel_rfl) (by as_aux_lemma => kernel_rfl) (by as_aux_lemma => kernel_rfl) (fun _ _ _ h => h) (Or.inl ⟨by rfl, ?_⟩) (by assumption) ?_
              rotate_left
              · intro w hSw
                try dsimp only at hSw
                go_simp
                try with_reducible rfl
              try simp only [Act.put, List.getElem_toArray, List.getElem_cons_succ, List.getElem_cons_zero, List.setIfInBounds_toArray, List.set_cons_zero, List.set_cons_succ]
              refine wpAnyH_done (by as_aux_lemma => kernel_rfl) ?_ _
              refine NoPanic.normal ?_
              go_wp2
              go_roundg (gk - 1)
              case measure => omega
              case rel => exact ⟨kk + 1, ua, un, uc, by omega, by go_num, by show BestIn _ _ _ _ _ _ _; rw [HPN.out]; exact ⟨HBI.out.box, HBI.out.row⟩, HBW.out.trans ⟨rfl, rfl, rfl, Nat.le_refl _, fun _ _ => rfl⟩⟩
            · skip
              have HPS : Hid (PO (kk + 1) = betO q (PO kk) (nextX ⟨bd', lo', hi''⟩ ⟨bd, lo, hi'⟩ h o (s, (pl, mn)))) := by show _ = _; rw [HPO.out]; exact partO_some (by show candO _ _ _ _ _ = _; rw [ho, ← hX]; exact candO_near _ _ _ _ _ _ (by rw [HHD.out]; exact hfar))
              have q1 : decide (st < D) = false := by simp; omega
              clear hX
              go_wp2_with fail
              refine wp_region_noPanic ?_
              refine wp_region_held_drew (S := (fun W' => W'.cell? ⟨ng, kk * 4, none⟩ = some (.bool true) ∧ W'.cell? ⟨w.heap.size, 0, none⟩ = some (.int .i64 st))) (by kernel_rfl) ?_ (fun hh0 => ?_)
              · try dsimp only
                exact ⟨n0, ra⟩
              refine wpAnyH_take (i := 0) (v := ?_) rfl (by as_aux_lemma => kernel_rfl) (by as_aux_lemma => kernel_rfl) (by as_aux_lemma => kernel_rfl) (fun _ _ _ h => h) (Or.inl ⟨by rfl, ?_⟩) (by assumption) ?_
              rotate_left
              · intro w hSw
                try dsimp only at hSw
                go_simp
                try with_reducible rfl
              try simp only [Act.put, List.getElem_toArray, List.getElem_cons_succ, List.getElem_cons_zero, List.setIfInBounds_toArray, List.set_cons_zero, List.set_cons_succ]
              refine wpAnyH_take (i := 1) (v := ?_) rfl (by as_aux_lemma => kernel_rfl) (by as_aux_lemma => kernel_rfl) (by as_aux_lemma => kernel_rfl) (fun _ _ _ h => h) (Or.inl ⟨by rfl, ?_⟩) (by assumption) ?_
              rotate_left
              · intro w hSw
                try dsimp only at hSw
                go_simp
                try with_reducible rfl
              try simp only [Act.put, List.getElem_toArray, List.getElem_cons_succ, List.getElem_cons_zero, List.setIfInBounds_toArray, List.set_cons_zero, List.set_cons_succ]
              refine wpAnyH_take (i := 2) (v := ?_) rfl (by as_aux_lemma => kernel_rfl) (by as_aux_lemma => kernel_rfl) (by as_aux_lemma => kernel_rfl) (fun _ _ _ h => h) (Or.inl ⟨by rfl, ?_⟩) (by assumption) ?_
              rotate_left
              · intro w hSw
                try dsimp only at hSw
                go_simp
                try with_reducible rfl
              try simp only [Act.put, List.getElem_toArray, List.getElem_cons_succ, List.getElem_cons_zero, List.setIfInBounds_toArray, List.set_cons_zero, List.set_cons_succ]
              refine wpAnyH_take (i := 3) (v := ?_) rfl (by as_aux_lemma => kernel_rfl) (by as_aux_lemma => kernel_rfl) (by as_aux_lemma => kernel_rfl) (fun _ _ _ h => h) (Or.inl ⟨by rfl, ?_⟩) (by assumption) ?_
              rotate_left
              · intro w hSw
                try dsimp only at hSw
                go_simp
                try with_reducible rfl
              try simp only [Act.put, List.getElem_toArray, List.getElem_cons_succ, List.getElem_cons_zero, List.setIfInBounds_toArray, List.set_cons_zero, List.set_cons_succ]
              refine wpAnyH_take (i := 4) (v := ?_) rfl (by as_aux_lemma => kernel_rfl) (by as_aux_lemma => kernel_rfl) (by as_aux_lemma => kernel_rfl) (fun _ _ _ h => h) (Or.inl ⟨by rfl, ?_⟩) (by assumption) ?_
              rotate_left
              · intro w hSw
                try dsimp only at hSw
                go_simp
                try with_reducible rfl
              try simp only [Act.put, List.getElem_toArray, List.getElem_cons_succ, List.getElem_cons_zero, List.setIfInBounds_toArray, List.set_cons_zero, List.set_cons_succ]
              refine wpAnyH_take (i := 5) (v := ?_) rfl (by as_aux_lemma => kernel_rfl) (by as_aux_lemma => kernel_rfl) (by as_aux_lemma => kernel_rfl) (fun _ _ _ h => h) (Or.inl ⟨by rfl, ?_⟩) (by assumption) ?_
              rotate_left
              · intro w hSw
                try dsimp only at hSw
                go_simp
                try with_reducible rfl
              try simp only [Act.put, List.getElem_toArray, List.getElem_cons_succ, List.getElem_cons_zero, List.setIfInBounds_toArray, List.set_cons_zero, List.set_cons_succ]
              refine wpAnyH_take (i := 6) (v := ?_) rfl (by as_aux_lemma => kernel_rfl) (by as_aux_lemma => kernel_rfl) (by as_aux_lemma => kernel_rfl) (fun _ _ _ h => h) (Or.inl ⟨by rfl, ?_⟩) (by assumption) ?_
              rotate_left
              · intro w hSw
                try dsimp only at hSw
                go_simp
                try with_reducible rfl
              try simp only [Act.put, List.getElem_toArray, List.getElem_cons_succ, List.getElem_cons_zero, List.setIfInBounds_toArray, List.set_cons_zero, List.set_cons_succ]
              refine wpAnyH_take (i := 7) (v := ?_) rfl (by as_aux_lemma => kernel_rfl) (by as_aux_lemma => kernel_rfl) (by as_aux_lemma => kernel_rfl) (fun _ _ _ h => h) (Or.inl ⟨by rfl, ?_⟩) (by assumption) ?_
              rotate_left
              · intro w hSw
                try dsimp only at hSw
                go_simp
                try with_reducible rfl
              try simp only [Act.put, List.getElem_toArray, List.getElem_cons_succ, List.getElem_cons_zero, List.setIfInBounds_toArray, List.set_cons_zero, List.set_cons_succ]
              refine wpAnyH_take (i := 8) (v := ?_) rfl (by as_aux_lemma => kernel_rfl) (by as_aux_lemma => kernel_rfl) (by as_aux_lemma => kernel_rfl) (fun _ _ _ h => h) (Or.inl ⟨by rfl, ?_⟩) (by assumption) ?_
              rotate_left
              · intro w hSw
                try dsimp only at hSw
                go_simp
                try with_reducible rfl
              try simp only [Act.put, List.getElem_toArray, List.getElem_cons_succ, List.getElem_cons_zero, List.setIfInBounds_toArray, List.set_cons_zero, List.set_cons_succ]
              refine wpAnyH_take (i := 10) (v := ?_) rfl (by as_aux_lemma => kernel_rfl) (by as_aux_lemma => kernel_rfl) (by as_aux_lemma => kernel_rfl) (fun _ _ _ h => h) (Or.inl ⟨by rfl, ?_⟩) (by assumption) ?_
              rotate_left
              · intro w hSw
                try dsimp only at hSw
                go_simp
                try with_reducible rfl
              try simp only [Act.put, List.getElem_toArray, List.getElem_cons_succ, List.getElem_cons_zero, List.setIfInBounds_toArray, List.set_cons_zero, List.set_cons_succ]
              refine wpAnyH_take (i := 11) (v := ?_) rfl (by as_aux_lemma => kernel_rfl) (by as_aux_lemma => kernel_rfl) (by as_aux_lemma => kernel_rfl) (fun _ _ _ h => h) (Or.inl ⟨by rfl, ?_⟩) (by assumption) ?_
              rotate_left
              · intro w hSw
                try dsimp only at hSw
                go_simp
                try with_reducible rfl
              try simp only [Act.put, List.getElem_toArray, List.getElem_cons_succ, List.getElem_cons_zero, List.setIfInBounds_toArray, List.set_cons_zero, List.set_cons_succ]
              refine wpAnyH_ready (rs := [9]) (by as_aux_lemma => kernel_rfl) (by simp) ?_
              refine AllReadyH.cons rfl (fun K hK => ?_) AllReadyH.nil
              go_simp
              refine (HSTP.out _).mono ?_
              rintro e wg ⟨rfl, rfl⟩
              refine hK.out _ _ ?_ (fun hh1 => ?_)
              · try dsimp only
                exact hh0
              clear hK K hh0
              try simp only [Act.put, List.getElem_toArray, List.getElem_cons_succ, List.getElem_cons_zero, List.setIfInBounds_toArray, List.set_cons_zero, List.set_cons_succ]
              refine wpAnyH_take (i := 12) (v := ?_) rfl (by as_aux_lemma => kernel_rfl) (by as_aux_lemma => kernel_rfl) (by as_aux_lemma => kernel_rfl) (fun _ _ _ h => h) (Or.inl ⟨by rfl, ?_⟩) (by assumption) ?_
              rotate_left
              · intro w hSw
                try dsimp only at hSw
                go_simp
                try with_reducible rfl
              try simp only [Act.put, List.getElem_toArray, List.getElem_cons_succ, List.getElem_cons_zero, List.setIfInBounds_toArray, List.set_cons_zero, List.set_cons_succ]
              refine wpAnyH_take (i := 13) (v := ?_) rfl (by as_aux_lemma => kernel_rfl) (by as_aux_lemma => kernel_rfl) (by as_aux_lemma => kernel_rfl) (fun _ _ _ h => h) (Or.inl ⟨by rfl, ?_⟩) (by assumption) ?_
              rotate_left
              · intro w hSw
                try dsimp only at hSw
                go_simp
                try with_reducible rfl
              try simp only [Act.put, List.getElem_toArray, List.getElem_cons_succ, List.getElem_cons_zero, List.setIfInBounds_toArray, List.set_cons_zero, List.set_cons_succ]
              refine wpAnyH_done (by as_aux_lemma => kernel_rfl) ?_ _
              refine NoPanic.normal ?_
              go_wp2_with fail
              obtain ⟨wp, hwp⟩ : ∃ wp, wi.drew = wp := ⟨_, rfl⟩
              have HWP : Hid (Below wi.heap.size wi wp) := by rw [← hwp]; exact ⟨rfl, rfl, rfl, Nat.le_refl _, fun _ _ => rfl⟩
              obtain ⟨sl, hsl⟩ : ∃ sl, s.length = sl := ⟨_, rfl⟩
              obtain ⟨sl1, hsl1⟩ : ∃ m, 1 + sl = m := ⟨_, rfl⟩
              have HSFp := Lib.hid (HSF.out.below HWP.out)
              rw [hsl] at n1 HSFp s10
              have HSL1 := Lib.hid hsl1
              have HSL := Lib.hid hsl
              have HM1 : Hid (wp.cell? ⟨ng, kk * 4 + 1, none⟩ = some (.slice sa sl sc)) := by rw [← hwp]; exact n1
              have HM2 : Hid (wp.cell? ⟨ng, kk * 4 + 2, none⟩ = some (.int .i64 pl)) := by rw [← hwp]; exact n2
              have HM3 : Hid (wp.cell? ⟨ng, kk * 4 + 3, none⟩ = some (.int .i64 mn)) := by rw [← hwp]; exact n3
              have HY0 : Hid (wp.cell? ⟨wq.heap.size, 0, none⟩ = some (.int .i64 bd')) := by rw [← hwp]; exact y0
              have HZ0 : Hid (wp.cell? ⟨w.heap.size + 1, 0, none⟩ = some (.int .i64 bd)) := by rw [← hwp]; exact z0
              have HBp : Hid (BestIn (wq.heap.size + 1) (wq.heap.size + 1) wp (PO kk) ua un uc) := by rw [← hwp]; exact ⟨HBI.out.box, HBI.out.row⟩
              have HWW : Hid (Below (wq.heap.size + 1) wo wp) := HBW.out.trans (HWP.out.mono (by have := HBW.out.size; have := HOS.out; omega))
              have HGS : Hid (wq.heap.size + 2 ≤ wp.heap.size) := by show _ ≤ _; have := HWW.out.size; have := HOS.out; omega
              rw [hwp]
              clear n0 n1 n2 n3 y0 y1 yl z0 zl ra rl HBI HBW HWI HNI HQI HRI HSF HWP hwp hsl hsl1 nl HSTP hfar q1 so
              obtain ⟨fl, hfl⟩ : ∃ fl, max 0 (o - bd') = fl := ⟨_, rfl⟩
              have fl0 : 0 ≤ fl := by omega
              have fl9 : fl ≤ 9000 := by omega
              have s1 : IntKind.i64.wrap (o - bd') = o - bd' := by rw [IntKind.wrap_i64] <;> omega
              have s2 : IntKind.i64.wrap (pl + fl) = pl + fl := by rw [IntKind.wrap_i64] <;> omega
              go_cut [16] (fun v wx => ∃ (g : Nat) (va : Option Addr) (vc : Nat), v = .pointer (some ⟨g, 0, none⟩) ∧ wp.heap.size ≤ g ∧ wx.heap[g]? = some (.cells #[.bool true, .slice va sl1 vc, .int .i64 (pl + fl), .int .i64 0] 110 (0, 0)) ∧ wx.ownsRow wp.heap.size 3 1 (.slice va sl1 vc) sl1 ((o :: s).map (Value.int .i64)) ∧ Below wp.heap.size wp wx)
              case first =>
                have m1 := HM1.out
                have m2 := HM2.out
                have y0 := HY0.out
                refine wp_region_noPanic ?_
                refine wp_region_held_drew (S := (fun W' => W'.cell? ⟨ng, kk * 4 + 1, none⟩ = some (.slice sa sl sc) ∧ W'.cell? ⟨ng, kk * 4 + 2, none⟩ = some (.int .i64 pl) ∧ W'.cell? ⟨wq.heap.size, 0, none⟩ = some (.int .i64 bd'))) (by kernel_rfl) ?_ (fun hh0 => ?_)
                · try dsimp only
                  exact ⟨m1, m2, y0⟩
                refine wpAnyH_take (i := 0) (v := ?_) rfl (by as_aux_lemma => kernel_rfl) (by as_aux_lemma => kernel_rfl) (by as_aux_lemma => kernel_rfl) (fun _ _ _ h => h) (Or.inl ⟨by rfl, ?_⟩) (by assumption) ?_
                rotate_left
                · intro w hSw
                  try dsimp only at hSw
                  go_simp
                  try with_reducible rfl
                try simp only [Act.put, List.getElem_toArray, List.getElem_cons_succ, List.getElem_cons_zero, List.setIfInBounds_toArray, List.set_cons_zero, List.set_cons_succ]
                refine wpAnyH_take (i := 2) (v := ?_) rfl (by as_aux_lemma => kernel_rfl) (by as_aux_lemma => kernel_rfl) (by as_aux_lemma => kernel_rfl) (fun _ _ _ h => h) (Or.inl ⟨by rfl, ?_⟩) (by assumption) ?_
                rotate_left
                · intro w hSw
                  try dsimp only at hSw
                  go_simp
                  try with_reducible rfl
                try simp only [Act.put, List.getElem_toArray, List.getElem_cons_succ, List.getElem_cons_zero, List.setIfInBounds_toArray, List.set_cons_zero, List.set_cons_succ]
                refine wpAnyH_take (i := 3) (v := ?_) rfl (by as_aux_lemma => kernel_rfl) (by as_aux_lemma => kernel_rfl) (by as_aux_lemma => kernel_rfl) (fun _ _ _ h => h) (Or.inl ⟨by rfl, ?_⟩) (by assumption) ?_
                rotate_left
                · intro w hSw
                  try dsimp only at hSw
                  go_simp
                  try with_reducible rfl
                try simp only [Act.put, List.getElem_toArray, List.getElem_cons_succ, List.getElem_cons_zero, List.setIfInBounds_toArray, List.set_cons_zero, List.set_cons_succ]
                refine wpAnyH_take (i := 4) (v := ?_) rfl (by as_aux_lemma => kernel_rfl) (by as_aux_lemma => kernel_rfl) (by as_aux_lemma => kernel_rfl) (fun _ _ _ h => h) (Or.inl ⟨by rfl, ?_⟩) (by assumption) ?_
                rotate_left
                · intro w hSw
                  try dsimp only at hSw
                  go_simp
                  try with_reducible rfl
                try simp only [Act.put, List.getElem_toArray, List.getElem_cons_succ, List.getElem_cons_zero, List.setIfInBounds_toArray, List.set_cons_zero, List.set_cons_succ]
                refine wpAnyH_take (i := 5) (v := ?_) rfl (by as_aux_lemma => kernel_rfl) (by as_aux_lemma => kernel_rfl) (by as_aux_lemma => kernel_rfl) (fun _ _ _ h => h) (Or.inl ⟨by rfl, ?_⟩) (by assumption) ?_
                rotate_left
                · intro w hSw
                  try dsimp only at hSw
                  go_simp
                  try with_reducible rfl
                try simp only [Act.put, List.getElem_toArray, List.getElem_cons_succ, List.getElem_cons_zero, List.setIfInBounds_toArray, List.set_cons_zero, List.set_cons_succ]
                refine wpAnyH_take (i := 6) (v := ?_) rfl (by as_aux_lemma => kernel_rfl) (by as_aux_lemma => kernel_rfl) (by as_aux_lemma => kernel_rfl) (fun _ _ _ h => h) (Or.inl ⟨by rfl, ?_⟩) (by assumption) ?_
                rotate_left
                · intro w hSw
                  try dsimp only at hSw
                  go_simp
                  try with_reducible rfl
                try simp only [Act.put, List.getElem_toArray, List.getElem_cons_succ, List.getElem_cons_zero, List.setIfInBounds_toArray, List.set_cons_zero, List.set_cons_succ]
                refine wpAnyH_take (i := 8) (v := ?_) rfl (by as_aux_lemma => kernel_rfl) (by as_aux_lemma => kernel_rfl) (by as_aux_lemma => kernel_rfl) (fun _ _ _ h => h) (Or.inl ⟨by rfl, ?_⟩) (by assumption) ?_
                rotate_left
                · intro w hSw
                  try dsimp only at hSw
                  go_simp
                  try with_reducible rfl
                try simp only [Act.put, List.getElem_toArray, List.getElem_cons_succ, List.getElem_cons_zero, List.setIfInBounds_toArray, List.set_cons_zero, List.set_cons_succ]
                refine wpAnyH_take (i := 9) (v := ?_) rfl (by as_aux_lemma => kernel_rfl) (by as_aux_lemma => kernel_rfl) (by as_aux_lemma => kernel_rfl) (fun _ _ _ h => h) (Or.inl ⟨by rfl, ?_⟩) (by assumption) ?_
                rotate_left
                · intro w hSw
                  try dsimp only at hSw
                  go_simp
                  try with_reducible rfl
                try simp only [Act.put, List.getElem_toArray, List.getElem_cons_succ, List.getElem_cons_zero, List.setIfInBounds_toArray, List.set_cons_zero, List.set_cons_succ]
                refine wpAnyH_take (i := 10) (v := ?_) rfl (by as_aux_lemma => kernel_rfl) (by as_aux_lemma => kernel_rfl) (by as_aux_lemma => kernel_rfl) (fun _ _ _ h => h) (Or.inl ⟨by rfl, ?_⟩) (by assumption) ?_
                rotate_left
                · intro w hSw
                  try dsimp only at hSw
                  go_simp
                  try with_reducible rfl
                try simp only [Act.put, List.getElem_toArray, List.getElem_cons_succ, List.getElem_cons_zero, List.setIfInBounds_toArray, List.set_cons_zero, List.set_cons_succ]
                refine wpAnyH_take (i := 11) (v := ?_) rfl (by as_aux_lemma => kernel_rfl) (by as_aux_lemma => kernel_rfl) (by as_aux_lemma => kernel_rfl) (fun _ _ _ h => h) (Or.inl ⟨by rfl, ?_⟩) (by assumption) ?_
                rotate_left
                · intro w hSw
                  try dsimp only at hSw
                  go_simp
                  try with_reducible rfl
                try simp only [Act.put, List.getElem_toArray, List.getElem_cons_succ, List.getElem_cons_zero, List.setIfInBounds_toArray, List.set_cons_zero, List.set_cons_succ]
                refine wpAnyH_take (i := 12) (v := ?_) rfl (by as_aux_lemma => kernel_rfl) (by as_aux_lemma => kernel_rfl) (by as_aux_lemma => kernel_rfl) (fun _ _ _ h => h) (Or.inl ⟨by rfl, ?_⟩) (by assumption) ?_
                rotate_left
                · intro w hSw
                  try dsimp only at hSw
                  go_simp
                  try with_reducible rfl
                try simp only [Act.put, List.getElem_toArray, List.getElem_cons_succ, List.getElem_cons_zero, List.setIfInBounds_toArray, List.set_cons_zero, List.set_cons_succ]
                refine wpAnyH_take (i := 13) (v := ?_) rfl (by as_aux_lemma => kernel_rfl) (by as_aux_lemma => kernel_rfl) (by as_aux_lemma => kernel_rfl) (fun _ _ _ h => h) (Or.inl ⟨by rfl, ?_⟩) (by assumption) ?_
                rotate_left
                · intro w hSw
                  try dsimp only at hSw
                  go_simp
                  try with_reducible rfl
                try simp only [Act.put, List.getElem_toArray, List.getElem_cons_succ, List.getElem_cons_zero, List.setIfInBounds_toArray, List.set_cons_zero, List.set_cons_succ]
                refine wpAnyH_take (i := 14) (v := ?_) rfl (by as_aux_lemma => kernel_rfl) (by as_aux_lemma => kernel_rfl) (by as_aux_lemma => kernel_rfl) (fun _ _ _ h => h) (Or.inl ⟨by rfl, ?_⟩) (by assumption) ?_
                rotate_left
                · intro w hSw
                  try dsimp only at hSw
                  go_simp
                  try with_reducible rfl
                try simp only [Act.put, List.getElem_toArray, List.getElem_cons_succ, List.getElem_cons_zero, List.setIfInBounds_toArray, List.set_cons_zero, List.set_cons_succ]
                refine wpAnyH_take (i := 15) (v := ?_) rfl (by as_aux_lemma => kernel_rfl) (by as_aux_lemma => kernel_rfl) (by as_aux_lemma => kernel_rfl) (fun _ _ _ h => h) (Or.inl ⟨by rfl, ?_⟩) (by assumption) ?_
                rotate_left
                · intro w hSw
                  try dsimp only at hSw
                  go_simp
                  try with_reducible rfl
                try simp only [Act.put, List.getElem_toArray, List.getElem_cons_succ, List.getElem_cons_zero, List.setIfInBounds_toArray, List.set_cons_zero, List.set_cons_succ]
                refine wpAnyH_take (i := 16) (v := ?_) rfl (by as_aux_lemma => kernel_rfl) (by as_aux_lemma => kernel_rfl) (by as_aux_lemma => kernel_rfl) (fun _ _ _ h => h) (Or.inl ⟨by rfl, ?_⟩) (by assumption) ?_
                rotate_left
                · intro w hSw
                  try dsimp only at hSw
                  go_simp
                  try with_reducible rfl
                try simp only [Act.put, List.getElem_toArray, List.getElem_cons_succ, List.getElem_cons_zero, List.setIfInBounds_toArray, List.set_cons_zero, List.set_cons_succ]
                refine wpAnyH_take (i := 17) (v := ?_) rfl (by as_aux_lemma => kernel_rfl) (by as_aux_lemma => kernel_rfl) (by as_aux_lemma => kernel_rfl) (fun _ _ _ h => h) (Or.inl ⟨by rfl, ?_⟩) (by assumption) ?_
                rotate_left
                · intro w hSw
                  try dsimp only at hSw
                  go_simp
                  try with_reducible rfl
                try simp only [Act.put, List.getElem_toArray, List.getElem_cons_succ, List.getElem_cons_zero, List.setIfInBounds_toArray, List.set_cons_zero, List.set_cons_succ]
                refine wpAnyH_take (i := 18) (v := ?_) rfl (by as_aux_lemma => kernel_rfl) (by as_aux_lemma => kernel_rfl) (by as_aux_lemma => kernel_rfl) (fun _ _ _ h => h) (Or.inl ⟨by rfl, ?_⟩) (by assumption) ?_
                rotate_left
                · intro w hSw
                  try dsimp only at hSw
                  go_simp
                  try with_reducible rfl
                try simp only [Act.put, List.getElem_toArray, List.getElem_cons_succ, List.getElem_cons_zero, List.setIfInBounds_toArray, List.set_cons_zero, List.set_cons_succ]
                have HSFr : Hid (IntsAt wp (.slice sa sl sc) s) := HSFp.out
                refine wpAnyH_ready (rs := [1, 20]) (by as_aux_lemma => kernel_rfl) (by simp) ?_
                refine AllReadyH.cons rfl (fun K hK => ?_) (AllReadyH.cons rfl (fun K hK => ?_) AllReadyH.nil)
                · skip
                  go_simp
                  have b1 : Below wp.heap.size wp ((wp.alloc (Obj.cells #[.int .i64 o] 3)).drew) := by go_grown
                  refine hK.out _ _ ⟨keepK m1 b1, keepK m2 b1, keepK y0 b1⟩ (fun hh1 => ?_)
                  clear hK K hh0
                  try simp only [Act.put, List.getElem_toArray, List.getElem_cons_succ, List.getElem_cons_zero, List.setIfInBounds_toArray, List.set_cons_zero, List.set_cons_succ]
                  refine wpAnyH_ready (rs := [7, 20]) (by as_aux_lemma => kernel_rfl) (by simp) ?_
                  refine AllReadyH.cons rfl (fun K hK => ?_) (AllReadyH.cons rfl (fun K hK => ?_) AllReadyH.nil)
                  · skip
                    refine step_ints (by rfl) _ _ (by rfl) wp.heap.size 1 _ _ [o] s rfl (by rfl) (by rfl) (own_below (own_oneN wp 3 (.int .i64 o) _ rfl) (by go_grown)) (HSFr.out.below b1) (by first | (simp; done) | (simp; omega)) (by rw [HSL.out]; simp; omega) ?_
                    intro v1 w1 ho1 hg1 hl1
                    have hB1 : Below wp.heap.size wp w1 := Below.grown b1 hg1 (by first | (simp; done) | (simp; omega)) hl1
                    rw [HSL.out, HSL1.out] at ho1
                    obtain ⟨va, vc, rfl⟩ := own_slice ho1
                    refine hK.out _ _ ⟨keepK m1 hB1, keepK m2 hB1, keepK y0 hB1⟩ (fun hh2 => ?_)
                    clear hK K hh1
                    try simp only [Act.put, List.getElem_toArray, List.getElem_cons_succ, List.getElem_cons_zero, List.setIfInBounds_toArray, List.set_cons_zero, List.set_cons_succ]
                    refine wpAnyH_take (i := 19) (v := ?_) rfl (by as_aux_lemma => kernel_rfl) (by as_aux_lemma => kernel_rfl) (by as_aux_lemma => kernel_rfl) (fun _ _ _ h => h) (Or.inl ⟨by rfl, ?_⟩) (by assumption) ?_
                    rotate_left
                    · intro w hSw
                      try dsimp only at hSw
                      go_simp
                      try with_reducible rfl
                    try simp only [Act.put, List.getElem_toArray, List.getElem_cons_succ, List.getElem_cons_zero, List.setIfInBounds_toArray, List.set_cons_zero, List.set_cons_succ]
                    refine wpAnyH_ready (rs := [20]) (by as_aux_lemma => kernel_rfl) (by simp) ?_
                    refine AllReadyH.cons rfl (fun K hK => ?_) AllReadyH.nil
                    go_simp
                    have b2 : Below wp.heap.size wp (w1.alloc (Obj.cells #[.bool false, .slice none 0 0, .int .i64 0, .int .i64 0] 110)) := hB1.alloc hB1.size _
                    refine hK.out _ _ ⟨keepK m1 b2, keepK m2 b2, keepK y0 b2⟩ (fun hh3 => ?_)
                    clear hK K hh2
                    try simp only [Act.put, List.getElem_toArray, List.getElem_cons_succ, List.getElem_cons_zero, List.setIfInBounds_toArray, List.set_cons_zero, List.set_cons_succ]
                    refine wpAnyH_ready (rs := [21]) (by as_aux_lemma => kernel_rfl) (by simp) ?_
                    refine AllReadyH.cons rfl (fun K hK => ?_) AllReadyH.nil
                    go_simp
                    refine hK.out _ _ ⟨keepK m1 (hB1.alloc hB1.size _), keepK m2 (hB1.alloc hB1.size _), keepK y0 (hB1.alloc hB1.size _)⟩ (fun hh4 => ?_)
                    clear hK K hh3
                    refine wpAnyH_done (by as_aux_lemma => kernel_rfl) ?_ _
                    refine NoPanic.normal ?_
                    go_wp2
                    go_meet
                    exact ⟨w1.heap.size, va, vc, rfl, hB1.size, heap_alloc_new w1 _, own_below ho1 (by go_grown), hB1.alloc hB1.size _⟩
                  · skip
                    go_simp
                    have b2 : Below wp.heap.size wp (((wp.alloc (Obj.cells #[.int .i64 o] 3)).alloc (Obj.cells #[.bool false, .slice none 0 0, .int .i64 0, .int .i64 0] 110)).drew) := by go_grown
                    refine hK.out _ _ ⟨keepK m1 b2, keepK m2 b2, keepK y0 b2⟩ (fun hh2 => ?_)
                    clear hK K hh1
                    try simp only [Act.put, List.getElem_toArray, List.getElem_cons_succ, List.getElem_cons_zero, List.setIfInBounds_toArray, List.set_cons_zero, List.set_cons_succ]
                    refine wpAnyH_ready (rs := [7]) (by as_aux_lemma => kernel_rfl) (by simp) ?_
                    refine AllReadyH.cons rfl (fun K hK => ?_) AllReadyH.nil
                    refine step_ints (by rfl) _ _ (by rfl) wp.heap.size 1 _ _ [o] s rfl (by rfl) (by rfl) (own_below (own_oneN wp 3 (.int .i64 o) _ rfl) (by go_grown)) (HSFr.out.below b2) (by first | (simp; done) | (simp; omega)) (by rw [HSL.out]; simp; omega) ?_
                    intro v1 w1 ho1 hg1 hl1
                    have hB1 : Below wp.heap.size wp w1 := Below.grown b2 hg1 (by first | (simp; done) | (simp; omega)) hl1
                    rw [HSL.out, HSL1.out] at ho1
                    obtain ⟨va, vc, rfl⟩ := own_slice ho1
                    refine hK.out _ _ ⟨keepK m1 hB1, keepK m2 hB1, keepK y0 hB1⟩ (fun hh3 => ?_)
                    clear hK K hh2
                    try simp only [Act.put, List.getElem_toArray, List.getElem_cons_succ, List.getElem_cons_zero, List.setIfInBounds_toArray, List.set_cons_zero, List.set_cons_succ]
                    have HG1 := block_kept (show (((wp.alloc (Obj.cells #[.int .i64 o] 3)).alloc (Obj.cells #[.bool false, .slice none 0 0, .int .i64 0, .int .i64 0] 110)).drew).heap[(wp.heap.size + 1)]? = some (Obj.cells #[.bool false, .slice none 0 0, .int .i64 0, .int .i64 0] 110) from (two_at wp (Obj.cells #[.int .i64 o] 3) (Obj.cells #[.bool false, .slice none 0 0, .int .i64 0, .int .i64 0] 110)).2) hg1 (by simp [Value.ownBlock])
                    have f0 := frozen_of_row _ _ 0 _ _ HG1
                    have f1 := frozen_of_row _ _ 1 _ _ HG1
                    have f2 := frozen_of_row _ _ 2 _ _ HG1
                    have f3 := frozen_of_row _ _ 3 _ _ HG1
                    have e0 := cellOf HG1 0 _ rfl
                    have e1 := cellOf HG1 1 _ rfl
                    have e2 := cellOf HG1 2 _ rfl
                    have e3 := cellOf HG1 3 _ rfl
                    have gl := lt_of_block HG1
                    refine wpAnyH_take (i := 19) (v := ?_) rfl (by as_aux_lemma => kernel_rfl) (by as_aux_lemma => kernel_rfl) (by as_aux_lemma => kernel_rfl) (fun _ _ _ h => h) (Or.inl ⟨by rfl, ?_⟩) (by assumption) ?_
                    rotate_left
                    · intro w hSw
                      try dsimp only at hSw
                      go_simp
                      try with_reducible rfl
                    try simp only [Act.put, List.getElem_toArray, List.getElem_cons_succ, List.getElem_cons_zero, List.setIfInBounds_toArray, List.set_cons_zero, List.set_cons_succ]
                    refine wpAnyH_ready (rs := [21]) (by as_aux_lemma => kernel_rfl) (by simp) ?_
                    refine AllReadyH.cons rfl (fun K hK => ?_) AllReadyH.nil
                    go_simp
                    obtain ⟨r1, r2, r3⟩ := rest_made (w := wp) (a := .bool true) (p := .int .i64 (pl + fl)) (m := .int .i64 0) HG1 rfl ho1 hB1 (by omega)
                    refine hK.out _ _ ⟨keepK m1 r3, keepK m2 r3, keepK y0 r3⟩ (fun hh4 => ?_)
                    clear hK K hh3
                    refine wpAnyH_done (by as_aux_lemma => kernel_rfl) ?_ _
                    refine NoPanic.normal ?_
                    go_wp2
                    go_meet
                    exact ⟨(wp.heap.size + 1), va, vc, rfl, by omega, r1, r2, r3⟩
                · skip
                  go_simp
                  have b1 : Below wp.heap.size wp ((wp.alloc (Obj.cells #[.bool false, .slice none 0 0, .int .i64 0, .int .i64 0] 110)).drew) := by go_grown
                  refine hK.out _ _ ⟨keepK m1 b1, keepK m2 b1, keepK y0 b1⟩ (fun hh1 => ?_)
                  clear hK K hh0
                  try simp only [Act.put, List.getElem_toArray, List.getElem_cons_succ, List.getElem_cons_zero, List.setIfInBounds_toArray, List.set_cons_zero, List.set_cons_succ]
                  refine wpAnyH_ready (rs := [1]) (by as_aux_lemma => kernel_rfl) (by simp) ?_
                  refine AllReadyH.cons rfl (fun K hK => ?_) AllReadyH.nil
                  go_simp
                  have b2 : Below wp.heap.size wp (((wp.alloc (Obj.cells #[.bool false, .slice none 0 0, .int .i64 0, .int .i64 0] 110)).alloc (Obj.cells #[.int .i64 o] 3)).drew) := by go_grown
                  refine hK.out _ _ ⟨keepK m1 b2, keepK m2 b2, keepK y0 b2⟩ (fun hh2 => ?_)
                  clear hK K hh1
                  try simp only [Act.put, List.getElem_toArray, List.getElem_cons_succ, List.getElem_cons_zero, List.setIfInBounds_toArray, List.set_cons_zero, List.set_cons_succ]
                  refine wpAnyH_ready (rs := [7]) (by as_aux_lemma => kernel_rfl) (by simp) ?_
                  refine AllReadyH.cons rfl (fun K hK => ?_) AllReadyH.nil
                  refine step_ints (by rfl) _ _ (by rfl) wp.heap.size 1 _ _ [o] s rfl (by rfl) (by rfl) (own_below (own_base (own_oneN (wp.alloc (Obj.cells #[.bool false, .slice none 0 0, .int .i64 0, .int .i64 0] 110)) 3 (.int .i64 o) (wp.heap.size + 1) (by simp)) (by omega)) (by go_grown)) (HSFr.out.below b2) (by first | (simp; done) | (simp; omega)) (by rw [HSL.out]; simp; omega) ?_
                  intro v1 w1 ho1 hg1 hl1
                  have hB1 : Below wp.heap.size wp w1 := Below.grown b2 hg1 (by first | (simp; done) | (simp; omega)) hl1
                  rw [HSL.out, HSL1.out] at ho1
                  obtain ⟨va, vc, rfl⟩ := own_slice ho1
                  refine hK.out _ _ ⟨keepK m1 hB1, keepK m2 hB1, keepK y0 hB1⟩ (fun hh3 => ?_)
                  clear hK K hh2
                  try simp only [Act.put, List.getElem_toArray, List.getElem_cons_succ, List.getElem_cons_zero, List.setIfInBounds_toArray, List.set_cons_zero, List.set_cons_succ]
                  have HG1 := block_kept (show (((wp.alloc (Obj.cells #[.bool false, .slice none 0 0, .int .i64 0, .int .i64 0] 110)).alloc (Obj.cells #[.int .i64 o] 3)).drew).heap[wp.heap.size]? = some (Obj.cells #[.bool false, .slice none 0 0, .int .i64 0, .int .i64 0] 110) from (two_at wp (Obj.cells #[.bool false, .slice none 0 0, .int .i64 0, .int .i64 0] 110) (Obj.cells #[.int .i64 o] 3)).1) hg1 (by simp [Value.ownBlock])
                  have f0 := frozen_of_row _ _ 0 _ _ HG1
                  have f1 := frozen_of_row _ _ 1 _ _ HG1
                  have f2 := frozen_of_row _ _ 2 _ _ HG1
                  have f3 := frozen_of_row _ _ 3 _ _ HG1
                  have e0 := cellOf HG1 0 _ rfl
                  have e1 := cellOf HG1 1 _ rfl
                  have e2 := cellOf HG1 2 _ rfl
                  have e3 := cellOf HG1 3 _ rfl
                  have gl := lt_of_block HG1
                  refine wpAnyH_take (i := 19) (v := ?_) rfl (by as_aux_lemma => kernel_rfl) (by as_aux_lemma => kernel_rfl) (by as_aux_lemma => kernel_rfl) (fun _ _ _ h => h) (Or.inl ⟨by rfl, ?_⟩) (by assumption) ?_
                  rotate_left
                  · intro w hSw
                    try dsimp only at hSw
                    go_simp
                    try with_reducible rfl
                  try simp only [Act.put, List.getElem_toArray, List.getElem_cons_succ, List.getElem_cons_zero, List.setIfInBounds_toArray, List.set_cons_zero, List.set_cons_succ]
                  refine wpAnyH_ready (rs := [21]) (by as_aux_lemma => kernel_rfl) (by simp) ?_
                  refine AllReadyH.cons rfl (fun K hK => ?_) AllReadyH.nil
                  go_simp
                  obtain ⟨r1, r2, r3⟩ := rest_made (w := wp) (a := .bool true) (p := .int .i64 (pl + fl)) (m := .int .i64 0) HG1 rfl ho1 hB1 (by omega)
                  refine hK.out _ _ ⟨keepK m1 r3, keepK m2 r3, keepK y0 r3⟩ (fun hh4 => ?_)
                  clear hK K hh3
                  refine wpAnyH_done (by as_aux_lemma => kernel_rfl) ?_ _
                  refine NoPanic.normal ?_
                  go_wp2
                  go_meet
                  exact ⟨wp.heap.size, va, vc, rfl, by omega, r1, r2, r3⟩
              case rest =>
                obtain ⟨g, va, vc, rfl, hg, hG, hO, hB⟩ := hcut
                have hG0 := Lib.hid hG
                have hO0 := Lib.hid hO
                have hB0 := Lib.hid hB
                have hgq : wq.heap.size + 2 ≤ g := by have := HGS.out; omega
                clear hG hO hB
                have m3 := keepK HM3.out hB0.out
                have y0 := keepK HY0.out hB0.out
                have z0 := keepK HZ0.out hB0.out
                have e3 := cellOf hG0.out 3 _ rfl
                have f3 := frozen_of_row _ _ 3 _ _ hG0.out
                have gl := lt_of_block hG0.out
                obtain ⟨A1, hA1⟩ : ∃ A, max 0 (bd' - o) = A := ⟨_, rfl⟩
                obtain ⟨A2, hA2⟩ : ∃ A, max 0 (bd - h) = A := ⟨_, rfl⟩
                obtain ⟨A3, hA3⟩ : ∃ A, max 0 (A1 - A2) = A := ⟨_, rfl⟩
                have s3 : IntKind.i64.wrap (bd' - o) = bd' - o := by rw [IntKind.wrap_i64] <;> omega
                have s4 : IntKind.i64.wrap (bd - h) = bd - h := by rw [IntKind.wrap_i64] <;> omega
                have s5 : IntKind.i64.wrap (A1 - A2) = A1 - A2 := by rw [IntKind.wrap_i64] <;> omega
                obtain ⟨M3, hM3⟩ : ∃ M, mn + A3 = M := ⟨_, rfl⟩
                have s6 : IntKind.i64.wrap (mn + A3) = M3 := by rw [IntKind.wrap_i64] <;> omega
                have HNX : Hid (nextX ⟨bd', lo', hi''⟩ ⟨bd, lo, hi'⟩ h o (s, (pl, mn)) = (o :: s, (pl + fl, M3))) := by show _ = _; unfold nextX; simp only [hfl, hA1, hA2, hA3, hM3]
                have HHM := Lib.hid hM3
                clear hM3
                go_wp2_with fail
                refine wp_region_noPanic ?_
                refine wp_region_last (S := (fun W' => W'.cell? ⟨ng, kk * 4 + 3, none⟩ = some (.int .i64 mn) ∧ W'.cell? ⟨wq.heap.size, 0, none⟩ = some (.int .i64 bd') ∧ W'.cell? ⟨w.heap.size + 1, 0, none⟩ = some (.int .i64 bd))) 19 (by kernel_rfl) (by decide) (fun inv0 => ?_)
                have hh0 := (show _ ∧ _ ∧ _ from ⟨m3, y0, z0⟩)
                refine wpAnyZ_take (i := 0) (v := ?_) rfl (Lib.hid ⟨by as_aux_lemma => kernel_rfl, by as_aux_lemma => kernel_rfl, by as_aux_lemma => kernel_rfl, rfl⟩) (by decide) inv0 (by as_aux_lemma => kernel_rfl) (by as_aux_lemma => kernel_rfl) (fun _ _ _ h => h) (Or.inl ⟨by rfl, ?_⟩) hh0 (fun inv1 => ?_)
                rotate_left
                · intro w hSw
                  try dsimp only at hSw
                  go_simp
                  try with_reducible rfl
                clear inv0
                try simp only [Act.put, List.getElem_toArray, List.getElem_cons_succ, List.getElem_cons_zero, List.setIfInBounds_toArray, List.set_cons_zero, List.set_cons_succ]
                refine wpAnyZ_take (i := 1) (v := ?_) rfl (Lib.hid ⟨by as_aux_lemma => kernel_rfl, by as_aux_lemma => kernel_rfl, by as_aux_lemma => kernel_rfl, rfl⟩) (by decide) inv1 (by as_aux_lemma => kernel_rfl) (by as_aux_lemma => kernel_rfl) (fun _ _ _ h => h) (Or.inl ⟨by rfl, ?_⟩) hh0 (fun inv2 => ?_)
                rotate_left
                · intro w hSw
                  try dsimp only at hSw
                  go_simp
                  try with_reducible rfl
                clear inv1
                try simp only [Act.put, List.getElem_toArray, List.getElem_cons_succ, List.getElem_cons_zero, List.setIfInBounds_toArray, List.set_cons_zero, List.set_cons_succ]
                refine wpAnyZ_take (i := 2) (v := ?_) rfl (Lib.hid ⟨by as_aux_lemma => kernel_rfl, by as_aux_lemma => kernel_rfl, by as_aux_lemma => kernel_rfl, rfl⟩) (by decide) inv2 (by as_aux_lemma => kernel_rfl) (by as_aux_lemma => kernel_rfl) (fun _ _ _ h => h) (Or.inl ⟨by rfl, ?_⟩) hh0 (fun inv3 => ?_)
                rotate_left
                · intro w hSw
                  try dsimp only at hSw
                  go_simp
                  try with_reducible rfl
                clear inv2
                try simp only [Act.put, List.getElem_toArray, List.getElem_cons_succ, List.getElem_cons_zero, List.setIfInBounds_toArray, List.set_cons_zero, List.set_cons_succ]
                refine wpAnyZ_take (i := 3) (v := ?_) rfl (Lib.hid ⟨by as_aux_lemma => kernel_rfl, by as_aux_lemma => kernel_rfl, by as_aux_lemma => kernel_rfl, rfl⟩) (by decide) inv3 (by as_aux_lemma => kernel_rfl) (by as_aux_lemma => kernel_rfl) (fun _ _ _ h => h) (Or.inl ⟨by rfl, ?_⟩) hh0 (fun inv4 => ?_)
                rotate_left
                · intro w hSw
                  try dsimp only at hSw
                  go_simp
                  try with_reducible rfl
                clear inv3
                try simp only [Act.put, List.getElem_toArray, List.getElem_cons_succ, List.getElem_cons_zero, List.setIfInBounds_toArray, List.set_cons_zero, List.set_cons_succ]
                refine wpAnyZ_take (i := 4) (v := ?_) rfl (Lib.hid ⟨by as_aux_lemma => kernel_rfl, by as_aux_lemma => kernel_rfl, by as_aux_lemma => kernel_rfl, rfl⟩) (by decide) inv4 (by as_aux_lemma => kernel_rfl) (by as_aux_lemma => kernel_rfl) (fun _ _ _ h => h) (Or.inl ⟨by rfl, ?_⟩) hh0 (fun inv5 => ?_)
                rotate_left
                · intro w hSw
                  try dsimp only at hSw
                  go_simp
                  try with_reducible rfl
                clear inv4
                try simp only [Act.put, List.getElem_toArray, List.getElem_cons_succ, List.getElem_cons_zero, List.setIfInBounds_toArray, List.set_cons_zero, List.set_cons_succ]
                refine wpAnyZ_take (i := 5) (v := ?_) rfl (Lib.hid ⟨by as_aux_lemma => kernel_rfl, by as_aux_lemma => kernel_rfl, by as_aux_lemma => kernel_rfl, rfl⟩) (by decide) inv5 (by as_aux_lemma => kernel_rfl) (by as_aux_lemma => kernel_rfl) (fun _ _ _ h => h) (Or.inl ⟨by rfl, ?_⟩) hh0 (fun inv6 => ?_)
                rotate_left
                · intro w hSw
                  try dsimp only at hSw
                  go_simp
                  try with_reducible rfl
                clear inv5
                try simp only [Act.put, List.getElem_toArray, List.getElem_cons_succ, List.getElem_cons_zero, List.setIfInBounds_toArray, List.set_cons_zero, List.set_cons_succ]
                refine wpAnyZ_take (i := 6) (v := ?_) rfl (Lib.hid ⟨by as_aux_lemma => kernel_rfl, by as_aux_lemma => kernel_rfl, by as_aux_lemma => kernel_rfl, rfl⟩) (by decide) inv6 (by as_aux_lemma => kernel_rfl) (by as_aux_lemma => kernel_rfl) (fun _ _ _ h => h) (Or.inl ⟨by rfl, ?_⟩) hh0 (fun inv7 => ?_)
                rotate_left
                · intro w hSw
                  try dsimp only at hSw
                  go_simp
                  try with_reducible rfl
                clear inv6
                try simp only [Act.put, List.getElem_toArray, List.getElem_cons_succ, List.getElem_cons_zero, List.setIfInBounds_toArray, List.set_cons_zero, List.set_cons_succ]
                refine wpAnyZ_take (i := 7) (v := ?_) rfl (Lib.hid ⟨by as_aux_lemma => kernel_rfl, by as_aux_lemma => kernel_rfl, by as_aux_lemma => kernel_rfl, rfl⟩) (by decide) inv7 (by as_aux_lemma => kernel_rfl) (by as_aux_lemma => kernel_rfl) (fun _ _ _ h => h) (Or.inl ⟨by rfl, ?_⟩) hh0 (fun inv8 => ?_)
                rotate_left
                · intro w hSw
                  try dsimp only at hSw
                  go_simp
                  try with_reducible rfl
                clear inv7
                try simp only [Act.put, List.getElem_toArray, List.getElem_cons_succ, List.getElem_cons_zero, List.setIfInBounds_toArray, List.set_cons_zero, List.set_cons_succ]
                refine wpAnyZ_take (i := 8) (v := ?_) rfl (Lib.hid ⟨by as_aux_lemma => kernel_rfl, by as_aux_lemma => kernel_rfl, by as_aux_lemma => kernel_rfl, rfl⟩) (by decide) inv8 (by as_aux_lemma => kernel_rfl) (by as_aux_lemma => kernel_rfl) (fun _ _ _ h => h) (Or.inl ⟨by rfl, ?_⟩) hh0 (fun inv9 => ?_)
                rotate_left
                · intro w hSw
                  try dsimp only at hSw
                  go_simp
                  try with_reducible rfl
                clear inv8
                try simp only [Act.put, List.getElem_toArray, List.getElem_cons_succ, List.getElem_cons_zero, List.setIfInBounds_toArray, List.set_cons_zero, List.set_cons_succ]
                refine wpAnyZ_take (i := 9) (v := ?_) rfl (Lib.hid ⟨by as_aux_lemma => kernel_rfl, by as_aux_lemma => kernel_rfl, by as_aux_lemma => kernel_rfl, rfl⟩) (by decide) inv9 (by as_aux_lemma => kernel_rfl) (by as_aux_lemma => kernel_rfl) (fun _ _ _ h => h) (Or.inl ⟨by rfl, ?_⟩) hh0 (fun inv10 => ?_)
                rotate_left
                · intro w hSw
                  try dsimp only at hSw
                  go_simp
                  try with_reducible rfl
                clear inv9
                try simp only [Act.put, List.getElem_toArray, List.getElem_cons_succ, List.getElem_cons_zero, List.setIfInBounds_toArray, List.set_cons_zero, List.set_cons_succ]
                refine wpAnyZ_take (i := 10) (v := ?_) rfl (Lib.hid ⟨by as_aux_lemma => kernel_rfl, by as_aux_lemma => kernel_rfl, by as_aux_lemma => kernel_rfl, rfl⟩) (by decide) inv10 (by as_aux_lemma => kernel_rfl) (by as_aux_lemma => kernel_rfl) (fun _ _ _ h => h) (Or.inl ⟨by rfl, ?_⟩) hh0 (fun inv11 => ?_)
                rotate_left
                · intro w hSw
                  try dsimp only at hSw
                  go_simp
                  try with_reducible rfl
                clear inv10
                try simp only [Act.put, List.getElem_toArray, List.getElem_cons_succ, List.getElem_cons_zero, List.setIfInBounds_toArray, List.set_cons_zero, List.set_cons_succ]
                refine wpAnyZ_take (i := 11) (v := ?_) rfl (Lib.hid ⟨by as_aux_lemma => kernel_rfl, by as_aux_lemma => kernel_rfl, by as_aux_lemma => kernel_rfl, rfl⟩) (by decide) inv11 (by as_aux_lemma => kernel_rfl) (by as_aux_lemma => kernel_rfl) (fun _ _ _ h => h) (Or.inl ⟨by rfl, ?_⟩) hh0 (fun inv12 => ?_)
                rotate_left
                · intro w hSw
                  try dsimp only at hSw
                  go_simp
                  try with_reducible rfl
                clear inv11
                try simp only [Act.put, List.getElem_toArray, List.getElem_cons_succ, List.getElem_cons_zero, List.setIfInBounds_toArray, List.set_cons_zero, List.set_cons_succ]
                refine wpAnyZ_take (i := 12) (v := ?_) rfl (Lib.hid ⟨by as_aux_lemma => kernel_rfl, by as_aux_lemma => kernel_rfl, by as_aux_lemma => kernel_rfl, rfl⟩) (by decide) inv12 (by as_aux_lemma => kernel_rfl) (by as_aux_lemma => kernel_rfl) (fun _ _ _ h => h) (Or.inl ⟨by rfl, ?_⟩) hh0 (fun inv13 => ?_)
                rotate_left
                · intro w hSw
                  try dsimp only at hSw
                  go_simp
                  try with_reducible rfl
                clear inv12
                try simp only [Act.put, List.getElem_toArray, List.getElem_cons_succ, List.getElem_cons_zero, List.setIfInBounds_toArray, List.set_cons_zero, List.set_cons_succ]
                refine wpAnyZ_take (i := 13) (v := ?_) rfl (Lib.hid ⟨by as_aux_lemma => kernel_rfl, by as_aux_lemma => kernel_rfl, by as_aux_lemma => kernel_rfl, rfl⟩) (by decide) inv13 (by as_aux_lemma => kernel_rfl) (by as_aux_lemma => kernel_rfl) (fun _ _ _ h => h) (Or.inl ⟨by rfl, ?_⟩) hh0 (fun inv14 => ?_)
                rotate_left
                · intro w hSw
                  try dsimp only at hSw
                  go_simp
                  try with_reducible rfl
                clear inv13
                try simp only [Act.put, List.getElem_toArray, List.getElem_cons_succ, List.getElem_cons_zero, List.setIfInBounds_toArray, List.set_cons_zero, List.set_cons_succ]
                refine wpAnyZ_take (i := 14) (v := ?_) rfl (Lib.hid ⟨by as_aux_lemma => kernel_rfl, by as_aux_lemma => kernel_rfl, by as_aux_lemma => kernel_rfl, rfl⟩) (by decide) inv14 (by as_aux_lemma => kernel_rfl) (by as_aux_lemma => kernel_rfl) (fun _ _ _ h => h) (Or.inl ⟨by rfl, ?_⟩) hh0 (fun inv15 => ?_)
                rotate_left
                · intro w hSw
                  try dsimp only at hSw
                  go_simp
                  try with_reducible rfl
                clear inv14
                try simp only [Act.put, List.getElem_toArray, List.getElem_cons_succ, List.getElem_cons_zero, List.setIfInBounds_toArray, List.set_cons_zero, List.set_cons_succ]
                refine wpAnyZ_take (i := 15) (v := ?_) rfl (Lib.hid ⟨by as_aux_lemma => kernel_rfl, by as_aux_lemma => kernel_rfl, by as_aux_lemma => kernel_rfl, rfl⟩) (by decide) inv15 (by as_aux_lemma => kernel_rfl) (by as_aux_lemma => kernel_rfl) (fun _ _ _ h => h) (Or.inl ⟨by rfl, ?_⟩) hh0 (fun inv16 => ?_)
                rotate_left
                · intro w hSw
                  try dsimp only at hSw
                  go_simp
                  try with_reducible rfl
                clear inv15
                try simp only [Act.put, List.getElem_toArray, List.getElem_cons_succ, List.getElem_cons_zero, List.setIfInBounds_toArray, List.set_cons_zero, List.set_cons_succ]
                refine wpAnyZ_take (i := 16) (v := ?_) rfl (Lib.hid ⟨by as_aux_lemma => kernel_rfl, by as_aux_lemma => kernel_rfl, by as_aux_lemma => kernel_rfl, rfl⟩) (by decide) inv16 (by as_aux_lemma => kernel_rfl) (by as_aux_lemma => kernel_rfl) (fun _ _ _ h => h) (Or.inl ⟨by rfl, ?_⟩) hh0 (fun inv17 => ?_)
                rotate_left
                · intro w hSw
                  try dsimp only at hSw
                  go_simp
                  try with_reducible rfl
                clear inv16
                try simp only [Act.put, List.getElem_toArray, List.getElem_cons_succ, List.getElem_cons_zero, List.setIfInBounds_toArray, List.set_cons_zero, List.set_cons_succ]
                refine wpAnyZ_take (i := 17) (v := ?_) rfl (Lib.hid ⟨by as_aux_lemma => kernel_rfl, by as_aux_lemma => kernel_rfl, by as_aux_lemma => kernel_rfl, rfl⟩) (by decide) inv17 (by as_aux_lemma => kernel_rfl) (by as_aux_lemma => kernel_rfl) (fun _ _ _ h => h) (Or.inl ⟨by rfl, ?_⟩) hh0 (fun inv18 => ?_)
                rotate_left
                · intro w hSw
                  try dsimp only at hSw
                  go_simp
                  try with_reducible rfl
                clear inv17
                try simp only [Act.put, List.getElem_toArray, List.getElem_cons_succ, List.getElem_cons_zero, List.setIfInBounds_toArray, List.set_cons_zero, List.set_cons_succ]
                refine wpAnyZ_take (i := 18) (v := ?_) rfl (Lib.hid ⟨by as_aux_lemma => kernel_rfl, by as_aux_lemma => kernel_rfl, by as_aux_lemma => kernel_rfl, rfl⟩) (by decide) inv18 (by as_aux_lemma => kernel_rfl) (by as_aux_lemma => kernel_rfl) (fun _ _ _ h => h) (Or.inl ⟨by rfl, ?_⟩) hh0 (fun inv19 => ?_)
                rotate_left
                · intro w hSw
                  try dsimp only at hSw
                  go_simp
                  try with_reducible rfl
                clear inv18
                try simp only [Act.put, List.getElem_toArray, List.getElem_cons_succ, List.getElem_cons_zero, List.setIfInBounds_toArray, List.set_cons_zero, List.set_cons_succ]
                refine wpAnyZ_all (rs := [19]) (by as_aux_lemma => kernel_rfl) (by simp) ?_
                intro i hi
                obtain rfl : i = 19 := by simpa using hi
                refine step_Z rfl (fun K hK => ?_)
                go_simp
                refine hK.out _ _ (fun h => absurd rfl h) ?_
                clear hK K
                try simp only [Act.put, List.getElem_toArray, List.getElem_cons_succ, List.getElem_cons_zero, List.setIfInBounds_toArray, List.set_cons_zero, List.set_cons_succ]
                refine wpAnyZ_done (by as_aux_lemma => kernel_rfl) ?_ _
                refine NoPanic.normal ?_
                have HXB : Hid (((wc.setCell ⟨g, 3, none⟩ (.int .i64 M3)).drew).heap[g]? = some (.cells #[.bool true, .slice va sl1 vc, .int .i64 (pl + fl), .int .i64 M3] 110 (0, 0))) := heap_setCell_same wc g 3 _ _ _ hG0.out
                have HXO : Hid (((wc.setCell ⟨g, 3, none⟩ (.int .i64 M3)).drew).ownsRow wp.heap.size 3 1 (.slice va sl1 vc) sl1 ((o :: s).map (Value.int .i64))) := own_rest hG0.out hO0.out
                have HXF : Hid (BestIn (wq.heap.size + 1) (wq.heap.size + 1) ((wc.setCell ⟨g, 3, none⟩ (.int .i64 M3)).drew) (PO kk) ua un uc) := ⟨(heap_setCell_other wc (⟨g, 3, none⟩ : Addr) (wq.heap.size + 1) _ (by show (wq.heap.size + 1) ≠ g; omega)).trans ((hB0.out.block _ (by have := HGS.out; omega)).trans HBp.out.box), own_rest hG0.out (own_below HBp.out.row hB0.out)⟩
                have HXW : Hid (Below (wq.heap.size + 1) wo ((wc.setCell ⟨g, 3, none⟩ (.int .i64 M3)).drew)) := ((HWW.out.trans (hB0.out.mono (by have := HGS.out; omega))).setCell (p := ⟨g, 3, none⟩) (show (wq.heap.size + 1) ≤ g by omega) _).trans ⟨rfl, rfl, rfl, Nat.le_refl _, fun _ _ => rfl⟩
                clear m3 y0 z0 e3 f3 gl hG0 hO0 hB0 HM1 HM2 HM3 HY0 HZ0 HBp HWW s1 s2 s3 s4 s5 s6 hA1 hA2 hA3 hfl
                generalize HW6 : (wc.setCell ⟨g, 3, none⟩ (.int .i64 M3)).drew = wm at *
                clear HW6
                rw [HNX.out] at HPS
                clear HNX
                have xl := lt_of_block HXB.out
                have x0 := cellOf HXB.out 0 _ rfl
                have x1 := cellOf HXB.out 1 _ rfl
                have x2 := cellOf HXB.out 2 _ rfl
                have x3 := cellOf HXB.out 3 _ rfl
                cases hPO : PO kk with
                | none =>
                  have HPN : Hid (PO (kk + 1) = some (o :: s, (pl + fl, M3))) := by show _ = _; rw [HPS.out, hPO]; rfl
                  have HBX : Hid (wm.heap[(wq.heap.size + 1)]? = some (.cells #[.bool false, .slice ua un uc, .int .i64 0, .int .i64 0] 110 (0, 0))) := by have h := HXF.out.box; rw [hPO] at h; exact h
                  clear HPS hPO HXF
                  have b0 := cellOf HBX.out 0 _ rfl
                  have fb0 := frozen_of_row _ _ 0 _ _ HBX.out
                  have b1 := cellOf HBX.out 1 _ rfl
                  have fb1 := frozen_of_row _ _ 1 _ _ HBX.out
                  have b2 := cellOf HBX.out 2 _ rfl
                  have fb2 := frozen_of_row _ _ 2 _ _ HBX.out
                  have b3 := cellOf HBX.out 3 _ rfl
                  have fb3 := frozen_of_row _ _ 3 _ _ HBX.out
                  have bl := lt_of_block HBX.out
                  go_wp2
                  go_roundg (gk - 1)
                  case measure => omega
                  case rel =>
                    obtain ⟨r1, r2, r3⟩ := rest_made (w := wo) (a := .bool true) (p := .int .i64 (pl + fl)) (m := .int .i64 M3) HBX.out rfl HXO.out HXW.out (Nat.le_refl _)
                    refine ⟨kk + 1, va, sl1, vc, by omega, by go_num, ?_, r3⟩
                    show BestIn _ _ _ _ _ _ _
                    rw [HPN.out]
                    refine ⟨r1, ?_⟩
                    have e : (restS (some (o :: s, (pl + fl, M3)))).length = sl1 := by show (o :: s).length = sl1; rw [List.length_cons, HSL.out]; have := HSL1.out; omega
                    rw [e]
                    exact own_base r2 (by have := HGS.out; omega)
                | some y =>
                  obtain ⟨sb, pb2, mb2⟩ := y
                  have HBX : Hid (wm.heap[(wq.heap.size + 1)]? = some (.cells #[.bool true, .slice ua un uc, .int .i64 pb2, .int .i64 mb2] 110 (0, 0))) := by have h := HXF.out.box; rw [hPO] at h; exact h
                  have HBR : Hid (wm.ownsRow (wq.heap.size + 1) 3 1 (.slice ua un uc) sb.length (sb.map (Value.int .i64))) := by have h := HXF.out.row; rw [hPO] at h; exact h
                  rw [hPO] at HPS
                  clear hPO HXF
                  have b0 := cellOf HBX.out 0 _ rfl
                  have fb0 := frozen_of_row _ _ 0 _ _ HBX.out
                  have b1 := cellOf HBX.out 1 _ rfl
                  have fb1 := frozen_of_row _ _ 1 _ _ HBX.out
                  have b2 := cellOf HBX.out 2 _ rfl
                  have fb2 := frozen_of_row _ _ 2 _ _ HBX.out
                  have b3 := cellOf HBX.out 3 _ rfl
                  have fb3 := frozen_of_row _ _ 3 _ _ HBX.out
                  have bl := lt_of_block HBX.out
                  obtain ⟨TT, hTT⟩ : ∃ T, ltN q (pl + fl, M3) (pb2, mb2) = T := ⟨_, rfl⟩
                  have HTT := Lib.hid hTT
                  clear hTT
                  go_wp2_with fail
                  have hcall := rbetter_any q true true va ua sl1 vc un uc (pl + fl) M3 pb2 mb2 wm
                  rw [HTT.out] at hcall
                  refine hcall.mono ?_
                  clear hcall
                  rintro e wn ⟨rfl, hbn⟩
                  have HXB' := Lib.hid ((hbn.block _ (lt_of_block HXB.out)).trans HXB.out)
                  have HBX' := Lib.hid ((hbn.block _ (lt_of_block HBX.out)).trans HBX.out)
                  have HXO' := Lib.hid (own_below HXO.out hbn)
                  have HBR' := Lib.hid (own_below HBR.out hbn)
                  have HXW' := Lib.hid (HXW.out.trans (hbn.mono (Nat.le_of_lt bl)))
                  clear hbn x0 x1 x2 x3 xl b0 b1 b2 b3 bl fb0 fb1 fb2 fb3 HXB HBX HXO HBR HXW
                  have xl := lt_of_block HXB'.out
                  have x0 := cellOf HXB'.out 0 _ rfl
                  have x1 := cellOf HXB'.out 1 _ rfl
                  have x2 := cellOf HXB'.out 2 _ rfl
                  have x3 := cellOf HXB'.out 3 _ rfl
                  have b0 := cellOf HBX'.out 0 _ rfl
                  have fb0 := frozen_of_row _ _ 0 _ _ HBX'.out
                  have b1 := cellOf HBX'.out 1 _ rfl
                  have fb1 := frozen_of_row _ _ 1 _ _ HBX'.out
                  have b2 := cellOf HBX'.out 2 _ rfl
                  have fb2 := frozen_of_row _ _ 2 _ _ HBX'.out
                  have b3 := cellOf HBX'.out 3 _ rfl
                  have fb3 := frozen_of_row _ _ 3 _ _ HBX'.out
                  have bl := lt_of_block HBX'.out
                  cases TT
                  · skip
                    have HPN : Hid (PO (kk + 1) = some (sb, (pb2, mb2))) := by show _ = _; rw [HPS.out]; exact betO_no HTT.out
                    clear HPS HTT
                    go_wp2
                    go_roundg (gk - 1)
                    case measure => omega
                    case rel => exact ⟨kk + 1, ua, un, uc, by omega, by go_num, by show BestIn _ _ _ _ _ _ _; rw [HPN.out]; exact ⟨HBX'.out, HBR'.out⟩, HXW'.out⟩
                  · skip
                    have HPN : Hid (PO (kk + 1) = some (o :: s, (pl + fl, M3))) := by show _ = _; rw [HPS.out]; exact betO_yes HTT.out
                    clear HPS HTT
                    go_wp2
                    go_roundg (gk - 1)
                    case measure => omega
                    case rel =>
                      obtain ⟨r1, r2, r3⟩ := rest_made (w := wo) (a := .bool true) (p := .int .i64 (pl + fl)) (m := .int .i64 M3) HBX'.out rfl HXO'.out HXW'.out (Nat.le_refl _)
                      refine ⟨kk + 1, va, sl1, vc, by omega, by go_num, ?_, r3⟩
                      show BestIn _ _ _ _ _ _ _
                      rw [HPN.out]
                      refine ⟨r1, ?_⟩
                      have e : (restS (some (o :: s, (pl + fl, M3)))).length = sl1 := by show (o :: s).length = sl1; rw [List.length_cons, HSL.out]; have := HSL1.out; omega
                      rw [e]
                      exact own_base r2 (by have := HGS.out; omega)
        · obtain rfl : kk = L := by omega
          obtain ⟨fb, xb, yb, hsh⟩ := restV_shape (.slice ua un uc) (PO kk)
          have HBX : Hid (wi.heap[wq.heap.size + 1]? = some (.cells #[.bool fb, .slice ua un uc, .int .i64 xb, .int .i64 yb] 110 (0, 0))) := by have h := HBI.out.box; rw [hsh] at h; exact h
          have HSH := Lib.hid hsh
          have HUO : Hid (wi.ownsRow W.heap.size 3 1 (.slice ua un uc) (restS (PO kk)).length ((restS (PO kk)).map (Value.int .i64))) := own_base HBI.out.row (by have := HR.out.size; omega)
          have HMI := Lib.hid (HM.out.up HWI.out)
          have HAL : Hid (Below wi.heap.size wi (wi.alloc (Obj.cells #[.bool fb, .slice ua un uc, .int .i64 xb, .int .i64 yb] 110))) := (Below.refl _ _).alloc (Nat.le_refl _) _
          have hs1 : W.heap.size ≤ wi.heap.size := HRI.out.size
          have HMA := Lib.hid (HMI.out.up HAL.out)
          have hownA : (wi.alloc (Obj.cells #[.bool fb, .slice ua un uc, .int .i64 xb, .int .i64 yb] 110)).ownsRow W.heap.size 110 4 (.slice oa k oc) k (restC m) := by have h := HMA.out.outer; rw [HML.out] at h; exact h
          have HOA := Lib.hid hownA
          clear hownA hsh
          have k31 : k ≤ 31 := by have := HNN.out; omega
          have b0 := cellOf HBX.out 0 _ rfl
          have b1 := cellOf HBX.out 1 _ rfl
          have b2 := cellOf HBX.out 2 _ rfl
          have b3 := cellOf HBX.out 3 _ rfl
          have bl := lt_of_block HBX.out
          clear ra rl y0 y1 yl z0 zl HBI
          go_wp2_with (at_builtin; refine wpList_append_own _ rfl _ _ 107 rfl W.heap.size 110 i0 (.agg #[.bool false, .slice none 0 0, .int .i64 0, .int .i64 0]) 4 48 Try.underlying107 hi0 HI.out.1 HI.out.2.1 HI.out.2.2 rfl (by decide) _ _ _ rfl HOA.out ⟨wi.heap.size, 0, none⟩ 1 1 [.bool fb, .slice ua un uc, .int .i64 xb, .int .i64 yb] rfl rfl (cells4_new wi _ _ _ _ _) (ones4 _ _ _ _ _ _) ?pa3 ?pa4 ?pa5 ?_)
          case pa3 => unfold maxLen; omega
          case pa4 => omega
          case pa5 => have := hs1; simp; omega
          intro v' w3 hown3 hgrow _
          have HB3 : Hid (Below W.heap.size W w3) := (HRI.out.trans (HAL.out.mono hs1)).grown hgrow (by simp; omega) (fun g hg => (HOA.out.lt g hg).1)
          obtain ⟨sa', sc', rfl⟩ := own_slice hown3
          have HR3 : Hid (RsIn W.heap.size w3 (.slice sa' (k + 1) sc') (m ++ [(.slice ua un uc, PO kk)])) := HMA.out.next (own_below HUO.out HAL.out) hgrow (by rw [HML.out, HSH.out]; exact hown3)
          have HMM3 : Hid ((m ++ [(Value.slice ua un uc, PO kk)]).map (·.2) = (restsAt st q pts i).take (k + 1)) := by show _ = _; rw [HRT.out, List.map_append, HMM.out, List.map_cons, List.map_nil, HPL.out]
          clear hown3 hgrow b0 b1 b2 b3 bl HBX HUO HMI HMA HOA HAL HM HMM hs1
          go_wp2
          go_roundg GKO
          case measure => omega
          case rel => exact ⟨k + 1, sa', sc', _, by omega, congrArg (Value.int .i64) (by push_cast; omega), rfl, HR3, HMM3, HB3⟩
    · obtain rfl : k = N := by omega
      have hgt : ¬ h ≤ hi' := by omega
      have HFM : Hid (m.map (·.2) = restsAt st q pts i) := by show _ = _; rw [HMM.out, List.take_of_length_le (by rw [HRA.out]; simp; omega)]
      have HFR := Lib.hid (HM.out.base HB.out.size)
      have HFB := Lib.hid (HB.out.trans (HR.out.mono HB.out.size))
      clear hN' hkN HM HMM
      go_wp2
      go_ret
      exact ⟨_, m, rfl, HFR.out, HFM.out, HFB.out⟩
end Go.Proofs.Ytnciomoapajonaa
namespace Go.Proofs.Ytnciomoapajonaa
open Go Go.RowKit Go.Shelf Cv

set_option maxRecDepth 100000 in
set_option maxHeartbeats 4000000 in
theorem rbehind_last (st : Int) (pts : List Pt) (pb po : Nat) (pc : Nat) (i : Nat) (q : Bool) (w : World) (hP : PtsAt w (.slice (some ⟨pb, po, none⟩) pts.length pc) pts) (hv : Valid ⟨st, pts⟩) (hi : i + 1 = pts.length) :
    Calls Try.prog 72 #[.agg #[.int .i64 st, .slice (some ⟨pb, po, none⟩) pts.length pc], .int .i64 i, .slice none 0 0, .bool q] w (BehindP st q pts i w) := by
  obtain ⟨i0, hi0⟩ := info_of_underlying Try.underlying110
  have HI : Hid (i0.zero = some (.agg #[.bool false, .slice none 0 0, .int .i64 0, .int .i64 0]) ∧ i0.size = 4 ∧ i0.bytes = 48) := by
    have h := restInfo
    rw [hi0] at h
    simp at h
    exact h
  have n10 : pts.length ≤ 10 := hv.n10
  obtain ⟨b1', o1', e1, c0, c1, c2⟩ := hP.get (show i < pts.length by omega)
  simp only [Option.some.injEq, Addr.mk.injEq, and_true] at e1
  obtain ⟨rfl, rfl⟩ := e1
  have hdr : pts.drop (i + 1) = [] := List.drop_of_length_le (by omega)
  have g1 : pts.getD i default = pts[i] := by simp [List.getD_eq_getElem?_getD, show i < pts.length by omega]
  have HRA : Hid (restsAt st q pts i = (List.range (pts[i].hi - pts[i].lo + 1).toNat).map fun (_ : Nat) => some ([], (0, 0))) := by show _ = _; rw [restsAt, g1, hdr]; rfl
  obtain ⟨a0, a9, al0, al9, ah0, ah9, ale, hwide⟩ := hv.ok pts[i] (List.getElem_mem _)
  obtain ⟨W, hW, hA, hZ, hB, hsz⟩ := al2 w (Obj.cells #[.int .i64 st, .slice (some ⟨pb, po, none⟩) pts.length pc] 24) (Obj.cells #[.int .i64 pts[i].bd, .int .i64 pts[i].lo, .int .i64 pts[i].hi] 58)
  have HA := Lib.hid hA
  have HZ := Lib.hid hZ
  have HB := Lib.hid hB
  have HW := Lib.hid hW
  generalize pts[i] = p at *
  obtain ⟨bd, lo, hi'⟩ := p
  simp only at a0 a9 al0 al9 ah0 ah9 ale hwide c0 c1 c2 HRA HW HZ
  obtain ⟨n, hn⟩ : ∃ n, pts.length = n := ⟨_, rfl⟩
  rw [hn] at hi n10 HA HW ⊢
  have iI : (i : Int) + 1 = (n : Int) := by omega
  have nI : (n : Int) ≤ 10 := by omega
  have iI0 : (i : Int) < (n : Int) := by omega
  have hpb := World.block_lt_of_cell? w ⟨pb, po + i * 3, none⟩ c0
  have t0 : ((i : Int) == (n : Int) - 1) = true := by rw [beq_iff_eq]; omega
  have HII := Lib.hid iI
  obtain ⟨N, hNN⟩ : ∃ N, (hi' - lo + 1).toNat = N := ⟨_, rfl⟩
  have HNN : Hid ((N : Int) = hi' - lo + 1) := by show _ = _; omega
  have N31 : N ≤ 31 := by omega
  clear hP hv hdr g1 hA hZ hB hW hsz iI hi hwide
  go_enter Try.func72, Try.ntmps72
  go_wp2_with fail
  rw [HW.out]
  clear c0 c1 c2 HW hpb
  go_loopg [10, 11] N (fun g v x wr => ∃ (k : Nat) (oa : Option Addr) (oc : Nat) (m : List (Value × Rst)), g + k = N ∧ x = .int .i64 (lo + (k : Int)) ∧ v = .slice oa k oc ∧ Hid (RsIn W.heap.size wr (.slice oa k oc) m) ∧ Hid (m.map (·.2) = (restsAt st q pts i).take k) ∧ Hid (Below W.heap.size W wr))
  case atStart => exact ⟨0, none, 0, [], by omega, by simp, rfl, RsIn.nil _ _, by show _ = _; simp, Below.refl _ _⟩
  case round =>
    obtain ⟨k, oa, oc, m, hk, rfl, rfl, HM, HMM, HR⟩ := hrel
    obtain ⟨wq, hwq⟩ : ∃ wq, wr = wq := ⟨_, rfl⟩
    rw [hwq] at HM HR ⊢
    clear hwq
    have HML : Hid (m.length = k) := by
      obtain ⟨_, _, e⟩ := HM.out.shape
      simp only [Value.slice.injEq] at e
      exact e.2.1.symm
    obtain ⟨h, hh⟩ : ∃ h : Int, lo + (k : Int) = h := ⟨_, rfl⟩
    rw [hh]
    have hN' := HNN.out
    have ra := cellOf ((HR.out.block _ (lt_of_block HA.out)).trans HA.out) 0 _ rfl
    have rb := cellOf ((HR.out.block _ (lt_of_block HA.out)).trans HA.out) 1 _ rfl
    have rl := lt_of_block ((HR.out.block _ (lt_of_block HA.out)).trans HA.out)
    have z1 := cellOf ((HR.out.block _ (lt_of_block HZ.out)).trans HZ.out) 1 _ rfl
    have z2 := cellOf ((HR.out.block _ (lt_of_block HZ.out)).trans HZ.out) 2 _ rfl
    have zl := lt_of_block ((HR.out.block _ (lt_of_block HZ.out)).trans HZ.out)
    by_cases hkN : k < N
    · obtain ⟨GKO, rfl⟩ : ∃ G, gk = G + 1 := ⟨gk - 1, by omega⟩
      have hhi : h ≤ hi' := by omega
      have hlo : lo ≤ h := by omega
      have HRT : Hid ((restsAt st q pts i).take (k + 1) = (restsAt st q pts i).take k ++ [some ([], (0, 0))]) := by
        show _ = _
        have hlt : k < (restsAt st q pts i).length := by rw [HRA.out]; simp; omega
        rw [List.take_succ_eq_append_getElem hlt]
        congr 2
        have e : (restsAt st q pts i)[k]? = some (restsAt st q pts i)[k] := List.getElem?_eq_getElem hlt
        rw [← Option.some.injEq, ← e, HRA.out, List.getElem?_map, List.getElem?_range (by omega)]
        rfl
      have hs1 : W.heap.size ≤ wq.heap.size := HR.out.size
      have HAL : Hid (Below wq.heap.size wq (wq.alloc (Obj.cells #[.bool true, .slice none 0 0, .int .i64 0, .int .i64 0] 110))) := (Below.refl _ _).alloc (Nat.le_refl _) _
      have HMA := Lib.hid (HM.out.up HAL.out)
      have HOA : Hid ((wq.alloc (Obj.cells #[.bool true, .slice none 0 0, .int .i64 0, .int .i64 0] 110)).ownsRow W.heap.size 110 4 (.slice oa k oc) k (restC m)) := by have h := HMA.out.outer; rw [HML.out] at h; exact h
      clear hN' hNN
      go_wp2_with (at_builtin; refine wpList_append_own _ rfl _ _ 107 rfl W.heap.size 110 i0 (.agg #[.bool false, .slice none 0 0, .int .i64 0, .int .i64 0]) 4 48 Try.underlying107 hi0 HI.out.1 HI.out.2.1 HI.out.2.2 rfl (by decide) _ _ _ rfl HOA.out ⟨wq.heap.size, 0, none⟩ 1 1 [.bool true, .slice none 0 0, .int .i64 0, .int .i64 0] rfl rfl (cells4_new wq _ _ _ _ _) (ones4 _ _ _ _ _ _) ?pa3 ?pa4 ?pa5 ?_)
      case pa3 => unfold maxLen; omega
      case pa4 => omega
      case pa5 => have := hs1; simp; omega
      intro v' w3 hown3 hgrow _
      have HB3 : Hid (Below W.heap.size W w3) := (HR.out.trans (HAL.out.mono hs1)).grown hgrow (by simp; omega) (fun g hg => (HOA.out.lt g hg).1)
      obtain ⟨sa', sc', rfl⟩ := own_slice hown3
      have HR3 : Hid (RsIn W.heap.size w3 (.slice sa' (k + 1) sc') (m ++ [(.slice none 0 0, some ([], (0, 0)))])) := HMA.out.next (World.ownsRow_nil _ _ _ _) hgrow (by rw [HML.out]; exact hown3)
      have HMM3 : Hid ((m ++ [(Value.slice none 0 0, (some ([], (0, 0)) : Rst))]).map (·.2) = (restsAt st q pts i).take (k + 1)) := by show _ = _; rw [HRT.out, List.map_append, HMM.out, List.map_cons, List.map_nil]
      clear hown3 hgrow HMA HOA HAL HM HMM hs1
      go_wp2
      go_roundg GKO
      case measure => omega
      case rel => exact ⟨k + 1, sa', sc', _, by omega, congrArg (Value.int .i64) (by push_cast; omega), rfl, HR3, HMM3, HB3⟩
    · obtain rfl : k = N := by omega
      have hgt : ¬ h ≤ hi' := by omega
      have HFM : Hid (m.map (·.2) = restsAt st q pts i) := by show _ = _; rw [HMM.out, List.take_of_length_le (by rw [HRA.out]; simp; omega)]
      have HFR := Lib.hid (HM.out.base HB.out.size)
      have HFB := Lib.hid (HB.out.trans (HR.out.mono HB.out.size))
      clear hN' hkN HM HMM hNN
      go_wp2
      go_ret
      exact ⟨_, m, rfl, HFR.out, HFM.out, HFB.out⟩
end Go.Proofs.Ytnciomoapajonaa
namespace Go.Proofs.Ytnciomoapajonaa
open Go Go.RowKit Cv

theorem steps_any (a b : Nat) (ha : a ≤ 10) (hb : b ≤ 10) (w : World) :
    Calls Try.prog 54 #[.int .i64 (a : Int), .int .i64 (b : Int)] w fun e w' => e = .returned (.int .i64 (steps a b)) ∧ w = w' := by
  have ha' : (a : Int) ≤ 10 := by omega
  have hb' : (b : Int) ≤ 10 := by omega
  go_enter Try.func54, Try.ntmps54
  go_wp2
  go_ret
  exact ⟨by unfold steps; rfl, rfl⟩

set_option maxRecDepth 100000 in
set_option maxHeartbeats 4000000 in
theorem none_any (r : Row) (pv : Value) (x : Int) (a b : Nat) (hx0 : 0 ≤ x) (hx9 : x ≤ 9000) (ha : a < r.pts.length) (hb : b < r.pts.length) (h10 : r.pts.length ≤ 10) (hok : ∀ p, p ∈ r.pts → PtOk p) (w : World) (hP : PtsAt w pv r.pts) :
    Calls Try.prog 58 #[.agg #[.int .i64 r.st, pv], .int .i64 x, .int .i64 (a : Int), .int .i64 (b : Int)] w fun e w' => e = .returned (.bool (noneB r x a b)) ∧ Below w.heap.size w w' := by
  obtain ⟨st, pts⟩ := r
  simp only at hP ha hb h10 hok ⊢
  obtain ⟨lp, pa, pc, rfl, _, _⟩ := id hP
  have oka := hok pts[a] (List.getElem_mem _)
  have okb := hok pts[b] (List.getElem_mem _)
  have HW0 : Hid (Below w.heap.size w (w.alloc (Obj.cells #[.int .i64 st, .slice pa pts.length pc] 24))) := by show Below _ _ _; go_grown
  have HRB := Lib.hid (heap_alloc_new w (Obj.cells #[.int .i64 st, .slice pa pts.length pc] 24))
  have hN : noneB ⟨st, pts⟩ x a b = (decide (pts[b].hi + x * steps a b < pts[a].lo) || decide (pts[a].hi + x * steps a b < pts[b].lo)) := by
    unfold noneB his los
    simp [List.getD_eq_getElem?_getD, ha, hb]
  rw [hN]
  clear hN
  obtain ⟨pb, po, rfl, a0, a1, a2⟩ := (hP.below HW0.out).get ha
  obtain ⟨pb', po', e, b0, b1, b2⟩ := (hP.below HW0.out).get hb
  simp only [Option.some.injEq, Addr.mk.injEq, and_true] at e
  obtain ⟨rfl, rfl⟩ := e
  clear hP hok
  have aI : (a : Int) < (pts.length : Int) := by omega
  have bI : (b : Int) < (pts.length : Int) := by omega
  generalize pts[a] = p at *
  generalize pts[b] = q at *
  obtain ⟨pbd, plo, phi⟩ := p
  obtain ⟨qbd, qlo, qhi⟩ := q
  simp only at a0 a1 a2 b0 b1 b2
  obtain ⟨_, _, pl0, pl9, ph0, ph9, _, _⟩ := oka
  obtain ⟨_, _, ql0, ql9, qh0, qh9, _, _⟩ := okb
  simp only at pl0 pl9 ph0 ph9 ql0 ql9 qh0 qh9 ⊢
  have hs : 0 ≤ steps a b ∧ steps a b ≤ 10 := ⟨steps_nonneg a b, by unfold steps; omega⟩
  have HS := Lib.hid (steps_any a b (by omega) (by omega))
  generalize steps a b = s at *
  have hxs0 : 0 ≤ x * s := Int.mul_nonneg hx0 hs.1
  have hxs9 : x * s ≤ 90000 := by
    have := Int.mul_le_mul hx9 hs.2 hs.1 (by omega : (0 : Int) ≤ 9000)
    omega
  go_enter Try.func58, Try.ntmps58
  go_wp2_with fail
  have r0 := cellOf HRB.out 0 _ rfl
  have r1 := cellOf HRB.out 1 _ rfl
  refine (HS.out _).mono ?_
  rintro e w' ⟨rfl, rfl⟩
  go_wp2_with fail
  generalize hf : x * s = f at *
  have HFQ := Lib.hid hf
  clear hf
  generalize w.alloc (Obj.cells #[.int .i64 st, .slice (some ⟨pb, po, none⟩) pts.length pc] 24) = w1 at *
  by_cases t1 : qhi + f < plo
  · go_quiet (fail)
    go_wp2
    go_ret
    exact ⟨by rw [HFQ.out]; simp [t1], HW0.out.trans ⟨rfl, rfl, rfl, Nat.le_refl _, fun _ _ => rfl⟩⟩
  · by_cases t2 : phi + f < qlo
    · go_quiet (fail)
      go_wp2
      go_ret
      exact ⟨by rw [HFQ.out]; simp [t2], HW0.out.trans ⟨rfl, rfl, rfl, Nat.le_refl _, fun _ _ => rfl⟩⟩
    · go_quiet (fail)
      go_wp2
      go_ret
      exact ⟨by rw [HFQ.out]; simp [t1, t2], HW0.out.trans ⟨rfl, rfl, rfl, Nat.le_refl _, fun _ _ => rfl⟩⟩
end Go.Proofs.Ytnciomoapajonaa
namespace Go.Proofs.Ytnciomoapajonaa
open Go Go.RowKit Cv

set_option maxRecDepth 100000 in
set_option maxHeartbeats 4000000 in
theorem some_any (r : Row) (pv : Value) (x : Int) (hx0 : 0 ≤ x) (hx9 : x ≤ 9000) (h10 : r.pts.length ≤ 10) (hok : ∀ p, p ∈ r.pts → PtOk p) (w : World) (hP : PtsAt w pv r.pts) :
    Calls Try.prog 53 #[.agg #[.int .i64 r.st, pv], .int .i64 x] w fun e w' => e = .returned (.bool (!crossB ⟨x, r.pts⟩)) ∧ Below w.heap.size w w' := by
  obtain ⟨st, pts⟩ := r
  simp only at hP h10 hok ⊢
  obtain ⟨lp, pa, pc, rfl, _, _⟩ := id hP
  have HP := Lib.hid hP
  have HOK := Lib.hid hok
  clear hP hok
  have HW0 : Hid (Below w.heap.size w (w.alloc (Obj.cells #[.int .i64 st, .slice pa pts.length pc] 24))) := by show Below _ _ _; go_grown
  have HRB := Lib.hid (heap_alloc_new w (Obj.cells #[.int .i64 st, .slice pa pts.length pc] 24))
  have hz : (w.alloc (Obj.cells #[.int .i64 st, .slice pa pts.length pc] 24)).heap.size = w.heap.size + 1 := by simp
  have HI : Hid ((∀ a b, a ≤ b → b < pts.length → noneB ⟨st, pts⟩ x a b = false) ↔ crossB ⟨x, pts⟩ = false) := (none_fits ⟨st, pts⟩ x).trans (cross_fits ⟨x, pts⟩ hx0).symm
  go_enter Try.func53, Try.ntmps53
  go_wp2_with fail
  generalize w.alloc (Obj.cells #[.int .i64 st, .slice pa pts.length pc] 24) = w0 at *
  go_loopg [5] pts.length (fun g i wr => ∃ k : Nat, g + k = pts.length ∧ i = .int .i64 k ∧ Hid (∀ a b, a ≤ b → b < pts.length → a < k → noneB ⟨st, pts⟩ x a b = false) ∧ Hid (Below w0.heap.size w0 wr))
  case atStart => exact ⟨0, rfl, rfl, fun a b _ _ h => absurd h (by omega), Below.refl _ _⟩
  case round =>
    obtain ⟨k, hk, rfl, HE, HR⟩ := hrel
    have r0 := cellOf ((HR.out.block _ (lt_of_block HRB.out)).trans HRB.out) 0 _ rfl
    have r1 := cellOf ((HR.out.block _ (lt_of_block HRB.out)).trans HRB.out) 1 _ rfl
    by_cases hlt : k < pts.length
    · have kI : (k : Int) < (pts.length : Int) := by omega
      obtain ⟨g', rfl⟩ : ∃ g', gk = g' + 1 := ⟨gk - 1, by omega⟩
      go_wp2_with fail
      clear r0 r1
      go_loopg [6] (pts.length - k) (fun g2 i2 wq => ∃ j : Nat, g2 + j = pts.length ∧ k ≤ j ∧ i2 = .int .i64 j ∧ Hid (∀ b, k ≤ b → b < j → noneB ⟨st, pts⟩ x k b = false) ∧ Hid (Below w0.heap.size w0 wq))
      case atStart => exact ⟨k, by omega, Nat.le_refl _, rfl, fun b h1 h2 => absurd h2 (by omega), HR.out⟩
      case round =>
        clear HR
        obtain ⟨j, hj, hkj, rfl, HE2, HR⟩ := hrel
        have r0 := cellOf ((HR.out.block _ (lt_of_block HRB.out)).trans HRB.out) 0 _ rfl
        have r1 := cellOf ((HR.out.block _ (lt_of_block HRB.out)).trans HRB.out) 1 _ rfl
        by_cases hlt2 : j < pts.length
        · have jI : (j : Int) < (pts.length : Int) := by omega
          have HC := Lib.hid (none_any ⟨st, pts⟩ (.slice pa pts.length pc) x k j hx0 hx9 hlt hlt2 h10 HOK.out wr ((HP.out.below HW0.out).below HR.out))
          obtain ⟨B, HB⟩ : ∃ B, Hid (noneB ⟨st, pts⟩ x k j = B) := ⟨_, rfl⟩
          rw [HB.out] at HC
          go_wp2_with fail
          refine HC.out.mono ?_
          rintro e w2 ⟨rfl, hb⟩
          have HR2 := Lib.hid (HR.out.trans (hb.mono HR.out.size))
          clear hb HC r0 r1
          cases B
          · have HE3 : Hid (∀ b, k ≤ b → b < j + 1 → noneB ⟨st, pts⟩ x k b = false) := fun b h1 h2 => by
              by_cases q : b = j
              · subst q; exact HB.out
              · exact HE2.out b h1 (by omega)
            clear HE2
            go_wp2
            go_roundg (gk - 1)
            case measure => omega
            case rel => exact ⟨j + 1, by omega, by omega, by go_num, HE3.out, HR2⟩
          · have HX : Hid (crossB ⟨x, pts⟩ = true) := by
              cases hc : crossB ⟨x, pts⟩
              · have := HI.out.2 hc k j hkj hlt2
                rw [HB.out] at this
                cases this
              · exact rfl
            clear HE2
            go_wp2
            go_ret
            exact ⟨by rw [HX.out]; rfl, HW0.out.trans (HR2.out.mono HW0.out.size)⟩
        · have HE3 : Hid (∀ a b, a ≤ b → b < pts.length → a < k + 1 → noneB ⟨st, pts⟩ x a b = false) := fun a b hab hb ha => by
            by_cases q : a = k
            · subst q; exact HE2.out b hab (by omega)
            · exact HE.out a b hab hb (by omega)
          obtain rfl : j = pts.length := by omega
          clear hlt2 hj HE2 HE
          go_wp2
          go_roundg g'
          case measure => omega
          case rel => exact ⟨k + 1, by omega, by go_num, HE3.out, HR⟩
    · have HX : Hid (crossB ⟨x, pts⟩ = false) := HI.out.1 fun a b hab hb => HE.out a b hab hb (by omega)
      obtain rfl : k = pts.length := by omega
      clear hlt hk HE
      go_wp2
      go_ret
      exact ⟨by rw [HX.out]; rfl, HW0.out.trans (HR.out.mono HW0.out.size)⟩
end Go.Proofs.Ytnciomoapajonaa
namespace Go.Proofs.Ytnciomoapajonaa
open Go Go.RowKit Go.Shelf Cv

theorem rbehind_both (st : Int) (pts : List Pt) (pb po : Nat) (pc : Nat) (i : Nat) (q : Bool) (nv : Value) (w : World) (hP : PtsAt w (.slice (some ⟨pb, po, none⟩) pts.length pc) pts) (hv : Valid ⟨st, pts⟩)
    (h : (i + 1 = pts.length ∧ nv = .slice none 0 0) ∨ (i + 1 < pts.length ∧ ∃ B0 l, RsIn B0 w nv l ∧ l.map (·.2) = restsAt st q pts (i + 1))) :
    Calls Try.prog 72 #[.agg #[.int .i64 st, .slice (some ⟨pb, po, none⟩) pts.length pc], .int .i64 i, nv, .bool q] w (BehindP st q pts i w) := by
  rcases h with ⟨h, rfl⟩ | ⟨h, B0, l, h1, h2⟩
  · exact rbehind_last st pts pb po pc i q w hP hv h
  · exact rbehind_any st pts pb po pc i q nv l B0 w hP hv h h1 h2
theorem bestR_ok (r : Row) (q : Bool) (h : boundE r = 0) : refL r.st q r.pts none = some ((bestR r q).1, ((bestR r q).2.1, (bestR r q).2.2.1)) ∧ (bestR r q).2.2.2 = 0 := by
  obtain ⟨h1, h2⟩ := boundE_ok h
  have h3 := best_is r ((check_valid _).1 h1) h2 q
  unfold bestR
  rw [if_pos h]
  exact ⟨h3, rfl⟩
theorem bestR_no (r : Row) (q : Bool) (h : boundE r ≠ 0) : bestR r q = ([], 0, 0, boundE r) := by
  unfold bestR
  rw [if_neg h]
theorem four_other {w : World} {g b : Nat} {a c p m : Value} {x : Obj} (h : w.heap[b]? = some x) (hne : b ≠ g) : ((((w.setCell ⟨g, 0, none⟩ a).setCell ⟨g, 1, none⟩ c).setCell ⟨g, 2, none⟩ p).setCell ⟨g, 3, none⟩ m).heap[b]? = some x := by
  rw [heap_setCell_other _ (⟨g, 3, none⟩ : Addr) b _ (by show b ≠ g; exact hne), heap_setCell_other _ (⟨g, 2, none⟩ : Addr) b _ (by show b ≠ g; exact hne), heap_setCell_other _ (⟨g, 1, none⟩ : Addr) b _ (by show b ≠ g; exact hne), heap_setCell_other _ (⟨g, 0, none⟩ : Addr) b _ (by show b ≠ g; exact hne)]
  exact h
def BestP (x : List Int × Int × Int × Int) (w : World) (e : Ending) (w' : World) : Prop := ∃ v, e = .returned (.tuple #[v, .int .i64 x.2.1, .int .i64 x.2.2.1, .int .i64 x.2.2.2]) ∧ w'.ownsRow w.heap.size 3 1 v x.1.length (x.1.map (Value.int .i64)) ∧ Below w.heap.size w w'
set_option maxRecDepth 100000 in
set_option maxHeartbeats 16000000 in
theorem rbest_no (r : Row) (q : Bool) (pv : Value) (w : World) (hP : PtsAt w pv r.pts) (hz : errR r ≠ 0) :
    Calls Try.prog 37 #[.agg #[.int .i64 r.st, pv], .bool q] w (BestP (bestR r q) w) := by
  obtain ⟨st, pts⟩ := r
  simp only at hP ⊢
  obtain ⟨lp, pa, pc, rfl, _, _⟩ := id hP
  have HP := Lib.hid hP
  clear hP
  have HW0 : Hid (Below w.heap.size w (w.alloc (Obj.cells #[.int .i64 st, .slice pa pts.length pc] 24))) := by show Below _ _ _; go_grown
  have HRB := Lib.hid (heap_alloc_new w (Obj.cells #[.int .i64 st, .slice pa pts.length pc] 24))
  have HC := Lib.hid (rcheck_any ⟨st, pts⟩ (.slice pa pts.length pc) (w.alloc (Obj.cells #[.int .i64 st, .slice pa pts.length pc] 24)) (HP.out.below HW0.out))
  obtain ⟨c1, HC1⟩ : ∃ c, Hid ((checkR ⟨st, pts⟩).1 = c) := ⟨_, rfl⟩
  obtain ⟨c2, HC2⟩ : ∃ c, Hid ((checkR ⟨st, pts⟩).2.1 = c) := ⟨_, rfl⟩
  obtain ⟨c3, HC3⟩ : ∃ c, Hid ((checkR ⟨st, pts⟩).2.2 = c) := ⟨_, rfl⟩
  have HE : Hid (errR ⟨st, pts⟩ = c3) := by show _ = _; unfold errR; rw [HC3.out]
  rw [HC1.out, HC2.out, HC3.out] at HC
  clear HC1 HC2 HC3
  have hb0 : boundE ⟨st, pts⟩ ≠ 0 := by unfold boundE; rw [if_neg hz]; exact hz
  have HBN : Hid (bestR ⟨st, pts⟩ q = ([], 0, 0, c3)) := by show _ = _; rw [bestR_no _ _ hb0]; unfold boundE; rw [if_neg hz, HE.out]
  rw [HE.out] at hz
  have t1 : (c3 == 0) = false := by simp [hz]
  have t2 : (c3 != 0) = true := by simp [hz]
  clear hb0
  go_enter Try.func37, Try.ntmps37
  go_wp2_with fail
  refine HC.out.mono ?_
  rintro e w0 ⟨rfl, hb⟩
  have HB0 := Lib.hid (HW0.out.trans (hb.mono HW0.out.size))
  clear hb HC HRB HW0
  go_wp2_with fail
  refine bodyPost_ret (results_tmp4 rfl _ _ _) rfl ?_
  rw [HBN.out]
  exact ⟨_, rfl, World.ownsRow_nil _ _ _ _, HB0.out⟩
set_option maxRecDepth 100000 in
set_option maxHeartbeats 16000000 in
theorem rbest_down (st : Int) (pts : List Pt) (pb po : Nat) (pc : Nat) (q : Bool) (w : World) (hP : PtsAt w (.slice (some ⟨pb, po, none⟩) pts.length pc) pts) (hz : errR ⟨st, pts⟩ = 0) (hc : crossB ⟨st, pts⟩ = true) :
    Calls Try.prog 37 #[.agg #[.int .i64 st, .slice (some ⟨pb, po, none⟩) pts.length pc], .bool q] w (BestP (bestR ⟨st, pts⟩ q) w) := by
  have hb0 : boundE ⟨st, pts⟩ = 9 := by unfold boundE; rw [if_pos hz, if_pos hc]
  have HBN : Hid (bestR ⟨st, pts⟩ q = ([], 0, 0, 9)) := by show _ = _; rw [bestR_no _ _ (by rw [hb0]; decide), hb0]
  clear hb0
  have HP := Lib.hid hP
  clear hP
  have HW0 : Hid (Below w.heap.size w (w.alloc (Obj.cells #[.int .i64 st, .slice (some ⟨pb, po, none⟩) pts.length pc] 24))) := by show Below _ _ _; go_grown
  have HRB := Lib.hid (heap_alloc_new w (Obj.cells #[.int .i64 st, .slice (some ⟨pb, po, none⟩) pts.length pc] 24))
  have HC := Lib.hid (rcheck_any ⟨st, pts⟩ (.slice (some ⟨pb, po, none⟩) pts.length pc) (w.alloc (Obj.cells #[.int .i64 st, .slice (some ⟨pb, po, none⟩) pts.length pc] 24)) (HP.out.below HW0.out))
  have HE3 : Hid ((checkR ⟨st, pts⟩).2.2 = 0) := hz
  obtain ⟨c1, HC1⟩ : ∃ c, Hid ((checkR ⟨st, pts⟩).1 = c) := ⟨_, rfl⟩
  obtain ⟨c2, HC2⟩ : ∃ c, Hid ((checkR ⟨st, pts⟩).2.1 = c) := ⟨_, rfl⟩
  rw [HC1.out, HC2.out, HE3.out] at HC
  clear HC1 HC2 HE3
  have HV := Lib.hid ((check_valid _).1 hz)
  have h10 : pts.length ≤ 10 := HV.out.n10
  have h1 : 1 ≤ pts.length := HV.out.n1
  go_enter Try.func37, Try.ntmps37
  go_wp2_with fail
  refine HC.out.mono ?_
  rintro e w0 ⟨rfl, hb⟩
  have HB0 := Lib.hid (HW0.out.trans (hb.mono HW0.out.size))
  have HR0 := Lib.hid ((hb.block _ (lt_of_block HRB.out)).trans HRB.out)
  clear hb HC HRB HW0
  have r0 := cellOf HR0.out 0 _ rfl
  have r1 := cellOf HR0.out 1 _ rfl
  have rl := lt_of_block HR0.out
  go_wp2_with fail
  have HSA := Lib.hid (some_any ⟨st, pts⟩ (.slice (some ⟨pb, po, none⟩) pts.length pc) st HV.out.s0 (by have : st ≤ 200 := HV.out.s200; omega) h10 HV.out.ok w0 (HP.out.below HB0.out))
  simp only [hc] at HSA
  refine HSA.out.mono ?_
  rintro e w1 ⟨rfl, hb⟩
  have HB1 := Lib.hid (HB0.out.trans (hb.mono HB0.out.size))
  have HR1 := Lib.hid ((hb.block _ (lt_of_block HR0.out)).trans HR0.out)
  have HP1 := Lib.hid (HP.out.below HB1.out)
  clear hb HSA HR0 HB0 r0 r1 rl HP
  go_wp2_with fail
  refine bodyPost_ret (results_tmp4 rfl _ _ _) rfl ?_
  rw [HBN.out]
  exact ⟨_, rfl, World.ownsRow_nil _ _ _ _, HB1.out⟩
set_option maxRecDepth 100000 in
set_option maxHeartbeats 16000000 in
theorem rbest_ok (st : Int) (pts : List Pt) (pb po : Nat) (pc : Nat) (q : Bool) (w : World) (hP : PtsAt w (.slice (some ⟨pb, po, none⟩) pts.length pc) pts) (hz : errR ⟨st, pts⟩ = 0) (hc : crossB ⟨st, pts⟩ = false) :
    Calls Try.prog 37 #[.agg #[.int .i64 st, .slice (some ⟨pb, po, none⟩) pts.length pc], .bool q] w (BestP (bestR ⟨st, pts⟩ q) w) := by
  obtain ⟨i0, hi0⟩ := info_of_underlying Try.underlying3
  have HJ0 : Hid (i0.zero = some (.int .i64 0) ∧ i0.size = 1 ∧ i0.bytes = 8) := by
    have h := intInfo
    rw [hi0] at h
    simp at h
    exact h
  have hb0 : boundE ⟨st, pts⟩ = 0 := by unfold boundE; rw [if_pos hz, hc]; rfl
  have HBK := Lib.hid (bestR_ok ⟨st, pts⟩ q hb0)
  clear hb0
  have HP := Lib.hid hP
  clear hP
  have HW0 : Hid (Below w.heap.size w (w.alloc (Obj.cells #[.int .i64 st, .slice (some ⟨pb, po, none⟩) pts.length pc] 24))) := by show Below _ _ _; go_grown
  have HRB := Lib.hid (heap_alloc_new w (Obj.cells #[.int .i64 st, .slice (some ⟨pb, po, none⟩) pts.length pc] 24))
  have HC := Lib.hid (rcheck_any ⟨st, pts⟩ (.slice (some ⟨pb, po, none⟩) pts.length pc) (w.alloc (Obj.cells #[.int .i64 st, .slice (some ⟨pb, po, none⟩) pts.length pc] 24)) (HP.out.below HW0.out))
  have HE3 : Hid ((checkR ⟨st, pts⟩).2.2 = 0) := hz
  obtain ⟨c1, HC1⟩ : ∃ c, Hid ((checkR ⟨st, pts⟩).1 = c) := ⟨_, rfl⟩
  obtain ⟨c2, HC2⟩ : ∃ c, Hid ((checkR ⟨st, pts⟩).2.1 = c) := ⟨_, rfl⟩
  rw [HC1.out, HC2.out, HE3.out] at HC
  clear HC1 HC2 HE3
  have HV := Lib.hid ((check_valid _).1 hz)
  have h10 : pts.length ≤ 10 := HV.out.n10
  have h1 : 1 ≤ pts.length := HV.out.n1
  go_enter Try.func37, Try.ntmps37
  go_wp2_with fail
  refine HC.out.mono ?_
  rintro e w0 ⟨rfl, hb⟩
  have HB0 := Lib.hid (HW0.out.trans (hb.mono HW0.out.size))
  have HR0 := Lib.hid ((hb.block _ (lt_of_block HRB.out)).trans HRB.out)
  clear hb HC HRB HW0
  have r0 := cellOf HR0.out 0 _ rfl
  have r1 := cellOf HR0.out 1 _ rfl
  have rl := lt_of_block HR0.out
  go_wp2_with fail
  have HSA := Lib.hid (some_any ⟨st, pts⟩ (.slice (some ⟨pb, po, none⟩) pts.length pc) st HV.out.s0 (by have : st ≤ 200 := HV.out.s200; omega) h10 HV.out.ok w0 (HP.out.below HB0.out))
  simp only [hc] at HSA
  refine HSA.out.mono ?_
  rintro e w1 ⟨rfl, hb⟩
  have HB1 := Lib.hid (HB0.out.trans (hb.mono HB0.out.size))
  have HR1 := Lib.hid ((hb.block _ (lt_of_block HR0.out)).trans HR0.out)
  have HP1 := Lib.hid (HP.out.below HB1.out)
  clear hb HSA HR0 HB0 r0 r1 rl HP
  have r0 := cellOf HR1.out 0 _ rfl
  have r1 := cellOf HR1.out 1 _ rfl
  have rl := lt_of_block HR1.out
  go_wp2_with fail
  clear r0 r1 rl
  go_loopg [11, 12] pts.length (fun g v a wr => ∃ (l : List (Value × Rst)), g ≤ pts.length ∧ a = .int .i64 ((g : Int) - 1) ∧ Hid (g = pts.length → v = .slice none 0 0) ∧ Hid (g < pts.length → l.map (·.2) = restsAt st q pts g) ∧ Hid (RsIn w1.heap.size wr v l) ∧ Hid (Below w1.heap.size w1 wr))
  case atStart => exact ⟨[], Nat.le_refl _, rfl, fun _ => rfl, fun h => absurd h (Nat.lt_irrefl _), RsIn.nil _ _, Below.refl _ _⟩
  case round =>
    obtain ⟨l, hg, rfl, HG1, HG2, HM, HR⟩ := hrel
    have HRR := Lib.hid ((HR.out.block _ (lt_of_block HR1.out)).trans HR1.out)
    have r0 := cellOf HRR.out 0 _ rfl
    have r1 := cellOf HRR.out 1 _ rfl
    have rl := lt_of_block HRR.out
    obtain ⟨na, nc, hnv⟩ := HM.out.shape
    subst hnv
    rcases Nat.eq_zero_or_pos gk with hg0 | hg0
    · subst hg0
      have hMP := HG2.out h1
      have hnv := HM.out
      have hpd : pts = pts[0] :: pts.drop 1 := by have h := List.drop_eq_getElem_cons (show 0 < pts.length by omega); simpa using h
      have g1 : pts.getD 0 default = pts[0] := by simp [List.getD_eq_getElem?_getD, show 0 < pts.length by omega]
      have hRB := restsAt_rbd st q pts h10 HV.out.ok 0
      have hll : l.length = (pts[0].hi - pts[0].lo + 1).toNat := by have := congrArg List.length hMP; rw [List.length_map, restsAt_length, g1] at this; exact this
      have HRB : Hid (∀ x, x ∈ l → RBd x.2) := fun x hx => hRB x.2 (by rw [← hMP]; exact List.mem_map_of_mem hx)
      have HLK : Hid (∀ (k : Nat) (h : k < l.length), l[k].2 = refL st q (pts.drop 1) (some (pts[0], pts[0].lo + (k : Int)))) := fun k h => by
        have e : (l.map (·.2))[k]? = some l[k].2 := by simp [h]
        rw [hMP, restsAt, g1, List.getElem?_map, List.getElem?_range (by rw [← hll]; exact h)] at e
        simpa using e.symm
      obtain ⟨PO, HPO⟩ : ∃ PO : Nat → Rst, Hid (PO = partO q (fun h => candO st none pts[0] h (refL st q (pts.drop 1) (some (pts[0], h)))) pts[0].lo) := ⟨_, Lib.hid rfl⟩
      have HPL : Hid (PO l.length = refL st q pts none) := by show _ = _; rw [HPO.out, hll, partO_all, ← hpd]
      obtain ⟨a0, a9, al0, al9, ah0, ah9, ale, _⟩ := HV.out.ok pts[0] (List.getElem_mem _)
      obtain ⟨b1', o1', e1, c0, c1, c2⟩ := (HP1.out.below HR.out).get (show 0 < pts.length by omega)
      simp only [Option.some.injEq, Addr.mk.injEq, and_true] at e1
      obtain ⟨rfl, rfl⟩ := e1
      simp only [Nat.zero_mul, Nat.add_zero] at c0 c1 c2
      clear hMP hpd g1 hRB HG1 HG2 hnv
      generalize pts.drop 1 = rest at *
      generalize pts[0] = p at *
      obtain ⟨bd, lo, hi'⟩ := p
      simp only at a0 a9 al0 al9 ah0 ah9 ale c0 c1 c2 hll HLK HPO HPL
      obtain ⟨L, hL⟩ : ∃ L, l.length = L := ⟨_, rfl⟩
      rw [hL] at HM hll HPL ⊢
      have HLE := Lib.hid hL
      have HLI : Hid ((L : Int) = hi' - lo + 1) := by show _ = _; omega
      clear hL hll
      obtain ⟨wq, hwq⟩ : ∃ wq, wr = wq := ⟨_, rfl⟩
      rw [hwq] at c0 c1 c2 HM HR HRR r0 r1 rl ⊢
      clear hwq
      obtain ⟨wo, hwo, hq1, hq2, hb, hsz⟩ := al2 wq (Obj.cells #[.bool false, .slice none 0 0, .int .i64 0, .int .i64 0] 110) (Obj.cells #[.int .i64 bd, .int .i64 lo, .int .i64 hi'] 58)
      have HWO := Lib.hid hwo
      have HQ1 := Lib.hid hq1
      have HQ2 := Lib.hid hq2
      have HBO := Lib.hid hb
      have HOS := Lib.hid hsz
      clear hwo hq1 hq2 hb hsz
      have hpb := World.block_lt_of_cell? wq ⟨pb, po, none⟩ c0
      have hn0 : (0 : Int) < (pts.length : Int) := by omega
      have HP0 : Hid (PO 0 = none) := by show _ = _; rw [HPO.out]; rfl
      go_wp2_with fail
      rw [HWO.out]
      clear HWO c0 c1 c2 hpb r0 r1 rl hn0
      go_loopg [15] L (fun g v wi => ∃ (kk : Nat) (ua : Option Addr) (un uc : Nat), g + kk = L ∧ v = .int .i64 kk ∧ Hid (BestIn wq.heap.size wq.heap.size wi (PO kk) ua un uc) ∧ Hid (wi.heap[wq.heap.size + 1]? = some (Obj.cells #[.int .i64 bd, .int .i64 lo, .int .i64 hi'] 58)) ∧ Hid (Below wq.heap.size wq wi) ∧ Hid (wq.heap.size + 2 ≤ wi.heap.size))
      case atStart => exact ⟨0, none, 0, 0, by omega, rfl, by show BestIn _ _ _ _ _ _ _; rw [HP0.out]; exact ⟨HQ1.out, World.ownsRow_nil _ _ _ _⟩, HQ2, HBO, by show _ ≤ _; have := HOS.out; omega⟩
      case round =>
        obtain ⟨kk, ua, un, uc, hkk, rfl, HBI, HQI, HWI, HSZ⟩ := hrel
        obtain ⟨wi, hwi⟩ : ∃ wi, wr = wi := ⟨_, rfl⟩
        rw [hwi] at HBI HQI HWI HSZ ⊢
        clear hwi
        have HNI := Lib.hid (HM.out.up HWI.out)
        have hLI := HLI.out
        by_cases hkL : kk < L
        · have hkL' : kk < l.length := by rw [HLE.out]; exact hkL
          obtain ⟨ng, rfl, hng, hcell⟩ := HNI.out.get hkL'
          have hsurf := HNI.out.surf hkL'
          have hX := HLK.out kk hkL'
          have hrb := HRB.out l[kk] (List.getElem_mem hkL')
          generalize l[kk] = X at *
          obtain ⟨uv, c⟩ := X
          simp only at hcell hsurf hX hrb
          obtain ⟨sa, sc, rfl⟩ := own_slice hsurf
          obtain ⟨o, ho⟩ : ∃ o : Int, lo + (kk : Int) = o := ⟨_, rfl⟩
          rw [ho] at hX
          have o0 : lo ≤ o := by omega
          have o9 : o ≤ hi' := by omega
          clear hLI
          have so : IntKind.i64.wrap (lo + (kk : Int)) = o := by rw [IntKind.wrap_i64] <;> omega
          have kI : (kk : Int) < (L : Int) := by omega
          have n0 := hcell 0 (by omega)
          have n1 := hcell 1 (by omega)
          have n2 := hcell 2 (by omega)
          have n3 := hcell 3 (by omega)
          simp only [Nat.add_zero] at n0
          have nl : ng < wi.heap.size := by cases c <;> exact World.block_lt_of_cell? wi ⟨ng, kk * 4, none⟩ n0
          clear hcell
          have y0 := cellOf HQI.out 0 _ rfl
          have y1 := cellOf HQI.out 1 _ rfl
          have yl := lt_of_block HQI.out
          cases c with
          | none =>
            have HPN : Hid (PO (kk + 1) = PO kk) := by show _ = _; rw [HPO.out]; exact partO_none (by show candO _ _ _ _ _ = _; rw [ho, ← hX]; exact candO_none _ _ _ _)
            replace n0 : wi.cell? ⟨ng, kk * 4, none⟩ = some (.bool false) := n0
            clear n1 n2 n3 hsurf hX hrb
            go_wp2
            go_roundg (gk - 1)
            case measure => omega
            case rel => exact ⟨kk + 1, ua, un, uc, by omega, by go_num, by show BestIn _ _ _ _ _ _ _; rw [HPN.out]; exact HBI.out, HQI, HWI, HSZ⟩
          | some y =>
            obtain ⟨s, pl, mn⟩ := y
            replace n0 : wi.cell? ⟨ng, kk * 4, none⟩ = some (.bool true) := n0
            replace n1 : wi.cell? ⟨ng, kk * 4 + 1, none⟩ = some (.slice sa s.length sc) := n1
            replace n2 : wi.cell? ⟨ng, kk * 4 + 2, none⟩ = some (.int .i64 pl) := n2
            replace n3 : wi.cell? ⟨ng, kk * 4 + 3, none⟩ = some (.int .i64 mn) := n3
            obtain ⟨s10, pl0, pl9, mn0, mn9⟩ := hrb _ rfl
            simp only at s10 pl0 pl9 mn0 mn9
            have hsurf : wi.ownsRow w1.heap.size 3 1 (.slice sa s.length sc) s.length (s.map (Value.int .i64)) := hsurf
            have HSF := Lib.hid (intsAt_own hsurf (by omega))
            clear hsurf hrb
            obtain ⟨fl, hfl⟩ : ∃ fl, max 0 (o - bd) = fl := ⟨_, rfl⟩
            obtain ⟨ml, hml⟩ : ∃ ml, max 0 (bd - o) = ml := ⟨_, rfl⟩
            have HPS : Hid (PO (kk + 1) = betO q (PO kk) (o :: s, (pl + fl, mn + ml))) := by show _ = _; rw [HPO.out, ← hfl, ← hml]; exact partO_some (by show candO _ _ _ _ _ = _; rw [ho, ← hX]; exact candO_first _ _ _ _)
            have fl0 : 0 ≤ fl := by omega
            have fl9 : fl ≤ 9000 := by omega
            have ml0 : 0 ≤ ml := by omega
            have ml9 : ml ≤ 9000 := by omega
            obtain ⟨PL, hPL⟩ : ∃ P, pl + fl = P := ⟨_, rfl⟩
            obtain ⟨MN, hMN⟩ : ∃ M, mn + ml = M := ⟨_, rfl⟩
            rw [hPL, hMN] at HPS
            have s1 : IntKind.i64.wrap (o - bd) = o - bd := by rw [IntKind.wrap_i64] <;> omega
            have s2 : IntKind.i64.wrap (pl + fl) = PL := by rw [IntKind.wrap_i64] <;> omega
            have s3 : IntKind.i64.wrap (bd - o) = bd - o := by rw [IntKind.wrap_i64] <;> omega
            have s4 : IntKind.i64.wrap (mn + ml) = MN := by rw [IntKind.wrap_i64] <;> omega
            obtain ⟨sl, hsl⟩ : ∃ sl, s.length = sl := ⟨_, rfl⟩
            obtain ⟨sl1, hsl1⟩ : ∃ m, 1 + sl = m := ⟨_, rfl⟩
            rw [hsl] at n1 HSF s10
            have HSL1 := Lib.hid hsl1
            have HSL := Lib.hid hsl
            have HMNe := Lib.hid hMN
            have HPLe := Lib.hid hPL
            clear hX hMN hPL hsl hsl1
            go_wp2_with fail
            clear so n0 y1
            go_cut [17] (fun v wx => ∃ (g : Nat) (va : Option Addr) (vc : Nat), v = .pointer (some ⟨g, 0, none⟩) ∧ wi.heap.size ≤ g ∧ wx.heap[g]? = some (.cells #[.bool true, .slice va sl1 vc, .int .i64 PL, .int .i64 MN] 110 (0, 0)) ∧ wx.ownsRow wi.heap.size 3 1 (.slice va sl1 vc) sl1 ((o :: s).map (Value.int .i64)) ∧ Below wi.heap.size wi wx)
            case first =>
              refine wp_region_noPanic ?_
              refine wp_region_held_drew (S := (fun W' => W'.cell? ⟨ng, kk * 4 + 1, none⟩ = some (.slice sa sl sc) ∧ W'.cell? ⟨ng, kk * 4 + 2, none⟩ = some (.int .i64 pl) ∧ W'.cell? ⟨ng, kk * 4 + 3, none⟩ = some (.int .i64 mn) ∧ W'.cell? ⟨wq.heap.size + 1, 0, none⟩ = some (.int .i64 bd))) (by kernel_rfl) ?_ (fun hh0 => ?_)
              · try dsimp only
                exact ⟨n1, n2, n3, y0⟩
              refine wpAnyH_take (i := 0) (v := ?_) rfl (by as_aux_lemma => kernel_rfl) (by as_aux_lemma => kernel_rfl) (by as_aux_lemma => kernel_rfl) (fun _ _ _ h => h) (Or.inl ⟨by rfl, ?_⟩) (by assumption) ?_
              rotate_left
              · intro w hSw
                try dsimp only at hSw
                go_simp
                try with_reducible rfl
              try simp only [Act.put, List.getElem_toArray, List.getElem_cons_succ, List.getElem_cons_zero, List.setIfInBounds_toArray, List.set_cons_zero, List.set_cons_succ]
              refine wpAnyH_take (i := 2) (v := ?_) rfl (by as_aux_lemma => kernel_rfl) (by as_aux_lemma => kernel_rfl) (by as_aux_lemma => kernel_rfl) (fun _ _ _ h => h) (Or.inl ⟨by rfl, ?_⟩) (by assumption) ?_
              rotate_left
              · intro w hSw
                try dsimp only at hSw
                go_simp
                try with_reducible rfl
              try simp only [Act.put, List.getElem_toArray, List.getElem_cons_succ, List.getElem_cons_zero, List.setIfInBounds_toArray, List.set_cons_zero, List.set_cons_succ]
              refine wpAnyH_take (i := 3) (v := ?_) rfl (by as_aux_lemma => kernel_rfl) (by as_aux_lemma => kernel_rfl) (by as_aux_lemma => kernel_rfl) (fun _ _ _ h => h) (Or.inl ⟨by rfl, ?_⟩) (by assumption) ?_
              rotate_left
              · intro w hSw
                try dsimp only at hSw
                go_simp
                try with_reducible rfl
              try simp only [Act.put, List.getElem_toArray, List.getElem_cons_succ, List.getElem_cons_zero, List.setIfInBounds_toArray, List.set_cons_zero, List.set_cons_succ]
              refine wpAnyH_take (i := 4) (v := ?_) rfl (by as_aux_lemma => kernel_rfl) (by as_aux_lemma => kernel_rfl) (by as_aux_lemma => kernel_rfl) (fun _ _ _ h => h) (Or.inl ⟨by rfl, ?_⟩) (by assumption) ?_
              rotate_left
              · intro w hSw
                try dsimp only at hSw
                go_simp
                try with_reducible rfl
              try simp only [Act.put, List.getElem_toArray, List.getElem_cons_succ, List.getElem_cons_zero, List.setIfInBounds_toArray, List.set_cons_zero, List.set_cons_succ]
              refine wpAnyH_take (i := 5) (v := ?_) rfl (by as_aux_lemma => kernel_rfl) (by as_aux_lemma => kernel_rfl) (by as_aux_lemma => kernel_rfl) (fun _ _ _ h => h) (Or.inl ⟨by rfl, ?_⟩) (by assumption) ?_
              rotate_left
              · intro w hSw
                try dsimp only at hSw
                go_simp
                try with_reducible rfl
              try simp only [Act.put, List.getElem_toArray, List.getElem_cons_succ, List.getElem_cons_zero, List.setIfInBounds_toArray, List.set_cons_zero, List.set_cons_succ]
              refine wpAnyH_take (i := 6) (v := ?_) rfl (by as_aux_lemma => kernel_rfl) (by as_aux_lemma => kernel_rfl) (by as_aux_lemma => kernel_rfl) (fun _ _ _ h => h) (Or.inl ⟨by rfl, ?_⟩) (by assumption) ?_
              rotate_left
              · intro w hSw
                try dsimp only at hSw
                go_simp
                try with_reducible rfl
              try simp only [Act.put, List.getElem_toArray, List.getElem_cons_succ, List.getElem_cons_zero, List.setIfInBounds_toArray, List.set_cons_zero, List.set_cons_succ]
              refine wpAnyH_take (i := 8) (v := ?_) rfl (by as_aux_lemma => kernel_rfl) (by as_aux_lemma => kernel_rfl) (by as_aux_lemma => kernel_rfl) (fun _ _ _ h => h) (Or.inl ⟨by rfl, ?_⟩) (by assumption) ?_
              rotate_left
              · intro w hSw
                try dsimp only at hSw
                go_simp
                try with_reducible rfl
              try simp only [Act.put, List.getElem_toArray, List.getElem_cons_succ, List.getElem_cons_zero, List.setIfInBounds_toArray, List.set_cons_zero, List.set_cons_succ]
              refine wpAnyH_take (i := 9) (v := ?_) rfl (by as_aux_lemma => kernel_rfl) (by as_aux_lemma => kernel_rfl) (by as_aux_lemma => kernel_rfl) (fun _ _ _ h => h) (Or.inl ⟨by rfl, ?_⟩) (by assumption) ?_
              rotate_left
              · intro w hSw
                try dsimp only at hSw
                go_simp
                try with_reducible rfl
              try simp only [Act.put, List.getElem_toArray, List.getElem_cons_succ, List.getElem_cons_zero, List.setIfInBounds_toArray, List.set_cons_zero, List.set_cons_succ]
              refine wpAnyH_take (i := 10) (v := ?_) rfl (by as_aux_lemma => kernel_rfl) (by as_aux_lemma => kernel_rfl) (by as_aux_lemma => kernel_rfl) (fun _ _ _ h => h) (Or.inl ⟨by rfl, ?_⟩) (by assumption) ?_
              rotate_left
              · intro w hSw
                try dsimp only at hSw
                go_simp
                try with_reducible rfl
              try simp only [Act.put, List.getElem_toArray, List.getElem_cons_succ, List.getElem_cons_zero, List.setIfInBounds_toArray, List.set_cons_zero, List.set_cons_succ]
              refine wpAnyH_take (i := 11) (v := ?_) rfl (by as_aux_lemma => kernel_rfl) (by as_aux_lemma => kernel_rfl) (by as_aux_lemma => kernel_rfl) (fun _ _ _ h => h) (Or.inl ⟨by rfl, ?_⟩) (by assumption) ?_
              rotate_left
              · intro w hSw
                try dsimp only at hSw
                go_simp
                try with_reducible rfl
              try simp only [Act.put, List.getElem_toArray, List.getElem_cons_succ, List.getElem_cons_zero, List.setIfInBounds_toArray, List.set_cons_zero, List.set_cons_succ]
              refine wpAnyH_take (i := 12) (v := ?_) rfl (by as_aux_lemma => kernel_rfl) (by as_aux_lemma => kernel_rfl) (by as_aux_lemma => kernel_rfl) (fun _ _ _ h => h) (Or.inl ⟨by rfl, ?_⟩) (by assumption) ?_
              rotate_left
              · intro w hSw
                try dsimp only at hSw
                go_simp
                try with_reducible rfl
              try simp only [Act.put, List.getElem_toArray, List.getElem_cons_succ, List.getElem_cons_zero, List.setIfInBounds_toArray, List.set_cons_zero, List.set_cons_succ]
              refine wpAnyH_take (i := 13) (v := ?_) rfl (by as_aux_lemma => kernel_rfl) (by as_aux_lemma => kernel_rfl) (by as_aux_lemma => kernel_rfl) (fun _ _ _ h => h) (Or.inl ⟨by rfl, ?_⟩) (by assumption) ?_
              rotate_left
              · intro w hSw
                try dsimp only at hSw
                go_simp
                try with_reducible rfl
              try simp only [Act.put, List.getElem_toArray, List.getElem_cons_succ, List.getElem_cons_zero, List.setIfInBounds_toArray, List.set_cons_zero, List.set_cons_succ]
              refine wpAnyH_take (i := 14) (v := ?_) rfl (by as_aux_lemma => kernel_rfl) (by as_aux_lemma => kernel_rfl) (by as_aux_lemma => kernel_rfl) (fun _ _ _ h => h) (Or.inl ⟨by rfl, ?_⟩) (by assumption) ?_
              rotate_left
              · intro w hSw
                try dsimp only at hSw
                go_simp
                try with_reducible rfl
              try simp only [Act.put, List.getElem_toArray, List.getElem_cons_succ, List.getElem_cons_zero, List.setIfInBounds_toArray, List.set_cons_zero, List.set_cons_succ]
              refine wpAnyH_take (i := 15) (v := ?_) rfl (by as_aux_lemma => kernel_rfl) (by as_aux_lemma => kernel_rfl) (by as_aux_lemma => kernel_rfl) (fun _ _ _ h => h) (Or.inl ⟨by rfl, ?_⟩) (by assumption) ?_
              rotate_left
              · intro w hSw
                try dsimp only at hSw
                go_simp
                try with_reducible rfl
              try simp only [Act.put, List.getElem_toArray, List.getElem_cons_succ, List.getElem_cons_zero, List.setIfInBounds_toArray, List.set_cons_zero, List.set_cons_succ]
              refine wpAnyH_take (i := 16) (v := ?_) rfl (by as_aux_lemma => kernel_rfl) (by as_aux_lemma => kernel_rfl) (by as_aux_lemma => kernel_rfl) (fun _ _ _ h => h) (Or.inl ⟨by rfl, ?_⟩) (by assumption) ?_
              rotate_left
              · intro w hSw
                try dsimp only at hSw
                go_simp
                try with_reducible rfl
              try simp only [Act.put, List.getElem_toArray, List.getElem_cons_succ, List.getElem_cons_zero, List.setIfInBounds_toArray, List.set_cons_zero, List.set_cons_succ]
              refine wpAnyH_take (i := 17) (v := ?_) rfl (by as_aux_lemma => kernel_rfl) (by as_aux_lemma => kernel_rfl) (by as_aux_lemma => kernel_rfl) (fun _ _ _ h => h) (Or.inl ⟨by rfl, ?_⟩) (by assumption) ?_
              rotate_left
              · intro w hSw
                try dsimp only at hSw
                go_simp
                try with_reducible rfl
              try simp only [Act.put, List.getElem_toArray, List.getElem_cons_succ, List.getElem_cons_zero, List.setIfInBounds_toArray, List.set_cons_zero, List.set_cons_succ]
              refine wpAnyH_take (i := 18) (v := ?_) rfl (by as_aux_lemma => kernel_rfl) (by as_aux_lemma => kernel_rfl) (by as_aux_lemma => kernel_rfl) (fun _ _ _ h => h) (Or.inl ⟨by rfl, ?_⟩) (by assumption) ?_
              rotate_left
              · intro w hSw
                try dsimp only at hSw
                go_simp
                try with_reducible rfl
              try simp only [Act.put, List.getElem_toArray, List.getElem_cons_succ, List.getElem_cons_zero, List.setIfInBounds_toArray, List.set_cons_zero, List.set_cons_succ]
              refine wpAnyH_take (i := 19) (v := ?_) rfl (by as_aux_lemma => kernel_rfl) (by as_aux_lemma => kernel_rfl) (by as_aux_lemma => kernel_rfl) (fun _ _ _ h => h) (Or.inl ⟨by rfl, ?_⟩) (by assumption) ?_
              rotate_left
              · intro w hSw
                try dsimp only at hSw
                go_simp
                try with_reducible rfl
              try simp only [Act.put, List.getElem_toArray, List.getElem_cons_succ, List.getElem_cons_zero, List.setIfInBounds_toArray, List.set_cons_zero, List.set_cons_succ]
              refine wpAnyH_take (i := 20) (v := ?_) rfl (by as_aux_lemma => kernel_rfl) (by as_aux_lemma => kernel_rfl) (by as_aux_lemma => kernel_rfl) (fun _ _ _ h => h) (Or.inl ⟨by rfl, ?_⟩) (by assumption) ?_
              rotate_left
              · intro w hSw
                try dsimp only at hSw
                go_simp
                try with_reducible rfl
              try simp only [Act.put, List.getElem_toArray, List.getElem_cons_succ, List.getElem_cons_zero, List.setIfInBounds_toArray, List.set_cons_zero, List.set_cons_succ]
              refine wpAnyH_take (i := 21) (v := ?_) rfl (by as_aux_lemma => kernel_rfl) (by as_aux_lemma => kernel_rfl) (by as_aux_lemma => kernel_rfl) (fun _ _ _ h => h) (Or.inl ⟨by rfl, ?_⟩) (by assumption) ?_
              rotate_left
              · intro w hSw
                try dsimp only at hSw
                go_simp
                try with_reducible rfl
              try simp only [Act.put, List.getElem_toArray, List.getElem_cons_succ, List.getElem_cons_zero, List.setIfInBounds_toArray, List.set_cons_zero, List.set_cons_succ]
              refine wpAnyH_take (i := 22) (v := ?_) rfl (by as_aux_lemma => kernel_rfl) (by as_aux_lemma => kernel_rfl) (by as_aux_lemma => kernel_rfl) (fun _ _ _ h => h) (Or.inl ⟨by rfl, ?_⟩) (by assumption) ?_
              rotate_left
              · intro w hSw
                try dsimp only at hSw
                go_simp
                try with_reducible rfl
              try simp only [Act.put, List.getElem_toArray, List.getElem_cons_succ, List.getElem_cons_zero, List.setIfInBounds_toArray, List.set_cons_zero, List.set_cons_succ]
              refine wpAnyH_take (i := 23) (v := ?_) rfl (by as_aux_lemma => kernel_rfl) (by as_aux_lemma => kernel_rfl) (by as_aux_lemma => kernel_rfl) (fun _ _ _ h => h) (Or.inl ⟨by rfl, ?_⟩) (by assumption) ?_
              rotate_left
              · intro w hSw
                try dsimp only at hSw
                go_simp
                try with_reducible rfl
              try simp only [Act.put, List.getElem_toArray, List.getElem_cons_succ, List.getElem_cons_zero, List.setIfInBounds_toArray, List.set_cons_zero, List.set_cons_succ]
              refine wpAnyH_take (i := 24) (v := ?_) rfl (by as_aux_lemma => kernel_rfl) (by as_aux_lemma => kernel_rfl) (by as_aux_lemma => kernel_rfl) (fun _ _ _ h => h) (Or.inl ⟨by rfl, ?_⟩) (by assumption) ?_
              rotate_left
              · intro w hSw
                try dsimp only at hSw
                go_simp
                try with_reducible rfl
              try simp only [Act.put, List.getElem_toArray, List.getElem_cons_succ, List.getElem_cons_zero, List.setIfInBounds_toArray, List.set_cons_zero, List.set_cons_succ]
              refine wpAnyH_take (i := 25) (v := ?_) rfl (by as_aux_lemma => kernel_rfl) (by as_aux_lemma => kernel_rfl) (by as_aux_lemma => kernel_rfl) (fun _ _ _ h => h) (Or.inl ⟨by rfl, ?_⟩) (by assumption) ?_
              rotate_left
              · intro w hSw
                try dsimp only at hSw
                go_simp
                try with_reducible rfl
              try simp only [Act.put, List.getElem_toArray, List.getElem_cons_succ, List.getElem_cons_zero, List.setIfInBounds_toArray, List.set_cons_zero, List.set_cons_succ]
              refine wpAnyH_take (i := 26) (v := ?_) rfl (by as_aux_lemma => kernel_rfl) (by as_aux_lemma => kernel_rfl) (by as_aux_lemma => kernel_rfl) (fun _ _ _ h => h) (Or.inl ⟨by rfl, ?_⟩) (by assumption) ?_
              rotate_left
              · intro w hSw
                try dsimp only at hSw
                go_simp
                try with_reducible rfl
              try simp only [Act.put, List.getElem_toArray, List.getElem_cons_succ, List.getElem_cons_zero, List.setIfInBounds_toArray, List.set_cons_zero, List.set_cons_succ]
              refine wpAnyH_take (i := 27) (v := ?_) rfl (by as_aux_lemma => kernel_rfl) (by as_aux_lemma => kernel_rfl) (by as_aux_lemma => kernel_rfl) (fun _ _ _ h => h) (Or.inl ⟨by rfl, ?_⟩) (by assumption) ?_
              rotate_left
              · intro w hSw
                try dsimp only at hSw
                go_simp
                try with_reducible rfl
              try simp only [Act.put, List.getElem_toArray, List.getElem_cons_succ, List.getElem_cons_zero, List.setIfInBounds_toArray, List.set_cons_zero, List.set_cons_succ]
              refine wpAnyH_take (i := 28) (v := ?_) rfl (by as_aux_lemma => kernel_rfl) (by as_aux_lemma => kernel_rfl) (by as_aux_lemma => kernel_rfl) (fun _ _ _ h => h) (Or.inl ⟨by rfl, ?_⟩) (by assumption) ?_
              rotate_left
              · intro w hSw
                try dsimp only at hSw
                go_simp
                try with_reducible rfl
              try simp only [Act.put, List.getElem_toArray, List.getElem_cons_succ, List.getElem_cons_zero, List.setIfInBounds_toArray, List.set_cons_zero, List.set_cons_succ]
              refine wpAnyH_take (i := 29) (v := ?_) rfl (by as_aux_lemma => kernel_rfl) (by as_aux_lemma => kernel_rfl) (by as_aux_lemma => kernel_rfl) (fun _ _ _ h => h) (Or.inl ⟨by rfl, ?_⟩) (by assumption) ?_
              rotate_left
              · intro w hSw
                try dsimp only at hSw
                go_simp
                try with_reducible rfl
              try simp only [Act.put, List.getElem_toArray, List.getElem_cons_succ, List.getElem_cons_zero, List.setIfInBounds_toArray, List.set_cons_zero, List.set_cons_succ]
              refine wpAnyH_ready (rs := [1, 31]) (by as_aux_lemma => kernel_rfl) (by simp) ?_
              refine AllReadyH.cons rfl (fun K hK => ?_) (AllReadyH.cons rfl (fun K hK => ?_) AllReadyH.nil)
              · skip
                go_simp
                have b1 : Below wi.heap.size wi ((wi.alloc (Obj.cells #[.int .i64 o] 3)).drew) := by go_grown
                refine hK.out _ _ ⟨keepK n1 b1, keepK n2 b1, keepK n3 b1, keepK y0 b1⟩ (fun hh1 => ?_)
                clear hK K hh0
                try simp only [Act.put, List.getElem_toArray, List.getElem_cons_succ, List.getElem_cons_zero, List.setIfInBounds_toArray, List.set_cons_zero, List.set_cons_succ]
                refine wpAnyH_ready (rs := [7, 31]) (by as_aux_lemma => kernel_rfl) (by simp) ?_
                refine AllReadyH.cons rfl (fun K hK => ?_) (AllReadyH.cons rfl (fun K hK => ?_) AllReadyH.nil)
                · skip
                  refine step_ints (by rfl) _ _ (by rfl) wi.heap.size 1 _ _ [o] s rfl (by rfl) (by rfl) (own_below (own_oneN wi 3 (.int .i64 o) _ rfl) (by go_grown)) (HSF.out.below b1) (by first | (simp; done) | (simp; omega)) (by rw [HSL.out]; simp; omega) ?_
                  intro v1 w2 ho1 hg1 hl1
                  have hB1 : Below wi.heap.size wi w2 := Below.grown b1 hg1 (by first | (simp; done) | (simp; omega)) hl1
                  rw [HSL.out, HSL1.out] at ho1
                  obtain ⟨va, vc, rfl⟩ := own_slice ho1
                  refine hK.out _ _ ⟨keepK n1 hB1, keepK n2 hB1, keepK n3 hB1, keepK y0 hB1⟩ (fun hh2 => ?_)
                  clear hK K hh1
                  try simp only [Act.put, List.getElem_toArray, List.getElem_cons_succ, List.getElem_cons_zero, List.setIfInBounds_toArray, List.set_cons_zero, List.set_cons_succ]
                  refine wpAnyH_take (i := 30) (v := ?_) rfl (by as_aux_lemma => kernel_rfl) (by as_aux_lemma => kernel_rfl) (by as_aux_lemma => kernel_rfl) (fun _ _ _ h => h) (Or.inl ⟨by rfl, ?_⟩) (by assumption) ?_
                  rotate_left
                  · intro w hSw
                    try dsimp only at hSw
                    go_simp
                    try with_reducible rfl
                  try simp only [Act.put, List.getElem_toArray, List.getElem_cons_succ, List.getElem_cons_zero, List.setIfInBounds_toArray, List.set_cons_zero, List.set_cons_succ]
                  refine wpAnyH_ready (rs := [31]) (by as_aux_lemma => kernel_rfl) (by simp) ?_
                  refine AllReadyH.cons rfl (fun K hK => ?_) AllReadyH.nil
                  go_simp
                  have b2 : Below wi.heap.size wi (w2.alloc (Obj.cells #[.bool false, .slice none 0 0, .int .i64 0, .int .i64 0] 110)) := hB1.alloc hB1.size _
                  refine hK.out _ _ ⟨keepK n1 b2, keepK n2 b2, keepK n3 b2, keepK y0 b2⟩ (fun hh3 => ?_)
                  clear hK K hh2
                  try simp only [Act.put, List.getElem_toArray, List.getElem_cons_succ, List.getElem_cons_zero, List.setIfInBounds_toArray, List.set_cons_zero, List.set_cons_succ]
                  refine wpAnyH_ready (rs := [32]) (by as_aux_lemma => kernel_rfl) (by simp) ?_
                  refine AllReadyH.cons rfl (fun K hK => ?_) AllReadyH.nil
                  go_simp
                  refine hK.out _ _ ⟨keepK n1 (hB1.alloc hB1.size _), keepK n2 (hB1.alloc hB1.size _), keepK n3 (hB1.alloc hB1.size _), keepK y0 (hB1.alloc hB1.size _)⟩ (fun hh4 => ?_)
                  clear hK K hh3
                  refine wpAnyH_done (by as_aux_lemma => kernel_rfl) ?_ _
                  refine NoPanic.normal ?_
                  go_wp2
                  go_meet
                  exact ⟨w2.heap.size, va, vc, rfl, hB1.size, heap_alloc_new w2 _, own_below ho1 (by go_grown), hB1.alloc hB1.size _⟩
                · skip
                  go_simp
                  have b2 : Below wi.heap.size wi (((wi.alloc (Obj.cells #[.int .i64 o] 3)).alloc (Obj.cells #[.bool false, .slice none 0 0, .int .i64 0, .int .i64 0] 110)).drew) := by go_grown
                  refine hK.out _ _ ⟨keepK n1 b2, keepK n2 b2, keepK n3 b2, keepK y0 b2⟩ (fun hh2 => ?_)
                  clear hK K hh1
                  try simp only [Act.put, List.getElem_toArray, List.getElem_cons_succ, List.getElem_cons_zero, List.setIfInBounds_toArray, List.set_cons_zero, List.set_cons_succ]
                  refine wpAnyH_ready (rs := [7]) (by as_aux_lemma => kernel_rfl) (by simp) ?_
                  refine AllReadyH.cons rfl (fun K hK => ?_) AllReadyH.nil
                  refine step_ints (by rfl) _ _ (by rfl) wi.heap.size 1 _ _ [o] s rfl (by rfl) (by rfl) (own_below (own_oneN wi 3 (.int .i64 o) _ rfl) (by go_grown)) (HSF.out.below b2) (by first | (simp; done) | (simp; omega)) (by rw [HSL.out]; simp; omega) ?_
                  intro v1 w2 ho1 hg1 hl1
                  have hB1 : Below wi.heap.size wi w2 := Below.grown b2 hg1 (by first | (simp; done) | (simp; omega)) hl1
                  rw [HSL.out, HSL1.out] at ho1
                  obtain ⟨va, vc, rfl⟩ := own_slice ho1
                  refine hK.out _ _ ⟨keepK n1 hB1, keepK n2 hB1, keepK n3 hB1, keepK y0 hB1⟩ (fun hh3 => ?_)
                  clear hK K hh2
                  try simp only [Act.put, List.getElem_toArray, List.getElem_cons_succ, List.getElem_cons_zero, List.setIfInBounds_toArray, List.set_cons_zero, List.set_cons_succ]
                  have HG1 := block_kept (show (((wi.alloc (Obj.cells #[.int .i64 o] 3)).alloc (Obj.cells #[.bool false, .slice none 0 0, .int .i64 0, .int .i64 0] 110)).drew).heap[(wi.heap.size + 1)]? = some (Obj.cells #[.bool false, .slice none 0 0, .int .i64 0, .int .i64 0] 110) from (two_at wi (Obj.cells #[.int .i64 o] 3) (Obj.cells #[.bool false, .slice none 0 0, .int .i64 0, .int .i64 0] 110)).2) hg1 (by simp [Value.ownBlock])
                  have f0 := frozen_of_row _ _ 0 _ _ HG1
                  have f1 := frozen_of_row _ _ 1 _ _ HG1
                  have f2 := frozen_of_row _ _ 2 _ _ HG1
                  have f3 := frozen_of_row _ _ 3 _ _ HG1
                  have e0 := cellOf HG1 0 _ rfl
                  have e1 := cellOf HG1 1 _ rfl
                  have e2 := cellOf HG1 2 _ rfl
                  have e3 := cellOf HG1 3 _ rfl
                  have gl := lt_of_block HG1
                  refine wpAnyH_take (i := 30) (v := ?_) rfl (by as_aux_lemma => kernel_rfl) (by as_aux_lemma => kernel_rfl) (by as_aux_lemma => kernel_rfl) (fun _ _ _ h => h) (Or.inl ⟨by rfl, ?_⟩) (by assumption) ?_
                  rotate_left
                  · intro w hSw
                    try dsimp only at hSw
                    go_simp
                    try with_reducible rfl
                  try simp only [Act.put, List.getElem_toArray, List.getElem_cons_succ, List.getElem_cons_zero, List.setIfInBounds_toArray, List.set_cons_zero, List.set_cons_succ]
                  refine wpAnyH_ready (rs := [32]) (by as_aux_lemma => kernel_rfl) (by simp) ?_
                  refine AllReadyH.cons rfl (fun K hK => ?_) AllReadyH.nil
                  go_simp
                  obtain ⟨q1, q2, q3⟩ := rest_made (w := wi) (a := .bool true) (p := .int .i64 PL) (m := .int .i64 MN) HG1 rfl ho1 hB1 (by omega)
                  refine hK.out _ _ ⟨keepK n1 q3, keepK n2 q3, keepK n3 q3, keepK y0 q3⟩ (fun hh4 => ?_)
                  clear hK K hh3
                  refine wpAnyH_done (by as_aux_lemma => kernel_rfl) ?_ _
                  refine NoPanic.normal ?_
                  go_wp2
                  go_meet
                  exact ⟨(wi.heap.size + 1), va, vc, rfl, by omega, q1, q2, q3⟩
              · skip
                go_simp
                have b1 : Below wi.heap.size wi ((wi.alloc (Obj.cells #[.bool false, .slice none 0 0, .int .i64 0, .int .i64 0] 110)).drew) := by go_grown
                refine hK.out _ _ ⟨keepK n1 b1, keepK n2 b1, keepK n3 b1, keepK y0 b1⟩ (fun hh1 => ?_)
                clear hK K hh0
                try simp only [Act.put, List.getElem_toArray, List.getElem_cons_succ, List.getElem_cons_zero, List.setIfInBounds_toArray, List.set_cons_zero, List.set_cons_succ]
                refine wpAnyH_ready (rs := [1]) (by as_aux_lemma => kernel_rfl) (by simp) ?_
                refine AllReadyH.cons rfl (fun K hK => ?_) AllReadyH.nil
                go_simp
                have b2 : Below wi.heap.size wi (((wi.alloc (Obj.cells #[.bool false, .slice none 0 0, .int .i64 0, .int .i64 0] 110)).alloc (Obj.cells #[.int .i64 o] 3)).drew) := by go_grown
                refine hK.out _ _ ⟨keepK n1 b2, keepK n2 b2, keepK n3 b2, keepK y0 b2⟩ (fun hh2 => ?_)
                clear hK K hh1
                try simp only [Act.put, List.getElem_toArray, List.getElem_cons_succ, List.getElem_cons_zero, List.setIfInBounds_toArray, List.set_cons_zero, List.set_cons_succ]
                refine wpAnyH_ready (rs := [7]) (by as_aux_lemma => kernel_rfl) (by simp) ?_
                refine AllReadyH.cons rfl (fun K hK => ?_) AllReadyH.nil
                refine step_ints (by rfl) _ _ (by rfl) wi.heap.size 1 _ _ [o] s rfl (by rfl) (by rfl) (own_below (own_base (own_oneN (wi.alloc (Obj.cells #[.bool false, .slice none 0 0, .int .i64 0, .int .i64 0] 110)) 3 (.int .i64 o) (wi.heap.size + 1) (by simp)) (by omega)) (by go_grown)) (HSF.out.below b2) (by first | (simp; done) | (simp; omega)) (by rw [HSL.out]; simp; omega) ?_
                intro v1 w2 ho1 hg1 hl1
                have hB1 : Below wi.heap.size wi w2 := Below.grown b2 hg1 (by first | (simp; done) | (simp; omega)) hl1
                rw [HSL.out, HSL1.out] at ho1
                obtain ⟨va, vc, rfl⟩ := own_slice ho1
                refine hK.out _ _ ⟨keepK n1 hB1, keepK n2 hB1, keepK n3 hB1, keepK y0 hB1⟩ (fun hh3 => ?_)
                clear hK K hh2
                try simp only [Act.put, List.getElem_toArray, List.getElem_cons_succ, List.getElem_cons_zero, List.setIfInBounds_toArray, List.set_cons_zero, List.set_cons_succ]
                have HG1 := block_kept (show (((wi.alloc (Obj.cells #[.bool false, .slice none 0 0, .int .i64 0, .int .i64 0] 110)).alloc (Obj.cells #[.int .i64 o] 3)).drew).heap[wi.heap.size]? = some (Obj.cells #[.bool false, .slice none 0 0, .int .i64 0, .int .i64 0] 110) from (two_at wi (Obj.cells #[.bool false, .slice none 0 0, .int .i64 0, .int .i64 0] 110) (Obj.cells #[.int .i64 o] 3)).1) hg1 (by simp [Value.ownBlock])
                have f0 := frozen_of_row _ _ 0 _ _ HG1
                have f1 := frozen_of_row _ _ 1 _ _ HG1
                have f2 := frozen_of_row _ _ 2 _ _ HG1
                have f3 := frozen_of_row _ _ 3 _ _ HG1
                have e0 := cellOf HG1 0 _ rfl
                have e1 := cellOf HG1 1 _ rfl
                have e2 := cellOf HG1 2 _ rfl
                have e3 := cellOf HG1 3 _ rfl
                have gl := lt_of_block HG1
                refine wpAnyH_take (i := 30) (v := ?_) rfl (by as_aux_lemma => kernel_rfl) (by as_aux_lemma => kernel_rfl) (by as_aux_lemma => kernel_rfl) (fun _ _ _ h => h) (Or.inl ⟨by rfl, ?_⟩) (by assumption) ?_
                rotate_left
                · intro w hSw
                  try dsimp only at hSw
                  go_simp
                  try with_reducible rfl
                try simp only [Act.put, List.getElem_toArray, List.getElem_cons_succ, List.getElem_cons_zero, List.setIfInBounds_toArray, List.set_cons_zero, List.set_cons_succ]
                refine wpAnyH_ready (rs := [32]) (by as_aux_lemma => kernel_rfl) (by simp) ?_
                refine AllReadyH.cons rfl (fun K hK => ?_) AllReadyH.nil
                go_simp
                obtain ⟨q1, q2, q3⟩ := rest_made (w := wi) (a := .bool true) (p := .int .i64 PL) (m := .int .i64 MN) HG1 rfl ho1 hB1 (by omega)
                refine hK.out _ _ ⟨keepK n1 q3, keepK n2 q3, keepK n3 q3, keepK y0 q3⟩ (fun hh4 => ?_)
                clear hK K hh3
                refine wpAnyH_done (by as_aux_lemma => kernel_rfl) ?_ _
                refine NoPanic.normal ?_
                go_wp2
                go_meet
                exact ⟨wi.heap.size, va, vc, rfl, by omega, q1, q2, q3⟩
            case rest =>
              obtain ⟨g, va, vc, rfl, hg, hG, hO, hB⟩ := hcut
              have HXB := Lib.hid hG
              have HXO := Lib.hid hO
              have hgq : wq.heap.size + 2 ≤ g := by have := HSZ.out; omega
              have HXF : Hid (BestIn wq.heap.size wq.heap.size wc (PO kk) ua un uc) := ⟨(hB.block _ (by have := HSZ.out; omega)).trans HBI.out.box, own_below HBI.out.row hB⟩
              have HXQ := Lib.hid ((hB.block _ (by have := HSZ.out; omega)).trans HQI.out)
              have HXW := Lib.hid (HWI.out.trans (hB.mono HWI.out.size))
              have HXS : Hid (wq.heap.size + 2 ≤ wc.heap.size) := Nat.le_trans HSZ.out hB.size
              clear hG hO hB n1 n2 n3 y0 yl s1 s2 s3 s4 hfl hml HBI HQI HWI HNI HSF nl
              have xl := lt_of_block HXB.out
              have x0 := cellOf HXB.out 0 _ rfl
              have x1 := cellOf HXB.out 1 _ rfl
              have x2 := cellOf HXB.out 2 _ rfl
              have x3 := cellOf HXB.out 3 _ rfl
              cases hPO : PO kk with
              | none =>
                have HPN : Hid (PO (kk + 1) = some (o :: s, (PL, MN))) := by show _ = _; rw [HPS.out, hPO]; rfl
                have HBX : Hid (wc.heap[wq.heap.size]? = some (.cells #[.bool false, .slice ua un uc, .int .i64 0, .int .i64 0] 110 (0, 0))) := by have h := HXF.out.box; rw [hPO] at h; exact h
                clear HPS hPO HXF
                have b0 := cellOf HBX.out 0 _ rfl
                have fb0 := frozen_of_row _ _ 0 _ _ HBX.out
                have b1 := cellOf HBX.out 1 _ rfl
                have fb1 := frozen_of_row _ _ 1 _ _ HBX.out
                have b2 := cellOf HBX.out 2 _ rfl
                have fb2 := frozen_of_row _ _ 2 _ _ HBX.out
                have b3 := cellOf HBX.out 3 _ rfl
                have fb3 := frozen_of_row _ _ 3 _ _ HBX.out
                have bl := lt_of_block HBX.out
                go_wp2
                go_roundg (gk - 1)
                case measure => omega
                case rel =>
                  obtain ⟨q1, q2, q3⟩ := rest_made (w := wq) (a := .bool true) (p := .int .i64 PL) (m := .int .i64 MN) HBX.out rfl HXO.out HXW.out (Nat.le_refl _)
                  refine ⟨kk + 1, va, sl1, vc, by omega, by go_num, ?_, four_other HXQ.out (by omega), q3, by show _ ≤ _; have := HXS.out; simpa using this⟩
                  show BestIn _ _ _ _ _ _ _
                  rw [HPN.out]
                  refine ⟨q1, ?_⟩
                  have e : (restS (some (o :: s, (PL, MN)))).length = sl1 := by show (o :: s).length = sl1; rw [List.length_cons, HSL.out]; have := HSL1.out; omega
                  rw [e]
                  exact own_base q2 (by have := HSZ.out; omega)
              | some y =>
                obtain ⟨sb, pb2, mb2⟩ := y
                have HBX : Hid (wc.heap[wq.heap.size]? = some (.cells #[.bool true, .slice ua un uc, .int .i64 pb2, .int .i64 mb2] 110 (0, 0))) := by have h := HXF.out.box; rw [hPO] at h; exact h
                have HBR : Hid (wc.ownsRow wq.heap.size 3 1 (.slice ua un uc) sb.length (sb.map (Value.int .i64))) := by have h := HXF.out.row; rw [hPO] at h; exact h
                rw [hPO] at HPS
                clear hPO HXF
                have b0 := cellOf HBX.out 0 _ rfl
                have fb0 := frozen_of_row _ _ 0 _ _ HBX.out
                have b1 := cellOf HBX.out 1 _ rfl
                have fb1 := frozen_of_row _ _ 1 _ _ HBX.out
                have b2 := cellOf HBX.out 2 _ rfl
                have fb2 := frozen_of_row _ _ 2 _ _ HBX.out
                have b3 := cellOf HBX.out 3 _ rfl
                have fb3 := frozen_of_row _ _ 3 _ _ HBX.out
                have bl := lt_of_block HBX.out
                obtain ⟨TT, hTT⟩ : ∃ T, ltN q (PL, MN) (pb2, mb2) = T := ⟨_, rfl⟩
                have HTT := Lib.hid hTT
                clear hTT
                go_wp2_with fail
                have hcall := rbetter_any q true true va ua sl1 vc un uc PL MN pb2 mb2 wc
                rw [HTT.out] at hcall
                refine hcall.mono ?_
                clear hcall
                rintro e wn ⟨rfl, hbn⟩
                have HXB' := Lib.hid ((hbn.block _ (lt_of_block HXB.out)).trans HXB.out)
                have HBX' := Lib.hid ((hbn.block _ (lt_of_block HBX.out)).trans HBX.out)
                have HXO' := Lib.hid (own_below HXO.out hbn)
                have HBR' := Lib.hid (own_below HBR.out hbn)
                have HXW' := Lib.hid (HXW.out.trans (hbn.mono HXW.out.size))
                have HXQ' := Lib.hid ((hbn.block _ (lt_of_block HXQ.out)).trans HXQ.out)
                have HXS' : Hid (wq.heap.size + 2 ≤ wn.heap.size) := Nat.le_trans HXS.out hbn.size
                clear hbn x0 x1 x2 x3 xl b0 b1 b2 b3 bl fb0 fb1 fb2 fb3 HXB HBX HXO HBR HXW HXQ
                have xl := lt_of_block HXB'.out
                have x0 := cellOf HXB'.out 0 _ rfl
                have x1 := cellOf HXB'.out 1 _ rfl
                have x2 := cellOf HXB'.out 2 _ rfl
                have x3 := cellOf HXB'.out 3 _ rfl
                have b0 := cellOf HBX'.out 0 _ rfl
                have fb0 := frozen_of_row _ _ 0 _ _ HBX'.out
                have b1 := cellOf HBX'.out 1 _ rfl
                have fb1 := frozen_of_row _ _ 1 _ _ HBX'.out
                have b2 := cellOf HBX'.out 2 _ rfl
                have fb2 := frozen_of_row _ _ 2 _ _ HBX'.out
                have b3 := cellOf HBX'.out 3 _ rfl
                have fb3 := frozen_of_row _ _ 3 _ _ HBX'.out
                have bl := lt_of_block HBX'.out
                cases TT
                · skip
                  have HPN : Hid (PO (kk + 1) = some (sb, (pb2, mb2))) := by show _ = _; rw [HPS.out]; exact betO_no HTT.out
                  clear HPS HTT
                  go_wp2
                  go_roundg (gk - 1)
                  case measure => omega
                  case rel => exact ⟨kk + 1, ua, un, uc, by omega, by go_num, by show BestIn _ _ _ _ _ _ _; rw [HPN.out]; exact ⟨HBX'.out, HBR'.out⟩, HXQ', HXW', HXS'⟩
                · skip
                  have HPN : Hid (PO (kk + 1) = some (o :: s, (PL, MN))) := by show _ = _; rw [HPS.out]; exact betO_yes HTT.out
                  clear HPS HTT
                  go_wp2
                  go_roundg (gk - 1)
                  case measure => omega
                  case rel =>
                    obtain ⟨q1, q2, q3⟩ := rest_made (w := wq) (a := .bool true) (p := .int .i64 PL) (m := .int .i64 MN) HBX'.out rfl HXO'.out HXW'.out (Nat.le_refl _)
                    refine ⟨kk + 1, va, sl1, vc, by omega, by go_num, ?_, four_other HXQ'.out (by omega), q3, by show _ ≤ _; have := HXS'.out; simpa using this⟩
                    show BestIn _ _ _ _ _ _ _
                    rw [HPN.out]
                    refine ⟨q1, ?_⟩
                    have e : (restS (some (o :: s, (PL, MN)))).length = sl1 := by show (o :: s).length = sl1; rw [List.length_cons, HSL.out]; have := HSL1.out; omega
                    rw [e]
                    exact own_base q2 (by have := HSZ.out; omega)
        · obtain rfl : kk = L := by omega
          obtain ⟨hbk, hbe⟩ := HBK.out
          have hPO : PO kk = some ((bestR ⟨st, pts⟩ q).1, ((bestR ⟨st, pts⟩ q).2.1, (bestR ⟨st, pts⟩ q).2.2.1)) := by rw [HPL.out]; exact hbk
          generalize bestR ⟨st, pts⟩ q = bq at *
          obtain ⟨sb, pb2, mb2, eb⟩ := bq
          simp only at hPO hbe
          subst hbe
          have HBX : Hid (wi.heap[wq.heap.size]? = some (.cells #[.bool true, .slice ua un uc, .int .i64 pb2, .int .i64 mb2] 110 (0, 0))) := by have h := HBI.out.box; rw [hPO] at h; exact h
          have HBR : Hid (wi.ownsRow w.heap.size 3 1 (.slice ua un uc) sb.length (sb.map (Value.int .i64))) := by have h := HBI.out.row; rw [hPO] at h; exact own_base h (by have h2 := HR.out.size; have h3 := HB1.out.size; omega)
          have HFB := Lib.hid (HB1.out.trans ((HR.out.trans (HWI.out.mono HR.out.size)).mono HB1.out.size))
          have b1 := cellOf HBX.out 1 _ rfl
          have b2 := cellOf HBX.out 2 _ rfl
          have b3 := cellOf HBX.out 3 _ rfl
          have bl := lt_of_block HBX.out
          clear hPO hbk HBI HQI HNI hLI hkL HPO HPL
          go_wp2_with fail
          go_quiet (fail)
          go_wp2_with fail
          refine bodyPost_ret (results_tmp4 rfl _ _ _) rfl ?_
          exact ⟨_, rfl, HBR.out, HFB.out.trans ⟨rfl, rfl, rfl, Nat.le_refl _, fun _ _ => rfl⟩⟩
    · obtain ⟨i, rfl⟩ : ∃ i, gk = i + 1 := ⟨gk - 1, by omega⟩
      have e1 : ((i + 1 : Nat) : Int) - 1 = (i : Int) := by omega
      rw [e1]
      clear e1
      have i9 : (i : Int) ≤ 9 := by omega
      go_wp2_with fail
      refine (rbehind_both st pts pb po pc i q (.slice na l.length nc) wr (HP1.out.below HR.out) HV.out ?_).mono ?_
      · rcases Nat.lt_or_ge (i + 1) pts.length with h | h
        · exact .inr ⟨h, _, l, HM.out, HG2.out h⟩
        · exact .inl ⟨by omega, HG1.out (by omega)⟩
      rintro e w2 ⟨v2, l2, rfl, hm2, hl2, hb⟩
      have HM2 := Lib.hid (hm2.base HR.out.size)
      have HL2 := Lib.hid hl2
      have HR2 := Lib.hid (HR.out.trans (hb.mono HR.out.size))
      clear hm2 hl2 hb r0 r1 rl HM HR HRR
      obtain ⟨nb, nd, hnv⟩ := HM2.out.shape
      subst hnv
      go_wp2
      go_roundg i
      case measure => omega
      case rel => exact ⟨l2, by omega, rfl, fun h => absurd h (by omega), fun _ => HL2.out, HM2, HR2⟩
end Go.Proofs.Ytnciomoapajonaa
namespace Go.Proofs.Ytnciomoapajonaa
open Go Go.RowKit Go.Shelf Cv

theorem rbest_any (r : Row) (q : Bool) (pv : Value) (w : World) (hP : PtsAt w pv r.pts) :
    Calls Try.prog 37 #[.agg #[.int .i64 r.st, pv], .bool q] w (BestP (bestR r q) w) := by
  obtain ⟨st, pts⟩ := r
  by_cases hz : errR ⟨st, pts⟩ = 0
  · simp only at hP ⊢
    obtain ⟨lp, pa, pc, rfl, _, _⟩ := id hP
    have h1 : 1 ≤ pts.length := ((check_valid _).1 hz).n1
    obtain ⟨pb, po, rfl, _⟩ := hP.get (show 0 < pts.length by omega)
    cases hc : crossB ⟨st, pts⟩
    · exact rbest_ok st pts pb po pc q w hP hz hc
    · exact rbest_down st pts pb po pc q w hP hz hc
  · exact rbest_no ⟨st, pts⟩ q pv w hP hz
theorem bestR_len (r : Row) (q : Bool) : (bestR r q).1.length ≤ 10 := by
  unfold bestR
  split
  · rename_i h
    have := ((check_valid _).1 (boundE_ok h).1).n10
    simp only
    rw [surfL_length, bndR_length]
    exact this
  · simp
set_option maxRecDepth 100000 in
set_option maxHeartbeats 16000000 in
theorem lbest_any (r : Row) (pv : Value) (w : World) (hP : PtsAt w pv r.pts) :
    Calls Try.prog 5 #[.agg #[.int .i64 r.st, pv]] w fun e w' => e = .returned (.bool true) ∧ Below w.heap.size w w' := by
  obtain ⟨st, pts⟩ := r
  simp only at hP ⊢
  obtain ⟨lp, pa, pc, rfl, _, _⟩ := id hP
  have HP := Lib.hid hP
  clear hP
  have HB := Lib.hid (Below.refl w.heap.size w)
  go_enter Try.func5, Try.ntmps5
  go_wp2_with fail
  have hb := (Below.refl w.heap.size w).alloc (Nat.le_refl _) (Obj.cells #[.int .i64 st, .slice pa pts.length pc] 24)
  have HR := Lib.hid (heap_alloc_new w (Obj.cells #[.int .i64 st, .slice pa pts.length pc] 24))
  have hz1 : (w.alloc (Obj.cells #[.int .i64 st, .slice pa pts.length pc] 24)).heap.size = w.heap.size + 1 := by simp
  have HB' := Lib.hid (HB.out.trans (hb.mono HB.out.size))
  have HP' := Lib.hid (HP.out.below hb)
  clear HB
  have HB := HB'
  clear HB'
  clear HP
  have HP := HP'
  clear HP'
  clear hb
  generalize w.alloc (Obj.cells #[.int .i64 st, .slice pa pts.length pc] 24) = w1 at *
  go_loopg [3] 2 (fun g v wr => ∃ k : Nat, g + k = 2 ∧ v = .int .i64 k ∧ Hid (Below w1.heap.size w1 wr))
  case atStart => exact ⟨0, by omega, rfl, Below.refl _ _⟩
  case round =>
    obtain ⟨k, hk, rfl, HL⟩ := hrel
    obtain ⟨wq, hwq⟩ : ∃ wq, wr = wq := ⟨_, rfl⟩
    rw [hwq] at HL ⊢
    clear hwq
    have hb := HL.out
    have HB' := Lib.hid (HB.out.trans (hb.mono HB.out.size))
    have HP' := Lib.hid (HP.out.below hb)
    have HR' := Lib.hid ((hb.block _ (lt_of_block HR.out)).trans HR.out)
    clear HB
    have HB := HB'
    clear HB'
    clear HP
    have HP := HP'
    clear HP'
    clear HR
    have HR := HR'
    clear HR'
    clear hb
    rcases Nat.lt_or_ge k 2 with hk2 | hk2
    · skip
      obtain ⟨q, hq⟩ : ∃ q : Bool, ((k : Int) == 1) = q := ⟨_, rfl⟩
      have kI : (k : Int) < 2 := by omega
      obtain ⟨⟨sb, pp, mm, ee⟩, HBQ⟩ : ∃ x, Hid (bestR ⟨st, pts⟩ q = x) := ⟨_, rfl⟩
      have hlen := bestR_len ⟨st, pts⟩ q
      rw [HBQ.out] at hlen
      simp only at hlen
      have ra := cellOf HR.out 0 _ rfl
      have rb := cellOf HR.out 1 _ rfl
      have rl := lt_of_block HR.out
      go_wp2_with fail
      clear ra rb rl
      have hcall := Best_any ⟨st, pts⟩ q _ wq HP.out
      rw [HBQ.out] at hcall
      simp only at hcall
      refine hcall.mono ?_
      clear hcall
      rintro e w2 ⟨v1, rfl, hown, hb⟩
      have HB' := Lib.hid (HB.out.trans (hb.mono HB.out.size))
      have HP' := Lib.hid (HP.out.below hb)
      have HR' := Lib.hid ((hb.block _ (lt_of_block HR.out)).trans HR.out)
      have HL' := Lib.hid (HL.out.trans (hb.mono HL.out.size))
      clear HB
      have HB := HB'
      clear HB'
      clear HP
      have HP := HP'
      clear HP'
      clear HR
      have HR := HR'
      clear HR'
      clear HL
      have HL := HL'
      clear HL'
      clear hb
      have hpa := intsAt_own hown (by omega)
      obtain ⟨sa, sc, rfl⟩ := own_slice hown
      have HX := Lib.hid hpa
      clear hown hpa
      have ra := cellOf HR.out 0 _ rfl
      have rb := cellOf HR.out 1 _ rfl
      have rl := lt_of_block HR.out
      go_wp2_with fail
      clear ra rb rl
      have hcall := rbest_any ⟨st, pts⟩ q _ w2 HP.out
      unfold BestP at hcall
      rw [HBQ.out] at hcall
      simp only at hcall
      refine hcall.mono ?_
      clear hcall
      rintro e w3 ⟨v2, rfl, hown, hb⟩
      have HB' := Lib.hid (HB.out.trans (hb.mono HB.out.size))
      have HP' := Lib.hid (HP.out.below hb)
      have HR' := Lib.hid ((hb.block _ (lt_of_block HR.out)).trans HR.out)
      have HL' := Lib.hid (HL.out.trans (hb.mono HL.out.size))
      have HX' := Lib.hid (HX.out.below hb)
      clear HB
      have HB := HB'
      clear HB'
      clear HP
      have HP := HP'
      clear HP'
      clear HR
      have HR := HR'
      clear HR'
      clear HL
      have HL := HL'
      clear HL'
      clear HX
      have HX := HX'
      clear HX'
      clear hb
      have hpa := intsAt_own hown (by omega)
      obtain ⟨sb', sd, rfl⟩ := own_slice hown
      have HY := Lib.hid hpa
      clear hown hpa
      go_wp2_with fail
      have hcall := ints_eq _ _ sb _ HX.out HY.out
      refine hcall.mono ?_
      clear hcall
      rintro e w4 ⟨rfl, hb⟩
      have HB' := Lib.hid (HB.out.trans (hb.mono HB.out.size))
      have HP' := Lib.hid (HP.out.below hb)
      have HR' := Lib.hid ((hb.block _ (lt_of_block HR.out)).trans HR.out)
      have HL' := Lib.hid (HL.out.trans (hb.mono HL.out.size))
      have HX' := Lib.hid (HX.out.below hb)
      have HY' := Lib.hid (HY.out.below hb)
      clear HB
      have HB := HB'
      clear HB'
      clear HP
      have HP := HP'
      clear HP'
      clear HR
      have HR := HR'
      clear HR'
      clear HL
      have HL := HL'
      clear HL'
      clear HX
      have HX := HX'
      clear HX'
      clear HY
      have HY := HY'
      clear HY'
      clear hb
      clear HX HY
      go_wp2
      go_roundg (gk - 1)
      case measure => omega
      case rel => exact ⟨k + 1, by omega, by go_num, HL⟩
    · obtain rfl : k = 2 := by omega
      go_wp2_with fail
      have hcall := awake_any wq
      refine hcall.mono ?_
      clear hcall
      rintro e w5 ⟨rfl, hb⟩
      have HB' := Lib.hid (HB.out.trans (hb.mono HB.out.size))
      have HP' := Lib.hid (HP.out.below hb)
      have HR' := Lib.hid ((hb.block _ (lt_of_block HR.out)).trans HR.out)
      clear HB
      have HB := HB'
      clear HB'
      clear HP
      have HP := HP'
      clear HP'
      clear HR
      have HR := HR'
      clear HR'
      clear hb
      go_wp2
      go_ret
      exact ⟨rfl, HB.out⟩
end Go.Proofs.Ytnciomoapajonaa
namespace Go.Proofs.Ytnciomoapajonaa
namespace ClaimCarveBest
open Go.ChangeShapes Go.WideShapes Go.ChangeAt Go.RowKit

theorem own : ownKnob Try.prog.godebug = none := by kernel_rfl
theorem laidOutP : laidOutB Try.prog = true := by kernel_rfl

set_option maxRecDepth 100000 in
theorem contract (H : Type) (enc : TypeId × Value → H) (W : World) (base : Nat) (args : Array Value) (ds gs : List (DataW H)) (before : List MemPlace)
    (hval : ∀ (j : Nat) t v, Try.f5.params[j]? = some t → args[j]? = some v → Value.okWide Try.prog W .any base t v)
    (hW : DataW.Whole enc Try.prog Try.f5.params.toList Rows.carveBestSpec.vars false W args.toList ds gs before)
    (hsz : (DataW.weightsEach Try.prog (Try.f5.params.toList ++ Rows.carveBestSpec.plain.varTypes Try.prog) (ds ++ gs)).all (· ≤ reachBytes) = true) :
    Calls Try.prog 5 args W fun e W' => ∃ v, e = .returned v ∧ Rows.carveBestSpec.post enc Try.prog Try.f5 false true false false W args v W' := by
  have hW' := hW
  obtain ⟨p, q, hA0, hV, rfl, hfz, hnd⟩ := hW
  have hA : DataW.TrodAll enc Try.prog W 0 (fun _ => true) true Try.f5.params.toList args.toList ds p := hA0
  rw [Try.params5] at hA hval hsz
  obtain ⟨v0, vs0, d0, ds0, p0, q0, hargs, rfl, rfl, h0, r0⟩ := trodAll_cons hA
  obtain ⟨rfl, rfl, rfl⟩ := trodAll_nil r0
  obtain rfl : args = #[v0] := by cases args; simp_all
  obtain ⟨rfl, rfl⟩ := trodVars_none hV
  have w0 : ∀ x ∈ d0.weights Try.prog 24, x ≤ reachBytes := fun x hx => of_decide_eq_true (List.all_eq_true.1 hsz _ (DataW.weights_mem_each (j := 0) (t := 24) (d := d0) rfl rfl x hx))
  obtain ⟨r, pv, rfl, hP, hs0, hs9⟩ := open_row (hval 0 24 v0 rfl rfl) h0 w0
  clear hA0
  refine (lbest_any r pv W hP ).mono fun e W' ⟨he, hb⟩ => ?_
  subst he
  exact ⟨_, rfl, post_law laidOutP (by rw [Try.params5]; intro t ht; simp at ht; subst ht; exact ⟨by kernel_rfl, of_decide_eq_true (by kernel_rfl)⟩) rfl rfl Try.underlying4 rfl hW' hb⟩

set_option maxRecDepth 100000 in
theorem lifted (os : Os) (started : os.Started) (H : Type) (enc : TypeId × Value → H) :
    ReturnsInHanded {} Try.checked os 5 .any (Rows.carveBestSpec.pre6 enc Try.prog Try.f5 Rows.carveBestRow.domain false) (Rows.carveBestSpec.post enc Try.prog Try.f5 false true false false) := by
  refine returnsInHanded_of_change_sized (C := Try.checked) own started (by kernel_rfl) Try.func5
    (ChangeSpec.witness6 (enc := enc) (C := Try.checked) false ⟨#[], #[.agg #[.int .i64 0, .slice none 0 0]], []⟩ 8 (by kernel_rfl) (by kernel_rfl) (by kernel_rfl) (by kernel_rfl)) ?_
  intro W base args ds gs before hval hW _ hsz _
  exact contract H enc W base args ds gs before hval hW hsz

theorem over : Rows.CarveBestSaid :=
  OpenClaim.holds_of_wide 5 Try.f5 rfl rfl rfl rfl rfl rfl rfl ⟨rfl, rfl, rfl, rfl, rfl⟩ rfl rfl rfl rfl rfl (by kernel_rfl) Try.func5 (by kernel_rfl)
    (of_decide_eq_true (by kernel_rfl)) (by unfold Func.isWrapper; first | (rw [if_pos (by decide +kernel)]; kernel_rfl) | (rw [if_neg (by decide +kernel)]; exact ⟨rfl, rfl⟩))
    (fun os started H enc _ => lifted os started H enc)
end ClaimCarveBest

theorem carveBest_holds : Rows.CarveBestSaid := ClaimCarveBest.over
end Go.Proofs.Ytnciomoapajonaa
