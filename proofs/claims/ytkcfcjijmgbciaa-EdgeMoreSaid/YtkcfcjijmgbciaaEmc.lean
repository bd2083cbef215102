/- EdgeMore: the call returns true, whatever its arguments and the memory in which it begins; its arguments read as they did. -/
import Derived.Test.YtkcfcjijmgbciaaLrm
import Derived.Test.YtkcfcjijmgbciaaLom
import Derived.Laws.StructEq
import Derived.Deep.DeepCutAuto
import Derived.Test.YtkcfcjijmgbciaaRows
import Derived.Test.YtkcfcjijmgbciaaEar
import Derived.ProofKit
import Derived.JoinedOf
import Derived.JoinedAt
set_option linter.unusedSimpArgs false
set_option linter.unusedVariables false
namespace Go.Proofs.Ytkcfcjijmgbciaa
open Go Go.RowKit Go.Shelf Ed

/-- Edges in memory, with the values of their points. -/
def EdgV (w : World) (v : Value) (eds : List Edg) (P : Nat → Value) : Prop :=
  ∃ a c, v = .slice a eds.length c ∧ eds.length ≤ c ∧ (∀ k (hk : k < eds.length), PairsAt w (P k) eds[k].pts) ∧ (eds ≠ [] → ∃ b o, a = some ⟨b, o, none⟩ ∧ ∀ j u, (eRow eds P (List.range eds.length))[j]? = some u → w.cell? ((⟨b, o, none⟩ : Addr).add j) = some u)
theorem eRow_cells {w : World} {b o : Nat} {eds : List Edg} {P : Nat → Value} (h : ∀ k (hk : k < eds.length), w.cell? ⟨b, o + k * 3, none⟩ = some (.int .i64 eds[k].a) ∧ w.cell? ⟨b, o + k * 3 + 1, none⟩ = some (.int .i64 eds[k].b) ∧ w.cell? ⟨b, o + k * 3 + 2, none⟩ = some (P k)) :
    ∀ j u, (eRow eds P (List.range eds.length))[j]? = some u → w.cell? ((⟨b, o, none⟩ : Addr).add j) = some u := by
  intro j u hu
  have hj : j < eds.length * 3 := by
    have := (List.getElem?_eq_some_iff.1 hu).1
    rw [eRow_length, List.length_range] at this
    exact this
  have hk : j / 3 < eds.length := by omega
  obtain ⟨c0, c1, c2⟩ := h _ hk
  have g := eRow_get eds P (List.range eds.length) (j / 3) (by rw [List.length_range]; exact hk)
  rw [List.getElem_range, getD_lt _ _ hk] at g
  rw [Go.WideShapes.add_plain]
  have hr : j % 3 = 0 ∨ j % 3 = 1 ∨ j % 3 = 2 := by omega
  rcases hr with q | q | q
  · have e : j = j / 3 * 3 := by omega
    rw [e] at hu ⊢
    rw [g.1] at hu
    rw [← hu]
    exact c0
  · have e : j = j / 3 * 3 + 1 := by omega
    have e2 : o + j = o + j / 3 * 3 + 1 := by omega
    rw [e2]
    rw [e, g.2.1] at hu
    rw [← hu]
    exact c1
  · have e : j = j / 3 * 3 + 2 := by omega
    have e2 : o + j = o + j / 3 * 3 + 2 := by omega
    rw [e2]
    rw [e, g.2.2] at hu
    rw [← hu]
    exact c2
theorem EdgsAt.v {w : World} {a : Option Addr} {n c : Nat} {eds : List Edg} (h : EdgsAt w (.slice a n c) eds) : ∃ P, EdgV w (.slice a n c) eds P := by
  obtain ⟨P, hP⟩ := h.vals
  obtain ⟨_, a', c', e, hc, _⟩ := id h
  injection e with e1 e2 e3
  subst e1 e2 e3
  refine ⟨P, a, c, rfl, hc, fun k hk => (hP k hk).1, fun hne => ?_⟩
  obtain ⟨_, b, o, e, _⟩ := hP 0 (List.length_pos_iff.2 hne)
  subst e
  refine ⟨b, o, rfl, eRow_cells fun k hk => ?_⟩
  obtain ⟨_, b', o', e, c0, c1, c2⟩ := hP k hk
  injection e with e
  injection e with e1 e2
  subst e1 e2
  exact ⟨c0, c1, c2⟩
theorem eRow_one (eds : List Edg) (P : Nat → Value) (hP : ∀ k, k < eds.length → (P k).oneCell' = true) : ∀ u ∈ eRow eds P (List.range eds.length), u.oneCell' = true := by
  intro u hu
  obtain ⟨j, hj, hs⟩ := List.mem_flatMap.1 hu
  simp at hs
  rcases hs with rfl | rfl | rfl
  · rfl
  · rfl
  · exact hP j (List.mem_range.1 hj)
theorem EdgV.one {w : World} {v : Value} {eds : List Edg} {P : Nat → Value} (h : EdgV w v eds P) : ∀ u ∈ eRow eds P (List.range eds.length), u.oneCell' = true := by
  obtain ⟨_, _, _, _, hp, _⟩ := h
  refine eRow_one eds P fun k hk => ?_
  obtain ⟨_, a, c, e, _⟩ := hp k hk
  rw [e]
  rfl
set_option maxRecDepth 100000 in
/-- Edges are appended to a row of the call's own. -/
theorem run_edges (w : World) (ty : TypeId) (base n : Nat) (v sv : Value) (xs : List Value) (eds : List Edg) (P : Nat → Value) (hown : w.ownsRow base 71 3 v n xs) (hl : EdgV w sv eds P) (hb : base ≤ w.heap.size)
    (hlen : n + eds.length ≤ 1000) :
    ∃ v' w', (Builtin.append_ #[23, 23] ty #[v, sv]).run Try.prog w = .ok v' w' ∧ w'.ownsRow base 71 3 v' (n + eds.length) (xs ++ eRow eds P (List.range eds.length)) ∧ w.grownBy w' v.ownBlock := by
  obtain ⟨i0, hi⟩ := info_of_underlying Try.underlying71
  have HI : i0.zero = some (.agg #[.int .i64 0, .int .i64 0, .slice none 0 0]) ∧ i0.size = 3 ∧ i0.bytes = 40 := by
    have h := edgeInfo
    rw [hi] at h
    simp at h
    exact h
  obtain ⟨A, c, rfl, hc, hp, hne⟩ := id hl
  cases A with
  | none =>
    have he : eds = [] := by
      cases eds with
      | nil => rfl
      | cons x l => obtain ⟨_, _, h, _⟩ := hne (by simp); cases h
    subst he
    have hrun : (Builtin.append_ #[23, 23] ty #[v, .slice none 0 c]).run Try.prog w = .ok v w := by
      rcases hown.2 with ⟨rfl, h0⟩ | ⟨g, cap, cur, rfl, _, _, h1, _⟩
      · simp [Builtin.append_, run_underlying Try.underlying23, sizeOf, typeInfo, hi, Builtin.lenOf, Builtin.firstCells]
      · simp [Builtin.append_, run_underlying Try.underlying23, sizeOf, typeInfo, hi, Builtin.lenOf, Builtin.firstCells, h1, storeCells]
    exact ⟨v, w, hrun, by simpa [eRow] using hown, grown_refl w _⟩
  | some ad =>
    have hk : ∀ j u, (eRow eds P (List.range eds.length))[j]? = some u → w.cell? (ad.add j) = some u := by
      intro j u hu
      by_cases he : eds = []
      · subst he
        simp [eRow] at hu
      · obtain ⟨b, o, e, hk⟩ := hne he
        injection e with e
        subst e
        exact hk j u hu
    obtain ⟨v', w', h1, h2, h3, _, _⟩ := run_append_own_at (P := Try.prog) w base 23 ty 71 i0 _ 3 40 Try.underlying23 hi HI.1 HI.2.1 HI.2.2 rfl (by decide) v n _ hown ad eds.length c (eRow eds P (List.range eds.length)) (by rw [eRow_length, List.length_range]) hk
      hl.one (by unfold maxLen; omega) (by omega) hb
    exact ⟨v', w', h1, h2, h3⟩
theorem wpl_edges {ops : Array Oper} {rest : List Oper} {o : Oper} {a : Act} {Q : Exit → Act → World → Prop} {w : World} (hgd : o.guard = none) (s x : Operand)
    (ho : o.op = .call { callee := .builtin .append, args := #[s, x], argTypes := #[23, 23] })
    (base n : Nat) (v sv : Value) (xs : List Value) (eds : List Edg) (P : Nat → Value) (hs : a.eval s = v) (hx : a.eval x = sv) (hown : w.ownsRow base 71 3 v n xs) (hl : EdgV w sv eds P) (hb : base ≤ w.heap.size)
    (hlen : n + eds.length ≤ 1000)
    (h : ∀ v' w', w'.ownsRow base 71 3 v' (n + eds.length) (xs ++ eRow eds P (List.range eds.length)) → w.grownBy w' v.ownBlock → wpList Try.prog ops Q rest (a.put o.dst v') w') : wpList Try.prog ops Q (o :: rest) a w := by
  refine wpList_plain hgd fun K hK => ?_
  obtain ⟨v', w', hr, h2, h3⟩ := run_edges w o.type base n v sv xs eds P hown hl hb hlen
  unfold Oper.wp execOp
  simp only [ho, resolve, invoke, builtin, Sem.run_bind, Sem.run_pure, Result.andThen_ok, List.map_toArray, List.map_cons, List.map_nil, hs, hx, hr]
  exact hK _ _ (h v' w' h2 h3)
end Go.Proofs.Ytkcfcjijmgbciaa
namespace Go.Proofs.Ytkcfcjijmgbciaa
open Go Go.RowKit Go.Shelf Ed

/-- What the law asks of Range and Least of a case and one of the same sheets whose changes agree with the first, too. -/
theorem more_facts (c d : Cas) (h : errC c = 0) (he : errC d = 0) (hs : d.shs = c.shs) (hag : ∀ y, Ag (sysA d) y → Ag (sysA c) y) (i : Nat) (hi : i < c.shs.length) :
    ((rangeE d i = ((0, 0), 9) ∧ leastE d = ([], 0, 9)) ∧ ((rangeE c i = ((0, 0), 9) ∧ leastE c = ([], 0, 9)) ∨ (rangeE c i).2 = 0 ∧ (leastE c).2.2 = 0)) ∨
    ((rangeE d i).2 = 0 ∧ (leastE d).2.2 = 0 ∧ (rangeE c i).2 = 0 ∧ (leastE c).2.2 = 0 ∧ (rangeE c i).1.1 ≤ (rangeE d i).1.1 ∧ (rangeE d i).1.2 ≤ (rangeE c i).1.2 ∧ (leastE c).2.1 ≤ (leastE d).2.1) := by
  have hi2 : i < d.shs.length := by rw [hs]; exact hi
  have hcost : ∀ y, costF (sysA d) y = costF (sysA c) y := by
    intro y
    have h1 : (sysA d).n = (sysA c).n := by simp [sysC, hs]
    have h2 : ∀ j, (sysA d).wt j = (sysA c).wt j := fun j => by show (d.shs.getD j default).wt = (c.shs.getD j default).wt; rw [hs]
    unfold costF
    rw [h1]
    simp only [h2]
  rcases range_spec d he i hi2 with ⟨h1, hno⟩ | ⟨h1, h2⟩
  · left
    refine ⟨⟨h1, least_no d he hno⟩, ?_⟩
    rcases range_spec c h i hi with ⟨h3, hno2⟩ | ⟨h3, h4⟩
    · exact .inl ⟨h3, least_no _ h hno2⟩
    · right
      refine ⟨h3, ?_⟩
      rcases least_spec _ h with ⟨_, hno2⟩ | ⟨h5, _⟩
      · obtain ⟨y, hy, _⟩ := h4.lo
        exact absurd hy (hno2 _)
      · exact h5
  · right
    obtain ⟨y, hy, ey⟩ := h2.lo
    obtain ⟨y', hy', ey'⟩ := h2.hi
    rcases least_spec d he with ⟨_, hno⟩ | ⟨h5, h6⟩
    · exact absurd hy (hno _)
    · rcases range_spec _ h i hi with ⟨_, hno2⟩ | ⟨h3, h4⟩
      · exact absurd (hag y hy) (hno2 _)
      · rcases least_spec _ h with ⟨_, hno2⟩ | ⟨h7, h8⟩
        · exact absurd (hag y hy) (hno2 _)
        · refine ⟨h1, h5, h3, h7, ?_, ?_, ?_⟩
          · have := h4.all y (hag y hy); omega
          · have := h4.all y' (hag y' hy'); omega
          · rw [h8.cost, h6.cost]
            exact Int.le_trans (h8.mn.2 _ (hag _ h6.ag)) (by rw [hcost]; exact Int.le_refl _)
theorem want_less_fold (t : Int) : ∀ (l : List (Int × Int)) (s s' : Int × Int), s.1 ≤ s'.1 → s'.2 ≤ s.2 → (l.foldl (wantStep t) s).1 ≤ (l.foldl (wantStep t) s').1 ∧ (l.foldl (wantStep t) s').2 ≤ (l.foldl (wantStep t) s).2 := by
  intro l
  induction l with
  | nil => intro s s' h1 h2; exact ⟨h1, h2⟩
  | cons p l ih =>
    intro s s' h1 h2
    rw [List.foldl_cons, List.foldl_cons]
    apply ih
    · simp only [wantStep]; omega
    · simp only [wantStep]; omega
theorem want_snoc (t : Int) (l : List (Int × Int)) (p : Int × Int) : (wantS t l).1 ≤ (wantS t (l ++ [p])).1 ∧ (wantS t (l ++ [p])).2 ≤ (wantS t l).2 := by
  unfold wantS
  rw [List.foldl_append, List.foldl_cons, List.foldl_nil]
  generalize l.foldl (wantStep t) _ = s
  simp only [wantStep]
  omega
/-- Cases of the same sheets of which the second's edges keep the first's, with wants that are no wider. -/
theorem ag_less (c d : Cas) (hm : c.eds.length ≤ 8) (hm' : d.eds.length ≤ 8) (hs : d.shs = c.shs) (ht : d.tol = c.tol) (hl : c.eds.length ≤ d.eds.length)
    (he : ∀ i, i < c.eds.length → (d.eds.getD i default).a = (c.eds.getD i default).a ∧ (d.eds.getD i default).b = (c.eds.getD i default).b ∧ (wantS c.tol (c.eds.getD i default).pts).1 ≤ (wantS c.tol (d.eds.getD i default).pts).1 ∧ (wantS c.tol (d.eds.getD i default).pts).2 ≤ (wantS c.tol (c.eds.getD i default).pts).2)
    (y : Nat → Int) (hy : Ag (sysA d) y) : Ag (sysA c) y := by
  refine ⟨fun i hi => ?_, fun e he' => ?_⟩
  · have hi' : i < c.shs.length := by simpa [sysC] using hi
    have h1 := hy.bx i (by simpa [sysC, hs] using hi')
    have h2 : (sysA d).most i = (sysA c).most i := by show (d.shs.getD i default).most = (c.shs.getD i default).most; rw [hs]
    rw [h2] at h1
    exact h1
  · simp only [sysC, List.mem_map, List.mem_range] at he'
    obtain ⟨i, hi, rfl⟩ := he'
    have hi' : i < c.eds.length := hi
    have h1 := hy.ed ⟨(d.eds.getD i default).a.toNat, (d.eds.getD i default).b.toNat, (wL (wsC d) i).1, (wL (wsC d) i).2⟩ (by simp only [sysC, List.mem_map, List.mem_range]; exact ⟨i, by omega, rfl⟩)
    have h2 := wsTo_get (wantF c) c.eds.length i hi' hm
    have h3 := wsTo_get (wantF d) d.eds.length i (by omega) hm'
    have e2 : wL (wsC c) i = wantF c i := Prod.ext h2.1 h2.2
    have e3 : wL (wsC d) i = wantF d i := Prod.ext h3.1 h3.2
    obtain ⟨g1, g2, g3, g4⟩ := he i hi'
    rw [e3] at h1
    rw [e2]
    unfold wantF at h1 ⊢
    rw [ht] at h1
    have h1' : (wantS c.tol (d.eds.getD i default).pts).1 ≤ y (d.eds.getD i default).a.toNat - y (d.eds.getD i default).b.toNat ∧ y (d.eds.getD i default).a.toNat - y (d.eds.getD i default).b.toNat ≤ (wantS c.tol (d.eds.getD i default).pts).2 := h1
    rw [g1, g2] at h1'
    show (wantS c.tol (c.eds.getD i default).pts).1 ≤ y (c.eds.getD i default).a.toNat - y (c.eds.getD i default).b.toNat ∧ y (c.eds.getD i default).a.toNat - y (c.eds.getD i default).b.toNat ≤ (wantS c.tol (c.eds.getD i default).pts).2
    omega
/-- The case of the law EdgeMore. -/
def moreC (c : Cas) (x : Edg) (k : Nat) : Cas :=
  if k < c.eds.length ∧ x.pts ≠ [] then ⟨c.tol, c.shs, c.eds.set k ⟨(c.eds.getD k default).a, (c.eds.getD k default).b, (c.eds.getD k default).pts ++ [x.pts.headD default]⟩⟩
  else ⟨c.tol, c.shs, c.eds ++ [x]⟩
theorem more_ag (c : Cas) (x : Edg) (k : Nat) (h : errC c = 0) (he : errC (moreC c x k) = 0) (y : Nat → Int) (hy : Ag (sysA (moreC c x k)) y) : Ag (sysA c) y := by
  have hv := valid_of h
  have hv' := valid_of he
  have m8 := hv.m8
  have m8' := hv'.m8
  unfold moreC at hy m8'
  by_cases hk : k < c.eds.length ∧ x.pts ≠ []
  · rw [if_pos hk] at hy m8'
    refine ag_less c _ m8 m8' rfl rfl (by simp) (fun i hi => ?_) y hy
    simp only [List.getD_eq_getElem?_getD, List.getElem?_set]
    by_cases hik : k = i
    · subst hik
      simp only [if_true, hk.1, Option.getD_some]
      exact ⟨trivial, trivial, want_snoc _ _ _⟩
    · simp only [if_neg hik]
      exact ⟨trivial, trivial, by omega, by omega⟩
  · rw [if_neg hk] at hy m8'
    refine ag_less c _ m8 m8' rfl rfl (by simp) (fun i hi => ?_) y hy
    have : (c.eds ++ [x]).getD i default = c.eds.getD i default := by simp [List.getD_eq_getElem?_getD, List.getElem?_append_left hi]
    simp only [this]
    exact ⟨trivial, trivial, by omega, by omega⟩
end Go.Proofs.Ytkcfcjijmgbciaa
namespace Go.Proofs.Ytkcfcjijmgbciaa
open Go Go.RowKit Go.Shelf Ed

theorem EdgV.below {w w' : World} {v : Value} {eds : List Edg} {P : Nat → Value} (h : EdgV w v eds P) (hb : Below w.heap.size w w') : EdgV w' v eds P := by
  obtain ⟨a, c, rfl, hc, hp, hne⟩ := h
  refine ⟨a, c, rfl, hc, fun k hk => (hp k hk).below hb, fun hn => ?_⟩
  obtain ⟨b, o, rfl, hk⟩ := hne hn
  exact ⟨b, o, rfl, fun j u hu => (hb.cell (World.block_lt_of_cell? w _ (hk j u hu))).trans (hk j u hu)⟩
theorem edgsAt_row {w : World} {B : Nat} {v : Value} {eds : List Edg} {P : Nat → Value} (h : w.ownsRow B 71 3 v eds.length (eRow eds P (List.range eds.length))) (hl : eds.length ≤ 4611686018427387904) (hp : ∀ k (hk : k < eds.length), PairsAt w (P k) eds[k].pts) : EdgsAt w v eds := by
  have e : (List.range eds.length).map (fun j => eds.getD j default) = eds := by
    apply List.ext_getElem (by simp)
    intro i h1 h2
    simp [List.getD_eq_getElem?_getD, h2]
  have h' := edgsAt_own (w := w) (base := B) (v := v) (eds := eds) (P := P) (js := List.range eds.length) (by rw [List.length_range]; exact h) (by rw [List.length_range]; exact hl) (fun j hj => by
    have hj' : j < eds.length := List.mem_range.1 hj
    rw [getD_lt _ _ hj']
    exact hp j hj')
  rwa [e] at h'
theorem eRow_congr (l m : List Edg) (P Q : Nat → Value) (n : Nat) (h : ∀ k, k < n → (l.getD k default).a = (m.getD k default).a ∧ (l.getD k default).b = (m.getD k default).b ∧ P k = Q k) : eRow l P (List.range n) = eRow m Q (List.range n) := by
  unfold eRow
  rw [List.flatMap_def, List.flatMap_def]
  congr 1
  apply List.map_congr_left
  intro k hk
  obtain ⟨h1, h2, h3⟩ := h k (List.mem_range.1 hk)
  rw [h1, h2, h3]
theorem eRow_snoc (eds : List Edg) (x : Edg) (P : Nat → Value) (pv : Value) :
    eRow eds P (List.range eds.length) ++ [.int .i64 x.a, .int .i64 x.b, pv] = eRow (eds ++ [x]) (fun j => if j = eds.length then pv else P j) (List.range (eds ++ [x]).length) := by
  rw [List.length_append, List.length_singleton, List.range_succ, eRow_append]
  have e1 : (eds ++ [x]).getD eds.length default = x := by simp [List.getD_eq_getElem?_getD]
  rw [e1, if_pos rfl]
  congr 1
  refine eRow_congr _ _ _ _ _ fun k hk => ?_
  have e2 : (eds ++ [x]).getD k default = eds.getD k default := by simp [List.getD_eq_getElem?_getD, List.getElem?_append_left hk]
  rw [e2, if_neg (by omega)]
  exact ⟨rfl, rfl, rfl⟩
theorem eRow_set (eds : List Edg) (P : Nat → Value) (pv : Value) (k : Nat) (hk : k < eds.length) (l : List (Int × Int)) :
    (eRow eds P (List.range eds.length)).set (k * 3 + 2) pv = eRow (eds.set k ⟨(eds.getD k default).a, (eds.getD k default).b, l⟩) (fun j => if j = k then pv else P j) (List.range (eds.set k ⟨(eds.getD k default).a, (eds.getD k default).b, l⟩).length) := by
  have hlen : (eds.set k ⟨(eds.getD k default).a, (eds.getD k default).b, l⟩).length = eds.length := List.length_set ..
  rw [hlen]
  have hd : ∀ i, ((eds.set k ⟨(eds.getD k default).a, (eds.getD k default).b, l⟩).getD i default).a = (eds.getD i default).a ∧ ((eds.set k ⟨(eds.getD k default).a, (eds.getD k default).b, l⟩).getD i default).b = (eds.getD i default).b := by
    intro i
    simp only [List.getD_eq_getElem?_getD, List.getElem?_set]
    by_cases e : k = i
    · subst e; simp [hk]
    · simp [e]
  apply List.ext_getElem?
  intro j
  by_cases hj : j < eds.length * 3
  · have hi : j / 3 < (List.range eds.length).length := by rw [List.length_range]; omega
    have g := eRow_get eds P (List.range eds.length) (j / 3) hi
    have g' := eRow_get (eds.set k ⟨(eds.getD k default).a, (eds.getD k default).b, l⟩) (fun j => if j = k then pv else P j) (List.range eds.length) (j / 3) hi
    rw [List.getElem_range] at g g'
    rw [(hd (j / 3)).1, (hd (j / 3)).2] at g'
    have hr : j = j / 3 * 3 ∨ j = j / 3 * 3 + 1 ∨ j = j / 3 * 3 + 2 := by omega
    rcases hr with q | q | q
    · rw [List.getElem?_set_ne (by omega), q, g.1, g'.1]
    · rw [List.getElem?_set_ne (by omega), q, g.2.1, g'.2.1]
    · by_cases e : j / 3 = k
      · have q2 : j = k * 3 + 2 := by omega
        rw [q, g'.2.2, if_pos e, ← q, q2]
        exact List.getElem?_set_self (by rw [eRow_length, List.length_range]; omega)
      · rw [List.getElem?_set_ne (by omega), q, g.2.2, g'.2.2, if_neg e]
  · rw [List.getElem?_eq_none (by rw [List.length_set, eRow_length, List.length_range]; omega), List.getElem?_eq_none (by rw [eRow_length, List.length_range]; omega)]
/-- One edge gets other points. -/
theorem edgsAt_set {w : World} {B g n cap k : Nat} {eds : List Edg} {P : Nat → Value} {pv : Value} (hn : n = eds.length) (hk : k < eds.length) (l : List (Int × Int)) (h : w.ownsRow B 71 3 (.slice (some ⟨g, 0, none⟩) n cap) n (eRow eds P (List.range eds.length))) (hl : eds.length ≤ 4611686018427387904)
    (hp : ∀ i (hi : i < eds.length), PairsAt (w.setCell ⟨g, k * 3 + 2, none⟩ pv) (P i) eds[i].pts) (hpv : PairsAt (w.setCell ⟨g, k * 3 + 2, none⟩ pv) pv l) :
    EdgsAt (w.setCell ⟨g, k * 3 + 2, none⟩ pv) (.slice (some ⟨g, 0, none⟩) n cap) (eds.set k ⟨(eds.getD k default).a, (eds.getD k default).b, l⟩) := by
  subst hn
  have h1 := (h.stored (k * 3 + 2) pv).1
  rw [eRow_set eds P pv k hk l] at h1
  have hlen : (eds.set k ⟨(eds.getD k default).a, (eds.getD k default).b, l⟩).length = eds.length := List.length_set ..
  have h2 := edgsAt_row (B := B) (by rw [hlen] at h1 ⊢; exact h1) (by rw [hlen]; exact hl) (fun i hi => ?_)
  · exact h2
  · rw [hlen] at hi
    by_cases e : k = i
    · subst e
      rw [List.getElem_set_self, if_pos rfl]
      exact hpv
    · rw [List.getElem_set_ne e, if_neg (by omega)]
      exact hp i hi
/-- One edge more. -/
theorem edgsAt_snoc {w : World} {B n : Nat} {v pv : Value} {eds : List Edg} {x : Edg} {P : Nat → Value} (hn : n = eds.length) (h : w.ownsRow B 71 3 v (n + 1) (eRow eds P (List.range eds.length) ++ [.int .i64 x.a, .int .i64 x.b, pv])) (hl : eds.length ≤ 1000)
    (hp : ∀ i (hi : i < eds.length), PairsAt w (P i) eds[i].pts) (hpv : PairsAt w pv x.pts) : EdgsAt w v (eds ++ [x]) := by
  subst hn
  rw [eRow_snoc] at h
  have hlen : (eds ++ [x]).length = eds.length + 1 := by simp
  refine edgsAt_row (B := B) (by rw [hlen] at h ⊢; exact h) (by rw [hlen]; omega) (fun i hi => ?_)
  by_cases e : i = eds.length
  · subst e
    rw [if_pos rfl]
    simpa using hpv
  · rw [if_neg e, List.getElem_append_left (by omega)]
    exact hp i (by omega)
end Go.Proofs.Ytkcfcjijmgbciaa
namespace Go.Proofs.Ytkcfcjijmgbciaa
open Go Go.RowKit Go.Shelf Ed

theorem keepT {B : Nat} {w w' : World} {b q : Nat} {v : Value} (h : w.cell? ⟨b, q, none⟩ = some v) (hb : Below B w w') (hl : b < B) : w'.cell? ⟨b, q, none⟩ = some v := (hb.cell (p := ⟨b, q, none⟩) hl).trans h
theorem flatP_one (l : List (Int × Int)) : ∀ u ∈ flatP l, u.oneCell' = true := by
  induction l with
  | nil => intro u hu; simp [flatP] at hu
  | cons p l ih =>
    intro u hu
    simp only [flatP, List.flatMap_cons, List.cons_append, List.nil_append, List.mem_cons] at hu
    rcases hu with rfl | rfl | hu
    · rfl
    · rfl
    · exact ih u hu
theorem flatP_len (l : List (Int × Int)) : (flatP l).length = l.length * 2 := by
  induction l with
  | nil => rfl
  | cons p l ih =>
    have e : flatP (p :: l) = [.int .i64 p.1, .int .i64 p.2] ++ flatP l := by simp [flatP]
    rw [e, List.length_append, ih, List.length_cons]
    simp; omega
theorem flatP_cells {w : World} {b o n cap : Nat} {l : List (Int × Int)} (h : PairsAt w (.slice (some ⟨b, o, none⟩) n cap) l) : ∀ j u, (flatP l)[j]? = some u → w.cell? ((⟨b, o, none⟩ : Addr).add j) = some u := by
  intro j u hu
  have hj : j < l.length * 2 := by
    have := (List.getElem?_eq_some_iff.1 hu).1
    rwa [flatP_len] at this
  have hk : j / 2 < l.length := by omega
  obtain ⟨b', o', e, c0, c1⟩ := h.get hk
  injection e with e
  injection e with e1 e2
  subst e1 e2
  have g := flatP_get l (j / 2) hk
  rw [Go.WideShapes.add_plain]
  have hr : j = j / 2 * 2 ∨ j = j / 2 * 2 + 1 := by omega
  rcases hr with q | q
  · rw [q] at hu ⊢
    rw [g.1] at hu
    rw [← hu]
    exact c0
  · have e2 : o + j = o + j / 2 * 2 + 1 := by omega
    rw [e2]
    rw [q, g.2] at hu
    rw [← hu]
    exact c1
set_option maxRecDepth 100000 in
set_option maxHeartbeats 16000000 in
theorem lmore_any (c : Cas) (x : Edg) (sv ev pv : Value) (q : Nat) (i : Int) (w : World) (hq : q ≤ 255) (hi : 0 ≤ i ∧ i ≤ 255) (hC : CasAt w c sv ev) (hX : PairsAt w pv x.pts) :
    Calls Try.prog 12 #[.agg #[.int .i64 c.tol, sv, ev], .agg #[.int .i64 x.a, .int .i64 x.b, pv], .agg #[.int .u8 q, .int .u8 i]] w fun e w' => e = .returned (.bool true) ∧ Below w.heap.size w w' := by
  obtain ⟨j, rfl⟩ : ∃ k : Nat, i = k := ⟨i.toNat, by omega⟩
  obtain ⟨sa, n, sc, rfl, hn⟩ : ∃ a n cc, sv = .slice a n cc ∧ n = c.shs.length := by obtain ⟨_, a, cap, h, _⟩ := hC.shs; exact ⟨_, _, _, h, rfl⟩
  obtain ⟨ea, m, ec, rfl, hm⟩ : ∃ a n cc, ev = .slice a n cc ∧ n = c.eds.length := by obtain ⟨_, a, cap, h, _⟩ := hC.eds; exact ⟨_, _, _, h, rfl⟩
  obtain ⟨pa, p, pc, rfl, hp⟩ : ∃ a n cc, pv = .slice a n cc ∧ n = x.pts.length := by obtain ⟨_, a, cap, h, _⟩ := hX; exact ⟨_, _, _, h, rfl⟩
  obtain ⟨tol, htol⟩ : ∃ t, c.tol = t := ⟨_, rfl⟩
  obtain ⟨xa, hxa⟩ : ∃ t, x.a = t := ⟨_, rfl⟩
  obtain ⟨xb, hxb⟩ : ∃ t, x.b = t := ⟨_, rfl⟩
  obtain ⟨i0, hi0⟩ := info_of_underlying Try.underlying74
  have HI0 : Hid (i0.zero = some (.agg #[.int .i64 0, .int .i64 0]) ∧ i0.size = 2 ∧ i0.bytes = 16) := by
    have h := pointInfo2
    rw [hi0] at h
    simp at h
    exact h
  obtain ⟨i1, hi1⟩ := info_of_underlying Try.underlying71
  have HI1 : Hid (i1.zero = some (.agg #[.int .i64 0, .int .i64 0, .slice none 0 0]) ∧ i1.size = 3 ∧ i1.bytes = 40) := by
    have h := edgeInfo
    rw [hi1] at h
    simp at h
    exact h
  have HTOL := Lib.hid htol
  have HN := Lib.hid hn
  have HM := Lib.hid hm
  have HP := Lib.hid hp
  have HXA := Lib.hid hxa
  have HXB := Lib.hid hxb
  have nlim : (n : Int) ≤ 4611686018427387904 := by have := hC.shs.1; omega
  have mlim : (m : Int) ≤ 4611686018427387904 := by have := hC.eds.1; omega
  have plim : (p : Int) ≤ 4611686018427387904 := by have := hX.1; omega
  obtain ⟨W, hW, r1, r2, r3, hb, hsz⟩ := al3 w (Obj.cells #[.int .i64 tol, .slice sa n sc, .slice ea m ec] 25) (Obj.cells #[.int .i64 xa, .int .i64 xb, .slice pa p pc] 71) (Obj.cells #[.int .u8 q, .int .u8 j] 72)
  have HR := Lib.hid r1
  have HXR := Lib.hid r2
  have HZ := Lib.hid r3
  have HC := Lib.hid (hC.below hb)
  have HX := Lib.hid (hX.below hb)
  have HW := Lib.hid hW
  have HB := Lib.hid hb
  obtain ⟨j0, j9⟩ := hi
  rw [htol, hxa, hxb]
  clear hW hb hC hX htol hn hm hp hxa hxb r1 r2 r3 hsz
  go_enter Try.func12, Try.ntmps12
  go_wp2_with fail
  rw [HW.out]
  clear HW
  have r0 := cellOf HR.out 0 _ rfl
  have r1 := cellOf HR.out 1 _ rfl
  have r2 := cellOf HR.out 2 _ rfl
  have rl := lt_of_block HR.out
  have x0 := cellOf HXR.out 0 _ rfl
  have x1 := cellOf HXR.out 1 _ rfl
  have x2 := cellOf HXR.out 2 _ rfl
  have xl := lt_of_block HXR.out
  have z0 := cellOf HZ.out 0 _ rfl
  have z1 := cellOf HZ.out 1 _ rfl
  have zl := lt_of_block HZ.out
  go_wp2_with fail
  clear r0 r1 r2 rl x0 x1 x2 xl z0 z1 zl
  have hcall := lvalid_any c _ _ W HC.out
  rw [HTOL.out] at hcall
  refine hcall.mono ?_
  clear hcall
  rintro e w1 ⟨rfl, hb⟩
  have HR' := Lib.hid ((hb.block _ (lt_of_block HR.out)).trans HR.out)
  have HXR' := Lib.hid ((hb.block _ (lt_of_block HXR.out)).trans HXR.out)
  have HZ' := Lib.hid ((hb.block _ (lt_of_block HZ.out)).trans HZ.out)
  have HC' := Lib.hid (HC.out.below hb)
  have HX' := Lib.hid (HX.out.below hb)
  have HB' := Lib.hid (HB.out.trans (hb.mono HB.out.size))
  clear HR
  have HR := HR'
  clear HR'
  clear HXR
  have HXR := HXR'
  clear HXR'
  clear HZ
  have HZ := HZ'
  clear HZ'
  clear HC
  have HC := HC'
  clear HC'
  clear HX
  have HX := HX'
  clear HX'
  clear HB
  have HB := HB'
  clear HB'
  clear hb
  by_cases h0 : errC c = 0
  · skip
    have HV := Lib.hid (valid_of h0)
    have H0 := Lib.hid h0
    rw [show decide (errC c = 0) = true by simp [h0]]
    clear h0
    have n1 : 1 ≤ n := by have := HV.out.n1; have := HN.out; omega
    have n5 : n ≤ 5 := by have := HV.out.n5; have := HN.out; omega
    have m8 : m ≤ 8 := by have := HV.out.m8; have := HM.out; omega
    have n1I : (1 : Int) ≤ n := by omega
    have n5I : (n : Int) ≤ 5 := by omega
    have m8I : (m : Int) ≤ 8 := by omega
    have qI : (q : Int) ≤ 255 := by omega
    have hba : Below w1.heap.size w1 ((w1.alloc (Obj.cells #[.int .i64 tol, .slice sa n sc, .slice ea m ec] 25)).alloc (Obj.cells #[] 71)) := by go_grown
    have hszA : ((w1.alloc (Obj.cells #[.int .i64 tol, .slice sa n sc, .slice ea m ec] 25)).alloc (Obj.cells #[] 71)).heap.size = w1.heap.size + 2 := by simp
    have hownA : ((w1.alloc (Obj.cells #[.int .i64 tol, .slice sa n sc, .slice ea m ec] 25)).alloc (Obj.cells #[] 71)).ownsRow (w1.heap.size + 1) 71 3 (.slice (some ⟨w1.heap.size + 1, 0, none⟩) 0 0) 0 [] := by
      have h := own_made (w1.alloc (Obj.cells #[.int .i64 tol, .slice sa n sc, .slice ea m ec] 25)) 71 3
      rw [show (w1.alloc (Obj.cells #[.int .i64 tol, .slice sa n sc, .slice ea m ec] 25)).heap.size = w1.heap.size + 1 by simp] at h
      exact h
    have hyA : ((w1.alloc (Obj.cells #[.int .i64 tol, .slice sa n sc, .slice ea m ec] 25)).alloc (Obj.cells #[] 71)).heap[w1.heap.size]? = some (Obj.cells #[.int .i64 tol, .slice sa n sc, .slice ea m ec] 25) := by
      have hb1 := (Below.refl (w1.alloc (Obj.cells #[.int .i64 tol, .slice sa n sc, .slice ea m ec] 25)).heap.size (w1.alloc (Obj.cells #[.int .i64 tol, .slice sa n sc, .slice ea m ec] 25))).alloc (Nat.le_refl _) (Obj.cells #[] 71)
      exact (hb1.block _ (by simp)).trans (heap_alloc_new w1 _)
    obtain ⟨P, hEV1⟩ := HC.out.eds.v
    have hEV := hEV1.below hba
    have HEV := Lib.hid hEV1
    have HYA := Lib.hid hyA
    have HBA := Lib.hid hba
    have hlenA : 0 + c.eds.length ≤ 1000 := by have := HM.out; omega
    have hbsA : w1.heap.size + 1 ≤ ((w1.alloc (Obj.cells #[.int .i64 tol, .slice sa n sc, .slice ea m ec] 25)).alloc (Obj.cells #[] 71)).heap.size := by omega
    clear hyA hba hEV1
    have r0 := cellOf HR.out 0 _ rfl
    have r1 := cellOf HR.out 1 _ rfl
    have r2 := cellOf HR.out 2 _ rfl
    have rl := lt_of_block HR.out
    have x0 := cellOf HXR.out 0 _ rfl
    have x1 := cellOf HXR.out 1 _ rfl
    have x2 := cellOf HXR.out 2 _ rfl
    have xl := lt_of_block HXR.out
    have z0 := cellOf HZ.out 0 _ rfl
    have z1 := cellOf HZ.out 1 _ rfl
    have zl := lt_of_block HZ.out
    go_wp2_with (at_builtin; refine wpl_edges rfl _ _ rfl (w1.heap.size + 1) 0 _ _ [] c.eds P rfl rfl hownA hEV hbsA hlenA ?_)
    clear r0 r1 r2 rl x0 x1 x2 xl z0 z1 zl
    intro v' w4 hown4 hgrow
    have hgb : ∀ g, (Value.slice (some ⟨w1.heap.size + 1, 0, none⟩) 0 0).ownBlock = some g → w1.heap.size + 1 ≤ g := fun g hg => (hownA.lt g hg).1
    have HL4 := Lib.hid (HBA.out.grown hgrow (by omega) (fun g hg => by have := hgb g hg; omega))
    have Y4 := Lib.hid ((hgrow.block _ (lt_of_block HYA.out) (fun e => by have := hgb _ e.symm; omega)).trans HYA.out)
    have hown5 : w4.ownsRow (w1.heap.size + 1) 71 3 v' m (eRow c.eds P (List.range c.eds.length)) := by
      rw [HM.out]
      exact hown4
    obtain ⟨na, nc, rfl⟩ := own_slice hown5
    have HO5 := Lib.hid hown5
    have h1l : w1.heap.size + 1 < w4.heap.size := by have := hgrow.size; simp at this; omega
    clear hown4 hown5 hgrow hgb HYA HBA hownA hEV hlenA hbsA hszA
    by_cases hcs : q < c.eds.length ∧ x.pts ≠ []
    · skip
      have hk : q < m := by rw [HM.out]; exact hcs.1
      have kI : (q : Int) < (m : Int) := by omega
      have hpp : 0 < x.pts.length := List.length_pos_iff.2 hcs.2
      have hp0 : 0 < p := by rw [HP.out]; exact hpp
      have hp1 : decide ((p : Int) > 0) = true := by simp; omega
      have hp2 : (0 : Int) < (p : Int) := by omega
      obtain ⟨eb, eo, ka, kc, heq, dd0, dd1, d2, hkp⟩ := HC.out.eds.get hcs.1
      clear dd0 dd1
      subst heq
      have hed := HV.out.ed _ (List.getElem_mem hcs.1)
      have kp1 := hed.p1
      have kp4 := hed.p4
      obtain ⟨kp, hkpe⟩ : ∃ l, c.eds[q].pts = l := ⟨_, rfl⟩
      rw [hkpe] at d2 hkp kp1 kp4
      obtain ⟨kn, hkn⟩ : ∃ k, kp.length = k := ⟨_, rfl⟩
      rw [hkn] at d2 hkp kp1 kp4
      have hk0 : 0 < kp.length := by omega
      obtain ⟨kb, ko, heq, k0, k1⟩ := hkp.get hk0
      clear k1
      subst heq
      have hkbl := World.block_lt_of_cell? w1 _ k0
      have hebl := World.block_lt_of_cell? w1 _ d2
      obtain ⟨pb, po, heq, f0, f1⟩ := HX.out.get hpp
      subst heq
      have hpbl := World.block_lt_of_cell? w1 _ f0
      obtain ⟨⟨x0, x1⟩, hx01⟩ : ∃ z, x.pts[0] = z := ⟨_, rfl⟩
      have hhd : x.pts.headD default = (x0, x1) := by
        have h : ∀ (l : List (Int × Int)) (h : 0 < l.length), l.headD default = l[0] := by
          intro l h
          cases l with
          | nil => simp at h
          | cons a l => rfl
        exact (h _ hpp).trans hx01
      rw [hx01] at f0 f1
      obtain ⟨g, rfl⟩ := own_some HO5.out (by omega)
      have hgB := (HO5.out.lt g rfl).1
      have hgl := (HO5.out.lt g rfl).2
      have HKP := Lib.hid hkp
      have HKPE := Lib.hid hkpe
      have HKN := Lib.hid hkn
      have HHD := Lib.hid hhd
      clear hkp hkpe hkn hhd hx01 hed k0 hpp
      have R4 := Lib.hid ((HL4.out.block _ (lt_of_block HR.out)).trans HR.out)
      have X4 := Lib.hid ((HL4.out.block _ (lt_of_block HXR.out)).trans HXR.out)
      have Z4 := Lib.hid ((HL4.out.block _ (lt_of_block HZ.out)).trans HZ.out)
      have r0 := cellOf R4.out 0 _ rfl
      have r1 := cellOf R4.out 1 _ rfl
      have r2 := cellOf R4.out 2 _ rfl
      have rl := lt_of_block R4.out
      have x0 := cellOf X4.out 0 _ rfl
      have x1 := cellOf X4.out 1 _ rfl
      have x2 := cellOf X4.out 2 _ rfl
      have xl := lt_of_block X4.out
      have z0 := cellOf Z4.out 0 _ rfl
      have z1 := cellOf Z4.out 1 _ rfl
      have zl := lt_of_block Z4.out
      have y0 := cellOf Y4.out 0 _ rfl
      have y1 := cellOf Y4.out 1 _ rfl
      have y2 := cellOf Y4.out 2 _ rfl
      have yl := lt_of_block Y4.out
      have y2f := frozen_of_row _ _ 2 _ _ Y4.out
      have rl1 := lt_of_block HR.out
      have xl1 := lt_of_block HXR.out
      have zl1 := lt_of_block HZ.out
      go_wp2_with fail
      clear r0 r1 r2 rl x0 x1 x2 xl z0 z1 zl y0 y1 y2 yl y2f rl1 xl1 zl1
      clear R4 X4 Z4
      obtain ⟨wr, hwr⟩ : ∃ V, (w4.setCell ⟨w1.heap.size, 2, none⟩ (.slice (some ⟨g, 0, none⟩) m nc)) = V := ⟨_, rfl⟩
      have HLW : Hid (Below w1.heap.size w1 wr) := by show Below _ _ _; rw [← hwr]; exact HL4.out.setCell (p := ⟨w1.heap.size, 2, none⟩) (Nat.le_refl _) _
      have YW : Hid (wr.heap[w1.heap.size]? = some (.cells #[.int .i64 tol, .slice sa n sc, .slice (some ⟨g, 0, none⟩) m nc] 25 (0, 0))) := by show _ = _; rw [← hwr]; exact heap_setCell_same w4 w1.heap.size 2 _ _ _ Y4.out
      have HOW : Hid (wr.ownsRow (w1.heap.size + 1) 71 3 (.slice (some ⟨g, 0, none⟩) m nc) m (eRow c.eds P (List.range c.eds.length))) := by show World.ownsRow _ _ _ _ _ _ _; rw [← hwr]; exact own_other HO5.out ⟨w1.heap.size, 2, none⟩ (by simp) _
      have hwl : w1.heap.size + 1 < wr.heap.size := by rw [← hwr]; simp; omega
      have HGL : Hid (g < wr.heap.size) := by show _ < _; rw [← hwr]; simp; omega
      rw [hwr]
      clear hwr hp1 hp2 HO5 HL4 Y4
      have HBS : w1.heap.size + 1 ≤ wr.heap.size := by omega
      have rl1 := lt_of_block HR.out
      have xl1 := lt_of_block HXR.out
      have r2c := cellOf ((HLW.out.block _ (lt_of_block HR.out)).trans HR.out) 2 _ rfl
      have x2c := cellOf ((HLW.out.block _ (lt_of_block HXR.out)).trans HXR.out) 2 _ rfl
      have y2c := cellOf YW.out 2 _ rfl
      have d2 := (HLW.out.cell (p := ⟨eb, eo + q * 3 + 2, none⟩) hebl).trans d2
      have f0 := (HLW.out.cell (p := ⟨pb, po, none⟩) hpbl).trans f0
      have f1 := (HLW.out.cell (p := ⟨pb, po + 1, none⟩) hpbl).trans f1
      have HKW := Lib.hid (flatP_cells (HKP.out.below HLW.out))
      have hko := flatP_one kp
      have hkl : (flatP kp).length = kn * 2 := by rw [flatP_len, HKN.out]
      have HEQ : Hid ((eRow c.eds P (List.range c.eds.length))[q * 3 + 2]? = some (P q)) := by
        have h := (eRow_get c.eds P (List.range c.eds.length) q (by rw [List.length_range]; exact hcs.1)).2.2
        rw [List.getElem_range] at h
        exact h
      have KA : ∀ W' : World, Below (w1.heap.size + 1) wr W' → (W'.cell? ⟨w.heap.size, 2, none⟩ = some (.slice (some ⟨eb, eo, none⟩) m ec) ∧ W'.cell? ⟨w.heap.size + 1, 2, none⟩ = some (.slice (some ⟨pb, po, none⟩) p pc) ∧ W'.cell? ⟨w1.heap.size, 2, none⟩ = some (.slice (some ⟨g, 0, none⟩) m nc) ∧ W'.cell? ⟨eb, eo + q * 3 + 2, none⟩ = some (.slice (some ⟨kb, ko, none⟩) kn kc) ∧ W'.cell? ⟨pb, po, none⟩ = some (.int .i64 x0) ∧ W'.cell? ⟨pb, po + 1, none⟩ = some (.int .i64 x1) ∧ Below (w1.heap.size + 1) wr W') := fun W' hb => ⟨keepT r2c hb (by omega), keepT x2c hb (by omega), keepT y2c hb (by omega), keepT d2 hb (by omega), keepT f0 hb (by omega), keepT f1 hb (by omega), hb⟩
      refine wp_region_noPanic ?_
      refine wp_region_held_drew (S := (fun W' => W'.cell? ⟨w.heap.size, 2, none⟩ = some (.slice (some ⟨eb, eo, none⟩) m ec) ∧ W'.cell? ⟨w.heap.size + 1, 2, none⟩ = some (.slice (some ⟨pb, po, none⟩) p pc) ∧ W'.cell? ⟨w1.heap.size, 2, none⟩ = some (.slice (some ⟨g, 0, none⟩) m nc) ∧ W'.cell? ⟨eb, eo + q * 3 + 2, none⟩ = some (.slice (some ⟨kb, ko, none⟩) kn kc) ∧ W'.cell? ⟨pb, po, none⟩ = some (.int .i64 x0) ∧ W'.cell? ⟨pb, po + 1, none⟩ = some (.int .i64 x1) ∧ Below (w1.heap.size + 1) wr W')) (by kernel_rfl) ?_ (fun hh0 => ?_)
      · exact KA _ (Below.refl _ _).drew
      refine wpAnyH_take (i := 0) (v := ?_) rfl (by as_aux_lemma => kernel_rfl) (by as_aux_lemma => kernel_rfl) (by as_aux_lemma => kernel_rfl) (fun _ _ _ h => h) (Or.inl ⟨by rfl, ?_⟩) (by assumption) ?_
      rotate_left
      · intro w hSw
        try dsimp only at hSw
        go_simp
        try with_reducible rfl
      try simp only [Act.put, List.getElem_toArray, List.getElem_cons_succ, List.getElem_cons_zero, List.setIfInBounds_toArray, List.set_cons_zero, List.set_cons_succ]
      refine wpAnyH_take (i := 1) (v := ?_) rfl (by as_aux_lemma => kernel_rfl) (by as_aux_lemma => kernel_rfl) (by as_aux_lemma => kernel_rfl) (fun _ _ _ h => h) (Or.inl ⟨by rfl, ?_⟩) (by assumption) ?_
      rotate_left
      · intro w hSw
        try dsimp only at hSw
        go_simp
        try with_reducible rfl
      try simp only [Act.put, List.getElem_toArray, List.getElem_cons_succ, List.getElem_cons_zero, List.setIfInBounds_toArray, List.set_cons_zero, List.set_cons_succ]
      refine wpAnyH_take (i := 2) (v := ?_) rfl (by as_aux_lemma => kernel_rfl) (by as_aux_lemma => kernel_rfl) (by as_aux_lemma => kernel_rfl) (fun _ _ _ h => h) (Or.inl ⟨by rfl, ?_⟩) (by assumption) ?_
      rotate_left
      · intro w hSw
        try dsimp only at hSw
        go_simp
        try with_reducible rfl
      try simp only [Act.put, List.getElem_toArray, List.getElem_cons_succ, List.getElem_cons_zero, List.setIfInBounds_toArray, List.set_cons_zero, List.set_cons_succ]
      refine wpAnyH_take (i := 4) (v := ?_) rfl (by as_aux_lemma => kernel_rfl) (by as_aux_lemma => kernel_rfl) (by as_aux_lemma => kernel_rfl) (fun _ _ _ h => h) (Or.inl ⟨by rfl, ?_⟩) (by assumption) ?_
      rotate_left
      · intro w hSw
        try dsimp only at hSw
        go_simp
        try with_reducible rfl
      try simp only [Act.put, List.getElem_toArray, List.getElem_cons_succ, List.getElem_cons_zero, List.setIfInBounds_toArray, List.set_cons_zero, List.set_cons_succ]
      refine wpAnyH_take (i := 5) (v := ?_) rfl (by as_aux_lemma => kernel_rfl) (by as_aux_lemma => kernel_rfl) (by as_aux_lemma => kernel_rfl) (fun _ _ _ h => h) (Or.inl ⟨by rfl, ?_⟩) (by assumption) ?_
      rotate_left
      · intro w hSw
        try dsimp only at hSw
        go_simp
        try with_reducible rfl
      try simp only [Act.put, List.getElem_toArray, List.getElem_cons_succ, List.getElem_cons_zero, List.setIfInBounds_toArray, List.set_cons_zero, List.set_cons_succ]
      refine wpAnyH_take (i := 6) (v := ?_) rfl (by as_aux_lemma => kernel_rfl) (by as_aux_lemma => kernel_rfl) (by as_aux_lemma => kernel_rfl) (fun _ _ _ h => h) (Or.inl ⟨by rfl, ?_⟩) (by assumption) ?_
      rotate_left
      · intro w hSw
        try dsimp only at hSw
        go_simp
        try with_reducible rfl
      try simp only [Act.put, List.getElem_toArray, List.getElem_cons_succ, List.getElem_cons_zero, List.setIfInBounds_toArray, List.set_cons_zero, List.set_cons_succ]
      refine wpAnyH_take (i := 7) (v := ?_) rfl (by as_aux_lemma => kernel_rfl) (by as_aux_lemma => kernel_rfl) (by as_aux_lemma => kernel_rfl) (fun _ _ _ h => h) (Or.inl ⟨by rfl, ?_⟩) (by assumption) ?_
      rotate_left
      · intro w hSw
        try dsimp only at hSw
        go_simp
        try with_reducible rfl
      try simp only [Act.put, List.getElem_toArray, List.getElem_cons_succ, List.getElem_cons_zero, List.setIfInBounds_toArray, List.set_cons_zero, List.set_cons_succ]
      refine wpAnyH_take (i := 8) (v := ?_) rfl (by as_aux_lemma => kernel_rfl) (by as_aux_lemma => kernel_rfl) (by as_aux_lemma => kernel_rfl) (fun _ _ _ h => h) (Or.inl ⟨by rfl, ?_⟩) (by assumption) ?_
      rotate_left
      · intro w hSw
        try dsimp only at hSw
        go_simp
        try with_reducible rfl
      try simp only [Act.put, List.getElem_toArray, List.getElem_cons_succ, List.getElem_cons_zero, List.setIfInBounds_toArray, List.set_cons_zero, List.set_cons_succ]
      refine wpAnyH_take (i := 9) (v := ?_) rfl (by as_aux_lemma => kernel_rfl) (by as_aux_lemma => kernel_rfl) (by as_aux_lemma => kernel_rfl) (fun _ _ _ h => h) (Or.inl ⟨by rfl, ?_⟩) (by assumption) ?_
      rotate_left
      · intro w hSw
        try dsimp only at hSw
        go_simp
        try with_reducible rfl
      try simp only [Act.put, List.getElem_toArray, List.getElem_cons_succ, List.getElem_cons_zero, List.setIfInBounds_toArray, List.set_cons_zero, List.set_cons_succ]
      refine wpAnyH_take (i := 11) (v := ?_) rfl (by as_aux_lemma => kernel_rfl) (by as_aux_lemma => kernel_rfl) (by as_aux_lemma => kernel_rfl) (fun _ _ _ h => h) (Or.inl ⟨by rfl, ?_⟩) (by assumption) ?_
      rotate_left
      · intro w hSw
        try dsimp only at hSw
        go_simp
        try with_reducible rfl
      try simp only [Act.put, List.getElem_toArray, List.getElem_cons_succ, List.getElem_cons_zero, List.setIfInBounds_toArray, List.set_cons_zero, List.set_cons_succ]
      refine wpAnyH_take (i := 12) (v := ?_) rfl (by as_aux_lemma => kernel_rfl) (by as_aux_lemma => kernel_rfl) (by as_aux_lemma => kernel_rfl) (fun _ _ _ h => h) (Or.inl ⟨by rfl, ?_⟩) (by assumption) ?_
      rotate_left
      · intro w hSw
        try dsimp only at hSw
        go_simp
        try with_reducible rfl
      try simp only [Act.put, List.getElem_toArray, List.getElem_cons_succ, List.getElem_cons_zero, List.setIfInBounds_toArray, List.set_cons_zero, List.set_cons_succ]
      refine wpAnyH_take (i := 13) (v := ?_) rfl (by as_aux_lemma => kernel_rfl) (by as_aux_lemma => kernel_rfl) (by as_aux_lemma => kernel_rfl) (fun _ _ _ h => h) (Or.inl ⟨by rfl, ?_⟩) (by assumption) ?_
      rotate_left
      · intro w hSw
        try dsimp only at hSw
        go_simp
        try with_reducible rfl
      try simp only [Act.put, List.getElem_toArray, List.getElem_cons_succ, List.getElem_cons_zero, List.setIfInBounds_toArray, List.set_cons_zero, List.set_cons_succ]
      refine wpAnyH_take (i := 14) (v := ?_) rfl (by as_aux_lemma => kernel_rfl) (by as_aux_lemma => kernel_rfl) (by as_aux_lemma => kernel_rfl) (fun _ _ _ h => h) (Or.inl ⟨by rfl, ?_⟩) (by assumption) ?_
      rotate_left
      · intro w hSw
        try dsimp only at hSw
        go_simp
        try with_reducible rfl
      try simp only [Act.put, List.getElem_toArray, List.getElem_cons_succ, List.getElem_cons_zero, List.setIfInBounds_toArray, List.set_cons_zero, List.set_cons_succ]
      refine wpAnyH_ready (rs := [3, 15]) (by as_aux_lemma => kernel_rfl) (by simp) ?_
      refine AllReadyH.cons rfl (fun K hK => ?_) (AllReadyH.cons rfl (fun K hK => ?_) AllReadyH.nil)
      · skip
        go_simp
        refine hK.out _ _ (KA _ ((hh0.2.2.2.2.2.2).alloc (Nat.le_trans HBS (hh0.2.2.2.2.2.2).size) _)) (fun hh1 => ?_)
        clear hK K
        try simp only [Act.put, List.getElem_toArray, List.getElem_cons_succ, List.getElem_cons_zero, List.setIfInBounds_toArray, List.set_cons_zero, List.set_cons_succ]
        refine wpAnyH_ready (rs := [10, 15]) (by as_aux_lemma => kernel_rfl) (by simp) ?_
        refine AllReadyH.cons rfl (fun K hK => ?_) (AllReadyH.cons rfl (fun K hK => ?_) AllReadyH.nil)
        · skip
          have hb10 : Below wr.heap.size wr (wr.drew.alloc (Obj.cells #[] 74)) := by go_grown
          have ho10 : (wr.drew.alloc (Obj.cells #[] 74)).ownsRow wr.heap.size 74 2 (.slice (some ⟨wr.heap.size, 0, none⟩) 0 0) 0 [] := own_made wr.drew 74 2
          refine step_app (by rfl) _ _ 69 74 (by rfl) i0 (.agg #[.int .i64 0, .int .i64 0]) 2 16 Try.underlying69 hi0 HI0.out.1 HI0.out.2.1 HI0.out.2.2 rfl (by decide) wr.heap.size 0 _ [] ⟨kb, ko, none⟩ kn kc (flatP kp) (by rfl) (by rfl) ho10 hkl ?pa1 hko hb10.size (by unfold maxLen; omega) (by omega) ?_
          case pa1 =>
            intro j' u' hj'
            exact (hb10.cell (p := (⟨kb, ko, none⟩ : Addr).add j') (by rw [Go.WideShapes.add_plain]; simp; omega)).trans (HKW.out j' u' hj')
          intro v1 V1 ho1 hg1 hl1 _
          have HV1 := Lib.hid (hb10.grown hg1 hb10.size (fun k hk => (hl1 k hk).1))
          have HO1 := Lib.hid ho1
          clear ho10 hb10 ho1 hg1 hl1
          refine hK.out _ _ ?_ (fun hh2 => ?_)
          · exact KA _ (HV1.out.mono HBS)
          clear hK K
          try simp only [Act.put, List.getElem_toArray, List.getElem_cons_succ, List.getElem_cons_zero, List.setIfInBounds_toArray, List.set_cons_zero, List.set_cons_succ]
          refine wpAnyH_ready (rs := [15]) (by as_aux_lemma => kernel_rfl) (by simp) ?_
          refine AllReadyH.cons rfl (fun K hK => ?_) AllReadyH.nil
          go_simp
          refine hK.out _ _ (KA _ ((hh2.2.2.2.2.2.2).alloc (Nat.le_trans HBS (hh2.2.2.2.2.2.2).size) _)) (fun hh3 => ?_)
          clear hK K
          try simp only [Act.put, List.getElem_toArray, List.getElem_cons_succ, List.getElem_cons_zero, List.setIfInBounds_toArray, List.set_cons_zero, List.set_cons_succ]
          refine wpAnyH_ready (rs := [16]) (by as_aux_lemma => kernel_rfl) (by simp) ?_
          refine AllReadyH.cons rfl (fun K hK => ?_) AllReadyH.nil
          have HOB := Lib.hid (heap_alloc_new V1 (Obj.cells #[.int .i64 x0, .int .i64 x1] 74))
          have hb16 : Below wr.heap.size wr (V1.alloc (Obj.cells #[.int .i64 x0, .int .i64 x1] 74)) := HV1.out.alloc HV1.out.size _
          have ho16 := HO1.out.alloc (Obj.cells #[.int .i64 x0, .int .i64 x1] 74)
          refine step_app (by rfl) _ _ 69 74 (by rfl) i0 (.agg #[.int .i64 0, .int .i64 0]) 2 16 Try.underlying69 hi0 HI0.out.1 HI0.out.2.1 HI0.out.2.2 rfl (by decide) wr.heap.size _ _ _ ⟨V1.heap.size, 0, none⟩ 1 1 [.int .i64 x0, .int .i64 x1] (by rfl) (by rfl) ho16 rfl ?pb1 ?pb2 hb16.size (by unfold maxLen; omega) (by omega) ?_
          case pb1 =>
            intro j' u' hj'
            match j', hj' with
            | 0, hj' => simp at hj'; subst hj'; exact cellOf HOB.out 0 _ rfl
            | 1, hj' => simp at hj'; subst hj'; exact cellOf HOB.out 1 _ rfl
            | j' + 2, hj' => simp at hj'
          case pb2 =>
            intro u' hu'
            simp at hu'
            rcases hu' with rfl | rfl <;> rfl
          intro v2 V2 ho2 hg2 hl2 _
          have HV2b := Lib.hid (hb16.grown hg2 hb16.size (fun k hk => (hl2 k hk).1))
          have ho3 : V2.ownsRow wr.heap.size 74 2 v2 (kn + 1) (flatP (kp ++ [(x0, x1)])) := by
            rw [flatP_append]
            simpa using ho2
          obtain ⟨ba, bc, rfl⟩ := own_slice ho3
          have HO2 := Lib.hid ho3
          clear ho2 hg2 hl2 ho3 hb16 ho16 HOB HO1
          refine hK.out _ _ ?_ (fun hh4 => ?_)
          · exact KA _ (HV2b.out.mono HBS)
          clear hK K
          try simp only [Act.put, List.getElem_toArray, List.getElem_cons_succ, List.getElem_cons_zero, List.setIfInBounds_toArray, List.set_cons_zero, List.set_cons_succ]
          refine wpAnyH_take (i := 17) (v := ?_) rfl (by as_aux_lemma => kernel_rfl) (by as_aux_lemma => kernel_rfl) (by as_aux_lemma => kernel_rfl) (fun _ _ _ h => h) (Or.inl ⟨by rfl, ?_⟩) (by assumption) ?_
          rotate_left
          · intro w hSw
            try dsimp only at hSw
            go_simp
            try with_reducible rfl
          try simp only [Act.put, List.getElem_toArray, List.getElem_cons_succ, List.getElem_cons_zero, List.setIfInBounds_toArray, List.set_cons_zero, List.set_cons_succ]
          refine wpAnyH_take (i := 18) (v := ?_) rfl (by as_aux_lemma => kernel_rfl) (by as_aux_lemma => kernel_rfl) (by as_aux_lemma => kernel_rfl) (fun _ _ _ h => h) (Or.inl ⟨by rfl, ?_⟩) (by assumption) ?_
          rotate_left
          · intro w hSw
            try dsimp only at hSw
            go_simp
            try with_reducible rfl
          try simp only [Act.put, List.getElem_toArray, List.getElem_cons_succ, List.getElem_cons_zero, List.setIfInBounds_toArray, List.set_cons_zero, List.set_cons_succ]
          refine wpAnyH_ready (rs := [19]) (by as_aux_lemma => kernel_rfl) (by simp) ?_
          refine AllReadyH.cons rfl (fun K hK => ?_) AllReadyH.nil
          have HOV := own_below HOW.out HV2b.out
          have gc := (HOV.cellAt (q * 3 + 2) (by omega)).trans HEQ.out
          have gf := HOV.frozenAt (q * 3 + 2)
          clear HOV
          go_simp
          refine hK.out _ _ ?_ (fun hh5 => ?_)
          · first | exact KA _ (two_below hh4.2.2.2.2.2.2 (by omega)) | exact KA _ ((hh4.2.2.2.2.2.2).setCell (by simp; omega) _) | exact KA _ ((hh0.2.2.2.2.2.2).alloc (hh0.2.2.2.2.2.2).size _) | exact KA _ ((hh1.2.2.2.2.2.2).alloc (hh1.2.2.2.2.2.2).size _) | exact KA _ ((hh2.2.2.2.2.2.2).alloc (hh2.2.2.2.2.2.2).size _) | exact KA _ ((hh3.2.2.2.2.2.2).alloc (hh3.2.2.2.2.2.2).size _)
          clear hK K
          try simp only [Act.put, List.getElem_toArray, List.getElem_cons_succ, List.getElem_cons_zero, List.setIfInBounds_toArray, List.set_cons_zero, List.set_cons_succ]
          refine wpAnyH_done (by as_aux_lemma => kernel_rfl) ?_ _
          refine NoPanic.normal ?_
          have HBZ := Lib.hid (hh5.2.2.2.2.2.2)
          have HOV := Lib.hid (own_below HOW.out HV2b.out)
          obtain ⟨D, hD⟩ : ∃ D, moreC c x q = D := ⟨_, rfl⟩
          have HDM := Lib.hid hD
          have HBE := Lib.hid (HLW.out.trans (HBZ.out.mono (by omega)))
          have HDE : Hid (EdgsAt (V2.setCell ⟨g, q * 3 + 2, none⟩ (.slice ba (kn + 1) bc)) (.slice (some ⟨g, 0, none⟩) m nc) D.eds) := by
            obtain ⟨_, _, _, _, hPP, _⟩ := HEV.out
            have hg := (HOV.out.stored (q * 3 + 2) (.slice ba (kn + 1) bc)).2
            have hnp := HO2.out.kept hg (own_apart (by decide) HO2.out HOV.out)
            have e : D.eds = c.eds.set q ⟨(c.eds.getD q default).a, (c.eds.getD q default).b, kp ++ [(x0, x1)]⟩ := by
              rw [← hD]
              unfold moreC
              rw [if_pos hcs, HHD.out, ← HKPE.out, getD_lt _ _ hcs.1]
            show EdgsAt _ _ _
            rw [e]
            exact edgsAt_set HM.out hcs.1 _ HOV.out (by have := HM.out; omega) (fun i hi => (hPP i hi).below HBE.out) (pairsAt_ownP (by rw [List.length_append, HKN.out]; rfl) hnp (by rw [List.length_append, HKN.out]; simp; omega))
          have HD0 : Hid (D.shs = c.shs ∧ D.tol = c.tol) := by show _ ∧ _; rw [← hD]; unfold moreC; split <;> exact ⟨rfl, rfl⟩
          have HV2 := Lib.hid ((HBZ.out.block w1.heap.size (by omega)).trans YW.out)
          obtain ⟨wz, hwz⟩ : ∃ V, V2.setCell ⟨g, q * 3 + 2, none⟩ (.slice ba (kn + 1) bc) = V := ⟨_, rfl⟩
          rw [hwz] at HBE HDE HV2 ⊢
          have HD : Hid (CasAt wz D (.slice sa n sc) (.slice (some ⟨g, 0, none⟩) m nc)) := ⟨by rw [HD0.out.1]; exact HC.out.shs.below HBE.out, HDE.out⟩
          have HR' := Lib.hid ((HBE.out.block _ (lt_of_block HR.out)).trans HR.out)
          have HXR' := Lib.hid ((HBE.out.block _ (lt_of_block HXR.out)).trans HXR.out)
          have HZ' := Lib.hid ((HBE.out.block _ (lt_of_block HZ.out)).trans HZ.out)
          have HC' := Lib.hid (HC.out.below HBE.out)
          have HX' := Lib.hid (HX.out.below HBE.out)
          have HB' := Lib.hid (HB.out.trans (HBE.out.mono HB.out.size))
          clear HR
          have HR := HR'
          clear HR'
          clear HXR
          have HXR := HXR'
          clear HXR'
          clear HZ
          have HZ := HZ'
          clear HZ'
          clear HC
          have HC := HC'
          clear HC'
          clear HX
          have HX := HX'
          clear HX'
          clear HB
          have HB := HB'
          clear HB'
          clear HBE HEV HBZ HDE HOV HV2b HO2 HLW YW HOW HV1 hwz hD hcs HKP HKPE HKN HHD HKW HEQ r2c x2c y2c d2 f0 f1 hko hkl KA rl1 xl1 gc gf hk kI hp0 kp1 kp4 hkbl hebl hpbl hgB hgl HBS HGL
          have r0 := cellOf HR.out 0 _ rfl
          have r1 := cellOf HR.out 1 _ rfl
          have r2 := cellOf HR.out 2 _ rfl
          have rl := lt_of_block HR.out
          have x0 := cellOf HXR.out 0 _ rfl
          have x1 := cellOf HXR.out 1 _ rfl
          have x2 := cellOf HXR.out 2 _ rfl
          have xl := lt_of_block HXR.out
          have z0 := cellOf HZ.out 0 _ rfl
          have z1 := cellOf HZ.out 1 _ rfl
          have zl := lt_of_block HZ.out
          have v0 := cellOf HV2.out 0 _ rfl
          have v1 := cellOf HV2.out 1 _ rfl
          have v2 := cellOf HV2.out 2 _ rfl
          have vl := lt_of_block HV2.out
          go_wp2_with fail
          clear r0 r1 r2 rl x0 x1 x2 xl z0 z1 zl v0 v1 v2 vl
          have HTD : Hid (D.tol = tol) := by show _ = _; rw [HD0.out.2, HTOL.out]
          have HSD : Hid (D.shs = c.shs) := HD0.out.1
          have hcall := lvalid_any D _ _ wz HD.out
          rw [HTD.out] at hcall
          refine hcall.mono ?_
          clear hcall
          rintro e w6 ⟨rfl, hb⟩
          have HR' := Lib.hid ((hb.block _ (lt_of_block HR.out)).trans HR.out)
          have HXR' := Lib.hid ((hb.block _ (lt_of_block HXR.out)).trans HXR.out)
          have HZ' := Lib.hid ((hb.block _ (lt_of_block HZ.out)).trans HZ.out)
          have HC' := Lib.hid (HC.out.below hb)
          have HX' := Lib.hid (HX.out.below hb)
          have HB' := Lib.hid (HB.out.trans (hb.mono HB.out.size))
          have HV2' := Lib.hid ((hb.block _ (lt_of_block HV2.out)).trans HV2.out)
          have HD' := Lib.hid (HD.out.below hb)
          clear HR
          have HR := HR'
          clear HR'
          clear HXR
          have HXR := HXR'
          clear HXR'
          clear HZ
          have HZ := HZ'
          clear HZ'
          clear HC
          have HC := HC'
          clear HC'
          clear HX
          have HX := HX'
          clear HX'
          clear HB
          have HB := HB'
          clear HB'
          clear HV2
          have HV2 := HV2'
          clear HV2'
          clear HD
          have HD := HD'
          clear HD'
          clear hb
          by_cases hd0 : errC D = 0
          · skip
            have HDE := Lib.hid hd0
            rw [show decide (errC D = 0) = true by simp [hd0]]
            clear hd0
            have nz : ((n : Int) == 0) = false := by rw [beq_eq_false_iff_ne]; omega
            have nd0 : ¬ n = 0 := by omega
            have nd1 : ¬ (n : Int) = -1 := by omega
            have em := tmod_nat j n
            have hxm : j % n < n := Nat.mod_lt _ (by omega)
            generalize hxn : j % n = i at *
            clear hxn
            have iI : (i : Int) < (n : Int) := by omega
            have r0 := cellOf HR.out 0 _ rfl
            have r1 := cellOf HR.out 1 _ rfl
            have r2 := cellOf HR.out 2 _ rfl
            have rl := lt_of_block HR.out
            have x0 := cellOf HXR.out 0 _ rfl
            have x1 := cellOf HXR.out 1 _ rfl
            have x2 := cellOf HXR.out 2 _ rfl
            have xl := lt_of_block HXR.out
            have z0 := cellOf HZ.out 0 _ rfl
            have z1 := cellOf HZ.out 1 _ rfl
            have zl := lt_of_block HZ.out
            have v0 := cellOf HV2.out 0 _ rfl
            have v1 := cellOf HV2.out 1 _ rfl
            have v2 := cellOf HV2.out 2 _ rfl
            have vl := lt_of_block HV2.out
            go_wp2_with fail
            clear r0 r1 r2 rl x0 x1 x2 xl z0 z1 zl v0 v1 v2 vl
            clear em nz nd0 nd1
            have hin : i < c.shs.length := by have := HN.out; omega
            have hfx := more_facts c D H0.out HDE.out HSD.out (by rw [← HDM.out] at HDE ⊢; exact more_ag c x q H0.out HDE.out) i hin
            clear hin
            obtain ⟨⟨⟨lo, hi⟩, e1⟩, h1⟩ : ∃ r, rangeE c i = r := ⟨_, rfl⟩
            obtain ⟨⟨⟨lo2, hi2⟩, e2⟩, h2⟩ : ∃ r, rangeE D i = r := ⟨_, rfl⟩
            obtain ⟨⟨la, ca, e3⟩, h3⟩ : ∃ r, leastE c = r := ⟨_, rfl⟩
            obtain ⟨⟨lb, cb, e4⟩, h4⟩ : ∃ r, leastE D = r := ⟨_, rfl⟩
            rw [h1, h2, h3, h4] at hfx
            simp only [Prod.mk.injEq] at hfx
            have H1 := Lib.hid h1
            have H2 := Lib.hid h2
            have H3 := Lib.hid h3
            have H4 := Lib.hid h4
            have HFX := Lib.hid hfx
            clear h1 h2 h3 h4 hfx
            have hcall := rangeT_any c _ _ (i : Int) w6 HC.out
            rw [HTOL.out] at hcall
            refine hcall.mono ?_
            clear hcall
            rintro e w7 ⟨rfl, hb⟩
            have HR' := Lib.hid ((hb.block _ (lt_of_block HR.out)).trans HR.out)
            have HXR' := Lib.hid ((hb.block _ (lt_of_block HXR.out)).trans HXR.out)
            have HZ' := Lib.hid ((hb.block _ (lt_of_block HZ.out)).trans HZ.out)
            have HC' := Lib.hid (HC.out.below hb)
            have HX' := Lib.hid (HX.out.below hb)
            have HB' := Lib.hid (HB.out.trans (hb.mono HB.out.size))
            have HV2' := Lib.hid ((hb.block _ (lt_of_block HV2.out)).trans HV2.out)
            have HD' := Lib.hid (HD.out.below hb)
            clear HR
            have HR := HR'
            clear HR'
            clear HXR
            have HXR := HXR'
            clear HXR'
            clear HZ
            have HZ := HZ'
            clear HZ'
            clear HC
            have HC := HC'
            clear HC'
            clear HX
            have HX := HX'
            clear HX'
            clear HB
            have HB := HB'
            clear HB'
            clear HV2
            have HV2 := HV2'
            clear HV2'
            clear HD
            have HD := HD'
            clear HD'
            clear hb
            rw [H1.out]
            simp only
            have r0 := cellOf HR.out 0 _ rfl
            have r1 := cellOf HR.out 1 _ rfl
            have r2 := cellOf HR.out 2 _ rfl
            have rl := lt_of_block HR.out
            have x0 := cellOf HXR.out 0 _ rfl
            have x1 := cellOf HXR.out 1 _ rfl
            have x2 := cellOf HXR.out 2 _ rfl
            have xl := lt_of_block HXR.out
            have z0 := cellOf HZ.out 0 _ rfl
            have z1 := cellOf HZ.out 1 _ rfl
            have zl := lt_of_block HZ.out
            have v0 := cellOf HV2.out 0 _ rfl
            have v1 := cellOf HV2.out 1 _ rfl
            have v2 := cellOf HV2.out 2 _ rfl
            have vl := lt_of_block HV2.out
            go_wp2_with fail
            clear r0 r1 r2 rl x0 x1 x2 xl z0 z1 zl v0 v1 v2 vl
            have hb := (Below.refl w7.heap.size w7).alloc (Nat.le_refl _) (Obj.cells #[.int .i64 lo, .int .i64 hi] 31)
            have HS1 := Lib.hid (heap_alloc_new w7 (Obj.cells #[.int .i64 lo, .int .i64 hi] 31))
            have HR' := Lib.hid ((hb.block _ (lt_of_block HR.out)).trans HR.out)
            have HXR' := Lib.hid ((hb.block _ (lt_of_block HXR.out)).trans HXR.out)
            have HZ' := Lib.hid ((hb.block _ (lt_of_block HZ.out)).trans HZ.out)
            have HC' := Lib.hid (HC.out.below hb)
            have HX' := Lib.hid (HX.out.below hb)
            have HB' := Lib.hid (HB.out.trans (hb.mono HB.out.size))
            have HV2' := Lib.hid ((hb.block _ (lt_of_block HV2.out)).trans HV2.out)
            have HD' := Lib.hid (HD.out.below hb)
            clear HR
            have HR := HR'
            clear HR'
            clear HXR
            have HXR := HXR'
            clear HXR'
            clear HZ
            have HZ := HZ'
            clear HZ'
            clear HC
            have HC := HC'
            clear HC'
            clear HX
            have HX := HX'
            clear HX'
            clear HB
            have HB := HB'
            clear HB'
            clear HV2
            have HV2 := HV2'
            clear HV2'
            clear HD
            have HD := HD'
            clear HD'
            clear hb
            generalize w7.alloc (Obj.cells #[.int .i64 lo, .int .i64 hi] 31) = w8 at *
            obtain ⟨u11, hu11⟩ : ∃ u, w7.heap.size = u := ⟨_, rfl⟩
            rw [hu11] at HS1 ⊢
            clear hu11
            have hcall := rangeT_any D _ _ (i : Int) w8 HD.out
            rw [HTD.out] at hcall
            refine hcall.mono ?_
            clear hcall
            rintro e w9 ⟨rfl, hb⟩
            have HR' := Lib.hid ((hb.block _ (lt_of_block HR.out)).trans HR.out)
            have HXR' := Lib.hid ((hb.block _ (lt_of_block HXR.out)).trans HXR.out)
            have HZ' := Lib.hid ((hb.block _ (lt_of_block HZ.out)).trans HZ.out)
            have HC' := Lib.hid (HC.out.below hb)
            have HX' := Lib.hid (HX.out.below hb)
            have HB' := Lib.hid (HB.out.trans (hb.mono HB.out.size))
            have HV2' := Lib.hid ((hb.block _ (lt_of_block HV2.out)).trans HV2.out)
            have HD' := Lib.hid (HD.out.below hb)
            have HS1' := Lib.hid ((hb.block _ (lt_of_block HS1.out)).trans HS1.out)
            clear HR
            have HR := HR'
            clear HR'
            clear HXR
            have HXR := HXR'
            clear HXR'
            clear HZ
            have HZ := HZ'
            clear HZ'
            clear HC
            have HC := HC'
            clear HC'
            clear HX
            have HX := HX'
            clear HX'
            clear HB
            have HB := HB'
            clear HB'
            clear HV2
            have HV2 := HV2'
            clear HV2'
            clear HD
            have HD := HD'
            clear HD'
            clear HS1
            have HS1 := HS1'
            clear HS1'
            clear hb
            rw [H2.out]
            simp only
            have r0 := cellOf HR.out 0 _ rfl
            have r1 := cellOf HR.out 1 _ rfl
            have r2 := cellOf HR.out 2 _ rfl
            have rl := lt_of_block HR.out
            have x0 := cellOf HXR.out 0 _ rfl
            have x1 := cellOf HXR.out 1 _ rfl
            have x2 := cellOf HXR.out 2 _ rfl
            have xl := lt_of_block HXR.out
            have z0 := cellOf HZ.out 0 _ rfl
            have z1 := cellOf HZ.out 1 _ rfl
            have zl := lt_of_block HZ.out
            have v0 := cellOf HV2.out 0 _ rfl
            have v1 := cellOf HV2.out 1 _ rfl
            have v2 := cellOf HV2.out 2 _ rfl
            have vl := lt_of_block HV2.out
            have s0 := cellOf HS1.out 0 _ rfl
            have s1 := cellOf HS1.out 1 _ rfl
            have sl := lt_of_block HS1.out
            go_wp2_with fail
            clear r0 r1 r2 rl x0 x1 x2 xl z0 z1 zl v0 v1 v2 vl s0 s1 sl
            have hb := (Below.refl w9.heap.size w9).alloc (Nat.le_refl _) (Obj.cells #[.int .i64 lo2, .int .i64 hi2] 31)
            have HS2 := Lib.hid (heap_alloc_new w9 (Obj.cells #[.int .i64 lo2, .int .i64 hi2] 31))
            have HR' := Lib.hid ((hb.block _ (lt_of_block HR.out)).trans HR.out)
            have HXR' := Lib.hid ((hb.block _ (lt_of_block HXR.out)).trans HXR.out)
            have HZ' := Lib.hid ((hb.block _ (lt_of_block HZ.out)).trans HZ.out)
            have HC' := Lib.hid (HC.out.below hb)
            have HX' := Lib.hid (HX.out.below hb)
            have HB' := Lib.hid (HB.out.trans (hb.mono HB.out.size))
            have HV2' := Lib.hid ((hb.block _ (lt_of_block HV2.out)).trans HV2.out)
            have HD' := Lib.hid (HD.out.below hb)
            have HS1' := Lib.hid ((hb.block _ (lt_of_block HS1.out)).trans HS1.out)
            clear HR
            have HR := HR'
            clear HR'
            clear HXR
            have HXR := HXR'
            clear HXR'
            clear HZ
            have HZ := HZ'
            clear HZ'
            clear HC
            have HC := HC'
            clear HC'
            clear HX
            have HX := HX'
            clear HX'
            clear HB
            have HB := HB'
            clear HB'
            clear HV2
            have HV2 := HV2'
            clear HV2'
            clear HD
            have HD := HD'
            clear HD'
            clear HS1
            have HS1 := HS1'
            clear HS1'
            clear hb
            generalize w9.alloc (Obj.cells #[.int .i64 lo2, .int .i64 hi2] 31) = wa at *
            obtain ⟨u13, hu13⟩ : ∃ u, w9.heap.size = u := ⟨_, rfl⟩
            rw [hu13] at HS2 ⊢
            clear hu13
            have hcall := least1_any c _ _ wa HC.out
            rw [HTOL.out] at hcall
            refine hcall.mono ?_
            clear hcall
            rintro e wb ⟨lv, rfl, hI, hb⟩
            have HR' := Lib.hid ((hb.block _ (lt_of_block HR.out)).trans HR.out)
            have HXR' := Lib.hid ((hb.block _ (lt_of_block HXR.out)).trans HXR.out)
            have HZ' := Lib.hid ((hb.block _ (lt_of_block HZ.out)).trans HZ.out)
            have HC' := Lib.hid (HC.out.below hb)
            have HX' := Lib.hid (HX.out.below hb)
            have HB' := Lib.hid (HB.out.trans (hb.mono HB.out.size))
            have HV2' := Lib.hid ((hb.block _ (lt_of_block HV2.out)).trans HV2.out)
            have HD' := Lib.hid (HD.out.below hb)
            have HS1' := Lib.hid ((hb.block _ (lt_of_block HS1.out)).trans HS1.out)
            have HS2' := Lib.hid ((hb.block _ (lt_of_block HS2.out)).trans HS2.out)
            clear HR
            have HR := HR'
            clear HR'
            clear HXR
            have HXR := HXR'
            clear HXR'
            clear HZ
            have HZ := HZ'
            clear HZ'
            clear HC
            have HC := HC'
            clear HC'
            clear HX
            have HX := HX'
            clear HX'
            clear HB
            have HB := HB'
            clear HB'
            clear HV2
            have HV2 := HV2'
            clear HV2'
            clear HD
            have HD := HD'
            clear HD'
            clear HS1
            have HS1 := HS1'
            clear HS1'
            clear HS2
            have HS2 := HS2'
            clear HS2'
            clear hb
            clear hI
            rw [H3.out]
            simp only
            have r0 := cellOf HR.out 0 _ rfl
            have r1 := cellOf HR.out 1 _ rfl
            have r2 := cellOf HR.out 2 _ rfl
            have rl := lt_of_block HR.out
            have x0 := cellOf HXR.out 0 _ rfl
            have x1 := cellOf HXR.out 1 _ rfl
            have x2 := cellOf HXR.out 2 _ rfl
            have xl := lt_of_block HXR.out
            have z0 := cellOf HZ.out 0 _ rfl
            have z1 := cellOf HZ.out 1 _ rfl
            have zl := lt_of_block HZ.out
            have v0 := cellOf HV2.out 0 _ rfl
            have v1 := cellOf HV2.out 1 _ rfl
            have v2 := cellOf HV2.out 2 _ rfl
            have vl := lt_of_block HV2.out
            have s0 := cellOf HS1.out 0 _ rfl
            have s1 := cellOf HS1.out 1 _ rfl
            have sl := lt_of_block HS1.out
            have t0 := cellOf HS2.out 0 _ rfl
            have t1 := cellOf HS2.out 1 _ rfl
            have tl := lt_of_block HS2.out
            go_wp2_with fail
            clear r0 r1 r2 rl x0 x1 x2 xl z0 z1 zl v0 v1 v2 vl s0 s1 sl t0 t1 tl
            have hcall := least1_any D _ _ wb HD.out
            rw [HTD.out] at hcall
            refine hcall.mono ?_
            clear hcall
            rintro e wc ⟨lv2, rfl, hI, hb⟩
            have HR' := Lib.hid ((hb.block _ (lt_of_block HR.out)).trans HR.out)
            have HXR' := Lib.hid ((hb.block _ (lt_of_block HXR.out)).trans HXR.out)
            have HZ' := Lib.hid ((hb.block _ (lt_of_block HZ.out)).trans HZ.out)
            have HC' := Lib.hid (HC.out.below hb)
            have HX' := Lib.hid (HX.out.below hb)
            have HB' := Lib.hid (HB.out.trans (hb.mono HB.out.size))
            have HV2' := Lib.hid ((hb.block _ (lt_of_block HV2.out)).trans HV2.out)
            have HD' := Lib.hid (HD.out.below hb)
            have HS1' := Lib.hid ((hb.block _ (lt_of_block HS1.out)).trans HS1.out)
            have HS2' := Lib.hid ((hb.block _ (lt_of_block HS2.out)).trans HS2.out)
            clear HR
            have HR := HR'
            clear HR'
            clear HXR
            have HXR := HXR'
            clear HXR'
            clear HZ
            have HZ := HZ'
            clear HZ'
            clear HC
            have HC := HC'
            clear HC'
            clear HX
            have HX := HX'
            clear HX'
            clear HB
            have HB := HB'
            clear HB'
            clear HV2
            have HV2 := HV2'
            clear HV2'
            clear HD
            have HD := HD'
            clear HD'
            clear HS1
            have HS1 := HS1'
            clear HS1'
            clear HS2
            have HS2 := HS2'
            clear HS2'
            clear hb
            clear hI
            rw [H4.out]
            simp only
            have hfx := HFX.out
            clear HFX H1 H2 H3 H4
            rcases hfx with ⟨⟨⟨⟨rfl, rfl⟩, rfl⟩, rfl, rfl, rfl⟩, hf2⟩ | ⟨rfl, rfl, rfl, rfl, k1, k2, k3⟩
            · skip
              rcases hf2 with ⟨⟨⟨rfl, rfl⟩, rfl⟩, rfl, rfl, rfl⟩ | ⟨rfl, rfl⟩
              · skip
                have r0 := cellOf HR.out 0 _ rfl
                have r1 := cellOf HR.out 1 _ rfl
                have r2 := cellOf HR.out 2 _ rfl
                have rl := lt_of_block HR.out
                have x0 := cellOf HXR.out 0 _ rfl
                have x1 := cellOf HXR.out 1 _ rfl
                have x2 := cellOf HXR.out 2 _ rfl
                have xl := lt_of_block HXR.out
                have z0 := cellOf HZ.out 0 _ rfl
                have z1 := cellOf HZ.out 1 _ rfl
                have zl := lt_of_block HZ.out
                have v0 := cellOf HV2.out 0 _ rfl
                have v1 := cellOf HV2.out 1 _ rfl
                have v2 := cellOf HV2.out 2 _ rfl
                have vl := lt_of_block HV2.out
                have s0 := cellOf HS1.out 0 _ rfl
                have s1 := cellOf HS1.out 1 _ rfl
                have sl := lt_of_block HS1.out
                have t0 := cellOf HS2.out 0 _ rfl
                have t1 := cellOf HS2.out 1 _ rfl
                have tl := lt_of_block HS2.out
                go_wp2_with fail
                clear r0 r1 r2 rl x0 x1 x2 xl z0 z1 zl v0 v1 v2 vl s0 s1 sl t0 t1 tl
                refine (awake_any wc).mono ?_
                rintro e wz ⟨rfl, hb⟩
                have HBF := Lib.hid (HB.out.trans (hb.mono HB.out.size))
                clear hb
                go_wp2_with fail
                go_ret
                exact ⟨rfl, HBF.out⟩
              · skip
                have r0 := cellOf HR.out 0 _ rfl
                have r1 := cellOf HR.out 1 _ rfl
                have r2 := cellOf HR.out 2 _ rfl
                have rl := lt_of_block HR.out
                have x0 := cellOf HXR.out 0 _ rfl
                have x1 := cellOf HXR.out 1 _ rfl
                have x2 := cellOf HXR.out 2 _ rfl
                have xl := lt_of_block HXR.out
                have z0 := cellOf HZ.out 0 _ rfl
                have z1 := cellOf HZ.out 1 _ rfl
                have zl := lt_of_block HZ.out
                have v0 := cellOf HV2.out 0 _ rfl
                have v1 := cellOf HV2.out 1 _ rfl
                have v2 := cellOf HV2.out 2 _ rfl
                have vl := lt_of_block HV2.out
                have s0 := cellOf HS1.out 0 _ rfl
                have s1 := cellOf HS1.out 1 _ rfl
                have sl := lt_of_block HS1.out
                have t0 := cellOf HS2.out 0 _ rfl
                have t1 := cellOf HS2.out 1 _ rfl
                have tl := lt_of_block HS2.out
                go_wp2_with fail
                clear r0 r1 r2 rl x0 x1 x2 xl z0 z1 zl v0 v1 v2 vl s0 s1 sl t0 t1 tl
                refine (awake_any wc).mono ?_
                rintro e wz ⟨rfl, hb⟩
                have HBF := Lib.hid (HB.out.trans (hb.mono HB.out.size))
                clear hb
                go_wp2_with fail
                go_ret
                exact ⟨rfl, HBF.out⟩
            · skip
              have r0 := cellOf HR.out 0 _ rfl
              have r1 := cellOf HR.out 1 _ rfl
              have r2 := cellOf HR.out 2 _ rfl
              have rl := lt_of_block HR.out
              have x0 := cellOf HXR.out 0 _ rfl
              have x1 := cellOf HXR.out 1 _ rfl
              have x2 := cellOf HXR.out 2 _ rfl
              have xl := lt_of_block HXR.out
              have z0 := cellOf HZ.out 0 _ rfl
              have z1 := cellOf HZ.out 1 _ rfl
              have zl := lt_of_block HZ.out
              have v0 := cellOf HV2.out 0 _ rfl
              have v1 := cellOf HV2.out 1 _ rfl
              have v2 := cellOf HV2.out 2 _ rfl
              have vl := lt_of_block HV2.out
              have s0 := cellOf HS1.out 0 _ rfl
              have s1 := cellOf HS1.out 1 _ rfl
              have sl := lt_of_block HS1.out
              have t0 := cellOf HS2.out 0 _ rfl
              have t1 := cellOf HS2.out 1 _ rfl
              have tl := lt_of_block HS2.out
              go_wp2_with fail
              clear r0 r1 r2 rl x0 x1 x2 xl z0 z1 zl v0 v1 v2 vl s0 s1 sl t0 t1 tl
              refine (awake_any wc).mono ?_
              rintro e wz ⟨rfl, hb⟩
              have HBF := Lib.hid (HB.out.trans (hb.mono HB.out.size))
              clear hb
              go_wp2_with fail
              go_ret
              exact ⟨rfl, HBF.out⟩
          · skip
            rw [show decide (errC D = 0) = false by simp [hd0]]
            clear hd0
            have r0 := cellOf HR.out 0 _ rfl
            have r1 := cellOf HR.out 1 _ rfl
            have r2 := cellOf HR.out 2 _ rfl
            have rl := lt_of_block HR.out
            have x0 := cellOf HXR.out 0 _ rfl
            have x1 := cellOf HXR.out 1 _ rfl
            have x2 := cellOf HXR.out 2 _ rfl
            have xl := lt_of_block HXR.out
            have z0 := cellOf HZ.out 0 _ rfl
            have z1 := cellOf HZ.out 1 _ rfl
            have zl := lt_of_block HZ.out
            have v0 := cellOf HV2.out 0 _ rfl
            have v1 := cellOf HV2.out 1 _ rfl
            have v2 := cellOf HV2.out 2 _ rfl
            have vl := lt_of_block HV2.out
            go_wp2_with fail
            clear r0 r1 r2 rl x0 x1 x2 xl z0 z1 zl v0 v1 v2 vl
            refine (awake_any w6).mono ?_
            rintro e wz ⟨rfl, hb⟩
            have HBF := Lib.hid (HB.out.trans (hb.mono HB.out.size))
            clear hb
            go_wp2_with fail
            go_ret
            exact ⟨rfl, HBF.out⟩
        · skip
          go_simp
          refine hK.out _ _ (KA _ ((hh1.2.2.2.2.2.2).alloc (Nat.le_trans HBS (hh1.2.2.2.2.2.2).size) _)) (fun hh2 => ?_)
          clear hK K
          try simp only [Act.put, List.getElem_toArray, List.getElem_cons_succ, List.getElem_cons_zero, List.setIfInBounds_toArray, List.set_cons_zero, List.set_cons_succ]
          refine wpAnyH_ready (rs := [10]) (by as_aux_lemma => kernel_rfl) (by simp) ?_
          refine AllReadyH.cons rfl (fun K hK => ?_) AllReadyH.nil
          have hb10 : Below wr.heap.size wr ((wr.drew.alloc (Obj.cells #[] 74)).alloc (Obj.cells #[.int .i64 x0, .int .i64 x1] 74)) := by go_grown
          have ho10 : ((wr.drew.alloc (Obj.cells #[] 74)).alloc (Obj.cells #[.int .i64 x0, .int .i64 x1] 74)).ownsRow wr.heap.size 74 2 (.slice (some ⟨wr.heap.size, 0, none⟩) 0 0) 0 [] := (own_made wr.drew 74 2).alloc _
          have hobk : ((wr.drew.alloc (Obj.cells #[] 74)).alloc (Obj.cells #[.int .i64 x0, .int .i64 x1] 74)).heap[wr.heap.size + 1]? = some (Obj.cells #[.int .i64 x0, .int .i64 x1] 74) := by
            have h := heap_alloc_new (wr.drew.alloc (Obj.cells #[] 74)) (Obj.cells #[.int .i64 x0, .int .i64 x1] 74)
            rw [show (wr.drew.alloc (Obj.cells #[] 74)).heap.size = wr.heap.size + 1 from (by simp : (wr.drew.alloc (Obj.cells #[] 74)).heap.size = wr.drew.heap.size + 1)] at h
            exact h
          refine step_app (by rfl) _ _ 69 74 (by rfl) i0 (.agg #[.int .i64 0, .int .i64 0]) 2 16 Try.underlying69 hi0 HI0.out.1 HI0.out.2.1 HI0.out.2.2 rfl (by decide) wr.heap.size 0 _ [] ⟨kb, ko, none⟩ kn kc (flatP kp) (by rfl) (by rfl) ho10 hkl ?pa1 hko hb10.size (by unfold maxLen; omega) (by omega) ?_
          case pa1 =>
            intro j' u' hj'
            exact (hb10.cell (p := (⟨kb, ko, none⟩ : Addr).add j') (by rw [Go.WideShapes.add_plain]; simp; omega)).trans (HKW.out j' u' hj')
          intro v1 V1 ho1 hg1 hl1 _
          have HV1 := Lib.hid (hb10.grown hg1 hb10.size (fun k hk => (hl1 k hk).1))
          have HO1 := Lib.hid ho1
          have HOB := Lib.hid ((hg1.block _ (lt_of_block hobk) (by show some _ ≠ some _; simp)).trans hobk)
          clear hobk
          clear ho10 hb10 ho1 hg1 hl1
          refine hK.out _ _ ?_ (fun hh3 => ?_)
          · exact KA _ (HV1.out.mono HBS)
          clear hK K
          try simp only [Act.put, List.getElem_toArray, List.getElem_cons_succ, List.getElem_cons_zero, List.setIfInBounds_toArray, List.set_cons_zero, List.set_cons_succ]
          refine wpAnyH_ready (rs := [16]) (by as_aux_lemma => kernel_rfl) (by simp) ?_
          refine AllReadyH.cons rfl (fun K hK => ?_) AllReadyH.nil
          have hb16 := HV1.out
          have ho16 := HO1.out
          refine step_app (by rfl) _ _ 69 74 (by rfl) i0 (.agg #[.int .i64 0, .int .i64 0]) 2 16 Try.underlying69 hi0 HI0.out.1 HI0.out.2.1 HI0.out.2.2 rfl (by decide) wr.heap.size _ _ _ ⟨wr.heap.size + 1, 0, none⟩ 1 1 [.int .i64 x0, .int .i64 x1] (by rfl) (by rfl) ho16 rfl ?pb1 ?pb2 hb16.size (by unfold maxLen; omega) (by omega) ?_
          case pb1 =>
            intro j' u' hj'
            match j', hj' with
            | 0, hj' => simp at hj'; subst hj'; exact cellOf HOB.out 0 _ rfl
            | 1, hj' => simp at hj'; subst hj'; exact cellOf HOB.out 1 _ rfl
            | j' + 2, hj' => simp at hj'
          case pb2 =>
            intro u' hu'
            simp at hu'
            rcases hu' with rfl | rfl <;> rfl
          intro v2 V2 ho2 hg2 hl2 _
          have HV2b := Lib.hid (hb16.grown hg2 hb16.size (fun k hk => (hl2 k hk).1))
          have ho3 : V2.ownsRow wr.heap.size 74 2 v2 (kn + 1) (flatP (kp ++ [(x0, x1)])) := by
            rw [flatP_append]
            simpa using ho2
          obtain ⟨ba, bc, rfl⟩ := own_slice ho3
          have HO2 := Lib.hid ho3
          clear ho2 hg2 hl2 ho3 hb16 ho16 HOB HO1
          refine hK.out _ _ ?_ (fun hh4 => ?_)
          · exact KA _ (HV2b.out.mono HBS)
          clear hK K
          try simp only [Act.put, List.getElem_toArray, List.getElem_cons_succ, List.getElem_cons_zero, List.setIfInBounds_toArray, List.set_cons_zero, List.set_cons_succ]
          refine wpAnyH_take (i := 17) (v := ?_) rfl (by as_aux_lemma => kernel_rfl) (by as_aux_lemma => kernel_rfl) (by as_aux_lemma => kernel_rfl) (fun _ _ _ h => h) (Or.inl ⟨by rfl, ?_⟩) (by assumption) ?_
          rotate_left
          · intro w hSw
            try dsimp only at hSw
            go_simp
            try with_reducible rfl
          try simp only [Act.put, List.getElem_toArray, List.getElem_cons_succ, List.getElem_cons_zero, List.setIfInBounds_toArray, List.set_cons_zero, List.set_cons_succ]
          refine wpAnyH_take (i := 18) (v := ?_) rfl (by as_aux_lemma => kernel_rfl) (by as_aux_lemma => kernel_rfl) (by as_aux_lemma => kernel_rfl) (fun _ _ _ h => h) (Or.inl ⟨by rfl, ?_⟩) (by assumption) ?_
          rotate_left
          · intro w hSw
            try dsimp only at hSw
            go_simp
            try with_reducible rfl
          try simp only [Act.put, List.getElem_toArray, List.getElem_cons_succ, List.getElem_cons_zero, List.setIfInBounds_toArray, List.set_cons_zero, List.set_cons_succ]
          refine wpAnyH_ready (rs := [19]) (by as_aux_lemma => kernel_rfl) (by simp) ?_
          refine AllReadyH.cons rfl (fun K hK => ?_) AllReadyH.nil
          have HOV := own_below HOW.out HV2b.out
          have gc := (HOV.cellAt (q * 3 + 2) (by omega)).trans HEQ.out
          have gf := HOV.frozenAt (q * 3 + 2)
          clear HOV
          go_simp
          refine hK.out _ _ ?_ (fun hh5 => ?_)
          · first | exact KA _ (two_below hh4.2.2.2.2.2.2 (by omega)) | exact KA _ ((hh4.2.2.2.2.2.2).setCell (by simp; omega) _) | exact KA _ ((hh0.2.2.2.2.2.2).alloc (hh0.2.2.2.2.2.2).size _) | exact KA _ ((hh1.2.2.2.2.2.2).alloc (hh1.2.2.2.2.2.2).size _) | exact KA _ ((hh2.2.2.2.2.2.2).alloc (hh2.2.2.2.2.2.2).size _) | exact KA _ ((hh3.2.2.2.2.2.2).alloc (hh3.2.2.2.2.2.2).size _)
          clear hK K
          try simp only [Act.put, List.getElem_toArray, List.getElem_cons_succ, List.getElem_cons_zero, List.setIfInBounds_toArray, List.set_cons_zero, List.set_cons_succ]
          refine wpAnyH_done (by as_aux_lemma => kernel_rfl) ?_ _
          refine NoPanic.normal ?_
          have HBZ := Lib.hid (hh5.2.2.2.2.2.2)
          have HOV := Lib.hid (own_below HOW.out HV2b.out)
          obtain ⟨D, hD⟩ : ∃ D, moreC c x q = D := ⟨_, rfl⟩
          have HDM := Lib.hid hD
          have HBE := Lib.hid (HLW.out.trans (HBZ.out.mono (by omega)))
          have HDE : Hid (EdgsAt (V2.setCell ⟨g, q * 3 + 2, none⟩ (.slice ba (kn + 1) bc)) (.slice (some ⟨g, 0, none⟩) m nc) D.eds) := by
            obtain ⟨_, _, _, _, hPP, _⟩ := HEV.out
            have hg := (HOV.out.stored (q * 3 + 2) (.slice ba (kn + 1) bc)).2
            have hnp := HO2.out.kept hg (own_apart (by decide) HO2.out HOV.out)
            have e : D.eds = c.eds.set q ⟨(c.eds.getD q default).a, (c.eds.getD q default).b, kp ++ [(x0, x1)]⟩ := by
              rw [← hD]
              unfold moreC
              rw [if_pos hcs, HHD.out, ← HKPE.out, getD_lt _ _ hcs.1]
            show EdgsAt _ _ _
            rw [e]
            exact edgsAt_set HM.out hcs.1 _ HOV.out (by have := HM.out; omega) (fun i hi => (hPP i hi).below HBE.out) (pairsAt_ownP (by rw [List.length_append, HKN.out]; rfl) hnp (by rw [List.length_append, HKN.out]; simp; omega))
          have HD0 : Hid (D.shs = c.shs ∧ D.tol = c.tol) := by show _ ∧ _; rw [← hD]; unfold moreC; split <;> exact ⟨rfl, rfl⟩
          have HV2 := Lib.hid ((HBZ.out.block w1.heap.size (by omega)).trans YW.out)
          obtain ⟨wz, hwz⟩ : ∃ V, V2.setCell ⟨g, q * 3 + 2, none⟩ (.slice ba (kn + 1) bc) = V := ⟨_, rfl⟩
          rw [hwz] at HBE HDE HV2 ⊢
          have HD : Hid (CasAt wz D (.slice sa n sc) (.slice (some ⟨g, 0, none⟩) m nc)) := ⟨by rw [HD0.out.1]; exact HC.out.shs.below HBE.out, HDE.out⟩
          have HR' := Lib.hid ((HBE.out.block _ (lt_of_block HR.out)).trans HR.out)
          have HXR' := Lib.hid ((HBE.out.block _ (lt_of_block HXR.out)).trans HXR.out)
          have HZ' := Lib.hid ((HBE.out.block _ (lt_of_block HZ.out)).trans HZ.out)
          have HC' := Lib.hid (HC.out.below HBE.out)
          have HX' := Lib.hid (HX.out.below HBE.out)
          have HB' := Lib.hid (HB.out.trans (HBE.out.mono HB.out.size))
          clear HR
          have HR := HR'
          clear HR'
          clear HXR
          have HXR := HXR'
          clear HXR'
          clear HZ
          have HZ := HZ'
          clear HZ'
          clear HC
          have HC := HC'
          clear HC'
          clear HX
          have HX := HX'
          clear HX'
          clear HB
          have HB := HB'
          clear HB'
          clear HBE HEV HBZ HDE HOV HV2b HO2 HLW YW HOW HV1 hwz hD hcs HKP HKPE HKN HHD HKW HEQ r2c x2c y2c d2 f0 f1 hko hkl KA rl1 xl1 gc gf hk kI hp0 kp1 kp4 hkbl hebl hpbl hgB hgl HBS HGL
          have r0 := cellOf HR.out 0 _ rfl
          have r1 := cellOf HR.out 1 _ rfl
          have r2 := cellOf HR.out 2 _ rfl
          have rl := lt_of_block HR.out
          have x0 := cellOf HXR.out 0 _ rfl
          have x1 := cellOf HXR.out 1 _ rfl
          have x2 := cellOf HXR.out 2 _ rfl
          have xl := lt_of_block HXR.out
          have z0 := cellOf HZ.out 0 _ rfl
          have z1 := cellOf HZ.out 1 _ rfl
          have zl := lt_of_block HZ.out
          have v0 := cellOf HV2.out 0 _ rfl
          have v1 := cellOf HV2.out 1 _ rfl
          have v2 := cellOf HV2.out 2 _ rfl
          have vl := lt_of_block HV2.out
          go_wp2_with fail
          clear r0 r1 r2 rl x0 x1 x2 xl z0 z1 zl v0 v1 v2 vl
          have HTD : Hid (D.tol = tol) := by show _ = _; rw [HD0.out.2, HTOL.out]
          have HSD : Hid (D.shs = c.shs) := HD0.out.1
          have hcall := lvalid_any D _ _ wz HD.out
          rw [HTD.out] at hcall
          refine hcall.mono ?_
          clear hcall
          rintro e w6 ⟨rfl, hb⟩
          have HR' := Lib.hid ((hb.block _ (lt_of_block HR.out)).trans HR.out)
          have HXR' := Lib.hid ((hb.block _ (lt_of_block HXR.out)).trans HXR.out)
          have HZ' := Lib.hid ((hb.block _ (lt_of_block HZ.out)).trans HZ.out)
          have HC' := Lib.hid (HC.out.below hb)
          have HX' := Lib.hid (HX.out.below hb)
          have HB' := Lib.hid (HB.out.trans (hb.mono HB.out.size))
          have HV2' := Lib.hid ((hb.block _ (lt_of_block HV2.out)).trans HV2.out)
          have HD' := Lib.hid (HD.out.below hb)
          clear HR
          have HR := HR'
          clear HR'
          clear HXR
          have HXR := HXR'
          clear HXR'
          clear HZ
          have HZ := HZ'
          clear HZ'
          clear HC
          have HC := HC'
          clear HC'
          clear HX
          have HX := HX'
          clear HX'
          clear HB
          have HB := HB'
          clear HB'
          clear HV2
          have HV2 := HV2'
          clear HV2'
          clear HD
          have HD := HD'
          clear HD'
          clear hb
          by_cases hd0 : errC D = 0
          · skip
            have HDE := Lib.hid hd0
            rw [show decide (errC D = 0) = true by simp [hd0]]
            clear hd0
            have nz : ((n : Int) == 0) = false := by rw [beq_eq_false_iff_ne]; omega
            have nd0 : ¬ n = 0 := by omega
            have nd1 : ¬ (n : Int) = -1 := by omega
            have em := tmod_nat j n
            have hxm : j % n < n := Nat.mod_lt _ (by omega)
            generalize hxn : j % n = i at *
            clear hxn
            have iI : (i : Int) < (n : Int) := by omega
            have r0 := cellOf HR.out 0 _ rfl
            have r1 := cellOf HR.out 1 _ rfl
            have r2 := cellOf HR.out 2 _ rfl
            have rl := lt_of_block HR.out
            have x0 := cellOf HXR.out 0 _ rfl
            have x1 := cellOf HXR.out 1 _ rfl
            have x2 := cellOf HXR.out 2 _ rfl
            have xl := lt_of_block HXR.out
            have z0 := cellOf HZ.out 0 _ rfl
            have z1 := cellOf HZ.out 1 _ rfl
            have zl := lt_of_block HZ.out
            have v0 := cellOf HV2.out 0 _ rfl
            have v1 := cellOf HV2.out 1 _ rfl
            have v2 := cellOf HV2.out 2 _ rfl
            have vl := lt_of_block HV2.out
            go_wp2_with fail
            clear r0 r1 r2 rl x0 x1 x2 xl z0 z1 zl v0 v1 v2 vl
            clear em nz nd0 nd1
            have hin : i < c.shs.length := by have := HN.out; omega
            have hfx := more_facts c D H0.out HDE.out HSD.out (by rw [← HDM.out] at HDE ⊢; exact more_ag c x q H0.out HDE.out) i hin
            clear hin
            obtain ⟨⟨⟨lo, hi⟩, e1⟩, h1⟩ : ∃ r, rangeE c i = r := ⟨_, rfl⟩
            obtain ⟨⟨⟨lo2, hi2⟩, e2⟩, h2⟩ : ∃ r, rangeE D i = r := ⟨_, rfl⟩
            obtain ⟨⟨la, ca, e3⟩, h3⟩ : ∃ r, leastE c = r := ⟨_, rfl⟩
            obtain ⟨⟨lb, cb, e4⟩, h4⟩ : ∃ r, leastE D = r := ⟨_, rfl⟩
            rw [h1, h2, h3, h4] at hfx
            simp only [Prod.mk.injEq] at hfx
            have H1 := Lib.hid h1
            have H2 := Lib.hid h2
            have H3 := Lib.hid h3
            have H4 := Lib.hid h4
            have HFX := Lib.hid hfx
            clear h1 h2 h3 h4 hfx
            have hcall := rangeT_any c _ _ (i : Int) w6 HC.out
            rw [HTOL.out] at hcall
            refine hcall.mono ?_
            clear hcall
            rintro e w7 ⟨rfl, hb⟩
            have HR' := Lib.hid ((hb.block _ (lt_of_block HR.out)).trans HR.out)
            have HXR' := Lib.hid ((hb.block _ (lt_of_block HXR.out)).trans HXR.out)
            have HZ' := Lib.hid ((hb.block _ (lt_of_block HZ.out)).trans HZ.out)
            have HC' := Lib.hid (HC.out.below hb)
            have HX' := Lib.hid (HX.out.below hb)
            have HB' := Lib.hid (HB.out.trans (hb.mono HB.out.size))
            have HV2' := Lib.hid ((hb.block _ (lt_of_block HV2.out)).trans HV2.out)
            have HD' := Lib.hid (HD.out.below hb)
            clear HR
            have HR := HR'
            clear HR'
            clear HXR
            have HXR := HXR'
            clear HXR'
            clear HZ
            have HZ := HZ'
            clear HZ'
            clear HC
            have HC := HC'
            clear HC'
            clear HX
            have HX := HX'
            clear HX'
            clear HB
            have HB := HB'
            clear HB'
            clear HV2
            have HV2 := HV2'
            clear HV2'
            clear HD
            have HD := HD'
            clear HD'
            clear hb
            rw [H1.out]
            simp only
            have r0 := cellOf HR.out 0 _ rfl
            have r1 := cellOf HR.out 1 _ rfl
            have r2 := cellOf HR.out 2 _ rfl
            have rl := lt_of_block HR.out
            have x0 := cellOf HXR.out 0 _ rfl
            have x1 := cellOf HXR.out 1 _ rfl
            have x2 := cellOf HXR.out 2 _ rfl
            have xl := lt_of_block HXR.out
            have z0 := cellOf HZ.out 0 _ rfl
            have z1 := cellOf HZ.out 1 _ rfl
            have zl := lt_of_block HZ.out
            have v0 := cellOf HV2.out 0 _ rfl
            have v1 := cellOf HV2.out 1 _ rfl
            have v2 := cellOf HV2.out 2 _ rfl
            have vl := lt_of_block HV2.out
            go_wp2_with fail
            clear r0 r1 r2 rl x0 x1 x2 xl z0 z1 zl v0 v1 v2 vl
            have hb := (Below.refl w7.heap.size w7).alloc (Nat.le_refl _) (Obj.cells #[.int .i64 lo, .int .i64 hi] 31)
            have HS1 := Lib.hid (heap_alloc_new w7 (Obj.cells #[.int .i64 lo, .int .i64 hi] 31))
            have HR' := Lib.hid ((hb.block _ (lt_of_block HR.out)).trans HR.out)
            have HXR' := Lib.hid ((hb.block _ (lt_of_block HXR.out)).trans HXR.out)
            have HZ' := Lib.hid ((hb.block _ (lt_of_block HZ.out)).trans HZ.out)
            have HC' := Lib.hid (HC.out.below hb)
            have HX' := Lib.hid (HX.out.below hb)
            have HB' := Lib.hid (HB.out.trans (hb.mono HB.out.size))
            have HV2' := Lib.hid ((hb.block _ (lt_of_block HV2.out)).trans HV2.out)
            have HD' := Lib.hid (HD.out.below hb)
            clear HR
            have HR := HR'
            clear HR'
            clear HXR
            have HXR := HXR'
            clear HXR'
            clear HZ
            have HZ := HZ'
            clear HZ'
            clear HC
            have HC := HC'
            clear HC'
            clear HX
            have HX := HX'
            clear HX'
            clear HB
            have HB := HB'
            clear HB'
            clear HV2
            have HV2 := HV2'
            clear HV2'
            clear HD
            have HD := HD'
            clear HD'
            clear hb
            generalize w7.alloc (Obj.cells #[.int .i64 lo, .int .i64 hi] 31) = w8 at *
            obtain ⟨u11, hu11⟩ : ∃ u, w7.heap.size = u := ⟨_, rfl⟩
            rw [hu11] at HS1 ⊢
            clear hu11
            have hcall := rangeT_any D _ _ (i : Int) w8 HD.out
            rw [HTD.out] at hcall
            refine hcall.mono ?_
            clear hcall
            rintro e w9 ⟨rfl, hb⟩
            have HR' := Lib.hid ((hb.block _ (lt_of_block HR.out)).trans HR.out)
            have HXR' := Lib.hid ((hb.block _ (lt_of_block HXR.out)).trans HXR.out)
            have HZ' := Lib.hid ((hb.block _ (lt_of_block HZ.out)).trans HZ.out)
            have HC' := Lib.hid (HC.out.below hb)
            have HX' := Lib.hid (HX.out.below hb)
            have HB' := Lib.hid (HB.out.trans (hb.mono HB.out.size))
            have HV2' := Lib.hid ((hb.block _ (lt_of_block HV2.out)).trans HV2.out)
            have HD' := Lib.hid (HD.out.below hb)
            have HS1' := Lib.hid ((hb.block _ (lt_of_block HS1.out)).trans HS1.out)
            clear HR
            have HR := HR'
            clear HR'
            clear HXR
            have HXR := HXR'
            clear HXR'
            clear HZ
            have HZ := HZ'
            clear HZ'
            clear HC
            have HC := HC'
            clear HC'
            clear HX
            have HX := HX'
            clear HX'
            clear HB
            have HB := HB'
            clear HB'
            clear HV2
            have HV2 := HV2'
            clear HV2'
            clear HD
            have HD := HD'
            clear HD'
            clear HS1
            have HS1 := HS1'
            clear HS1'
            clear hb
            rw [H2.out]
            simp only
            have r0 := cellOf HR.out 0 _ rfl
            have r1 := cellOf HR.out 1 _ rfl
            have r2 := cellOf HR.out 2 _ rfl
            have rl := lt_of_block HR.out
            have x0 := cellOf HXR.out 0 _ rfl
            have x1 := cellOf HXR.out 1 _ rfl
            have x2 := cellOf HXR.out 2 _ rfl
            have xl := lt_of_block HXR.out
            have z0 := cellOf HZ.out 0 _ rfl
            have z1 := cellOf HZ.out 1 _ rfl
            have zl := lt_of_block HZ.out
            have v0 := cellOf HV2.out 0 _ rfl
            have v1 := cellOf HV2.out 1 _ rfl
            have v2 := cellOf HV2.out 2 _ rfl
            have vl := lt_of_block HV2.out
            have s0 := cellOf HS1.out 0 _ rfl
            have s1 := cellOf HS1.out 1 _ rfl
            have sl := lt_of_block HS1.out
            go_wp2_with fail
            clear r0 r1 r2 rl x0 x1 x2 xl z0 z1 zl v0 v1 v2 vl s0 s1 sl
            have hb := (Below.refl w9.heap.size w9).alloc (Nat.le_refl _) (Obj.cells #[.int .i64 lo2, .int .i64 hi2] 31)
            have HS2 := Lib.hid (heap_alloc_new w9 (Obj.cells #[.int .i64 lo2, .int .i64 hi2] 31))
            have HR' := Lib.hid ((hb.block _ (lt_of_block HR.out)).trans HR.out)
            have HXR' := Lib.hid ((hb.block _ (lt_of_block HXR.out)).trans HXR.out)
            have HZ' := Lib.hid ((hb.block _ (lt_of_block HZ.out)).trans HZ.out)
            have HC' := Lib.hid (HC.out.below hb)
            have HX' := Lib.hid (HX.out.below hb)
            have HB' := Lib.hid (HB.out.trans (hb.mono HB.out.size))
            have HV2' := Lib.hid ((hb.block _ (lt_of_block HV2.out)).trans HV2.out)
            have HD' := Lib.hid (HD.out.below hb)
            have HS1' := Lib.hid ((hb.block _ (lt_of_block HS1.out)).trans HS1.out)
            clear HR
            have HR := HR'
            clear HR'
            clear HXR
            have HXR := HXR'
            clear HXR'
            clear HZ
            have HZ := HZ'
            clear HZ'
            clear HC
            have HC := HC'
            clear HC'
            clear HX
            have HX := HX'
            clear HX'
            clear HB
            have HB := HB'
            clear HB'
            clear HV2
            have HV2 := HV2'
            clear HV2'
            clear HD
            have HD := HD'
            clear HD'
            clear HS1
            have HS1 := HS1'
            clear HS1'
            clear hb
            generalize w9.alloc (Obj.cells #[.int .i64 lo2, .int .i64 hi2] 31) = wa at *
            obtain ⟨u13, hu13⟩ : ∃ u, w9.heap.size = u := ⟨_, rfl⟩
            rw [hu13] at HS2 ⊢
            clear hu13
            have hcall := least1_any c _ _ wa HC.out
            rw [HTOL.out] at hcall
            refine hcall.mono ?_
            clear hcall
            rintro e wb ⟨lv, rfl, hI, hb⟩
            have HR' := Lib.hid ((hb.block _ (lt_of_block HR.out)).trans HR.out)
            have HXR' := Lib.hid ((hb.block _ (lt_of_block HXR.out)).trans HXR.out)
            have HZ' := Lib.hid ((hb.block _ (lt_of_block HZ.out)).trans HZ.out)
            have HC' := Lib.hid (HC.out.below hb)
            have HX' := Lib.hid (HX.out.below hb)
            have HB' := Lib.hid (HB.out.trans (hb.mono HB.out.size))
            have HV2' := Lib.hid ((hb.block _ (lt_of_block HV2.out)).trans HV2.out)
            have HD' := Lib.hid (HD.out.below hb)
            have HS1' := Lib.hid ((hb.block _ (lt_of_block HS1.out)).trans HS1.out)
            have HS2' := Lib.hid ((hb.block _ (lt_of_block HS2.out)).trans HS2.out)
            clear HR
            have HR := HR'
            clear HR'
            clear HXR
            have HXR := HXR'
            clear HXR'
            clear HZ
            have HZ := HZ'
            clear HZ'
            clear HC
            have HC := HC'
            clear HC'
            clear HX
            have HX := HX'
            clear HX'
            clear HB
            have HB := HB'
            clear HB'
            clear HV2
            have HV2 := HV2'
            clear HV2'
            clear HD
            have HD := HD'
            clear HD'
            clear HS1
            have HS1 := HS1'
            clear HS1'
            clear HS2
            have HS2 := HS2'
            clear HS2'
            clear hb
            clear hI
            rw [H3.out]
            simp only
            have r0 := cellOf HR.out 0 _ rfl
            have r1 := cellOf HR.out 1 _ rfl
            have r2 := cellOf HR.out 2 _ rfl
            have rl := lt_of_block HR.out
            have x0 := cellOf HXR.out 0 _ rfl
            have x1 := cellOf HXR.out 1 _ rfl
            have x2 := cellOf HXR.out 2 _ rfl
            have xl := lt_of_block HXR.out
            have z0 := cellOf HZ.out 0 _ rfl
            have z1 := cellOf HZ.out 1 _ rfl
            have zl := lt_of_block HZ.out
            have v0 := cellOf HV2.out 0 _ rfl
            have v1 := cellOf HV2.out 1 _ rfl
            have v2 := cellOf HV2.out 2 _ rfl
            have vl := lt_of_block HV2.out
            have s0 := cellOf HS1.out 0 _ rfl
            have s1 := cellOf HS1.out 1 _ rfl
            have sl := lt_of_block HS1.out
            have t0 := cellOf HS2.out 0 _ rfl
            have t1 := cellOf HS2.out 1 _ rfl
            have tl := lt_of_block HS2.out
            go_wp2_with fail
            clear r0 r1 r2 rl x0 x1 x2 xl z0 z1 zl v0 v1 v2 vl s0 s1 sl t0 t1 tl
            have hcall := least1_any D _ _ wb HD.out
            rw [HTD.out] at hcall
            refine hcall.mono ?_
            clear hcall
            rintro e wc ⟨lv2, rfl, hI, hb⟩
            have HR' := Lib.hid ((hb.block _ (lt_of_block HR.out)).trans HR.out)
            have HXR' := Lib.hid ((hb.block _ (lt_of_block HXR.out)).trans HXR.out)
            have HZ' := Lib.hid ((hb.block _ (lt_of_block HZ.out)).trans HZ.out)
            have HC' := Lib.hid (HC.out.below hb)
            have HX' := Lib.hid (HX.out.below hb)
            have HB' := Lib.hid (HB.out.trans (hb.mono HB.out.size))
            have HV2' := Lib.hid ((hb.block _ (lt_of_block HV2.out)).trans HV2.out)
            have HD' := Lib.hid (HD.out.below hb)
            have HS1' := Lib.hid ((hb.block _ (lt_of_block HS1.out)).trans HS1.out)
            have HS2' := Lib.hid ((hb.block _ (lt_of_block HS2.out)).trans HS2.out)
            clear HR
            have HR := HR'
            clear HR'
            clear HXR
            have HXR := HXR'
            clear HXR'
            clear HZ
            have HZ := HZ'
            clear HZ'
            clear HC
            have HC := HC'
            clear HC'
            clear HX
            have HX := HX'
            clear HX'
            clear HB
            have HB := HB'
            clear HB'
            clear HV2
            have HV2 := HV2'
            clear HV2'
            clear HD
            have HD := HD'
            clear HD'
            clear HS1
            have HS1 := HS1'
            clear HS1'
            clear HS2
            have HS2 := HS2'
            clear HS2'
            clear hb
            clear hI
            rw [H4.out]
            simp only
            have hfx := HFX.out
            clear HFX H1 H2 H3 H4
            rcases hfx with ⟨⟨⟨⟨rfl, rfl⟩, rfl⟩, rfl, rfl, rfl⟩, hf2⟩ | ⟨rfl, rfl, rfl, rfl, k1, k2, k3⟩
            · skip
              rcases hf2 with ⟨⟨⟨rfl, rfl⟩, rfl⟩, rfl, rfl, rfl⟩ | ⟨rfl, rfl⟩
              · skip
                have r0 := cellOf HR.out 0 _ rfl
                have r1 := cellOf HR.out 1 _ rfl
                have r2 := cellOf HR.out 2 _ rfl
                have rl := lt_of_block HR.out
                have x0 := cellOf HXR.out 0 _ rfl
                have x1 := cellOf HXR.out 1 _ rfl
                have x2 := cellOf HXR.out 2 _ rfl
                have xl := lt_of_block HXR.out
                have z0 := cellOf HZ.out 0 _ rfl
                have z1 := cellOf HZ.out 1 _ rfl
                have zl := lt_of_block HZ.out
                have v0 := cellOf HV2.out 0 _ rfl
                have v1 := cellOf HV2.out 1 _ rfl
                have v2 := cellOf HV2.out 2 _ rfl
                have vl := lt_of_block HV2.out
                have s0 := cellOf HS1.out 0 _ rfl
                have s1 := cellOf HS1.out 1 _ rfl
                have sl := lt_of_block HS1.out
                have t0 := cellOf HS2.out 0 _ rfl
                have t1 := cellOf HS2.out 1 _ rfl
                have tl := lt_of_block HS2.out
                go_wp2_with fail
                clear r0 r1 r2 rl x0 x1 x2 xl z0 z1 zl v0 v1 v2 vl s0 s1 sl t0 t1 tl
                refine (awake_any wc).mono ?_
                rintro e wz ⟨rfl, hb⟩
                have HBF := Lib.hid (HB.out.trans (hb.mono HB.out.size))
                clear hb
                go_wp2_with fail
                go_ret
                exact ⟨rfl, HBF.out⟩
              · skip
                have r0 := cellOf HR.out 0 _ rfl
                have r1 := cellOf HR.out 1 _ rfl
                have r2 := cellOf HR.out 2 _ rfl
                have rl := lt_of_block HR.out
                have x0 := cellOf HXR.out 0 _ rfl
                have x1 := cellOf HXR.out 1 _ rfl
                have x2 := cellOf HXR.out 2 _ rfl
                have xl := lt_of_block HXR.out
                have z0 := cellOf HZ.out 0 _ rfl
                have z1 := cellOf HZ.out 1 _ rfl
                have zl := lt_of_block HZ.out
                have v0 := cellOf HV2.out 0 _ rfl
                have v1 := cellOf HV2.out 1 _ rfl
                have v2 := cellOf HV2.out 2 _ rfl
                have vl := lt_of_block HV2.out
                have s0 := cellOf HS1.out 0 _ rfl
                have s1 := cellOf HS1.out 1 _ rfl
                have sl := lt_of_block HS1.out
                have t0 := cellOf HS2.out 0 _ rfl
                have t1 := cellOf HS2.out 1 _ rfl
                have tl := lt_of_block HS2.out
                go_wp2_with fail
                clear r0 r1 r2 rl x0 x1 x2 xl z0 z1 zl v0 v1 v2 vl s0 s1 sl t0 t1 tl
                refine (awake_any wc).mono ?_
                rintro e wz ⟨rfl, hb⟩
                have HBF := Lib.hid (HB.out.trans (hb.mono HB.out.size))
                clear hb
                go_wp2_with fail
                go_ret
                exact ⟨rfl, HBF.out⟩
            · skip
              have r0 := cellOf HR.out 0 _ rfl
              have r1 := cellOf HR.out 1 _ rfl
              have r2 := cellOf HR.out 2 _ rfl
              have rl := lt_of_block HR.out
              have x0 := cellOf HXR.out 0 _ rfl
              have x1 := cellOf HXR.out 1 _ rfl
              have x2 := cellOf HXR.out 2 _ rfl
              have xl := lt_of_block HXR.out
              have z0 := cellOf HZ.out 0 _ rfl
              have z1 := cellOf HZ.out 1 _ rfl
              have zl := lt_of_block HZ.out
              have v0 := cellOf HV2.out 0 _ rfl
              have v1 := cellOf HV2.out 1 _ rfl
              have v2 := cellOf HV2.out 2 _ rfl
              have vl := lt_of_block HV2.out
              have s0 := cellOf HS1.out 0 _ rfl
              have s1 := cellOf HS1.out 1 _ rfl
              have sl := lt_of_block HS1.out
              have t0 := cellOf HS2.out 0 _ rfl
              have t1 := cellOf HS2.out 1 _ rfl
              have tl := lt_of_block HS2.out
              go_wp2_with fail
              clear r0 r1 r2 rl x0 x1 x2 xl z0 z1 zl v0 v1 v2 vl s0 s1 sl t0 t1 tl
              refine (awake_any wc).mono ?_
              rintro e wz ⟨rfl, hb⟩
              have HBF := Lib.hid (HB.out.trans (hb.mono HB.out.size))
              clear hb
              go_wp2_with fail
              go_ret
              exact ⟨rfl, HBF.out⟩
          · skip
            rw [show decide (errC D = 0) = false by simp [hd0]]
            clear hd0
            have r0 := cellOf HR.out 0 _ rfl
            have r1 := cellOf HR.out 1 _ rfl
            have r2 := cellOf HR.out 2 _ rfl
            have rl := lt_of_block HR.out
            have x0 := cellOf HXR.out 0 _ rfl
            have x1 := cellOf HXR.out 1 _ rfl
            have x2 := cellOf HXR.out 2 _ rfl
            have xl := lt_of_block HXR.out
            have z0 := cellOf HZ.out 0 _ rfl
            have z1 := cellOf HZ.out 1 _ rfl
            have zl := lt_of_block HZ.out
            have v0 := cellOf HV2.out 0 _ rfl
            have v1 := cellOf HV2.out 1 _ rfl
            have v2 := cellOf HV2.out 2 _ rfl
            have vl := lt_of_block HV2.out
            go_wp2_with fail
            clear r0 r1 r2 rl x0 x1 x2 xl z0 z1 zl v0 v1 v2 vl
            refine (awake_any w6).mono ?_
            rintro e wz ⟨rfl, hb⟩
            have HBF := Lib.hid (HB.out.trans (hb.mono HB.out.size))
            clear hb
            go_wp2_with fail
            go_ret
            exact ⟨rfl, HBF.out⟩
      · skip
        go_simp
        refine hK.out _ _ (KA _ ((hh0.2.2.2.2.2.2).alloc (Nat.le_trans HBS (hh0.2.2.2.2.2.2).size) _)) (fun hh1 => ?_)
        clear hK K
        try simp only [Act.put, List.getElem_toArray, List.getElem_cons_succ, List.getElem_cons_zero, List.setIfInBounds_toArray, List.set_cons_zero, List.set_cons_succ]
        refine wpAnyH_ready (rs := [3]) (by as_aux_lemma => kernel_rfl) (by simp) ?_
        refine AllReadyH.cons rfl (fun K hK => ?_) AllReadyH.nil
        go_simp
        refine hK.out _ _ (KA _ ((hh1.2.2.2.2.2.2).alloc (Nat.le_trans HBS (hh1.2.2.2.2.2.2).size) _)) (fun hh2 => ?_)
        clear hK K
        try simp only [Act.put, List.getElem_toArray, List.getElem_cons_succ, List.getElem_cons_zero, List.setIfInBounds_toArray, List.set_cons_zero, List.set_cons_succ]
        refine wpAnyH_ready (rs := [10]) (by as_aux_lemma => kernel_rfl) (by simp) ?_
        refine AllReadyH.cons rfl (fun K hK => ?_) AllReadyH.nil
        have hb10 : Below wr.heap.size wr ((wr.drew.alloc (Obj.cells #[.int .i64 x0, .int .i64 x1] 74)).alloc (Obj.cells #[] 74)) := by go_grown
        have ho10 : ((wr.drew.alloc (Obj.cells #[.int .i64 x0, .int .i64 x1] 74)).alloc (Obj.cells #[] 74)).ownsRow wr.heap.size 74 2 (.slice (some ⟨wr.heap.size + 1, 0, none⟩) 0 0) 0 [] := by
          have h := own_made (wr.drew.alloc (Obj.cells #[.int .i64 x0, .int .i64 x1] 74)) 74 2
          rw [show (wr.drew.alloc (Obj.cells #[.int .i64 x0, .int .i64 x1] 74)).heap.size = wr.heap.size + 1 from (by simp : (wr.drew.alloc (Obj.cells #[.int .i64 x0, .int .i64 x1] 74)).heap.size = wr.drew.heap.size + 1)] at h
          exact own_base h (by omega)
        have hobk : ((wr.drew.alloc (Obj.cells #[.int .i64 x0, .int .i64 x1] 74)).alloc (Obj.cells #[] 74)).heap[wr.heap.size]? = some (Obj.cells #[.int .i64 x0, .int .i64 x1] 74) := by
          have h := heap_alloc_new wr.drew (Obj.cells #[.int .i64 x0, .int .i64 x1] 74)
          have hb1 := (Below.refl (wr.drew.alloc (Obj.cells #[.int .i64 x0, .int .i64 x1] 74)).heap.size (wr.drew.alloc (Obj.cells #[.int .i64 x0, .int .i64 x1] 74))).alloc (Nat.le_refl _) (Obj.cells #[] 74)
          exact (hb1.block _ (lt_of_block h)).trans h
        refine step_app (by rfl) _ _ 69 74 (by rfl) i0 (.agg #[.int .i64 0, .int .i64 0]) 2 16 Try.underlying69 hi0 HI0.out.1 HI0.out.2.1 HI0.out.2.2 rfl (by decide) wr.heap.size 0 _ [] ⟨kb, ko, none⟩ kn kc (flatP kp) (by rfl) (by rfl) ho10 hkl ?pa1 hko hb10.size (by unfold maxLen; omega) (by omega) ?_
        case pa1 =>
          intro j' u' hj'
          exact (hb10.cell (p := (⟨kb, ko, none⟩ : Addr).add j') (by rw [Go.WideShapes.add_plain]; simp; omega)).trans (HKW.out j' u' hj')
        intro v1 V1 ho1 hg1 hl1 _
        have HV1 := Lib.hid (hb10.grown hg1 hb10.size (fun k hk => (hl1 k hk).1))
        have HO1 := Lib.hid ho1
        have HOB := Lib.hid ((hg1.block _ (lt_of_block hobk) (by show some _ ≠ some _; simp)).trans hobk)
        clear hobk
        clear ho10 hb10 ho1 hg1 hl1
        refine hK.out _ _ ?_ (fun hh3 => ?_)
        · exact KA _ (HV1.out.mono HBS)
        clear hK K
        try simp only [Act.put, List.getElem_toArray, List.getElem_cons_succ, List.getElem_cons_zero, List.setIfInBounds_toArray, List.set_cons_zero, List.set_cons_succ]
        refine wpAnyH_ready (rs := [16]) (by as_aux_lemma => kernel_rfl) (by simp) ?_
        refine AllReadyH.cons rfl (fun K hK => ?_) AllReadyH.nil
        have hb16 := HV1.out
        have ho16 := HO1.out
        refine step_app (by rfl) _ _ 69 74 (by rfl) i0 (.agg #[.int .i64 0, .int .i64 0]) 2 16 Try.underlying69 hi0 HI0.out.1 HI0.out.2.1 HI0.out.2.2 rfl (by decide) wr.heap.size _ _ _ ⟨wr.heap.size, 0, none⟩ 1 1 [.int .i64 x0, .int .i64 x1] (by rfl) (by rfl) ho16 rfl ?pb1 ?pb2 hb16.size (by unfold maxLen; omega) (by omega) ?_
        case pb1 =>
          intro j' u' hj'
          match j', hj' with
          | 0, hj' => simp at hj'; subst hj'; exact cellOf HOB.out 0 _ rfl
          | 1, hj' => simp at hj'; subst hj'; exact cellOf HOB.out 1 _ rfl
          | j' + 2, hj' => simp at hj'
        case pb2 =>
          intro u' hu'
          simp at hu'
          rcases hu' with rfl | rfl <;> rfl
        intro v2 V2 ho2 hg2 hl2 _
        have HV2b := Lib.hid (hb16.grown hg2 hb16.size (fun k hk => (hl2 k hk).1))
        have ho3 : V2.ownsRow wr.heap.size 74 2 v2 (kn + 1) (flatP (kp ++ [(x0, x1)])) := by
          rw [flatP_append]
          simpa using ho2
        obtain ⟨ba, bc, rfl⟩ := own_slice ho3
        have HO2 := Lib.hid ho3
        clear ho2 hg2 hl2 ho3 hb16 ho16 HOB HO1
        refine hK.out _ _ ?_ (fun hh4 => ?_)
        · exact KA _ (HV2b.out.mono HBS)
        clear hK K
        try simp only [Act.put, List.getElem_toArray, List.getElem_cons_succ, List.getElem_cons_zero, List.setIfInBounds_toArray, List.set_cons_zero, List.set_cons_succ]
        refine wpAnyH_take (i := 17) (v := ?_) rfl (by as_aux_lemma => kernel_rfl) (by as_aux_lemma => kernel_rfl) (by as_aux_lemma => kernel_rfl) (fun _ _ _ h => h) (Or.inl ⟨by rfl, ?_⟩) (by assumption) ?_
        rotate_left
        · intro w hSw
          try dsimp only at hSw
          go_simp
          try with_reducible rfl
        try simp only [Act.put, List.getElem_toArray, List.getElem_cons_succ, List.getElem_cons_zero, List.setIfInBounds_toArray, List.set_cons_zero, List.set_cons_succ]
        refine wpAnyH_take (i := 18) (v := ?_) rfl (by as_aux_lemma => kernel_rfl) (by as_aux_lemma => kernel_rfl) (by as_aux_lemma => kernel_rfl) (fun _ _ _ h => h) (Or.inl ⟨by rfl, ?_⟩) (by assumption) ?_
        rotate_left
        · intro w hSw
          try dsimp only at hSw
          go_simp
          try with_reducible rfl
        try simp only [Act.put, List.getElem_toArray, List.getElem_cons_succ, List.getElem_cons_zero, List.setIfInBounds_toArray, List.set_cons_zero, List.set_cons_succ]
        refine wpAnyH_ready (rs := [19]) (by as_aux_lemma => kernel_rfl) (by simp) ?_
        refine AllReadyH.cons rfl (fun K hK => ?_) AllReadyH.nil
        have HOV := own_below HOW.out HV2b.out
        have gc := (HOV.cellAt (q * 3 + 2) (by omega)).trans HEQ.out
        have gf := HOV.frozenAt (q * 3 + 2)
        clear HOV
        go_simp
        refine hK.out _ _ ?_ (fun hh5 => ?_)
        · first | exact KA _ (two_below hh4.2.2.2.2.2.2 (by omega)) | exact KA _ ((hh4.2.2.2.2.2.2).setCell (by simp; omega) _) | exact KA _ ((hh0.2.2.2.2.2.2).alloc (hh0.2.2.2.2.2.2).size _) | exact KA _ ((hh1.2.2.2.2.2.2).alloc (hh1.2.2.2.2.2.2).size _) | exact KA _ ((hh2.2.2.2.2.2.2).alloc (hh2.2.2.2.2.2.2).size _) | exact KA _ ((hh3.2.2.2.2.2.2).alloc (hh3.2.2.2.2.2.2).size _)
        clear hK K
        try simp only [Act.put, List.getElem_toArray, List.getElem_cons_succ, List.getElem_cons_zero, List.setIfInBounds_toArray, List.set_cons_zero, List.set_cons_succ]
        refine wpAnyH_done (by as_aux_lemma => kernel_rfl) ?_ _
        refine NoPanic.normal ?_
        have HBZ := Lib.hid (hh5.2.2.2.2.2.2)
        have HOV := Lib.hid (own_below HOW.out HV2b.out)
        obtain ⟨D, hD⟩ : ∃ D, moreC c x q = D := ⟨_, rfl⟩
        have HDM := Lib.hid hD
        have HBE := Lib.hid (HLW.out.trans (HBZ.out.mono (by omega)))
        have HDE : Hid (EdgsAt (V2.setCell ⟨g, q * 3 + 2, none⟩ (.slice ba (kn + 1) bc)) (.slice (some ⟨g, 0, none⟩) m nc) D.eds) := by
          obtain ⟨_, _, _, _, hPP, _⟩ := HEV.out
          have hg := (HOV.out.stored (q * 3 + 2) (.slice ba (kn + 1) bc)).2
          have hnp := HO2.out.kept hg (own_apart (by decide) HO2.out HOV.out)
          have e : D.eds = c.eds.set q ⟨(c.eds.getD q default).a, (c.eds.getD q default).b, kp ++ [(x0, x1)]⟩ := by
            rw [← hD]
            unfold moreC
            rw [if_pos hcs, HHD.out, ← HKPE.out, getD_lt _ _ hcs.1]
          show EdgsAt _ _ _
          rw [e]
          exact edgsAt_set HM.out hcs.1 _ HOV.out (by have := HM.out; omega) (fun i hi => (hPP i hi).below HBE.out) (pairsAt_ownP (by rw [List.length_append, HKN.out]; rfl) hnp (by rw [List.length_append, HKN.out]; simp; omega))
        have HD0 : Hid (D.shs = c.shs ∧ D.tol = c.tol) := by show _ ∧ _; rw [← hD]; unfold moreC; split <;> exact ⟨rfl, rfl⟩
        have HV2 := Lib.hid ((HBZ.out.block w1.heap.size (by omega)).trans YW.out)
        obtain ⟨wz, hwz⟩ : ∃ V, V2.setCell ⟨g, q * 3 + 2, none⟩ (.slice ba (kn + 1) bc) = V := ⟨_, rfl⟩
        rw [hwz] at HBE HDE HV2 ⊢
        have HD : Hid (CasAt wz D (.slice sa n sc) (.slice (some ⟨g, 0, none⟩) m nc)) := ⟨by rw [HD0.out.1]; exact HC.out.shs.below HBE.out, HDE.out⟩
        have HR' := Lib.hid ((HBE.out.block _ (lt_of_block HR.out)).trans HR.out)
        have HXR' := Lib.hid ((HBE.out.block _ (lt_of_block HXR.out)).trans HXR.out)
        have HZ' := Lib.hid ((HBE.out.block _ (lt_of_block HZ.out)).trans HZ.out)
        have HC' := Lib.hid (HC.out.below HBE.out)
        have HX' := Lib.hid (HX.out.below HBE.out)
        have HB' := Lib.hid (HB.out.trans (HBE.out.mono HB.out.size))
        clear HR
        have HR := HR'
        clear HR'
        clear HXR
        have HXR := HXR'
        clear HXR'
        clear HZ
        have HZ := HZ'
        clear HZ'
        clear HC
        have HC := HC'
        clear HC'
        clear HX
        have HX := HX'
        clear HX'
        clear HB
        have HB := HB'
        clear HB'
        clear HBE HEV HBZ HDE HOV HV2b HO2 HLW YW HOW HV1 hwz hD hcs HKP HKPE HKN HHD HKW HEQ r2c x2c y2c d2 f0 f1 hko hkl KA rl1 xl1 gc gf hk kI hp0 kp1 kp4 hkbl hebl hpbl hgB hgl HBS HGL
        have r0 := cellOf HR.out 0 _ rfl
        have r1 := cellOf HR.out 1 _ rfl
        have r2 := cellOf HR.out 2 _ rfl
        have rl := lt_of_block HR.out
        have x0 := cellOf HXR.out 0 _ rfl
        have x1 := cellOf HXR.out 1 _ rfl
        have x2 := cellOf HXR.out 2 _ rfl
        have xl := lt_of_block HXR.out
        have z0 := cellOf HZ.out 0 _ rfl
        have z1 := cellOf HZ.out 1 _ rfl
        have zl := lt_of_block HZ.out
        have v0 := cellOf HV2.out 0 _ rfl
        have v1 := cellOf HV2.out 1 _ rfl
        have v2 := cellOf HV2.out 2 _ rfl
        have vl := lt_of_block HV2.out
        go_wp2_with fail
        clear r0 r1 r2 rl x0 x1 x2 xl z0 z1 zl v0 v1 v2 vl
        have HTD : Hid (D.tol = tol) := by show _ = _; rw [HD0.out.2, HTOL.out]
        have HSD : Hid (D.shs = c.shs) := HD0.out.1
        have hcall := lvalid_any D _ _ wz HD.out
        rw [HTD.out] at hcall
        refine hcall.mono ?_
        clear hcall
        rintro e w6 ⟨rfl, hb⟩
        have HR' := Lib.hid ((hb.block _ (lt_of_block HR.out)).trans HR.out)
        have HXR' := Lib.hid ((hb.block _ (lt_of_block HXR.out)).trans HXR.out)
        have HZ' := Lib.hid ((hb.block _ (lt_of_block HZ.out)).trans HZ.out)
        have HC' := Lib.hid (HC.out.below hb)
        have HX' := Lib.hid (HX.out.below hb)
        have HB' := Lib.hid (HB.out.trans (hb.mono HB.out.size))
        have HV2' := Lib.hid ((hb.block _ (lt_of_block HV2.out)).trans HV2.out)
        have HD' := Lib.hid (HD.out.below hb)
        clear HR
        have HR := HR'
        clear HR'
        clear HXR
        have HXR := HXR'
        clear HXR'
        clear HZ
        have HZ := HZ'
        clear HZ'
        clear HC
        have HC := HC'
        clear HC'
        clear HX
        have HX := HX'
        clear HX'
        clear HB
        have HB := HB'
        clear HB'
        clear HV2
        have HV2 := HV2'
        clear HV2'
        clear HD
        have HD := HD'
        clear HD'
        clear hb
        by_cases hd0 : errC D = 0
        · skip
          have HDE := Lib.hid hd0
          rw [show decide (errC D = 0) = true by simp [hd0]]
          clear hd0
          have nz : ((n : Int) == 0) = false := by rw [beq_eq_false_iff_ne]; omega
          have nd0 : ¬ n = 0 := by omega
          have nd1 : ¬ (n : Int) = -1 := by omega
          have em := tmod_nat j n
          have hxm : j % n < n := Nat.mod_lt _ (by omega)
          generalize hxn : j % n = i at *
          clear hxn
          have iI : (i : Int) < (n : Int) := by omega
          have r0 := cellOf HR.out 0 _ rfl
          have r1 := cellOf HR.out 1 _ rfl
          have r2 := cellOf HR.out 2 _ rfl
          have rl := lt_of_block HR.out
          have x0 := cellOf HXR.out 0 _ rfl
          have x1 := cellOf HXR.out 1 _ rfl
          have x2 := cellOf HXR.out 2 _ rfl
          have xl := lt_of_block HXR.out
          have z0 := cellOf HZ.out 0 _ rfl
          have z1 := cellOf HZ.out 1 _ rfl
          have zl := lt_of_block HZ.out
          have v0 := cellOf HV2.out 0 _ rfl
          have v1 := cellOf HV2.out 1 _ rfl
          have v2 := cellOf HV2.out 2 _ rfl
          have vl := lt_of_block HV2.out
          go_wp2_with fail
          clear r0 r1 r2 rl x0 x1 x2 xl z0 z1 zl v0 v1 v2 vl
          clear em nz nd0 nd1
          have hin : i < c.shs.length := by have := HN.out; omega
          have hfx := more_facts c D H0.out HDE.out HSD.out (by rw [← HDM.out] at HDE ⊢; exact more_ag c x q H0.out HDE.out) i hin
          clear hin
          obtain ⟨⟨⟨lo, hi⟩, e1⟩, h1⟩ : ∃ r, rangeE c i = r := ⟨_, rfl⟩
          obtain ⟨⟨⟨lo2, hi2⟩, e2⟩, h2⟩ : ∃ r, rangeE D i = r := ⟨_, rfl⟩
          obtain ⟨⟨la, ca, e3⟩, h3⟩ : ∃ r, leastE c = r := ⟨_, rfl⟩
          obtain ⟨⟨lb, cb, e4⟩, h4⟩ : ∃ r, leastE D = r := ⟨_, rfl⟩
          rw [h1, h2, h3, h4] at hfx
          simp only [Prod.mk.injEq] at hfx
          have H1 := Lib.hid h1
          have H2 := Lib.hid h2
          have H3 := Lib.hid h3
          have H4 := Lib.hid h4
          have HFX := Lib.hid hfx
          clear h1 h2 h3 h4 hfx
          have hcall := rangeT_any c _ _ (i : Int) w6 HC.out
          rw [HTOL.out] at hcall
          refine hcall.mono ?_
          clear hcall
          rintro e w7 ⟨rfl, hb⟩
          have HR' := Lib.hid ((hb.block _ (lt_of_block HR.out)).trans HR.out)
          have HXR' := Lib.hid ((hb.block _ (lt_of_block HXR.out)).trans HXR.out)
          have HZ' := Lib.hid ((hb.block _ (lt_of_block HZ.out)).trans HZ.out)
          have HC' := Lib.hid (HC.out.below hb)
          have HX' := Lib.hid (HX.out.below hb)
          have HB' := Lib.hid (HB.out.trans (hb.mono HB.out.size))
          have HV2' := Lib.hid ((hb.block _ (lt_of_block HV2.out)).trans HV2.out)
          have HD' := Lib.hid (HD.out.below hb)
          clear HR
          have HR := HR'
          clear HR'
          clear HXR
          have HXR := HXR'
          clear HXR'
          clear HZ
          have HZ := HZ'
          clear HZ'
          clear HC
          have HC := HC'
          clear HC'
          clear HX
          have HX := HX'
          clear HX'
          clear HB
          have HB := HB'
          clear HB'
          clear HV2
          have HV2 := HV2'
          clear HV2'
          clear HD
          have HD := HD'
          clear HD'
          clear hb
          rw [H1.out]
          simp only
          have r0 := cellOf HR.out 0 _ rfl
          have r1 := cellOf HR.out 1 _ rfl
          have r2 := cellOf HR.out 2 _ rfl
          have rl := lt_of_block HR.out
          have x0 := cellOf HXR.out 0 _ rfl
          have x1 := cellOf HXR.out 1 _ rfl
          have x2 := cellOf HXR.out 2 _ rfl
          have xl := lt_of_block HXR.out
          have z0 := cellOf HZ.out 0 _ rfl
          have z1 := cellOf HZ.out 1 _ rfl
          have zl := lt_of_block HZ.out
          have v0 := cellOf HV2.out 0 _ rfl
          have v1 := cellOf HV2.out 1 _ rfl
          have v2 := cellOf HV2.out 2 _ rfl
          have vl := lt_of_block HV2.out
          go_wp2_with fail
          clear r0 r1 r2 rl x0 x1 x2 xl z0 z1 zl v0 v1 v2 vl
          have hb := (Below.refl w7.heap.size w7).alloc (Nat.le_refl _) (Obj.cells #[.int .i64 lo, .int .i64 hi] 31)
          have HS1 := Lib.hid (heap_alloc_new w7 (Obj.cells #[.int .i64 lo, .int .i64 hi] 31))
          have HR' := Lib.hid ((hb.block _ (lt_of_block HR.out)).trans HR.out)
          have HXR' := Lib.hid ((hb.block _ (lt_of_block HXR.out)).trans HXR.out)
          have HZ' := Lib.hid ((hb.block _ (lt_of_block HZ.out)).trans HZ.out)
          have HC' := Lib.hid (HC.out.below hb)
          have HX' := Lib.hid (HX.out.below hb)
          have HB' := Lib.hid (HB.out.trans (hb.mono HB.out.size))
          have HV2' := Lib.hid ((hb.block _ (lt_of_block HV2.out)).trans HV2.out)
          have HD' := Lib.hid (HD.out.below hb)
          clear HR
          have HR := HR'
          clear HR'
          clear HXR
          have HXR := HXR'
          clear HXR'
          clear HZ
          have HZ := HZ'
          clear HZ'
          clear HC
          have HC := HC'
          clear HC'
          clear HX
          have HX := HX'
          clear HX'
          clear HB
          have HB := HB'
          clear HB'
          clear HV2
          have HV2 := HV2'
          clear HV2'
          clear HD
          have HD := HD'
          clear HD'
          clear hb
          generalize w7.alloc (Obj.cells #[.int .i64 lo, .int .i64 hi] 31) = w8 at *
          obtain ⟨u11, hu11⟩ : ∃ u, w7.heap.size = u := ⟨_, rfl⟩
          rw [hu11] at HS1 ⊢
          clear hu11
          have hcall := rangeT_any D _ _ (i : Int) w8 HD.out
          rw [HTD.out] at hcall
          refine hcall.mono ?_
          clear hcall
          rintro e w9 ⟨rfl, hb⟩
          have HR' := Lib.hid ((hb.block _ (lt_of_block HR.out)).trans HR.out)
          have HXR' := Lib.hid ((hb.block _ (lt_of_block HXR.out)).trans HXR.out)
          have HZ' := Lib.hid ((hb.block _ (lt_of_block HZ.out)).trans HZ.out)
          have HC' := Lib.hid (HC.out.below hb)
          have HX' := Lib.hid (HX.out.below hb)
          have HB' := Lib.hid (HB.out.trans (hb.mono HB.out.size))
          have HV2' := Lib.hid ((hb.block _ (lt_of_block HV2.out)).trans HV2.out)
          have HD' := Lib.hid (HD.out.below hb)
          have HS1' := Lib.hid ((hb.block _ (lt_of_block HS1.out)).trans HS1.out)
          clear HR
          have HR := HR'
          clear HR'
          clear HXR
          have HXR := HXR'
          clear HXR'
          clear HZ
          have HZ := HZ'
          clear HZ'
          clear HC
          have HC := HC'
          clear HC'
          clear HX
          have HX := HX'
          clear HX'
          clear HB
          have HB := HB'
          clear HB'
          clear HV2
          have HV2 := HV2'
          clear HV2'
          clear HD
          have HD := HD'
          clear HD'
          clear HS1
          have HS1 := HS1'
          clear HS1'
          clear hb
          rw [H2.out]
          simp only
          have r0 := cellOf HR.out 0 _ rfl
          have r1 := cellOf HR.out 1 _ rfl
          have r2 := cellOf HR.out 2 _ rfl
          have rl := lt_of_block HR.out
          have x0 := cellOf HXR.out 0 _ rfl
          have x1 := cellOf HXR.out 1 _ rfl
          have x2 := cellOf HXR.out 2 _ rfl
          have xl := lt_of_block HXR.out
          have z0 := cellOf HZ.out 0 _ rfl
          have z1 := cellOf HZ.out 1 _ rfl
          have zl := lt_of_block HZ.out
          have v0 := cellOf HV2.out 0 _ rfl
          have v1 := cellOf HV2.out 1 _ rfl
          have v2 := cellOf HV2.out 2 _ rfl
          have vl := lt_of_block HV2.out
          have s0 := cellOf HS1.out 0 _ rfl
          have s1 := cellOf HS1.out 1 _ rfl
          have sl := lt_of_block HS1.out
          go_wp2_with fail
          clear r0 r1 r2 rl x0 x1 x2 xl z0 z1 zl v0 v1 v2 vl s0 s1 sl
          have hb := (Below.refl w9.heap.size w9).alloc (Nat.le_refl _) (Obj.cells #[.int .i64 lo2, .int .i64 hi2] 31)
          have HS2 := Lib.hid (heap_alloc_new w9 (Obj.cells #[.int .i64 lo2, .int .i64 hi2] 31))
          have HR' := Lib.hid ((hb.block _ (lt_of_block HR.out)).trans HR.out)
          have HXR' := Lib.hid ((hb.block _ (lt_of_block HXR.out)).trans HXR.out)
          have HZ' := Lib.hid ((hb.block _ (lt_of_block HZ.out)).trans HZ.out)
          have HC' := Lib.hid (HC.out.below hb)
          have HX' := Lib.hid (HX.out.below hb)
          have HB' := Lib.hid (HB.out.trans (hb.mono HB.out.size))
          have HV2' := Lib.hid ((hb.block _ (lt_of_block HV2.out)).trans HV2.out)
          have HD' := Lib.hid (HD.out.below hb)
          have HS1' := Lib.hid ((hb.block _ (lt_of_block HS1.out)).trans HS1.out)
          clear HR
          have HR := HR'
          clear HR'
          clear HXR
          have HXR := HXR'
          clear HXR'
          clear HZ
          have HZ := HZ'
          clear HZ'
          clear HC
          have HC := HC'
          clear HC'
          clear HX
          have HX := HX'
          clear HX'
          clear HB
          have HB := HB'
          clear HB'
          clear HV2
          have HV2 := HV2'
          clear HV2'
          clear HD
          have HD := HD'
          clear HD'
          clear HS1
          have HS1 := HS1'
          clear HS1'
          clear hb
          generalize w9.alloc (Obj.cells #[.int .i64 lo2, .int .i64 hi2] 31) = wa at *
          obtain ⟨u13, hu13⟩ : ∃ u, w9.heap.size = u := ⟨_, rfl⟩
          rw [hu13] at HS2 ⊢
          clear hu13
          have hcall := least1_any c _ _ wa HC.out
          rw [HTOL.out] at hcall
          refine hcall.mono ?_
          clear hcall
          rintro e wb ⟨lv, rfl, hI, hb⟩
          have HR' := Lib.hid ((hb.block _ (lt_of_block HR.out)).trans HR.out)
          have HXR' := Lib.hid ((hb.block _ (lt_of_block HXR.out)).trans HXR.out)
          have HZ' := Lib.hid ((hb.block _ (lt_of_block HZ.out)).trans HZ.out)
          have HC' := Lib.hid (HC.out.below hb)
          have HX' := Lib.hid (HX.out.below hb)
          have HB' := Lib.hid (HB.out.trans (hb.mono HB.out.size))
          have HV2' := Lib.hid ((hb.block _ (lt_of_block HV2.out)).trans HV2.out)
          have HD' := Lib.hid (HD.out.below hb)
          have HS1' := Lib.hid ((hb.block _ (lt_of_block HS1.out)).trans HS1.out)
          have HS2' := Lib.hid ((hb.block _ (lt_of_block HS2.out)).trans HS2.out)
          clear HR
          have HR := HR'
          clear HR'
          clear HXR
          have HXR := HXR'
          clear HXR'
          clear HZ
          have HZ := HZ'
          clear HZ'
          clear HC
          have HC := HC'
          clear HC'
          clear HX
          have HX := HX'
          clear HX'
          clear HB
          have HB := HB'
          clear HB'
          clear HV2
          have HV2 := HV2'
          clear HV2'
          clear HD
          have HD := HD'
          clear HD'
          clear HS1
          have HS1 := HS1'
          clear HS1'
          clear HS2
          have HS2 := HS2'
          clear HS2'
          clear hb
          clear hI
          rw [H3.out]
          simp only
          have r0 := cellOf HR.out 0 _ rfl
          have r1 := cellOf HR.out 1 _ rfl
          have r2 := cellOf HR.out 2 _ rfl
          have rl := lt_of_block HR.out
          have x0 := cellOf HXR.out 0 _ rfl
          have x1 := cellOf HXR.out 1 _ rfl
          have x2 := cellOf HXR.out 2 _ rfl
          have xl := lt_of_block HXR.out
          have z0 := cellOf HZ.out 0 _ rfl
          have z1 := cellOf HZ.out 1 _ rfl
          have zl := lt_of_block HZ.out
          have v0 := cellOf HV2.out 0 _ rfl
          have v1 := cellOf HV2.out 1 _ rfl
          have v2 := cellOf HV2.out 2 _ rfl
          have vl := lt_of_block HV2.out
          have s0 := cellOf HS1.out 0 _ rfl
          have s1 := cellOf HS1.out 1 _ rfl
          have sl := lt_of_block HS1.out
          have t0 := cellOf HS2.out 0 _ rfl
          have t1 := cellOf HS2.out 1 _ rfl
          have tl := lt_of_block HS2.out
          go_wp2_with fail
          clear r0 r1 r2 rl x0 x1 x2 xl z0 z1 zl v0 v1 v2 vl s0 s1 sl t0 t1 tl
          have hcall := least1_any D _ _ wb HD.out
          rw [HTD.out] at hcall
          refine hcall.mono ?_
          clear hcall
          rintro e wc ⟨lv2, rfl, hI, hb⟩
          have HR' := Lib.hid ((hb.block _ (lt_of_block HR.out)).trans HR.out)
          have HXR' := Lib.hid ((hb.block _ (lt_of_block HXR.out)).trans HXR.out)
          have HZ' := Lib.hid ((hb.block _ (lt_of_block HZ.out)).trans HZ.out)
          have HC' := Lib.hid (HC.out.below hb)
          have HX' := Lib.hid (HX.out.below hb)
          have HB' := Lib.hid (HB.out.trans (hb.mono HB.out.size))
          have HV2' := Lib.hid ((hb.block _ (lt_of_block HV2.out)).trans HV2.out)
          have HD' := Lib.hid (HD.out.below hb)
          have HS1' := Lib.hid ((hb.block _ (lt_of_block HS1.out)).trans HS1.out)
          have HS2' := Lib.hid ((hb.block _ (lt_of_block HS2.out)).trans HS2.out)
          clear HR
          have HR := HR'
          clear HR'
          clear HXR
          have HXR := HXR'
          clear HXR'
          clear HZ
          have HZ := HZ'
          clear HZ'
          clear HC
          have HC := HC'
          clear HC'
          clear HX
          have HX := HX'
          clear HX'
          clear HB
          have HB := HB'
          clear HB'
          clear HV2
          have HV2 := HV2'
          clear HV2'
          clear HD
          have HD := HD'
          clear HD'
          clear HS1
          have HS1 := HS1'
          clear HS1'
          clear HS2
          have HS2 := HS2'
          clear HS2'
          clear hb
          clear hI
          rw [H4.out]
          simp only
          have hfx := HFX.out
          clear HFX H1 H2 H3 H4
          rcases hfx with ⟨⟨⟨⟨rfl, rfl⟩, rfl⟩, rfl, rfl, rfl⟩, hf2⟩ | ⟨rfl, rfl, rfl, rfl, k1, k2, k3⟩
          · skip
            rcases hf2 with ⟨⟨⟨rfl, rfl⟩, rfl⟩, rfl, rfl, rfl⟩ | ⟨rfl, rfl⟩
            · skip
              have r0 := cellOf HR.out 0 _ rfl
              have r1 := cellOf HR.out 1 _ rfl
              have r2 := cellOf HR.out 2 _ rfl
              have rl := lt_of_block HR.out
              have x0 := cellOf HXR.out 0 _ rfl
              have x1 := cellOf HXR.out 1 _ rfl
              have x2 := cellOf HXR.out 2 _ rfl
              have xl := lt_of_block HXR.out
              have z0 := cellOf HZ.out 0 _ rfl
              have z1 := cellOf HZ.out 1 _ rfl
              have zl := lt_of_block HZ.out
              have v0 := cellOf HV2.out 0 _ rfl
              have v1 := cellOf HV2.out 1 _ rfl
              have v2 := cellOf HV2.out 2 _ rfl
              have vl := lt_of_block HV2.out
              have s0 := cellOf HS1.out 0 _ rfl
              have s1 := cellOf HS1.out 1 _ rfl
              have sl := lt_of_block HS1.out
              have t0 := cellOf HS2.out 0 _ rfl
              have t1 := cellOf HS2.out 1 _ rfl
              have tl := lt_of_block HS2.out
              go_wp2_with fail
              clear r0 r1 r2 rl x0 x1 x2 xl z0 z1 zl v0 v1 v2 vl s0 s1 sl t0 t1 tl
              refine (awake_any wc).mono ?_
              rintro e wz ⟨rfl, hb⟩
              have HBF := Lib.hid (HB.out.trans (hb.mono HB.out.size))
              clear hb
              go_wp2_with fail
              go_ret
              exact ⟨rfl, HBF.out⟩
            · skip
              have r0 := cellOf HR.out 0 _ rfl
              have r1 := cellOf HR.out 1 _ rfl
              have r2 := cellOf HR.out 2 _ rfl
              have rl := lt_of_block HR.out
              have x0 := cellOf HXR.out 0 _ rfl
              have x1 := cellOf HXR.out 1 _ rfl
              have x2 := cellOf HXR.out 2 _ rfl
              have xl := lt_of_block HXR.out
              have z0 := cellOf HZ.out 0 _ rfl
              have z1 := cellOf HZ.out 1 _ rfl
              have zl := lt_of_block HZ.out
              have v0 := cellOf HV2.out 0 _ rfl
              have v1 := cellOf HV2.out 1 _ rfl
              have v2 := cellOf HV2.out 2 _ rfl
              have vl := lt_of_block HV2.out
              have s0 := cellOf HS1.out 0 _ rfl
              have s1 := cellOf HS1.out 1 _ rfl
              have sl := lt_of_block HS1.out
              have t0 := cellOf HS2.out 0 _ rfl
              have t1 := cellOf HS2.out 1 _ rfl
              have tl := lt_of_block HS2.out
              go_wp2_with fail
              clear r0 r1 r2 rl x0 x1 x2 xl z0 z1 zl v0 v1 v2 vl s0 s1 sl t0 t1 tl
              refine (awake_any wc).mono ?_
              rintro e wz ⟨rfl, hb⟩
              have HBF := Lib.hid (HB.out.trans (hb.mono HB.out.size))
              clear hb
              go_wp2_with fail
              go_ret
              exact ⟨rfl, HBF.out⟩
          · skip
            have r0 := cellOf HR.out 0 _ rfl
            have r1 := cellOf HR.out 1 _ rfl
            have r2 := cellOf HR.out 2 _ rfl
            have rl := lt_of_block HR.out
            have x0 := cellOf HXR.out 0 _ rfl
            have x1 := cellOf HXR.out 1 _ rfl
            have x2 := cellOf HXR.out 2 _ rfl
            have xl := lt_of_block HXR.out
            have z0 := cellOf HZ.out 0 _ rfl
            have z1 := cellOf HZ.out 1 _ rfl
            have zl := lt_of_block HZ.out
            have v0 := cellOf HV2.out 0 _ rfl
            have v1 := cellOf HV2.out 1 _ rfl
            have v2 := cellOf HV2.out 2 _ rfl
            have vl := lt_of_block HV2.out
            have s0 := cellOf HS1.out 0 _ rfl
            have s1 := cellOf HS1.out 1 _ rfl
            have sl := lt_of_block HS1.out
            have t0 := cellOf HS2.out 0 _ rfl
            have t1 := cellOf HS2.out 1 _ rfl
            have tl := lt_of_block HS2.out
            go_wp2_with fail
            clear r0 r1 r2 rl x0 x1 x2 xl z0 z1 zl v0 v1 v2 vl s0 s1 sl t0 t1 tl
            refine (awake_any wc).mono ?_
            rintro e wz ⟨rfl, hb⟩
            have HBF := Lib.hid (HB.out.trans (hb.mono HB.out.size))
            clear hb
            go_wp2_with fail
            go_ret
            exact ⟨rfl, HBF.out⟩
        · skip
          rw [show decide (errC D = 0) = false by simp [hd0]]
          clear hd0
          have r0 := cellOf HR.out 0 _ rfl
          have r1 := cellOf HR.out 1 _ rfl
          have r2 := cellOf HR.out 2 _ rfl
          have rl := lt_of_block HR.out
          have x0 := cellOf HXR.out 0 _ rfl
          have x1 := cellOf HXR.out 1 _ rfl
          have x2 := cellOf HXR.out 2 _ rfl
          have xl := lt_of_block HXR.out
          have z0 := cellOf HZ.out 0 _ rfl
          have z1 := cellOf HZ.out 1 _ rfl
          have zl := lt_of_block HZ.out
          have v0 := cellOf HV2.out 0 _ rfl
          have v1 := cellOf HV2.out 1 _ rfl
          have v2 := cellOf HV2.out 2 _ rfl
          have vl := lt_of_block HV2.out
          go_wp2_with fail
          clear r0 r1 r2 rl x0 x1 x2 xl z0 z1 zl v0 v1 v2 vl
          refine (awake_any w6).mono ?_
          rintro e wz ⟨rfl, hb⟩
          have HBF := Lib.hid (HB.out.trans (hb.mono HB.out.size))
          clear hb
          go_wp2_with fail
          go_ret
          exact ⟨rfl, HBF.out⟩
    · skip
      by_cases hk : q < m
      · skip
        have hp0 : p = 0 := by
          rw [HP.out]
          have h1 : ¬ x.pts ≠ [] := fun h => hcs ⟨by rw [← HM.out]; exact hk, h⟩
          simpa using h1
        have kI : (q : Int) < (m : Int) := by omega
        have pz : ¬ 0 < p := by omega
        have pz2 : decide ((p : Int) > 0) = false := by simp; omega
        clear hp0
        have hownB := (own_other HO5.out ⟨w1.heap.size, 2, none⟩ (by simp) (.slice na m nc)).alloc (Obj.cells #[.int .i64 xa, .int .i64 xb, .slice pa p pc] 71)
        have HKN : Hid (∀ j v, [Value.int .i64 xa, .int .i64 xb, .slice pa p pc][j]? = some v → ((w4.setCell ⟨w1.heap.size, 2, none⟩ (.slice na m nc)).alloc (Obj.cells #[.int .i64 xa, .int .i64 xb, .slice pa p pc] 71)).cell? ((⟨w4.heap.size, 0, none⟩ : Addr).add j) = some v) := by
          have h := cells3_new (w4.setCell ⟨w1.heap.size, 2, none⟩ (.slice na m nc)) 71 (.int .i64 xa) (.int .i64 xb) (.slice pa p pc)
          rw [show (w4.setCell ⟨w1.heap.size, 2, none⟩ (.slice na m nc)).heap.size = w4.heap.size by simp] at h
          exact h
        have hszB : ((w4.setCell ⟨w1.heap.size, 2, none⟩ (.slice na m nc)).alloc (Obj.cells #[.int .i64 xa, .int .i64 xb, .slice pa p pc] 71)).heap.size = w4.heap.size + 1 := by simp
        have Y5 : Hid (((w4.setCell ⟨w1.heap.size, 2, none⟩ (.slice na m nc)).alloc (Obj.cells #[.int .i64 xa, .int .i64 xb, .slice pa p pc] 71)).heap[w1.heap.size]? = some (.cells #[.int .i64 tol, .slice sa n sc, .slice na m nc] 25 (0, 0))) := by
          have hb1 := (Below.refl (w4.setCell ⟨w1.heap.size, 2, none⟩ (.slice na m nc)).heap.size (w4.setCell ⟨w1.heap.size, 2, none⟩ (.slice na m nc))).alloc (Nat.le_refl _) (Obj.cells #[.int .i64 xa, .int .i64 xb, .slice pa p pc] 71)
          exact (hb1.block _ (by simp; omega)).trans (heap_setCell_same w4 w1.heap.size 2 _ _ (.slice na m nc) Y4.out)
        have HL5 : Hid (Below w1.heap.size w1 ((w4.setCell ⟨w1.heap.size, 2, none⟩ (.slice na m nc)).alloc (Obj.cells #[.int .i64 xa, .int .i64 xb, .slice pa p pc] 71))) := (HL4.out.setCell (p := ⟨w1.heap.size, 2, none⟩) (Nat.le_refl _) _).alloc (by simp; omega) _
        have R4 := Lib.hid ((HL4.out.block _ (lt_of_block HR.out)).trans HR.out)
        have X4 := Lib.hid ((HL4.out.block _ (lt_of_block HXR.out)).trans HXR.out)
        have Z4 := Lib.hid ((HL4.out.block _ (lt_of_block HZ.out)).trans HZ.out)
        have r0 := cellOf R4.out 0 _ rfl
        have r1 := cellOf R4.out 1 _ rfl
        have r2 := cellOf R4.out 2 _ rfl
        have rl := lt_of_block R4.out
        have x0 := cellOf X4.out 0 _ rfl
        have x1 := cellOf X4.out 1 _ rfl
        have x2 := cellOf X4.out 2 _ rfl
        have xl := lt_of_block X4.out
        have z0 := cellOf Z4.out 0 _ rfl
        have z1 := cellOf Z4.out 1 _ rfl
        have zl := lt_of_block Z4.out
        have y0 := cellOf Y4.out 0 _ rfl
        have y1 := cellOf Y4.out 1 _ rfl
        have y2 := cellOf Y4.out 2 _ rfl
        have yl := lt_of_block Y4.out
        have y2f := frozen_of_row _ _ 2 _ _ Y4.out
        have rl1 := lt_of_block HR.out
        have xl1 := lt_of_block HXR.out
        have zl1 := lt_of_block HZ.out
        go_wp2_with (at_builtin; refine wpList_append_own _ rfl _ _ 23 rfl (w1.heap.size + 1) 71 i1 (.agg #[.int .i64 0, .int .i64 0, .slice none 0 0]) 3 40 Try.underlying23 hi1 HI1.out.1 HI1.out.2.1 HI1.out.2.2 rfl (by decide) _ _ _ rfl hownB ⟨w4.heap.size, 0, none⟩ 1 1 [.int .i64 xa, .int .i64 xb, .slice pa p pc] rfl rfl HKN.out (by intro u hu; simp at hu; rcases hu with rfl | rfl | rfl <;> rfl) (by unfold maxLen; omega) (by omega) (by omega) ?_)
        clear r0 r1 r2 rl x0 x1 x2 xl z0 z1 zl y0 y1 y2 yl y2f rl1 xl1 zl1
        clear R4 X4 Z4
        intro v' w5 hown6 hgrow _
        have hgb : ∀ g, (Value.slice na m nc).ownBlock = some g → w1.heap.size + 1 ≤ g := fun g hg => (hownB.lt g hg).1
        have HL6 := Lib.hid (HL5.out.grown hgrow (by omega) (fun g hg => by have := hgb g hg; omega))
        have Y6 := Lib.hid ((hgrow.block _ (lt_of_block Y5.out) (fun e => by have := hgb _ e.symm; omega)).trans Y5.out)
        obtain ⟨da, dc, rfl⟩ := own_slice hown6
        have hms : m + 1 ≤ 1000 := by omega
        have HO6 : Hid (w5.ownsRow (w1.heap.size + 1) 71 3 (.slice da (m + 1) dc) (m + 1) (eRow c.eds P (List.range c.eds.length) ++ [.int .i64 x.a, .int .i64 x.b, .slice pa p pc])) := by
          show World.ownsRow _ _ _ _ _ _ _
          rw [HXA.out, HXB.out]
          exact hown6
        clear hown6 hgrow hgb HL5 Y5 hownB HKN hszB HO5 HL4 Y4
        have HBE : Hid (Below w1.heap.size w1 (w5.setCell ⟨w1.heap.size, 2, none⟩ (.slice da (m + 1) dc))) := HL6.out.setCell (p := ⟨w1.heap.size, 2, none⟩) (Nat.le_refl _) _
        have HV2 := Lib.hid (heap_setCell_same w5 w1.heap.size 2 _ _ (.slice da (m + 1) dc) Y6.out)
        have HO7 := Lib.hid (own_other HO6.out ⟨w1.heap.size, 2, none⟩ (by simp) (.slice da (m + 1) dc))
        have v0 := cellOf HV2.out 0 _ rfl
        have v1 := cellOf HV2.out 1 _ rfl
        have v2 := cellOf HV2.out 2 _ rfl
        have vl := lt_of_block HV2.out
        have y0 := cellOf Y6.out 0 _ rfl
        have y1 := cellOf Y6.out 1 _ rfl
        have y2 := cellOf Y6.out 2 _ rfl
        have yl := lt_of_block Y6.out
        have y2f := frozen_of_row _ _ 2 _ _ Y6.out
        go_wp2_with fail
        clear v0 v1 v2 vl y0 y1 y2 yl y2f
        clear Y6 HL6 HO6
        clear kI hk
        obtain ⟨wr, hwr⟩ : ∃ V, w5.setCell ⟨w1.heap.size, 2, none⟩ (.slice da (m + 1) dc) = V := ⟨_, rfl⟩
        obtain ⟨D, hD⟩ : ∃ D, moreC c x q = D := ⟨_, rfl⟩
        have HDM := Lib.hid hD
        rw [hwr] at HBE HV2 HO7
        have HD : Hid (CasAt wr D (.slice sa n sc) (.slice da (m + 1) dc)) := by
          obtain ⟨_, _, _, _, hPP, _⟩ := HEV.out
          refine ⟨?_, ?_⟩
          · rw [show D.shs = c.shs by rw [← hD]; unfold moreC; split <;> rfl]
            exact HC.out.shs.below HBE.out
          · rw [show D.eds = c.eds ++ [x] by rw [← hD]; unfold moreC; rw [if_neg hcs]]
            exact edgsAt_snoc HM.out HO7.out (by have := HM.out; omega) (fun i hi => (hPP i hi).below HBE.out) (HX.out.below HBE.out)
        have HD0 : Hid (D.shs = c.shs ∧ D.tol = c.tol) := by show _ ∧ _; rw [← hD]; unfold moreC; split <;> exact ⟨rfl, rfl⟩
        clear hD hcs
        rw [hwr]
        clear hwr
        have HR' := Lib.hid ((HBE.out.block _ (lt_of_block HR.out)).trans HR.out)
        have HXR' := Lib.hid ((HBE.out.block _ (lt_of_block HXR.out)).trans HXR.out)
        have HZ' := Lib.hid ((HBE.out.block _ (lt_of_block HZ.out)).trans HZ.out)
        have HC' := Lib.hid (HC.out.below HBE.out)
        have HX' := Lib.hid (HX.out.below HBE.out)
        have HB' := Lib.hid (HB.out.trans (HBE.out.mono HB.out.size))
        clear HR
        have HR := HR'
        clear HR'
        clear HXR
        have HXR := HXR'
        clear HXR'
        clear HZ
        have HZ := HZ'
        clear HZ'
        clear HC
        have HC := HC'
        clear HC'
        clear HX
        have HX := HX'
        clear HX'
        clear HB
        have HB := HB'
        clear HB'
        clear HBE HEV
        have HTD : Hid (D.tol = tol) := by show _ = _; rw [HD0.out.2, HTOL.out]
        have HSD : Hid (D.shs = c.shs) := HD0.out.1
        have hcall := lvalid_any D _ _ wr HD.out
        rw [HTD.out] at hcall
        refine hcall.mono ?_
        clear hcall
        rintro e w6 ⟨rfl, hb⟩
        have HR' := Lib.hid ((hb.block _ (lt_of_block HR.out)).trans HR.out)
        have HXR' := Lib.hid ((hb.block _ (lt_of_block HXR.out)).trans HXR.out)
        have HZ' := Lib.hid ((hb.block _ (lt_of_block HZ.out)).trans HZ.out)
        have HC' := Lib.hid (HC.out.below hb)
        have HX' := Lib.hid (HX.out.below hb)
        have HB' := Lib.hid (HB.out.trans (hb.mono HB.out.size))
        have HV2' := Lib.hid ((hb.block _ (lt_of_block HV2.out)).trans HV2.out)
        have HD' := Lib.hid (HD.out.below hb)
        clear HR
        have HR := HR'
        clear HR'
        clear HXR
        have HXR := HXR'
        clear HXR'
        clear HZ
        have HZ := HZ'
        clear HZ'
        clear HC
        have HC := HC'
        clear HC'
        clear HX
        have HX := HX'
        clear HX'
        clear HB
        have HB := HB'
        clear HB'
        clear HV2
        have HV2 := HV2'
        clear HV2'
        clear HD
        have HD := HD'
        clear HD'
        clear hb
        by_cases hd0 : errC D = 0
        · skip
          have HDE := Lib.hid hd0
          rw [show decide (errC D = 0) = true by simp [hd0]]
          clear hd0
          have nz : ((n : Int) == 0) = false := by rw [beq_eq_false_iff_ne]; omega
          have nd0 : ¬ n = 0 := by omega
          have nd1 : ¬ (n : Int) = -1 := by omega
          have em := tmod_nat j n
          have hxm : j % n < n := Nat.mod_lt _ (by omega)
          generalize hxn : j % n = i at *
          clear hxn
          have iI : (i : Int) < (n : Int) := by omega
          have r0 := cellOf HR.out 0 _ rfl
          have r1 := cellOf HR.out 1 _ rfl
          have r2 := cellOf HR.out 2 _ rfl
          have rl := lt_of_block HR.out
          have x0 := cellOf HXR.out 0 _ rfl
          have x1 := cellOf HXR.out 1 _ rfl
          have x2 := cellOf HXR.out 2 _ rfl
          have xl := lt_of_block HXR.out
          have z0 := cellOf HZ.out 0 _ rfl
          have z1 := cellOf HZ.out 1 _ rfl
          have zl := lt_of_block HZ.out
          have v0 := cellOf HV2.out 0 _ rfl
          have v1 := cellOf HV2.out 1 _ rfl
          have v2 := cellOf HV2.out 2 _ rfl
          have vl := lt_of_block HV2.out
          go_wp2_with fail
          clear r0 r1 r2 rl x0 x1 x2 xl z0 z1 zl v0 v1 v2 vl
          clear em nz nd0 nd1
          have hin : i < c.shs.length := by have := HN.out; omega
          have hfx := more_facts c D H0.out HDE.out HSD.out (by rw [← HDM.out] at HDE ⊢; exact more_ag c x q H0.out HDE.out) i hin
          clear hin
          obtain ⟨⟨⟨lo, hi⟩, e1⟩, h1⟩ : ∃ r, rangeE c i = r := ⟨_, rfl⟩
          obtain ⟨⟨⟨lo2, hi2⟩, e2⟩, h2⟩ : ∃ r, rangeE D i = r := ⟨_, rfl⟩
          obtain ⟨⟨la, ca, e3⟩, h3⟩ : ∃ r, leastE c = r := ⟨_, rfl⟩
          obtain ⟨⟨lb, cb, e4⟩, h4⟩ : ∃ r, leastE D = r := ⟨_, rfl⟩
          rw [h1, h2, h3, h4] at hfx
          simp only [Prod.mk.injEq] at hfx
          have H1 := Lib.hid h1
          have H2 := Lib.hid h2
          have H3 := Lib.hid h3
          have H4 := Lib.hid h4
          have HFX := Lib.hid hfx
          clear h1 h2 h3 h4 hfx
          have hcall := rangeT_any c _ _ (i : Int) w6 HC.out
          rw [HTOL.out] at hcall
          refine hcall.mono ?_
          clear hcall
          rintro e w7 ⟨rfl, hb⟩
          have HR' := Lib.hid ((hb.block _ (lt_of_block HR.out)).trans HR.out)
          have HXR' := Lib.hid ((hb.block _ (lt_of_block HXR.out)).trans HXR.out)
          have HZ' := Lib.hid ((hb.block _ (lt_of_block HZ.out)).trans HZ.out)
          have HC' := Lib.hid (HC.out.below hb)
          have HX' := Lib.hid (HX.out.below hb)
          have HB' := Lib.hid (HB.out.trans (hb.mono HB.out.size))
          have HV2' := Lib.hid ((hb.block _ (lt_of_block HV2.out)).trans HV2.out)
          have HD' := Lib.hid (HD.out.below hb)
          clear HR
          have HR := HR'
          clear HR'
          clear HXR
          have HXR := HXR'
          clear HXR'
          clear HZ
          have HZ := HZ'
          clear HZ'
          clear HC
          have HC := HC'
          clear HC'
          clear HX
          have HX := HX'
          clear HX'
          clear HB
          have HB := HB'
          clear HB'
          clear HV2
          have HV2 := HV2'
          clear HV2'
          clear HD
          have HD := HD'
          clear HD'
          clear hb
          rw [H1.out]
          simp only
          have r0 := cellOf HR.out 0 _ rfl
          have r1 := cellOf HR.out 1 _ rfl
          have r2 := cellOf HR.out 2 _ rfl
          have rl := lt_of_block HR.out
          have x0 := cellOf HXR.out 0 _ rfl
          have x1 := cellOf HXR.out 1 _ rfl
          have x2 := cellOf HXR.out 2 _ rfl
          have xl := lt_of_block HXR.out
          have z0 := cellOf HZ.out 0 _ rfl
          have z1 := cellOf HZ.out 1 _ rfl
          have zl := lt_of_block HZ.out
          have v0 := cellOf HV2.out 0 _ rfl
          have v1 := cellOf HV2.out 1 _ rfl
          have v2 := cellOf HV2.out 2 _ rfl
          have vl := lt_of_block HV2.out
          go_wp2_with fail
          clear r0 r1 r2 rl x0 x1 x2 xl z0 z1 zl v0 v1 v2 vl
          have hb := (Below.refl w7.heap.size w7).alloc (Nat.le_refl _) (Obj.cells #[.int .i64 lo, .int .i64 hi] 31)
          have HS1 := Lib.hid (heap_alloc_new w7 (Obj.cells #[.int .i64 lo, .int .i64 hi] 31))
          have HR' := Lib.hid ((hb.block _ (lt_of_block HR.out)).trans HR.out)
          have HXR' := Lib.hid ((hb.block _ (lt_of_block HXR.out)).trans HXR.out)
          have HZ' := Lib.hid ((hb.block _ (lt_of_block HZ.out)).trans HZ.out)
          have HC' := Lib.hid (HC.out.below hb)
          have HX' := Lib.hid (HX.out.below hb)
          have HB' := Lib.hid (HB.out.trans (hb.mono HB.out.size))
          have HV2' := Lib.hid ((hb.block _ (lt_of_block HV2.out)).trans HV2.out)
          have HD' := Lib.hid (HD.out.below hb)
          clear HR
          have HR := HR'
          clear HR'
          clear HXR
          have HXR := HXR'
          clear HXR'
          clear HZ
          have HZ := HZ'
          clear HZ'
          clear HC
          have HC := HC'
          clear HC'
          clear HX
          have HX := HX'
          clear HX'
          clear HB
          have HB := HB'
          clear HB'
          clear HV2
          have HV2 := HV2'
          clear HV2'
          clear HD
          have HD := HD'
          clear HD'
          clear hb
          generalize w7.alloc (Obj.cells #[.int .i64 lo, .int .i64 hi] 31) = w8 at *
          obtain ⟨u11, hu11⟩ : ∃ u, w7.heap.size = u := ⟨_, rfl⟩
          rw [hu11] at HS1 ⊢
          clear hu11
          have hcall := rangeT_any D _ _ (i : Int) w8 HD.out
          rw [HTD.out] at hcall
          refine hcall.mono ?_
          clear hcall
          rintro e w9 ⟨rfl, hb⟩
          have HR' := Lib.hid ((hb.block _ (lt_of_block HR.out)).trans HR.out)
          have HXR' := Lib.hid ((hb.block _ (lt_of_block HXR.out)).trans HXR.out)
          have HZ' := Lib.hid ((hb.block _ (lt_of_block HZ.out)).trans HZ.out)
          have HC' := Lib.hid (HC.out.below hb)
          have HX' := Lib.hid (HX.out.below hb)
          have HB' := Lib.hid (HB.out.trans (hb.mono HB.out.size))
          have HV2' := Lib.hid ((hb.block _ (lt_of_block HV2.out)).trans HV2.out)
          have HD' := Lib.hid (HD.out.below hb)
          have HS1' := Lib.hid ((hb.block _ (lt_of_block HS1.out)).trans HS1.out)
          clear HR
          have HR := HR'
          clear HR'
          clear HXR
          have HXR := HXR'
          clear HXR'
          clear HZ
          have HZ := HZ'
          clear HZ'
          clear HC
          have HC := HC'
          clear HC'
          clear HX
          have HX := HX'
          clear HX'
          clear HB
          have HB := HB'
          clear HB'
          clear HV2
          have HV2 := HV2'
          clear HV2'
          clear HD
          have HD := HD'
          clear HD'
          clear HS1
          have HS1 := HS1'
          clear HS1'
          clear hb
          rw [H2.out]
          simp only
          have r0 := cellOf HR.out 0 _ rfl
          have r1 := cellOf HR.out 1 _ rfl
          have r2 := cellOf HR.out 2 _ rfl
          have rl := lt_of_block HR.out
          have x0 := cellOf HXR.out 0 _ rfl
          have x1 := cellOf HXR.out 1 _ rfl
          have x2 := cellOf HXR.out 2 _ rfl
          have xl := lt_of_block HXR.out
          have z0 := cellOf HZ.out 0 _ rfl
          have z1 := cellOf HZ.out 1 _ rfl
          have zl := lt_of_block HZ.out
          have v0 := cellOf HV2.out 0 _ rfl
          have v1 := cellOf HV2.out 1 _ rfl
          have v2 := cellOf HV2.out 2 _ rfl
          have vl := lt_of_block HV2.out
          have s0 := cellOf HS1.out 0 _ rfl
          have s1 := cellOf HS1.out 1 _ rfl
          have sl := lt_of_block HS1.out
          go_wp2_with fail
          clear r0 r1 r2 rl x0 x1 x2 xl z0 z1 zl v0 v1 v2 vl s0 s1 sl
          have hb := (Below.refl w9.heap.size w9).alloc (Nat.le_refl _) (Obj.cells #[.int .i64 lo2, .int .i64 hi2] 31)
          have HS2 := Lib.hid (heap_alloc_new w9 (Obj.cells #[.int .i64 lo2, .int .i64 hi2] 31))
          have HR' := Lib.hid ((hb.block _ (lt_of_block HR.out)).trans HR.out)
          have HXR' := Lib.hid ((hb.block _ (lt_of_block HXR.out)).trans HXR.out)
          have HZ' := Lib.hid ((hb.block _ (lt_of_block HZ.out)).trans HZ.out)
          have HC' := Lib.hid (HC.out.below hb)
          have HX' := Lib.hid (HX.out.below hb)
          have HB' := Lib.hid (HB.out.trans (hb.mono HB.out.size))
          have HV2' := Lib.hid ((hb.block _ (lt_of_block HV2.out)).trans HV2.out)
          have HD' := Lib.hid (HD.out.below hb)
          have HS1' := Lib.hid ((hb.block _ (lt_of_block HS1.out)).trans HS1.out)
          clear HR
          have HR := HR'
          clear HR'
          clear HXR
          have HXR := HXR'
          clear HXR'
          clear HZ
          have HZ := HZ'
          clear HZ'
          clear HC
          have HC := HC'
          clear HC'
          clear HX
          have HX := HX'
          clear HX'
          clear HB
          have HB := HB'
          clear HB'
          clear HV2
          have HV2 := HV2'
          clear HV2'
          clear HD
          have HD := HD'
          clear HD'
          clear HS1
          have HS1 := HS1'
          clear HS1'
          clear hb
          generalize w9.alloc (Obj.cells #[.int .i64 lo2, .int .i64 hi2] 31) = wa at *
          obtain ⟨u13, hu13⟩ : ∃ u, w9.heap.size = u := ⟨_, rfl⟩
          rw [hu13] at HS2 ⊢
          clear hu13
          have hcall := least1_any c _ _ wa HC.out
          rw [HTOL.out] at hcall
          refine hcall.mono ?_
          clear hcall
          rintro e wb ⟨lv, rfl, hI, hb⟩
          have HR' := Lib.hid ((hb.block _ (lt_of_block HR.out)).trans HR.out)
          have HXR' := Lib.hid ((hb.block _ (lt_of_block HXR.out)).trans HXR.out)
          have HZ' := Lib.hid ((hb.block _ (lt_of_block HZ.out)).trans HZ.out)
          have HC' := Lib.hid (HC.out.below hb)
          have HX' := Lib.hid (HX.out.below hb)
          have HB' := Lib.hid (HB.out.trans (hb.mono HB.out.size))
          have HV2' := Lib.hid ((hb.block _ (lt_of_block HV2.out)).trans HV2.out)
          have HD' := Lib.hid (HD.out.below hb)
          have HS1' := Lib.hid ((hb.block _ (lt_of_block HS1.out)).trans HS1.out)
          have HS2' := Lib.hid ((hb.block _ (lt_of_block HS2.out)).trans HS2.out)
          clear HR
          have HR := HR'
          clear HR'
          clear HXR
          have HXR := HXR'
          clear HXR'
          clear HZ
          have HZ := HZ'
          clear HZ'
          clear HC
          have HC := HC'
          clear HC'
          clear HX
          have HX := HX'
          clear HX'
          clear HB
          have HB := HB'
          clear HB'
          clear HV2
          have HV2 := HV2'
          clear HV2'
          clear HD
          have HD := HD'
          clear HD'
          clear HS1
          have HS1 := HS1'
          clear HS1'
          clear HS2
          have HS2 := HS2'
          clear HS2'
          clear hb
          clear hI
          rw [H3.out]
          simp only
          have r0 := cellOf HR.out 0 _ rfl
          have r1 := cellOf HR.out 1 _ rfl
          have r2 := cellOf HR.out 2 _ rfl
          have rl := lt_of_block HR.out
          have x0 := cellOf HXR.out 0 _ rfl
          have x1 := cellOf HXR.out 1 _ rfl
          have x2 := cellOf HXR.out 2 _ rfl
          have xl := lt_of_block HXR.out
          have z0 := cellOf HZ.out 0 _ rfl
          have z1 := cellOf HZ.out 1 _ rfl
          have zl := lt_of_block HZ.out
          have v0 := cellOf HV2.out 0 _ rfl
          have v1 := cellOf HV2.out 1 _ rfl
          have v2 := cellOf HV2.out 2 _ rfl
          have vl := lt_of_block HV2.out
          have s0 := cellOf HS1.out 0 _ rfl
          have s1 := cellOf HS1.out 1 _ rfl
          have sl := lt_of_block HS1.out
          have t0 := cellOf HS2.out 0 _ rfl
          have t1 := cellOf HS2.out 1 _ rfl
          have tl := lt_of_block HS2.out
          go_wp2_with fail
          clear r0 r1 r2 rl x0 x1 x2 xl z0 z1 zl v0 v1 v2 vl s0 s1 sl t0 t1 tl
          have hcall := least1_any D _ _ wb HD.out
          rw [HTD.out] at hcall
          refine hcall.mono ?_
          clear hcall
          rintro e wc ⟨lv2, rfl, hI, hb⟩
          have HR' := Lib.hid ((hb.block _ (lt_of_block HR.out)).trans HR.out)
          have HXR' := Lib.hid ((hb.block _ (lt_of_block HXR.out)).trans HXR.out)
          have HZ' := Lib.hid ((hb.block _ (lt_of_block HZ.out)).trans HZ.out)
          have HC' := Lib.hid (HC.out.below hb)
          have HX' := Lib.hid (HX.out.below hb)
          have HB' := Lib.hid (HB.out.trans (hb.mono HB.out.size))
          have HV2' := Lib.hid ((hb.block _ (lt_of_block HV2.out)).trans HV2.out)
          have HD' := Lib.hid (HD.out.below hb)
          have HS1' := Lib.hid ((hb.block _ (lt_of_block HS1.out)).trans HS1.out)
          have HS2' := Lib.hid ((hb.block _ (lt_of_block HS2.out)).trans HS2.out)
          clear HR
          have HR := HR'
          clear HR'
          clear HXR
          have HXR := HXR'
          clear HXR'
          clear HZ
          have HZ := HZ'
          clear HZ'
          clear HC
          have HC := HC'
          clear HC'
          clear HX
          have HX := HX'
          clear HX'
          clear HB
          have HB := HB'
          clear HB'
          clear HV2
          have HV2 := HV2'
          clear HV2'
          clear HD
          have HD := HD'
          clear HD'
          clear HS1
          have HS1 := HS1'
          clear HS1'
          clear HS2
          have HS2 := HS2'
          clear HS2'
          clear hb
          clear hI
          rw [H4.out]
          simp only
          have hfx := HFX.out
          clear HFX H1 H2 H3 H4
          rcases hfx with ⟨⟨⟨⟨rfl, rfl⟩, rfl⟩, rfl, rfl, rfl⟩, hf2⟩ | ⟨rfl, rfl, rfl, rfl, k1, k2, k3⟩
          · skip
            rcases hf2 with ⟨⟨⟨rfl, rfl⟩, rfl⟩, rfl, rfl, rfl⟩ | ⟨rfl, rfl⟩
            · skip
              have r0 := cellOf HR.out 0 _ rfl
              have r1 := cellOf HR.out 1 _ rfl
              have r2 := cellOf HR.out 2 _ rfl
              have rl := lt_of_block HR.out
              have x0 := cellOf HXR.out 0 _ rfl
              have x1 := cellOf HXR.out 1 _ rfl
              have x2 := cellOf HXR.out 2 _ rfl
              have xl := lt_of_block HXR.out
              have z0 := cellOf HZ.out 0 _ rfl
              have z1 := cellOf HZ.out 1 _ rfl
              have zl := lt_of_block HZ.out
              have v0 := cellOf HV2.out 0 _ rfl
              have v1 := cellOf HV2.out 1 _ rfl
              have v2 := cellOf HV2.out 2 _ rfl
              have vl := lt_of_block HV2.out
              have s0 := cellOf HS1.out 0 _ rfl
              have s1 := cellOf HS1.out 1 _ rfl
              have sl := lt_of_block HS1.out
              have t0 := cellOf HS2.out 0 _ rfl
              have t1 := cellOf HS2.out 1 _ rfl
              have tl := lt_of_block HS2.out
              go_wp2_with fail
              clear r0 r1 r2 rl x0 x1 x2 xl z0 z1 zl v0 v1 v2 vl s0 s1 sl t0 t1 tl
              refine (awake_any wc).mono ?_
              rintro e wz ⟨rfl, hb⟩
              have HBF := Lib.hid (HB.out.trans (hb.mono HB.out.size))
              clear hb
              go_wp2_with fail
              go_ret
              exact ⟨rfl, HBF.out⟩
            · skip
              have r0 := cellOf HR.out 0 _ rfl
              have r1 := cellOf HR.out 1 _ rfl
              have r2 := cellOf HR.out 2 _ rfl
              have rl := lt_of_block HR.out
              have x0 := cellOf HXR.out 0 _ rfl
              have x1 := cellOf HXR.out 1 _ rfl
              have x2 := cellOf HXR.out 2 _ rfl
              have xl := lt_of_block HXR.out
              have z0 := cellOf HZ.out 0 _ rfl
              have z1 := cellOf HZ.out 1 _ rfl
              have zl := lt_of_block HZ.out
              have v0 := cellOf HV2.out 0 _ rfl
              have v1 := cellOf HV2.out 1 _ rfl
              have v2 := cellOf HV2.out 2 _ rfl
              have vl := lt_of_block HV2.out
              have s0 := cellOf HS1.out 0 _ rfl
              have s1 := cellOf HS1.out 1 _ rfl
              have sl := lt_of_block HS1.out
              have t0 := cellOf HS2.out 0 _ rfl
              have t1 := cellOf HS2.out 1 _ rfl
              have tl := lt_of_block HS2.out
              go_wp2_with fail
              clear r0 r1 r2 rl x0 x1 x2 xl z0 z1 zl v0 v1 v2 vl s0 s1 sl t0 t1 tl
              refine (awake_any wc).mono ?_
              rintro e wz ⟨rfl, hb⟩
              have HBF := Lib.hid (HB.out.trans (hb.mono HB.out.size))
              clear hb
              go_wp2_with fail
              go_ret
              exact ⟨rfl, HBF.out⟩
          · skip
            have r0 := cellOf HR.out 0 _ rfl
            have r1 := cellOf HR.out 1 _ rfl
            have r2 := cellOf HR.out 2 _ rfl
            have rl := lt_of_block HR.out
            have x0 := cellOf HXR.out 0 _ rfl
            have x1 := cellOf HXR.out 1 _ rfl
            have x2 := cellOf HXR.out 2 _ rfl
            have xl := lt_of_block HXR.out
            have z0 := cellOf HZ.out 0 _ rfl
            have z1 := cellOf HZ.out 1 _ rfl
            have zl := lt_of_block HZ.out
            have v0 := cellOf HV2.out 0 _ rfl
            have v1 := cellOf HV2.out 1 _ rfl
            have v2 := cellOf HV2.out 2 _ rfl
            have vl := lt_of_block HV2.out
            have s0 := cellOf HS1.out 0 _ rfl
            have s1 := cellOf HS1.out 1 _ rfl
            have sl := lt_of_block HS1.out
            have t0 := cellOf HS2.out 0 _ rfl
            have t1 := cellOf HS2.out 1 _ rfl
            have tl := lt_of_block HS2.out
            go_wp2_with fail
            clear r0 r1 r2 rl x0 x1 x2 xl z0 z1 zl v0 v1 v2 vl s0 s1 sl t0 t1 tl
            refine (awake_any wc).mono ?_
            rintro e wz ⟨rfl, hb⟩
            have HBF := Lib.hid (HB.out.trans (hb.mono HB.out.size))
            clear hb
            go_wp2_with fail
            go_ret
            exact ⟨rfl, HBF.out⟩
        · skip
          rw [show decide (errC D = 0) = false by simp [hd0]]
          clear hd0
          have r0 := cellOf HR.out 0 _ rfl
          have r1 := cellOf HR.out 1 _ rfl
          have r2 := cellOf HR.out 2 _ rfl
          have rl := lt_of_block HR.out
          have x0 := cellOf HXR.out 0 _ rfl
          have x1 := cellOf HXR.out 1 _ rfl
          have x2 := cellOf HXR.out 2 _ rfl
          have xl := lt_of_block HXR.out
          have z0 := cellOf HZ.out 0 _ rfl
          have z1 := cellOf HZ.out 1 _ rfl
          have zl := lt_of_block HZ.out
          have v0 := cellOf HV2.out 0 _ rfl
          have v1 := cellOf HV2.out 1 _ rfl
          have v2 := cellOf HV2.out 2 _ rfl
          have vl := lt_of_block HV2.out
          go_wp2_with fail
          clear r0 r1 r2 rl x0 x1 x2 xl z0 z1 zl v0 v1 v2 vl
          refine (awake_any w6).mono ?_
          rintro e wz ⟨rfl, hb⟩
          have HBF := Lib.hid (HB.out.trans (hb.mono HB.out.size))
          clear hb
          go_wp2_with fail
          go_ret
          exact ⟨rfl, HBF.out⟩
      · skip
        have kI : ¬ (q : Int) < (m : Int) := by omega
        have hownB := (own_other HO5.out ⟨w1.heap.size, 2, none⟩ (by simp) (.slice na m nc)).alloc (Obj.cells #[.int .i64 xa, .int .i64 xb, .slice pa p pc] 71)
        have HKN : Hid (∀ j v, [Value.int .i64 xa, .int .i64 xb, .slice pa p pc][j]? = some v → ((w4.setCell ⟨w1.heap.size, 2, none⟩ (.slice na m nc)).alloc (Obj.cells #[.int .i64 xa, .int .i64 xb, .slice pa p pc] 71)).cell? ((⟨w4.heap.size, 0, none⟩ : Addr).add j) = some v) := by
          have h := cells3_new (w4.setCell ⟨w1.heap.size, 2, none⟩ (.slice na m nc)) 71 (.int .i64 xa) (.int .i64 xb) (.slice pa p pc)
          rw [show (w4.setCell ⟨w1.heap.size, 2, none⟩ (.slice na m nc)).heap.size = w4.heap.size by simp] at h
          exact h
        have hszB : ((w4.setCell ⟨w1.heap.size, 2, none⟩ (.slice na m nc)).alloc (Obj.cells #[.int .i64 xa, .int .i64 xb, .slice pa p pc] 71)).heap.size = w4.heap.size + 1 := by simp
        have Y5 : Hid (((w4.setCell ⟨w1.heap.size, 2, none⟩ (.slice na m nc)).alloc (Obj.cells #[.int .i64 xa, .int .i64 xb, .slice pa p pc] 71)).heap[w1.heap.size]? = some (.cells #[.int .i64 tol, .slice sa n sc, .slice na m nc] 25 (0, 0))) := by
          have hb1 := (Below.refl (w4.setCell ⟨w1.heap.size, 2, none⟩ (.slice na m nc)).heap.size (w4.setCell ⟨w1.heap.size, 2, none⟩ (.slice na m nc))).alloc (Nat.le_refl _) (Obj.cells #[.int .i64 xa, .int .i64 xb, .slice pa p pc] 71)
          exact (hb1.block _ (by simp; omega)).trans (heap_setCell_same w4 w1.heap.size 2 _ _ (.slice na m nc) Y4.out)
        have HL5 : Hid (Below w1.heap.size w1 ((w4.setCell ⟨w1.heap.size, 2, none⟩ (.slice na m nc)).alloc (Obj.cells #[.int .i64 xa, .int .i64 xb, .slice pa p pc] 71))) := (HL4.out.setCell (p := ⟨w1.heap.size, 2, none⟩) (Nat.le_refl _) _).alloc (by simp; omega) _
        have R4 := Lib.hid ((HL4.out.block _ (lt_of_block HR.out)).trans HR.out)
        have X4 := Lib.hid ((HL4.out.block _ (lt_of_block HXR.out)).trans HXR.out)
        have Z4 := Lib.hid ((HL4.out.block _ (lt_of_block HZ.out)).trans HZ.out)
        have r0 := cellOf R4.out 0 _ rfl
        have r1 := cellOf R4.out 1 _ rfl
        have r2 := cellOf R4.out 2 _ rfl
        have rl := lt_of_block R4.out
        have x0 := cellOf X4.out 0 _ rfl
        have x1 := cellOf X4.out 1 _ rfl
        have x2 := cellOf X4.out 2 _ rfl
        have xl := lt_of_block X4.out
        have z0 := cellOf Z4.out 0 _ rfl
        have z1 := cellOf Z4.out 1 _ rfl
        have zl := lt_of_block Z4.out
        have y0 := cellOf Y4.out 0 _ rfl
        have y1 := cellOf Y4.out 1 _ rfl
        have y2 := cellOf Y4.out 2 _ rfl
        have yl := lt_of_block Y4.out
        have y2f := frozen_of_row _ _ 2 _ _ Y4.out
        have rl1 := lt_of_block HR.out
        have xl1 := lt_of_block HXR.out
        have zl1 := lt_of_block HZ.out
        go_wp2_with (at_builtin; refine wpList_append_own _ rfl _ _ 23 rfl (w1.heap.size + 1) 71 i1 (.agg #[.int .i64 0, .int .i64 0, .slice none 0 0]) 3 40 Try.underlying23 hi1 HI1.out.1 HI1.out.2.1 HI1.out.2.2 rfl (by decide) _ _ _ rfl hownB ⟨w4.heap.size, 0, none⟩ 1 1 [.int .i64 xa, .int .i64 xb, .slice pa p pc] rfl rfl HKN.out (by intro u hu; simp at hu; rcases hu with rfl | rfl | rfl <;> rfl) (by unfold maxLen; omega) (by omega) (by omega) ?_)
        clear r0 r1 r2 rl x0 x1 x2 xl z0 z1 zl y0 y1 y2 yl y2f rl1 xl1 zl1
        clear R4 X4 Z4
        intro v' w5 hown6 hgrow _
        have hgb : ∀ g, (Value.slice na m nc).ownBlock = some g → w1.heap.size + 1 ≤ g := fun g hg => (hownB.lt g hg).1
        have HL6 := Lib.hid (HL5.out.grown hgrow (by omega) (fun g hg => by have := hgb g hg; omega))
        have Y6 := Lib.hid ((hgrow.block _ (lt_of_block Y5.out) (fun e => by have := hgb _ e.symm; omega)).trans Y5.out)
        obtain ⟨da, dc, rfl⟩ := own_slice hown6
        have hms : m + 1 ≤ 1000 := by omega
        have HO6 : Hid (w5.ownsRow (w1.heap.size + 1) 71 3 (.slice da (m + 1) dc) (m + 1) (eRow c.eds P (List.range c.eds.length) ++ [.int .i64 x.a, .int .i64 x.b, .slice pa p pc])) := by
          show World.ownsRow _ _ _ _ _ _ _
          rw [HXA.out, HXB.out]
          exact hown6
        clear hown6 hgrow hgb HL5 Y5 hownB HKN hszB HO5 HL4 Y4
        have HBE : Hid (Below w1.heap.size w1 (w5.setCell ⟨w1.heap.size, 2, none⟩ (.slice da (m + 1) dc))) := HL6.out.setCell (p := ⟨w1.heap.size, 2, none⟩) (Nat.le_refl _) _
        have HV2 := Lib.hid (heap_setCell_same w5 w1.heap.size 2 _ _ (.slice da (m + 1) dc) Y6.out)
        have HO7 := Lib.hid (own_other HO6.out ⟨w1.heap.size, 2, none⟩ (by simp) (.slice da (m + 1) dc))
        have v0 := cellOf HV2.out 0 _ rfl
        have v1 := cellOf HV2.out 1 _ rfl
        have v2 := cellOf HV2.out 2 _ rfl
        have vl := lt_of_block HV2.out
        have y0 := cellOf Y6.out 0 _ rfl
        have y1 := cellOf Y6.out 1 _ rfl
        have y2 := cellOf Y6.out 2 _ rfl
        have yl := lt_of_block Y6.out
        have y2f := frozen_of_row _ _ 2 _ _ Y6.out
        go_wp2_with fail
        clear v0 v1 v2 vl y0 y1 y2 yl y2f
        clear Y6 HL6 HO6
        clear kI
        obtain ⟨wr, hwr⟩ : ∃ V, w5.setCell ⟨w1.heap.size, 2, none⟩ (.slice da (m + 1) dc) = V := ⟨_, rfl⟩
        obtain ⟨D, hD⟩ : ∃ D, moreC c x q = D := ⟨_, rfl⟩
        have HDM := Lib.hid hD
        rw [hwr] at HBE HV2 HO7
        have HD : Hid (CasAt wr D (.slice sa n sc) (.slice da (m + 1) dc)) := by
          obtain ⟨_, _, _, _, hPP, _⟩ := HEV.out
          refine ⟨?_, ?_⟩
          · rw [show D.shs = c.shs by rw [← hD]; unfold moreC; split <;> rfl]
            exact HC.out.shs.below HBE.out
          · rw [show D.eds = c.eds ++ [x] by rw [← hD]; unfold moreC; rw [if_neg hcs]]
            exact edgsAt_snoc HM.out HO7.out (by have := HM.out; omega) (fun i hi => (hPP i hi).below HBE.out) (HX.out.below HBE.out)
        have HD0 : Hid (D.shs = c.shs ∧ D.tol = c.tol) := by show _ ∧ _; rw [← hD]; unfold moreC; split <;> exact ⟨rfl, rfl⟩
        clear hD hcs
        rw [hwr]
        clear hwr
        have HR' := Lib.hid ((HBE.out.block _ (lt_of_block HR.out)).trans HR.out)
        have HXR' := Lib.hid ((HBE.out.block _ (lt_of_block HXR.out)).trans HXR.out)
        have HZ' := Lib.hid ((HBE.out.block _ (lt_of_block HZ.out)).trans HZ.out)
        have HC' := Lib.hid (HC.out.below HBE.out)
        have HX' := Lib.hid (HX.out.below HBE.out)
        have HB' := Lib.hid (HB.out.trans (HBE.out.mono HB.out.size))
        clear HR
        have HR := HR'
        clear HR'
        clear HXR
        have HXR := HXR'
        clear HXR'
        clear HZ
        have HZ := HZ'
        clear HZ'
        clear HC
        have HC := HC'
        clear HC'
        clear HX
        have HX := HX'
        clear HX'
        clear HB
        have HB := HB'
        clear HB'
        clear HBE HEV
        have HTD : Hid (D.tol = tol) := by show _ = _; rw [HD0.out.2, HTOL.out]
        have HSD : Hid (D.shs = c.shs) := HD0.out.1
        have hcall := lvalid_any D _ _ wr HD.out
        rw [HTD.out] at hcall
        refine hcall.mono ?_
        clear hcall
        rintro e w6 ⟨rfl, hb⟩
        have HR' := Lib.hid ((hb.block _ (lt_of_block HR.out)).trans HR.out)
        have HXR' := Lib.hid ((hb.block _ (lt_of_block HXR.out)).trans HXR.out)
        have HZ' := Lib.hid ((hb.block _ (lt_of_block HZ.out)).trans HZ.out)
        have HC' := Lib.hid (HC.out.below hb)
        have HX' := Lib.hid (HX.out.below hb)
        have HB' := Lib.hid (HB.out.trans (hb.mono HB.out.size))
        have HV2' := Lib.hid ((hb.block _ (lt_of_block HV2.out)).trans HV2.out)
        have HD' := Lib.hid (HD.out.below hb)
        clear HR
        have HR := HR'
        clear HR'
        clear HXR
        have HXR := HXR'
        clear HXR'
        clear HZ
        have HZ := HZ'
        clear HZ'
        clear HC
        have HC := HC'
        clear HC'
        clear HX
        have HX := HX'
        clear HX'
        clear HB
        have HB := HB'
        clear HB'
        clear HV2
        have HV2 := HV2'
        clear HV2'
        clear HD
        have HD := HD'
        clear HD'
        clear hb
        by_cases hd0 : errC D = 0
        · skip
          have HDE := Lib.hid hd0
          rw [show decide (errC D = 0) = true by simp [hd0]]
          clear hd0
          have nz : ((n : Int) == 0) = false := by rw [beq_eq_false_iff_ne]; omega
          have nd0 : ¬ n = 0 := by omega
          have nd1 : ¬ (n : Int) = -1 := by omega
          have em := tmod_nat j n
          have hxm : j % n < n := Nat.mod_lt _ (by omega)
          generalize hxn : j % n = i at *
          clear hxn
          have iI : (i : Int) < (n : Int) := by omega
          have r0 := cellOf HR.out 0 _ rfl
          have r1 := cellOf HR.out 1 _ rfl
          have r2 := cellOf HR.out 2 _ rfl
          have rl := lt_of_block HR.out
          have x0 := cellOf HXR.out 0 _ rfl
          have x1 := cellOf HXR.out 1 _ rfl
          have x2 := cellOf HXR.out 2 _ rfl
          have xl := lt_of_block HXR.out
          have z0 := cellOf HZ.out 0 _ rfl
          have z1 := cellOf HZ.out 1 _ rfl
          have zl := lt_of_block HZ.out
          have v0 := cellOf HV2.out 0 _ rfl
          have v1 := cellOf HV2.out 1 _ rfl
          have v2 := cellOf HV2.out 2 _ rfl
          have vl := lt_of_block HV2.out
          go_wp2_with fail
          clear r0 r1 r2 rl x0 x1 x2 xl z0 z1 zl v0 v1 v2 vl
          clear em nz nd0 nd1
          have hin : i < c.shs.length := by have := HN.out; omega
          have hfx := more_facts c D H0.out HDE.out HSD.out (by rw [← HDM.out] at HDE ⊢; exact more_ag c x q H0.out HDE.out) i hin
          clear hin
          obtain ⟨⟨⟨lo, hi⟩, e1⟩, h1⟩ : ∃ r, rangeE c i = r := ⟨_, rfl⟩
          obtain ⟨⟨⟨lo2, hi2⟩, e2⟩, h2⟩ : ∃ r, rangeE D i = r := ⟨_, rfl⟩
          obtain ⟨⟨la, ca, e3⟩, h3⟩ : ∃ r, leastE c = r := ⟨_, rfl⟩
          obtain ⟨⟨lb, cb, e4⟩, h4⟩ : ∃ r, leastE D = r := ⟨_, rfl⟩
          rw [h1, h2, h3, h4] at hfx
          simp only [Prod.mk.injEq] at hfx
          have H1 := Lib.hid h1
          have H2 := Lib.hid h2
          have H3 := Lib.hid h3
          have H4 := Lib.hid h4
          have HFX := Lib.hid hfx
          clear h1 h2 h3 h4 hfx
          have hcall := rangeT_any c _ _ (i : Int) w6 HC.out
          rw [HTOL.out] at hcall
          refine hcall.mono ?_
          clear hcall
          rintro e w7 ⟨rfl, hb⟩
          have HR' := Lib.hid ((hb.block _ (lt_of_block HR.out)).trans HR.out)
          have HXR' := Lib.hid ((hb.block _ (lt_of_block HXR.out)).trans HXR.out)
          have HZ' := Lib.hid ((hb.block _ (lt_of_block HZ.out)).trans HZ.out)
          have HC' := Lib.hid (HC.out.below hb)
          have HX' := Lib.hid (HX.out.below hb)
          have HB' := Lib.hid (HB.out.trans (hb.mono HB.out.size))
          have HV2' := Lib.hid ((hb.block _ (lt_of_block HV2.out)).trans HV2.out)
          have HD' := Lib.hid (HD.out.below hb)
          clear HR
          have HR := HR'
          clear HR'
          clear HXR
          have HXR := HXR'
          clear HXR'
          clear HZ
          have HZ := HZ'
          clear HZ'
          clear HC
          have HC := HC'
          clear HC'
          clear HX
          have HX := HX'
          clear HX'
          clear HB
          have HB := HB'
          clear HB'
          clear HV2
          have HV2 := HV2'
          clear HV2'
          clear HD
          have HD := HD'
          clear HD'
          clear hb
          rw [H1.out]
          simp only
          have r0 := cellOf HR.out 0 _ rfl
          have r1 := cellOf HR.out 1 _ rfl
          have r2 := cellOf HR.out 2 _ rfl
          have rl := lt_of_block HR.out
          have x0 := cellOf HXR.out 0 _ rfl
          have x1 := cellOf HXR.out 1 _ rfl
          have x2 := cellOf HXR.out 2 _ rfl
          have xl := lt_of_block HXR.out
          have z0 := cellOf HZ.out 0 _ rfl
          have z1 := cellOf HZ.out 1 _ rfl
          have zl := lt_of_block HZ.out
          have v0 := cellOf HV2.out 0 _ rfl
          have v1 := cellOf HV2.out 1 _ rfl
          have v2 := cellOf HV2.out 2 _ rfl
          have vl := lt_of_block HV2.out
          go_wp2_with fail
          clear r0 r1 r2 rl x0 x1 x2 xl z0 z1 zl v0 v1 v2 vl
          have hb := (Below.refl w7.heap.size w7).alloc (Nat.le_refl _) (Obj.cells #[.int .i64 lo, .int .i64 hi] 31)
          have HS1 := Lib.hid (heap_alloc_new w7 (Obj.cells #[.int .i64 lo, .int .i64 hi] 31))
          have HR' := Lib.hid ((hb.block _ (lt_of_block HR.out)).trans HR.out)
          have HXR' := Lib.hid ((hb.block _ (lt_of_block HXR.out)).trans HXR.out)
          have HZ' := Lib.hid ((hb.block _ (lt_of_block HZ.out)).trans HZ.out)
          have HC' := Lib.hid (HC.out.below hb)
          have HX' := Lib.hid (HX.out.below hb)
          have HB' := Lib.hid (HB.out.trans (hb.mono HB.out.size))
          have HV2' := Lib.hid ((hb.block _ (lt_of_block HV2.out)).trans HV2.out)
          have HD' := Lib.hid (HD.out.below hb)
          clear HR
          have HR := HR'
          clear HR'
          clear HXR
          have HXR := HXR'
          clear HXR'
          clear HZ
          have HZ := HZ'
          clear HZ'
          clear HC
          have HC := HC'
          clear HC'
          clear HX
          have HX := HX'
          clear HX'
          clear HB
          have HB := HB'
          clear HB'
          clear HV2
          have HV2 := HV2'
          clear HV2'
          clear HD
          have HD := HD'
          clear HD'
          clear hb
          generalize w7.alloc (Obj.cells #[.int .i64 lo, .int .i64 hi] 31) = w8 at *
          obtain ⟨u11, hu11⟩ : ∃ u, w7.heap.size = u := ⟨_, rfl⟩
          rw [hu11] at HS1 ⊢
          clear hu11
          have hcall := rangeT_any D _ _ (i : Int) w8 HD.out
          rw [HTD.out] at hcall
          refine hcall.mono ?_
          clear hcall
          rintro e w9 ⟨rfl, hb⟩
          have HR' := Lib.hid ((hb.block _ (lt_of_block HR.out)).trans HR.out)
          have HXR' := Lib.hid ((hb.block _ (lt_of_block HXR.out)).trans HXR.out)
          have HZ' := Lib.hid ((hb.block _ (lt_of_block HZ.out)).trans HZ.out)
          have HC' := Lib.hid (HC.out.below hb)
          have HX' := Lib.hid (HX.out.below hb)
          have HB' := Lib.hid (HB.out.trans (hb.mono HB.out.size))
          have HV2' := Lib.hid ((hb.block _ (lt_of_block HV2.out)).trans HV2.out)
          have HD' := Lib.hid (HD.out.below hb)
          have HS1' := Lib.hid ((hb.block _ (lt_of_block HS1.out)).trans HS1.out)
          clear HR
          have HR := HR'
          clear HR'
          clear HXR
          have HXR := HXR'
          clear HXR'
          clear HZ
          have HZ := HZ'
          clear HZ'
          clear HC
          have HC := HC'
          clear HC'
          clear HX
          have HX := HX'
          clear HX'
          clear HB
          have HB := HB'
          clear HB'
          clear HV2
          have HV2 := HV2'
          clear HV2'
          clear HD
          have HD := HD'
          clear HD'
          clear HS1
          have HS1 := HS1'
          clear HS1'
          clear hb
          rw [H2.out]
          simp only
          have r0 := cellOf HR.out 0 _ rfl
          have r1 := cellOf HR.out 1 _ rfl
          have r2 := cellOf HR.out 2 _ rfl
          have rl := lt_of_block HR.out
          have x0 := cellOf HXR.out 0 _ rfl
          have x1 := cellOf HXR.out 1 _ rfl
          have x2 := cellOf HXR.out 2 _ rfl
          have xl := lt_of_block HXR.out
          have z0 := cellOf HZ.out 0 _ rfl
          have z1 := cellOf HZ.out 1 _ rfl
          have zl := lt_of_block HZ.out
          have v0 := cellOf HV2.out 0 _ rfl
          have v1 := cellOf HV2.out 1 _ rfl
          have v2 := cellOf HV2.out 2 _ rfl
          have vl := lt_of_block HV2.out
          have s0 := cellOf HS1.out 0 _ rfl
          have s1 := cellOf HS1.out 1 _ rfl
          have sl := lt_of_block HS1.out
          go_wp2_with fail
          clear r0 r1 r2 rl x0 x1 x2 xl z0 z1 zl v0 v1 v2 vl s0 s1 sl
          have hb := (Below.refl w9.heap.size w9).alloc (Nat.le_refl _) (Obj.cells #[.int .i64 lo2, .int .i64 hi2] 31)
          have HS2 := Lib.hid (heap_alloc_new w9 (Obj.cells #[.int .i64 lo2, .int .i64 hi2] 31))
          have HR' := Lib.hid ((hb.block _ (lt_of_block HR.out)).trans HR.out)
          have HXR' := Lib.hid ((hb.block _ (lt_of_block HXR.out)).trans HXR.out)
          have HZ' := Lib.hid ((hb.block _ (lt_of_block HZ.out)).trans HZ.out)
          have HC' := Lib.hid (HC.out.below hb)
          have HX' := Lib.hid (HX.out.below hb)
          have HB' := Lib.hid (HB.out.trans (hb.mono HB.out.size))
          have HV2' := Lib.hid ((hb.block _ (lt_of_block HV2.out)).trans HV2.out)
          have HD' := Lib.hid (HD.out.below hb)
          have HS1' := Lib.hid ((hb.block _ (lt_of_block HS1.out)).trans HS1.out)
          clear HR
          have HR := HR'
          clear HR'
          clear HXR
          have HXR := HXR'
          clear HXR'
          clear HZ
          have HZ := HZ'
          clear HZ'
          clear HC
          have HC := HC'
          clear HC'
          clear HX
          have HX := HX'
          clear HX'
          clear HB
          have HB := HB'
          clear HB'
          clear HV2
          have HV2 := HV2'
          clear HV2'
          clear HD
          have HD := HD'
          clear HD'
          clear HS1
          have HS1 := HS1'
          clear HS1'
          clear hb
          generalize w9.alloc (Obj.cells #[.int .i64 lo2, .int .i64 hi2] 31) = wa at *
          obtain ⟨u13, hu13⟩ : ∃ u, w9.heap.size = u := ⟨_, rfl⟩
          rw [hu13] at HS2 ⊢
          clear hu13
          have hcall := least1_any c _ _ wa HC.out
          rw [HTOL.out] at hcall
          refine hcall.mono ?_
          clear hcall
          rintro e wb ⟨lv, rfl, hI, hb⟩
          have HR' := Lib.hid ((hb.block _ (lt_of_block HR.out)).trans HR.out)
          have HXR' := Lib.hid ((hb.block _ (lt_of_block HXR.out)).trans HXR.out)
          have HZ' := Lib.hid ((hb.block _ (lt_of_block HZ.out)).trans HZ.out)
          have HC' := Lib.hid (HC.out.below hb)
          have HX' := Lib.hid (HX.out.below hb)
          have HB' := Lib.hid (HB.out.trans (hb.mono HB.out.size))
          have HV2' := Lib.hid ((hb.block _ (lt_of_block HV2.out)).trans HV2.out)
          have HD' := Lib.hid (HD.out.below hb)
          have HS1' := Lib.hid ((hb.block _ (lt_of_block HS1.out)).trans HS1.out)
          have HS2' := Lib.hid ((hb.block _ (lt_of_block HS2.out)).trans HS2.out)
          clear HR
          have HR := HR'
          clear HR'
          clear HXR
          have HXR := HXR'
          clear HXR'
          clear HZ
          have HZ := HZ'
          clear HZ'
          clear HC
          have HC := HC'
          clear HC'
          clear HX
          have HX := HX'
          clear HX'
          clear HB
          have HB := HB'
          clear HB'
          clear HV2
          have HV2 := HV2'
          clear HV2'
          clear HD
          have HD := HD'
          clear HD'
          clear HS1
          have HS1 := HS1'
          clear HS1'
          clear HS2
          have HS2 := HS2'
          clear HS2'
          clear hb
          clear hI
          rw [H3.out]
          simp only
          have r0 := cellOf HR.out 0 _ rfl
          have r1 := cellOf HR.out 1 _ rfl
          have r2 := cellOf HR.out 2 _ rfl
          have rl := lt_of_block HR.out
          have x0 := cellOf HXR.out 0 _ rfl
          have x1 := cellOf HXR.out 1 _ rfl
          have x2 := cellOf HXR.out 2 _ rfl
          have xl := lt_of_block HXR.out
          have z0 := cellOf HZ.out 0 _ rfl
          have z1 := cellOf HZ.out 1 _ rfl
          have zl := lt_of_block HZ.out
          have v0 := cellOf HV2.out 0 _ rfl
          have v1 := cellOf HV2.out 1 _ rfl
          have v2 := cellOf HV2.out 2 _ rfl
          have vl := lt_of_block HV2.out
          have s0 := cellOf HS1.out 0 _ rfl
          have s1 := cellOf HS1.out 1 _ rfl
          have sl := lt_of_block HS1.out
          have t0 := cellOf HS2.out 0 _ rfl
          have t1 := cellOf HS2.out 1 _ rfl
          have tl := lt_of_block HS2.out
          go_wp2_with fail
          clear r0 r1 r2 rl x0 x1 x2 xl z0 z1 zl v0 v1 v2 vl s0 s1 sl t0 t1 tl
          have hcall := least1_any D _ _ wb HD.out
          rw [HTD.out] at hcall
          refine hcall.mono ?_
          clear hcall
          rintro e wc ⟨lv2, rfl, hI, hb⟩
          have HR' := Lib.hid ((hb.block _ (lt_of_block HR.out)).trans HR.out)
          have HXR' := Lib.hid ((hb.block _ (lt_of_block HXR.out)).trans HXR.out)
          have HZ' := Lib.hid ((hb.block _ (lt_of_block HZ.out)).trans HZ.out)
          have HC' := Lib.hid (HC.out.below hb)
          have HX' := Lib.hid (HX.out.below hb)
          have HB' := Lib.hid (HB.out.trans (hb.mono HB.out.size))
          have HV2' := Lib.hid ((hb.block _ (lt_of_block HV2.out)).trans HV2.out)
          have HD' := Lib.hid (HD.out.below hb)
          have HS1' := Lib.hid ((hb.block _ (lt_of_block HS1.out)).trans HS1.out)
          have HS2' := Lib.hid ((hb.block _ (lt_of_block HS2.out)).trans HS2.out)
          clear HR
          have HR := HR'
          clear HR'
          clear HXR
          have HXR := HXR'
          clear HXR'
          clear HZ
          have HZ := HZ'
          clear HZ'
          clear HC
          have HC := HC'
          clear HC'
          clear HX
          have HX := HX'
          clear HX'
          clear HB
          have HB := HB'
          clear HB'
          clear HV2
          have HV2 := HV2'
          clear HV2'
          clear HD
          have HD := HD'
          clear HD'
          clear HS1
          have HS1 := HS1'
          clear HS1'
          clear HS2
          have HS2 := HS2'
          clear HS2'
          clear hb
          clear hI
          rw [H4.out]
          simp only
          have hfx := HFX.out
          clear HFX H1 H2 H3 H4
          rcases hfx with ⟨⟨⟨⟨rfl, rfl⟩, rfl⟩, rfl, rfl, rfl⟩, hf2⟩ | ⟨rfl, rfl, rfl, rfl, k1, k2, k3⟩
          · skip
            rcases hf2 with ⟨⟨⟨rfl, rfl⟩, rfl⟩, rfl, rfl, rfl⟩ | ⟨rfl, rfl⟩
            · skip
              have r0 := cellOf HR.out 0 _ rfl
              have r1 := cellOf HR.out 1 _ rfl
              have r2 := cellOf HR.out 2 _ rfl
              have rl := lt_of_block HR.out
              have x0 := cellOf HXR.out 0 _ rfl
              have x1 := cellOf HXR.out 1 _ rfl
              have x2 := cellOf HXR.out 2 _ rfl
              have xl := lt_of_block HXR.out
              have z0 := cellOf HZ.out 0 _ rfl
              have z1 := cellOf HZ.out 1 _ rfl
              have zl := lt_of_block HZ.out
              have v0 := cellOf HV2.out 0 _ rfl
              have v1 := cellOf HV2.out 1 _ rfl
              have v2 := cellOf HV2.out 2 _ rfl
              have vl := lt_of_block HV2.out
              have s0 := cellOf HS1.out 0 _ rfl
              have s1 := cellOf HS1.out 1 _ rfl
              have sl := lt_of_block HS1.out
              have t0 := cellOf HS2.out 0 _ rfl
              have t1 := cellOf HS2.out 1 _ rfl
              have tl := lt_of_block HS2.out
              go_wp2_with fail
              clear r0 r1 r2 rl x0 x1 x2 xl z0 z1 zl v0 v1 v2 vl s0 s1 sl t0 t1 tl
              refine (awake_any wc).mono ?_
              rintro e wz ⟨rfl, hb⟩
              have HBF := Lib.hid (HB.out.trans (hb.mono HB.out.size))
              clear hb
              go_wp2_with fail
              go_ret
              exact ⟨rfl, HBF.out⟩
            · skip
              have r0 := cellOf HR.out 0 _ rfl
              have r1 := cellOf HR.out 1 _ rfl
              have r2 := cellOf HR.out 2 _ rfl
              have rl := lt_of_block HR.out
              have x0 := cellOf HXR.out 0 _ rfl
              have x1 := cellOf HXR.out 1 _ rfl
              have x2 := cellOf HXR.out 2 _ rfl
              have xl := lt_of_block HXR.out
              have z0 := cellOf HZ.out 0 _ rfl
              have z1 := cellOf HZ.out 1 _ rfl
              have zl := lt_of_block HZ.out
              have v0 := cellOf HV2.out 0 _ rfl
              have v1 := cellOf HV2.out 1 _ rfl
              have v2 := cellOf HV2.out 2 _ rfl
              have vl := lt_of_block HV2.out
              have s0 := cellOf HS1.out 0 _ rfl
              have s1 := cellOf HS1.out 1 _ rfl
              have sl := lt_of_block HS1.out
              have t0 := cellOf HS2.out 0 _ rfl
              have t1 := cellOf HS2.out 1 _ rfl
              have tl := lt_of_block HS2.out
              go_wp2_with fail
              clear r0 r1 r2 rl x0 x1 x2 xl z0 z1 zl v0 v1 v2 vl s0 s1 sl t0 t1 tl
              refine (awake_any wc).mono ?_
              rintro e wz ⟨rfl, hb⟩
              have HBF := Lib.hid (HB.out.trans (hb.mono HB.out.size))
              clear hb
              go_wp2_with fail
              go_ret
              exact ⟨rfl, HBF.out⟩
          · skip
            have r0 := cellOf HR.out 0 _ rfl
            have r1 := cellOf HR.out 1 _ rfl
            have r2 := cellOf HR.out 2 _ rfl
            have rl := lt_of_block HR.out
            have x0 := cellOf HXR.out 0 _ rfl
            have x1 := cellOf HXR.out 1 _ rfl
            have x2 := cellOf HXR.out 2 _ rfl
            have xl := lt_of_block HXR.out
            have z0 := cellOf HZ.out 0 _ rfl
            have z1 := cellOf HZ.out 1 _ rfl
            have zl := lt_of_block HZ.out
            have v0 := cellOf HV2.out 0 _ rfl
            have v1 := cellOf HV2.out 1 _ rfl
            have v2 := cellOf HV2.out 2 _ rfl
            have vl := lt_of_block HV2.out
            have s0 := cellOf HS1.out 0 _ rfl
            have s1 := cellOf HS1.out 1 _ rfl
            have sl := lt_of_block HS1.out
            have t0 := cellOf HS2.out 0 _ rfl
            have t1 := cellOf HS2.out 1 _ rfl
            have tl := lt_of_block HS2.out
            go_wp2_with fail
            clear r0 r1 r2 rl x0 x1 x2 xl z0 z1 zl v0 v1 v2 vl s0 s1 sl t0 t1 tl
            refine (awake_any wc).mono ?_
            rintro e wz ⟨rfl, hb⟩
            have HBF := Lib.hid (HB.out.trans (hb.mono HB.out.size))
            clear hb
            go_wp2_with fail
            go_ret
            exact ⟨rfl, HBF.out⟩
        · skip
          rw [show decide (errC D = 0) = false by simp [hd0]]
          clear hd0
          have r0 := cellOf HR.out 0 _ rfl
          have r1 := cellOf HR.out 1 _ rfl
          have r2 := cellOf HR.out 2 _ rfl
          have rl := lt_of_block HR.out
          have x0 := cellOf HXR.out 0 _ rfl
          have x1 := cellOf HXR.out 1 _ rfl
          have x2 := cellOf HXR.out 2 _ rfl
          have xl := lt_of_block HXR.out
          have z0 := cellOf HZ.out 0 _ rfl
          have z1 := cellOf HZ.out 1 _ rfl
          have zl := lt_of_block HZ.out
          have v0 := cellOf HV2.out 0 _ rfl
          have v1 := cellOf HV2.out 1 _ rfl
          have v2 := cellOf HV2.out 2 _ rfl
          have vl := lt_of_block HV2.out
          go_wp2_with fail
          clear r0 r1 r2 rl x0 x1 x2 xl z0 z1 zl v0 v1 v2 vl
          refine (awake_any w6).mono ?_
          rintro e wz ⟨rfl, hb⟩
          have HBF := Lib.hid (HB.out.trans (hb.mono HB.out.size))
          clear hb
          go_wp2_with fail
          go_ret
          exact ⟨rfl, HBF.out⟩
  · skip
    rw [show decide (errC c = 0) = false by simp [h0]]
    clear h0
    have r0 := cellOf HR.out 0 _ rfl
    have r1 := cellOf HR.out 1 _ rfl
    have r2 := cellOf HR.out 2 _ rfl
    have rl := lt_of_block HR.out
    have x0 := cellOf HXR.out 0 _ rfl
    have x1 := cellOf HXR.out 1 _ rfl
    have x2 := cellOf HXR.out 2 _ rfl
    have xl := lt_of_block HXR.out
    have z0 := cellOf HZ.out 0 _ rfl
    have z1 := cellOf HZ.out 1 _ rfl
    have zl := lt_of_block HZ.out
    go_wp2_with fail
    clear r0 r1 r2 rl x0 x1 x2 xl z0 z1 zl
    refine (awake_any w1).mono ?_
    rintro e wz ⟨rfl, hb⟩
    have HBF := Lib.hid (HB.out.trans (hb.mono HB.out.size))
    clear hb
    go_wp2_with fail
    go_ret
    exact ⟨rfl, HBF.out⟩
end Go.Proofs.Ytkcfcjijmgbciaa
namespace Go.Proofs.Ytkcfcjijmgbciaa
namespace ClaimEdgeMore
open Go.ChangeShapes Go.WideShapes Go.ChangeAt Go.RowKit

theorem own : ownKnob Try.prog.godebug = none := by kernel_rfl
theorem laidOutP : laidOutB Try.prog = true := by kernel_rfl

set_option maxRecDepth 100000 in
theorem contract (H : Type) (enc : TypeId × Value → H) (W : World) (base : Nat) (args : Array Value) (ds gs : List (DataW H)) (before : List MemPlace)
    (hval : ∀ (j : Nat) t v, Try.f12.params[j]? = some t → args[j]? = some v → Value.okWide Try.prog W .any base t v)
    (hW : DataW.Whole enc Try.prog Try.f12.params.toList Rows.edgeMoreSpec.vars false W args.toList ds gs before)
    (hsz : (DataW.weightsEach Try.prog (Try.f12.params.toList ++ Rows.edgeMoreSpec.plain.varTypes Try.prog) (ds ++ gs)).all (· ≤ reachBytes) = true) :
    Calls Try.prog 12 args W fun e W' => ∃ v, e = .returned v ∧ Rows.edgeMoreSpec.post enc Try.prog Try.f12 false true false false W args v W' := by
  have hW' := hW
  obtain ⟨p, q, hA0, hV, rfl, hfz, hnd⟩ := hW
  have hA : DataW.TrodAll enc Try.prog W 0 (fun _ => true) true Try.f12.params.toList args.toList ds p := hA0
  rw [Try.params12] at hA hval hsz
  obtain ⟨v0, vs0, d0, ds0, p0, q0, hargs, rfl, rfl, h0, r0⟩ := trodAll_cons hA
  obtain ⟨v1, vs1, d1, ds1, p1, q1, rfl, rfl, rfl, h1, r1⟩ := trodAll_cons r0
  obtain ⟨v2, vs2, d2, ds2, p2, q2, rfl, rfl, rfl, h2, r2⟩ := trodAll_cons r1
  obtain ⟨rfl, rfl, rfl⟩ := trodAll_nil r2
  obtain rfl : args = #[v0, v1, v2] := by cases args; simp_all
  obtain ⟨rfl, rfl⟩ := trodVars_none hV
  have w0 : ∀ x ∈ d0.weights Try.prog 25, x ≤ reachBytes := fun x hx => of_decide_eq_true (List.all_eq_true.1 hsz _ (DataW.weights_mem_each (j := 0) (t := 25) (d := d0) rfl rfl x hx))
  obtain ⟨c0, sv0, ev0, rfl, hC0⟩ := open_case (hval 0 25 v0 rfl rfl) h0 w0
  have w1 : ∀ x ∈ d1.weights Try.prog 71, x ≤ reachBytes := fun x hx => of_decide_eq_true (List.all_eq_true.1 hsz _ (DataW.weights_mem_each (j := 1) (t := 71) (d := d1) rfl rfl x hx))
  obtain ⟨x1, pv1, rfl, hX1⟩ := open_edge (hval 1 71 v1 rfl rfl) h1 w1
  obtain ⟨x2, y2, rfl, bx2, by2⟩ := open_u8x2 (hval 2 72 v2 rfl rfl) h2
  clear hA0
  refine (lmore_any c0 x1 sv0 ev0 pv1 x2 y2 W bx2 (by omega) hC0 hX1).mono fun e W' ⟨he, hb⟩ => ?_
  subst he
  exact ⟨_, rfl, post_law laidOutP (by rw [Try.params12]; intro t ht; simp at ht; rcases ht with rfl | rfl | rfl <;> exact ⟨by kernel_rfl, of_decide_eq_true (by kernel_rfl)⟩) rfl rfl Try.underlying4 rfl hW' hb⟩

set_option maxRecDepth 100000 in
theorem lifted (os : Os) (started : os.Started) (H : Type) (enc : TypeId × Value → H) :
    ReturnsInHanded {} Try.checked os 12 .any (Rows.edgeMoreSpec.pre6 enc Try.prog Try.f12 Rows.edgeMoreRow.domain false) (Rows.edgeMoreSpec.post enc Try.prog Try.f12 false true false false) := by
  refine returnsInHanded_of_change_sized (C := Try.checked) own started (by kernel_rfl) Try.func12
    (ChangeSpec.witness6 (enc := enc) (C := Try.checked) false ⟨#[], #[.agg #[.int .i64 0, .slice none 0 0, .slice none 0 0], .agg #[.int .i64 0, .int .i64 0, .slice none 0 0], .agg #[.int .u8 0, .int .u8 0]], []⟩ 8 (by kernel_rfl) (by kernel_rfl) (by kernel_rfl) (by kernel_rfl)) ?_
  intro W base args ds gs before hval hW _ hsz _
  exact contract H enc W base args ds gs before hval hW hsz

theorem over : Rows.EdgeMoreSaid :=
  OpenClaim.holds_of_wide 12 Try.f12 rfl rfl rfl rfl rfl rfl rfl ⟨rfl, rfl, rfl, rfl, rfl⟩ rfl rfl rfl rfl rfl (by kernel_rfl) Try.func12 (by kernel_rfl)
    (of_decide_eq_true (by kernel_rfl)) (by unfold Func.isWrapper; first | (rw [if_pos (by decide +kernel)]; kernel_rfl) | (rw [if_neg (by decide +kernel)]; exact ⟨rfl, rfl⟩))
    (fun os started H enc _ => lifted os started H enc)
end ClaimEdgeMore

theorem edgeMore_holds : Rows.EdgeMoreSaid := ClaimEdgeMore.over
end Go.Proofs.Ytkcfcjijmgbciaa
