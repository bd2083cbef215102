/- EdgeTrue: the call returns true, whatever its arguments and the memory in which it begins; its arguments read as they did. -/
import Derived.Test.YthhlakodnpopmaaLnm
import Derived.Test.YthhlakodnpopmaaEar
import Derived.Maps.AppendAt
import Derived.BigQuiet
import Derived.Deep.DeepCutAuto
import Derived.Deep.CutRange
import Derived.Laws.StructEq
import Derived.Test.YthhlakodnpopmaaRows
import Derived.ProofKit
import Derived.JoinedOf
import Derived.JoinedAt
set_option linter.unusedSimpArgs false
set_option linter.unusedVariables false
namespace Go.Proofs.Ythhlakodnpopmaa
open Go Go.RowKit Go.Shelf Ed

/-- How many points stand ahead of an edge. -/
def offK (l : List Edg) : Nat → Nat
  | 0 => 0
  | i + 1 => offK l i + (l.getD i default).pts.length
/-- A point that shows a true height (H), its two sheets shifted, and off by some. -/
def toldP (sh : List Int) (H O Q : Nat → Int) (d : Edg) (n : Nat) : Int × Int := (H n + sh.getD d.a.toNat 0 + O n, H n + sh.getD d.b.toNat 0 + Q n)
def toldE (sh : List Int) (H O Q : Nat → Int) (d : Edg) (n : Nat) : Edg := ⟨d.a, d.b, (List.range d.pts.length).map fun k => toldP sh H O Q d (n + k)⟩
def toldC (c : Cas) (sh : List Int) (H O Q : Nat → Int) : Cas := ⟨c.tol, c.shs, (List.range c.eds.length).map fun i => toldE sh H O Q (c.eds.getD i default) (offK c.eds i)⟩
theorem toldC_get (c : Cas) (sh : List Int) (H O Q : Nat → Int) (i : Nat) (hi : i < c.eds.length) : (toldC c sh H O Q).eds.getD i default = toldE sh H O Q (c.eds.getD i default) (offK c.eds i) := by
  simp [toldC, List.getD_eq_getElem?_getD, hi]
theorem toldC_len (c : Cas) (sh : List Int) (H O Q : Nat → Int) : (toldC c sh H O Q).eds.length = c.eds.length := by simp [toldC]
theorem want_in_fold (tol y : Int) : ∀ (l : List (Int × Int)) (s : Int × Int), (∀ p, p ∈ l → p.2 - p.1 - tol ≤ y ∧ y ≤ p.2 - p.1 + tol) → s.1 ≤ y → y ≤ s.2 → (l.foldl (wantStep tol) s).1 ≤ y ∧ y ≤ (l.foldl (wantStep tol) s).2 := by
  intro l
  induction l with
  | nil => intro s _ h1 h2; exact ⟨h1, h2⟩
  | cons p l ih =>
    intro s h h1 h2
    have hp := h p (List.mem_cons_self ..)
    rw [List.foldl_cons]
    apply ih
    · exact fun q hq => h q (List.mem_cons_of_mem _ hq)
    · simp only [wantStep]; omega
    · simp only [wantStep]; omega
theorem want_in (tol y : Int) (l : List (Int × Int)) (h : ∀ p, p ∈ l → p.2 - p.1 - tol ≤ y ∧ y ≤ p.2 - p.1 + tol) (h1 : -9000 - tol ≤ y) (h2 : y ≤ 9000 + tol) : (wantS tol l).1 ≤ y ∧ y ≤ (wantS tol l).2 :=
  want_in_fold tol y l _ h h1 h2
/-- What is taken for granted of heights, shifts, and how points are off. -/
structure ToldOk (c : Cas) (sh : List Int) (H O Q : Nat → Int) (half : Int) : Prop where
  h0 : 0 ≤ half
  h2 : 2 * half ≤ c.tol
  hh : ∀ n, 100 ≤ H n ∧ H n ≤ 8899
  o : ∀ n, -half ≤ O n ∧ O n ≤ half
  q : ∀ n, -half ≤ Q n ∧ Q n ≤ half
  sl : sh.length = c.shs.length
  s : ∀ i, i < c.shs.length → -(c.shs.getD i default).most ≤ sh.getD i 0 ∧ sh.getD i 0 ≤ (c.shs.getD i default).most
theorem told_sh {c : Cas} {sh : List Int} {H O Q : Nat → Int} {half : Int} (h : ToldOk c sh H O Q half) (hv : Valid c) (i : Nat) : -6 ≤ sh.getD i 0 ∧ sh.getD i 0 ≤ 6 := by
  rcases Nat.lt_or_ge i c.shs.length with hi | hi
  · have h1 := h.s i hi
    have h2 := (hv.sh _ (List.getElem_mem hi)).m6
    rw [getD_lt _ _ hi] at h1
    omega
  · have : sh.getD i 0 = 0 := by
      rw [List.getD_eq_getElem?_getD, List.getElem?_eq_none (by rw [h.sl]; exact hi)]
      rfl
    omega
theorem told_err (c : Cas) (he : errC c = 0) (sh : List Int) (H O Q : Nat → Int) (half : Int) (h : ToldOk c sh H O Q half) : errC (toldC c sh H O Q) = 0 := by
  obtain ⟨h1, h2, h3, h4⟩ := err_zero2 he
  have hv := valid_of he
  have ht := hv.t50
  have := checkC_ok (c := toldC c sh H O Q) h1 (by rw [toldC_len]; exact h2) h3 (fun j hj => by
    rw [toldC_len] at hj
    rw [toldC_get c sh H O Q j hj]
    have hj4 := h4 j hj
    have hp : ((List.range (c.eds.getD j default).pts.length).map fun k => toldP sh H O Q (c.eds.getD j default) (offK c.eds j + k)).all ptB = true := by
      rw [List.all_eq_true]
      intro p hp
      obtain ⟨k, _, rfl⟩ := List.mem_map.1 hp
      have a1 := h.hh (offK c.eds j + k)
      have a2 := h.o (offK c.eds j + k)
      have a3 := h.q (offK c.eds j + k)
      have a4 := told_sh h hv (c.eds.getD j default).a.toNat
      have a5 := told_sh h hv (c.eds.getD j default).b.toNat
      have a6 := h.h2
      unfold ptB inB toldP
      simp only [Bool.and_eq_true, decide_eq_true_eq]
      omega
    show edErr c.shs.length _ = 0
    unfold edErr at hj4 ⊢
    simp only [toldE, List.length_map, List.length_range]
    split at hj4
    · simp at hj4
    · rename_i g1
      split at hj4
      · simp at hj4
      · rename_i g2
        split at hj4
        · simp at hj4
        · rename_i g3
          rw [if_neg g1, if_neg g2, if_neg g3]
          exact if_neg (by rw [hp]; simp))
  unfold errC
  rw [this]
theorem told_ag (c : Cas) (he : errC c = 0) (sh : List Int) (H O Q : Nat → Int) (half : Int) (h : ToldOk c sh H O Q half) : Ag (sysA (toldC c sh H O Q)) (fun i => -(sh.getD i 0)) := by
  have hv := valid_of he
  have h8 := hv.m8
  have ht0 := hv.t0
  refine ⟨fun i hi => ?_, fun e he' => ?_⟩
  · have hi' : i < c.shs.length := hi
    have := h.s i hi'
    show -(c.shs.getD i default).most ≤ -(sh.getD i 0) ∧ -(sh.getD i 0) ≤ (c.shs.getD i default).most
    omega
  · simp only [sysC, List.mem_map, List.mem_range] at he'
    obtain ⟨i, hi, rfl⟩ := he'
    rw [toldC_len] at hi
    have hw := wsTo_get (wantF (toldC c sh H O Q)) (toldC c sh H O Q).eds.length i (by rw [toldC_len]; exact hi) (by rw [toldC_len]; exact h8)
    have ew : wL (wsC (toldC c sh H O Q)) i = wantF (toldC c sh H O Q) i := Prod.ext hw.1 hw.2
    rw [ew]
    unfold wantF
    rw [toldC_get c sh H O Q i hi]
    have a4 := told_sh h hv (c.eds.getD i default).a.toNat
    have a5 := told_sh h hv (c.eds.getD i default).b.toNat
    refine want_in c.tol (-(sh.getD (c.eds.getD i default).a.toNat 0) - -(sh.getD (c.eds.getD i default).b.toNat 0)) _ (fun p hp => ?_) (by omega) (by omega)
    simp only [toldE] at hp
    obtain ⟨k, _, rfl⟩ := List.mem_map.1 hp
    have a2 := h.o (offK c.eds i + k)
    have a3 := h.q (offK c.eds i + k)
    have a6 := h.h2
    simp only [toldP]
    omega
theorem less_zero (c : Cas) : lessC c 0 = c := by
  obtain ⟨t, s, e⟩ := c
  simp only [lessC, Cas.mk.injEq, true_and]
  have hr : resK 0 e.length = List.range e.length := by
    unfold resK
    rw [List.filter_eq_self]
    intro j _
    simp
  rw [hr]
  apply List.ext_getElem (by simp)
  intro i h1 h2
  simp [List.getD_eq_getElem?_getD, h2]
theorem lsI_zero (m : Nat) : lsI 0 m = [] := by
  unfold lsI
  have h : lstK 0 m = [] := by
    induction m with
    | zero => rfl
    | succ m ih => rw [lstK_succ]; simp [ih]
  rw [h]
  rfl
theorem without_nil (c : Cas) (h : errC c = 0) {y : Nat → Int} (hy : Ag (sysA c) y) : withoutE c = ([], 0) := by
  obtain ⟨s, hw, _, hmin⟩ := named_spec c h
  have h1 := hmin 0 ((canS_iff c (valid_of h) 0).2 ⟨y, by rw [less_zero]; exact hy⟩)
  rw [lsI_zero] at h1
  have h2 : lsI s c.eds.length = [] := List.length_eq_zero_iff.1 (Nat.le_zero.1 h1)
  rw [hw, h2]
/-- What the law asks of a case with changes that agree. -/
theorem agree_facts (d : Cas) (h : errC d = 0) (b : List Int) (hb : b.length = d.shs.length) (hy : Ag (sysA d) (fun i => b.getD i 0)) :
    agreesC d b = (-1, 0) ∧ (costC d b).2 = 0 ∧ (leastE d).2.2 = 0 ∧ withoutE d = ([], 0) ∧ (leastE d).2.1 ≤ (costC d b).1 ∧ (leastE d).1.length = b.length ∧
    ∀ i, i < d.shs.length → (rangeE d i).2 = 0 ∧ (rangeE d i).1.1 ≤ b.getD i 0 ∧ b.getD i 0 ≤ (rangeE d i).1.2 ∧ (rangeE d i).1.1 ≤ (leastE d).1.getD i 0 ∧ (leastE d).1.getD i 0 ≤ (rangeE d i).1.2 := by
  have hv := valid_of h
  have hb5 : b.length ≤ 5 := by rw [hb]; exact hv.n5
  have ha := (agree_iff d h b).2 ⟨hb, hy⟩
  unfold agreeB at ha
  rw [Bool.and_eq_true, decide_eq_true_eq, decide_eq_true_eq] at ha
  obtain ⟨hc, ho⟩ := ha
  have hg : agreesC d b = (-1, 0) := by
    unfold agreesC
    rw [if_neg (by simp [hc]), ← oddR_eq d hv b hb5]
    have : oddR d b = -1 := by
      unfold oddR at ho ⊢
      by_cases hq : ∀ j, j < d.eds.length → oddB d b j = false
      · exact firstB_no _ _ hq
      · exfalso
        have hex : ∃ j, j < d.eds.length ∧ oddB d b j = true := by
          refine Classical.byContradiction fun hn => hq fun j hj => ?_
          cases hx : oddB d b j
          · rfl
          · exact absurd ⟨j, hj, hx⟩ hn
        obtain ⟨j, hj, hx⟩ := hex
        have hmin : ∃ k, k < d.eds.length ∧ oddB d b k = true ∧ ∀ j, j < k → oddB d b j = false := by
          induction j using Nat.strongRecOn with
          | _ j ih =>
            by_cases hz : ∀ i, i < j → oddB d b i = false
            · exact ⟨j, hj, hx, hz⟩
            · have : ∃ i, i < j ∧ oddB d b i = true := by
                refine Classical.byContradiction fun hn => hz fun i hi => ?_
                cases hx : oddB d b i
                · rfl
                · exact absurd ⟨i, hi, hx⟩ hn
              obtain ⟨i, hi, hix⟩ := this
              exact ih i hi (by omega) hix
        obtain ⟨k, hk, hkx, hkz⟩ := hmin
        rw [firstB_at _ _ k hk hkz hkx] at ho
        omega
    rw [this]
  have hcost : costC d b = (costF (sysA d) (fun i => b.getD i 0), 0) := by
    unfold costC
    rw [if_neg (by simp [hc]), costK_eq d (wsC d)]
    simp only [padC_get b hb5]
  rcases least_spec d h with ⟨_, hno⟩ | ⟨h1, h2⟩
  · exact absurd hy (hno _)
  · refine ⟨hg, by rw [hcost], h1, without_nil d h hy, ?_, by rw [h2.len, hb], fun i hi => ?_⟩
    · rw [hcost, h2.cost]
      exact h2.mn.2 _ hy
    · rcases range_spec d h i hi with ⟨_, hno⟩ | ⟨h3, h4⟩
      · exact absurd hy (hno _)
      · have q1 := h4.all _ hy
        have q2 := h4.all _ h2.ag
        exact ⟨h3, q1.1, q1.2, q2.1, q2.2⟩
end Go.Proofs.Ythhlakodnpopmaa
namespace Go.Proofs.Ythhlakodnpopmaa
open Go Go.RowKit Ed Go.ChangeShapes Go.WideShapes Go.Deep Go.Joins

def I16At (w : World) (v : Value) (l : List Int) : Prop :=
  l.length ≤ 4611686018427387904 ∧ ∃ a cap, v = .slice a l.length cap ∧ (l ≠ [] → ∃ b o, a = some ⟨b, o, none⟩ ∧ ∀ k, k < l.length → w.cell? ⟨b, o + k, none⟩ = some (.int .i16 (l.getD k 0)) ∧ -32768 ≤ l.getD k 0 ∧ l.getD k 0 ≤ 32767)
theorem I16At.below {w w' : World} {v : Value} {l : List Int} (h : I16At w v l) (hb : Below w.heap.size w w') : I16At w' v l := by
  obtain ⟨h1, a, cap, rfl, h2⟩ := h
  refine ⟨h1, a, cap, rfl, fun hne => ?_⟩
  obtain ⟨b, o, rfl, hc⟩ := h2 hne
  exact ⟨b, o, rfl, fun k hk => ⟨(hb.cell (p := ⟨b, o + k, none⟩) (World.block_lt_of_cell? w _ (hc k hk).1)).trans (hc k hk).1, (hc k hk).2⟩⟩
/-- What a law reads at an index, round and round. -/
def turnI (l : List Int) (n : Nat) : Int := if l = [] then 0 else l.getD (n % l.length) 0
theorem turnI_bd {w : World} {v : Value} {l : List Int} (h : I16At w v l) (n : Nat) : -32768 ≤ turnI l n ∧ turnI l n ≤ 32767 := by
  unfold turnI
  split
  · omega
  · rename_i hne
    obtain ⟨_, a, cap, _, h2⟩ := h
    obtain ⟨b, o, _, hc⟩ := h2 hne
    exact (hc (n % l.length) (Nat.mod_lt _ (List.length_pos_iff.2 hne))).2
theorem cellsI16 : Try.prog.cellsOf 54 = 1 := by kernel_rfl
theorem bytesI16 : Try.prog.bytesOf 54 = 2 := by kernel_rfl
section
variable {H : Type} {enc : TypeId × Value → H} {W : World} {sp : Nat → Bool} {base : Nat} {v : Value} {d : DataW H} {p : List MemPlace}
set_option maxRecDepth 100000 in
theorem open_i16s (hok : Value.okWide Try.prog W .any base 52 v) (h : DataW.Trod enc Try.prog W 0 sp true 52 v d p) (hw : ∀ x ∈ d.weights Try.prog 52, x ≤ reachBytes) :
    ∃ l : List Int, I16At W v l := by
  obtain ⟨a0, len0, cap0, rfl⟩ := okWide_slice Try.underlying52 hok
  obtain ⟨fuel, hf⟩ := h
  have hf' : DataW.trod enc Try.prog W 0 sp true fuel 52 [.slice a0 len0 cap0] = some (d, p) := hf
  rcases open_slice1 Try.underlying52 cellsI16 hf' with ⟨hcs, _⟩ | ⟨a, len, cap, m, n', V, D, Pl, hcs, _, hl, hm, hmm, hx, hel⟩
  · simp only [List.cons.injEq, Value.slice.injEq, and_true] at hcs
    obtain ⟨rfl, rfl, rfl⟩ := hcs
    exact ⟨[], by simp, none, 0, rfl, fun h => absurd rfl h⟩
  · simp only [List.cons.injEq, Value.slice.injEq, and_true] at hcs
    obtain ⟨rfl, rfl, rfl⟩ := hcs
    have hlm : len0 ≤ m := by rw [hmm]; split <;> omega
    have hd : d = .slice ((List.range len0).map D) ((List.range (m - len0)).map fun j => D (len0 + j)) := congrArg Prod.fst hx
    have hb : len0 * 2 ≤ reachBytes := by
      have := hw ((((List.range len0).map D).length + ((List.range (m - len0)).map fun j => D (len0 + j)).length) * 2) (by rw [hd]; simp [DataW.weights, Try.underlying52, bytesI16])
      simp only [List.length_map, List.length_range] at this
      omega
    have hr : reachBytes = 140737488351232 := rfl
    obtain ⟨f, hfl⟩ := choose_lt (α := Int) (n := len0) (p := fun i x => W.cell? (a.add i) = some (.int .i16 x) ∧ -32768 ≤ x ∧ x ≤ 32767) (fun i hi => by
      obtain ⟨h1, h2⟩ := hel i (by omega)
      obtain ⟨k, e, _, w⟩ := DataW.trod_int Try.underlying54 h2
      simp only [List.cons.injEq, and_true] at e
      have bd := bounds_i16 w
      exact ⟨k, by rw [h1, e], bd⟩)
    refine ⟨(List.range len0).map f, by simp; omega, some a, cap0, by simp, fun hne => ?_⟩
    have h0 : 0 < len0 := by
      rcases Nat.eq_zero_or_pos len0 with h | h
      · subst h; exact absurd rfl hne
      · exact h
    obtain ⟨b, o, spot⟩ := a
    have hspot : spot = none := by simpa [Addr.add] using World.cell?_spot (hfl 0 h0).1
    subst hspot
    refine ⟨b, o, rfl, fun k hk => ?_⟩
    have hk' : k < len0 := by simpa using hk
    have hc := hfl k hk'
    rw [add_plain] at hc
    simpa [List.getD_eq_getElem?_getD, hk'] using hc
end
end Go.Proofs.Ythhlakodnpopmaa
namespace Go.Proofs.Ythhlakodnpopmaa
open Go Go.RowKit Go.Shelf Ed

def onK (l : List Int) (k : Nat) : List Int := (List.range k).map (turnI l)
theorem onK_succ (l : List Int) (k : Nat) : onK l (k + 1) = onK l k ++ [turnI l k] := by simp [onK, List.range_succ]
theorem onK_length (l : List Int) (k : Nat) : (onK l k).length = k := by simp [onK]
theorem onK_get (l : List Int) (n k : Nat) (h : k < n) : (onK l n).getD k 0 = turnI l k := by simp [onK, List.getD_eq_getElem?_getD, h]
theorem run_app1 (w : World) (ty : TypeId) (base n : Nat) (v : Value) (xs : List Value) (g : Nat) (x : Int) (hown : w.ownsRow base 3 1 v n xs) (hc : w.cell? ⟨g, 0, none⟩ = some (.int .i64 x)) (hn : n ≤ 1000) (hb : base ≤ w.heap.size) :
    ∃ v' w', (Builtin.append_ #[26, 26] ty #[v, .slice (some ⟨g, 0, none⟩) 1 1]).run Try.prog w = .ok v' w' ∧ w'.ownsRow base 3 1 v' (n + 1) (xs ++ [.int .i64 x]) ∧ w.grownBy w' v.ownBlock ∧ (v'.ownBlock = v.ownBlock ∨ v'.ownBlock = some w.heap.size) := by
  obtain ⟨i0, hi⟩ := info_of_underlying Try.underlying3
  have HI : i0.zero = some (.int .i64 0) ∧ i0.size = 1 ∧ i0.bytes = 8 := by
    have h := intInfo
    rw [hi] at h
    simp at h
    exact h
  obtain ⟨v', w', h1, h2, h3, _, h5⟩ := run_append_own_at (P := Try.prog) w base 26 ty 3 i0 _ 1 8 Try.underlying26 hi HI.1 HI.2.1 HI.2.2 rfl (by decide) v n xs hown ⟨g, 0, none⟩ 1 1 [.int .i64 x] rfl
    (by
      intro j u hj
      match j, hj with
      | 0, hj => simp at hj; subst hj; exact hc
      | j + 1, hj => simp at hj) (by intro u hu; simp at hu; subst hu; rfl) (by unfold maxLen; omega) (by omega) hb
  exact ⟨v', w', h1, h2, h3, h5⟩
theorem wpl_app1 {ops : Array Oper} {rest : List Oper} {o : Oper} {a : Act} {Q : Exit → Act → World → Prop} {w : World} (hgd : o.guard = none) (s x : Operand)
    (ho : o.op = .call { callee := .builtin .append, args := #[s, x], argTypes := #[26, 26] })
    (base n : Nat) (v : Value) (xs : List Value) (g : Nat) (y : Int) (hs : a.eval s = v) (hx : a.eval x = .slice (some ⟨g, 0, none⟩) 1 1) (hown : w.ownsRow base 3 1 v n xs) (hc : w.cell? ⟨g, 0, none⟩ = some (.int .i64 y)) (hn : n ≤ 1000) (hb : base ≤ w.heap.size)
    (h : ∀ v' w', w'.ownsRow base 3 1 v' (n + 1) (xs ++ [.int .i64 y]) → w.grownBy w' v.ownBlock → (v'.ownBlock = v.ownBlock ∨ v'.ownBlock = some w.heap.size) → wpList Try.prog ops Q rest (a.put o.dst v') w') : wpList Try.prog ops Q (o :: rest) a w := by
  refine wpList_plain hgd fun K hK => ?_
  obtain ⟨v', w', hr, h2, h3, h4⟩ := run_app1 w o.type base n v xs g y hown hc hn hb
  unfold Oper.wp execOp
  simp only [ho, resolve, invoke, builtin, Sem.run_bind, Sem.run_pure, Result.andThen_ok, List.map_toArray, List.map_cons, List.map_nil, hs, hx, hr]
  exact hK _ _ (h v' w' h2 h3 h4)
/-- Rows that lie in different blocks. -/
def Dis (a b : Option Nat) : Prop := ∀ q, a = some q → b ≠ some q
theorem Dis.or {a b : Option Nat} (h : Dis a b) : b = none ∨ b ≠ a := by
  cases b with
  | none => exact .inl rfl
  | some q => exact .inr fun e => h q e.symm rfl
theorem Dis.symm {a b : Option Nat} (h : Dis a b) : Dis b a := fun q hq e => h q e hq
theorem Dis.next {a b c : Option Nat} {n : Nat} (h : Dis a b) (hc : c = a ∨ c = some n) (hb : ∀ q, b = some q → q < n) : Dis c b := by
  intro q hq e
  rcases hc with rfl | rfl
  · exact h q hq e
  · have := hb q e
    simp only [Option.some.injEq] at hq
    omega
end Go.Proofs.Ythhlakodnpopmaa
namespace Go.Proofs.Ythhlakodnpopmaa
open Go Go.RowKit Go.Shelf Ed

/-- A list of uint16 that came in. -/
def U16At (w : World) (v : Value) (l : List Int) : Prop :=
  l.length ≤ 4611686018427387904 ∧ ∃ a cap, v = .slice a l.length cap ∧ (l ≠ [] → ∃ b o, a = some ⟨b, o, none⟩ ∧ ∀ k, k < l.length → w.cell? ⟨b, o + k, none⟩ = some (.int .u16 (l.getD k 0)) ∧ 0 ≤ l.getD k 0 ∧ l.getD k 0 ≤ 65535)
theorem U16At.below {w w' : World} {v : Value} {l : List Int} (h : U16At w v l) (hb : Below w.heap.size w w') : U16At w' v l := by
  obtain ⟨h1, a, cap, rfl, h2⟩ := h
  refine ⟨h1, a, cap, rfl, fun hne => ?_⟩
  obtain ⟨b, o, rfl, hc⟩ := h2 hne
  exact ⟨b, o, rfl, fun k hk => ⟨(hb.cell (p := ⟨b, o + k, none⟩) (World.block_lt_of_cell? w _ (hc k hk).1)).trans (hc k hk).1, (hc k hk).2⟩⟩
/-- True heights, and how far points are off. -/
def highT (l : List Int) (n : Nat) : Int := if l = [] then 100 else 100 + l.getD (n % l.length) 0 % 8800
def offT (half : Int) (l : List Nat) (n : Nat) : Int := (turnS l n : Int) % (2 * half + 1) - half
theorem highT_bd {w : World} {v : Value} {l : List Int} (h : U16At w v l) (n : Nat) : 100 ≤ highT l n ∧ highT l n ≤ 8899 := by
  unfold highT
  split
  · omega
  · rename_i hne
    obtain ⟨_, a, cap, _, h2⟩ := h
    obtain ⟨b, o, _, hc⟩ := h2 hne
    have := (hc (n % l.length) (Nat.mod_lt _ (List.length_pos_iff.2 hne))).2
    omega
theorem offT_bd (half : Int) (h : 0 ≤ half) (l : List Nat) (n : Nat) : -half ≤ offT half l n ∧ offT half l n ≤ half := by
  unfold offT
  have h4 := Int.emod_nonneg (turnS l n : Int) (show (2 * half + 1) ≠ 0 by omega)
  have h5 := Int.emod_lt_of_pos (turnS l n : Int) (show 0 < (2 * half + 1) by omega)
  omega
def negs (l : List Int) : List Int := l.map fun x => -x
theorem negs_get (l : List Int) (i : Nat) : (negs l).getD i 0 = -(l.getD i 0) := by
  unfold negs
  rw [List.getD_eq_getElem?_getD, List.getD_eq_getElem?_getD, List.getElem?_map]
  cases l[i]? <;> simp
theorem any_bd {c : Cas} (hv : Valid c) (x : List Nat) (i : Nat) (hi : i < c.shs.length) : -(c.shs.getD i default).most ≤ (anyC c x).getD i 0 ∧ (anyC c x).getD i 0 ≤ (c.shs.getD i default).most := by
  have h3 := (hv.sh _ (List.getElem_mem hi)).m0
  rw [getD_lt _ _ hi]
  have e : (anyC c x).getD i 0 = ((turnS x i : Int) % (2 * c.shs[i].most + 1)) - c.shs[i].most := by
    unfold anyC anyK
    simp [List.getD_eq_getElem?_getD, hi]
  rw [e]
  have h4 := Int.emod_nonneg (turnS x i : Int) (show (2 * c.shs[i].most + 1) ≠ 0 by omega)
  have h5 := Int.emod_lt_of_pos (turnS x i : Int) (show 0 < (2 * c.shs[i].most + 1) by omega)
  omega
/-- What Told makes of a case. -/
def toldT (c : Cas) (sl ol : List Nat) (hl : List Int) : Cas := toldC c (anyC c sl) (highT hl) (fun n => offT (c.tol / 2) ol (2 * n)) (fun n => offT (c.tol / 2) ol (2 * n + 1))
theorem toldT_ok (c : Cas) (hv : Valid c) (sl ol : List Nat) (hl : List Int) (hh : ∀ n, 100 ≤ highT hl n ∧ highT hl n ≤ 8899) : ToldOk c (anyC c sl) (highT hl) (fun n => offT (c.tol / 2) ol (2 * n)) (fun n => offT (c.tol / 2) ol (2 * n + 1)) (c.tol / 2) := by
  have h0 := hv.t0
  exact ⟨by omega, by omega, hh, fun n => offT_bd _ (by omega) _ _, fun n => offT_bd _ (by omega) _ _, anyC_length c sl, fun i hi => any_bd hv sl i hi⟩
theorem offK_le (l : List Edg) (h : ∀ d, d ∈ l → d.pts.length ≤ 4) : ∀ k, k ≤ l.length → offK l k ≤ 4 * k := by
  intro k
  induction k with
  | zero => intro _; simp [offK]
  | succ k ih =>
    intro hk
    have h1 := ih (by omega)
    have h2 := h _ (List.getElem_mem (show k < l.length by omega))
    simp only [offK]
    rw [getD_lt _ _ (show k < l.length by omega)]
    omega
theorem case_result2 {fn : Func} {p u : Tmp} (h : fn.results = #[.cell p 25, .tmp u]) (tmps : Array Value) (w : World) (g : Nat) (x y z : Value)
    (hp : tmps.getD p undef = .pointer (some ⟨g, 0, none⟩)) (hg : w.heap[g]? = some (.cells #[x, y, z] 25 (0, 0))) :
    (results fn tmps).run Try.prog w = .ok (.tuple #[.agg #[x, y, z], tmps.getD u undef]) w := by
  have c0 : w.cell? ⟨g, 0, none⟩ = some x := cellOf hg 0 _ rfl
  have c1 : w.cell? ⟨g, 1, none⟩ = some y := cellOf hg 1 _ rfl
  have c2 : w.cell? ⟨g, 2, none⟩ = some z := cellOf hg 2 _ rfl
  have hp' : tmps[p]?.getD undef = .pointer (some ⟨g, 0, none⟩) := by simpa using hp
  simp only [results, h]
  simp [Sem.run_bind, Result.andThen, hp', asAddr, go_sem, c0, c1, c2]
theorem keepT {B : Nat} {w w' : World} {b q : Nat} {v : Value} (h : w.cell? ⟨b, q, none⟩ = some v) (hb : Below B w w') (hl : b < B) : w'.cell? ⟨b, q, none⟩ = some v := (hb.cell (p := ⟨b, q, none⟩) hl).trans h
set_option maxRecDepth 100000 in
set_option maxHeartbeats 16000000 in
theorem told_any (c : Cas) (hv : Valid c) (sv ev xv ov hv' : Value) (sl ol : List Nat) (hl : List Int) (w : World) (hC : CasAt w c sv ev) (hS : U8At w xv sl) (hO : U8At w ov ol) (hH : U16At w hv' hl) :
    Calls Try.prog 45 #[.agg #[.int .i64 c.tol, sv, ev], .agg #[xv, ov, hv']] w fun e w' => ∃ ev' bv, e = .returned (.tuple #[.agg #[.int .i64 c.tol, sv, ev'], bv]) ∧ CasAt w' (toldT c sl ol hl) sv ev' ∧ IntsAt w' bv (negs (anyC c sl)) ∧ Below w.heap.size w w' := by
  obtain ⟨m, hm⟩ : ∃ m, c.eds.length = m := ⟨_, rfl⟩
  obtain ⟨n, hn⟩ : ∃ n, c.shs.length = n := ⟨_, rfl⟩
  obtain ⟨hSH, hE⟩ := id hC
  obtain ⟨_, sa, sc, rfl, _⟩ := id hSH
  obtain ⟨_, ea, ec, rfl, _⟩ := id hE
  obtain ⟨xa, xn, xc, rfl⟩ : ∃ a n cc, xv = .slice a n cc := by obtain ⟨_, a, cap, h, _⟩ := hS; exact ⟨_, _, _, h⟩
  obtain ⟨oa, on, oc, rfl⟩ : ∃ a n cc, ov = .slice a n cc := by obtain ⟨_, a, cap, h, _⟩ := hO; exact ⟨_, _, _, h⟩
  obtain ⟨ha, p, hc, rfl, hp⟩ : ∃ a n cc, hv' = .slice a n cc ∧ n = hl.length := by obtain ⟨_, a, cap, h, _⟩ := hH; exact ⟨_, _, _, h, rfl⟩
  have m8 := hv.m8
  have n5 := hv.n5
  have t0 := hv.t0
  have t50 := hv.t50
  rw [hm] at hE m8 hC ⊢
  rw [hn] at hC hSH n5 ⊢
  have plim : (p : Int) ≤ 4611686018427387904 := by have := hH.1; omega
  obtain ⟨i0, hi0⟩ := info_of_underlying Try.underlying74
  have HI0 : Hid (i0.zero = some (.agg #[.int .i64 0, .int .i64 0]) ∧ i0.size = 2 ∧ i0.bytes = 16) := by
    have h := pointInfo2
    rw [hi0] at h
    simp at h
    exact h
  obtain ⟨i1, hi1⟩ := info_of_underlying Try.underlying71
  have HI1 : Hid (i1.zero = some (.agg #[.int .i64 0, .int .i64 0, .slice none 0 0]) ∧ i1.size = 3 ∧ i1.bytes = 40) := by
    have h := edgeInfo
    rw [hi1] at h
    simp at h
    exact h
  have HOK := Lib.hid (toldT_ok c hv sl ol hl (highT_bd hH))
  have HNA : Hid ((anyC c sl).length = n) := by show _ = _; rw [anyC_length, hn]
  have HAB := Lib.hid (fun i => told_sh HOK.out hv i)
  have HOF := Lib.hid (offK_le c.eds (fun d hd => (hv.ed d hd).p4))
  obtain ⟨RC, hRC⟩ : ∃ R, (toldT c sl ol hl).eds = R := ⟨_, rfl⟩
  have HRL : Hid (RC.length = m) := by show _ = _; rw [← hRC]; unfold toldT; rw [toldC_len, hm]
  have HRG : Hid (∀ k, k < m → RC.getD k default = toldE (anyC c sl) (highT hl) (fun n => offT (c.tol / 2) ol (2 * n)) (fun n => offT (c.tol / 2) ol (2 * n + 1)) (c.eds.getD k default) (offK c.eds k)) := fun k hk => by rw [← hRC]; exact toldC_get c _ _ _ _ k (by rw [hm]; exact hk)
  have HRC := Lib.hid hRC
  obtain ⟨W, hW, q1, q2, q3, hb, hsz⟩ := al3 w (Obj.cells #[.int .i64 c.tol, .slice sa n sc, .slice ea m ec] 25) (Obj.cells #[.slice xa xn xc, .slice oa on oc, .slice ha p hc] 61) (Obj.cells #[.int .i64 0, .slice none 0 0, .slice none 0 0] 25)
  have HCW := hC.below hb
  have HSW := hS.below hb
  have hany := lany_any c hv _ _ _ sl W HCW HSW
  obtain ⟨hf, hhf⟩ : ∃ h, c.tol / 2 = h := ⟨_, rfl⟩
  have etd : c.tol.tdiv 2 = hf := by rw [← hhf]; exact Int.tdiv_eq_ediv_of_nonneg t0
  have hf0 : 0 ≤ hf := by omega
  have hf25 : hf ≤ 25 := by omega
  have HHF := Lib.hid hhf
  obtain ⟨tol, htol⟩ : ∃ t, c.tol = t := ⟨_, rfl⟩
  rw [hhf] at HRG
  rw [htol] at hany etd q1 hW t0 t50 ⊢
  have HTOL := Lib.hid htol
  have HANY := Lib.hid hany
  obtain ⟨A, hA⟩ : ∃ A, anyC c sl = A := ⟨_, rfl⟩
  rw [hA] at HANY HNA HAB HRG HOK ⊢
  have HAA := Lib.hid hA
  have HR := Lib.hid q1
  have HX := Lib.hid q2
  obtain ⟨u3, hu3⟩ : ∃ u, w.heap.size + 1 + 1 = u := ⟨_, rfl⟩
  have HQ : Hid (W.heap[u3]? = some (Obj.cells #[.int .i64 0, .slice none 0 0, .slice none 0 0] 25)) := by show _ = _; rw [← hu3]; exact q3
  have HU3 := Lib.hid hu3
  have u3l : w.heap.size < u3 := by omega
  have u3m : w.heap.size + 1 < u3 := by omega
  have HE := Lib.hid (hE.below hb)
  have HSH := Lib.hid hSH
  have HOO := Lib.hid (hO.below hb)
  have HHH := Lib.hid (hH.below hb)
  have HW := Lib.hid hW
  have HB := Lib.hid hb
  have HM := Lib.hid hm
  have HV := Lib.hid hv
  have HPL := Lib.hid hp
  have HSZ := Lib.hid hsz
  have mI : (m : Int) ≤ 8 := by omega
  have nI : (n : Int) ≤ 5 := by omega
  clear hu3 hW hb hE hC hm hv hn q1 q2 q3 hRC hsz hS hO hH hSH HCW HSW hany hhf htol hA hp
  go_enter Try.func45, Try.ntmps45
  go_wp2_with fail
  rw [HW.out, HU3.out]
  have c0 := cellOf HR.out 0 _ rfl
  have c1 := cellOf HR.out 1 _ rfl
  have c2 := cellOf HR.out 2 _ rfl
  have x0 := cellOf HX.out 0 _ rfl
  have cl := lt_of_block HR.out
  go_wp2_with fail
  refine HANY.out.mono ?_
  rintro e w1 ⟨av, rfl, hai, hb1⟩
  obtain ⟨_, aa, ac, rfl, _⟩ := id hai
  rw [HNA.out] at hai ⊢
  have HAI := Lib.hid hai
  have R1 := Lib.hid ((hb1.block _ (lt_of_block HR.out)).trans HR.out)
  have X1 := Lib.hid ((hb1.block _ (lt_of_block HX.out)).trans HX.out)
  have Q1 := Lib.hid ((hb1.block _ (lt_of_block HQ.out)).trans HQ.out)
  have E1 := Lib.hid (HE.out.below hb1)
  have O1 := Lib.hid (HOO.out.below hb1)
  have H1 := Lib.hid (HHH.out.below hb1)
  have B1 := Lib.hid (HB.out.trans (hb1.mono HB.out.size))
  have hs1 : w.heap.size + 3 ≤ w1.heap.size := by have := hb1.size; have := HSZ.out; omega
  have u3w : u3 < w1.heap.size := by have := HU3.out; omega
  clear hai hb1 HR HX HQ HE HOO HHH HB HANY HW c0 c1 c2 x0 cl
  have own0 : Hid (w1.ownsRow w1.heap.size 3 1 (.slice none 0 0) 0 (((negs A).take 0).map (Value.int .i64))) := World.ownsRow_nil _ _ _ _
  go_wp2_with fail
  go_loopg [7, 8] n (fun g bv v wr => ∃ (k : Nat) (ba : Option Addr) (bc : Nat), g + k = n ∧ v = .int .i64 k ∧ bv = .slice ba k bc ∧ Hid (wr.ownsRow w1.heap.size 3 1 (.slice ba k bc) k (((negs A).take k).map (Value.int .i64))) ∧ Hid (Below w1.heap.size w1 wr))
  case atStart => exact ⟨0, none, 0, by omega, rfl, rfl, own0, Below.refl _ _⟩
  case round =>
    clear own0
    obtain ⟨k, ba, bc, hk, rfl, rfl, HO, HL⟩ := hrel
    have BZ := HL.out.size
    by_cases hkn : k < n
    · have kI : (k : Int) < (n : Int) := by omega
      have hkA : k < A.length := by rw [HNA.out]; exact hkn
      obtain ⟨ab, ao, rfl, a0⟩ := (HAI.out.below HL.out).get hkA
      have hab := HAB.out k
      rw [show A.getD k 0 = A[k] by simp [List.getD_eq_getElem?_getD, hkA]] at hab
      have HSN : Hid ((negs A).take (k + 1) = (negs A).take k ++ [-A[k]]) := by
        show _ = _
        rw [List.take_succ_eq_append_getElem (by unfold negs; rw [List.length_map]; exact hkA)]
        unfold negs
        rw [List.getElem_map]
      generalize A[k] = x at *
      obtain ⟨y, hy⟩ : ∃ y, -x = y := ⟨_, rfl⟩
      rw [hy] at HSN
      have s1 : IntKind.i64.wrap (-x) = y := by rw [← hy, IntKind.wrap_i64] <;> omega
      have hba : Below wr.heap.size wr (wr.alloc (Obj.cells #[.int .i64 y] 3)) := (Below.refl _ _).alloc (Nat.le_refl _) _
      have hownA := HO.out.alloc (Obj.cells #[.int .i64 y] 3)
      have PB := Lib.hid (HL.out.trans (hba.mono BZ))
      clear hba hy hkA hab
      go_wp2_with (at_builtin; refine wpl_app1 rfl _ _ rfl w1.heap.size k _ _ wr.heap.size y rfl rfl hownA (cellOf (heap_alloc_new wr (Obj.cells #[.int .i64 y] 3)) 0 _ rfl) (by omega) (by simp; omega) ?_)
      intro v' w9 hown3 hgrow _
      have hB3 := Lib.hid (PB.out.grown hgrow PB.out.size (fun g hg => by have := (hownA.lt g hg).1; omega))
      obtain ⟨la', lc', rfl⟩ := own_slice hown3
      have HO3 : Hid (w9.ownsRow w1.heap.size 3 1 (.slice la' (k + 1) lc') (k + 1) (((negs A).take (k + 1)).map (Value.int .i64))) := by
        show World.ownsRow _ _ _ _ _ _ _
        rw [HSN.out, List.map_append, List.map_take]
        exact hown3
      clear hown3 hgrow hownA s1 HSN a0
      go_wp2
      go_roundg (gk - 1)
      case measure => omega
      case rel => exact ⟨k + 1, la', lc', by omega, by go_num, rfl, HO3, hB3⟩
    · have kI : ¬ (k : Int) < (n : Int) := by omega
      obtain rfl : k = n := by omega
      obtain ⟨w2, hw2⟩ : ∃ w2, w2 = wr := ⟨_, rfl⟩
      subst hw2
      have HBK : Hid (w2.ownsRow w1.heap.size 3 1 (.slice ba k bc) k ((negs A).map (Value.int .i64))) := by
        show World.ownsRow _ _ _ _ _ _ _
        have h := HO.out
        rw [List.take_of_length_le (by unfold negs; rw [List.length_map, HNA.out]; exact Nat.le_refl _)] at h
        exact h
      have R2 := Lib.hid ((HL.out.block _ (lt_of_block R1.out)).trans R1.out)
      have X2 := Lib.hid ((HL.out.block _ (lt_of_block X1.out)).trans X1.out)
      have Q2 := Lib.hid ((HL.out.block _ (lt_of_block Q1.out)).trans Q1.out)
      have E2 := Lib.hid (E1.out.below HL.out)
      have O2 := Lib.hid (O1.out.below HL.out)
      have H2 := Lib.hid (H1.out.below HL.out)
      have A2 := Lib.hid (HAI.out.below HL.out)
      have B2 := Lib.hid (B1.out.trans (HL.out.mono B1.out.size))
      clear R1 X1 Q1 E1 O1 H1 HAI B1 HO hkn hk
      have c0 := cellOf R2.out 0 _ rfl
      have cl := lt_of_block R2.out
      have own0 : Hid (EdOwn w2.heap.size w2 (.slice none 0 0) RC 0 (fun _ => undef)) := ⟨World.ownsRow_nil _ _ _ _, fun j hj => absurd hj (Nat.not_lt_zero _)⟩
      go_wp2_with fail
      clear c0 cl
      go_loopg [10, 11, 12] m (fun g cv nv v wr => ∃ (q : Nat) (na : Option Addr) (nc : Nat) (P : Nat → Value), g + q = m ∧ v = .int .i64 q ∧ nv = .slice na q nc ∧ cv = .int .i64 ((offK c.eds q : Nat) : Int) ∧ Hid (EdOwn w2.heap.size wr (.slice na q nc) RC q P) ∧ Hid (Below w2.heap.size w2 wr))
      case atStart => exact ⟨0, none, 0, _, by omega, rfl, rfl, rfl, own0, Below.refl _ _⟩
      case round =>
        clear own0 etd
        obtain ⟨q, na, nc, P, hq, rfl, rfl, rfl, HOW, HL2⟩ := hrel
        have R3 := Lib.hid ((HL2.out.block _ (lt_of_block R2.out)).trans R2.out)
        have X3 := Lib.hid ((HL2.out.block _ (lt_of_block X2.out)).trans X2.out)
        have c0 := cellOf R3.out 0 _ rfl
        have c1 := cellOf R3.out 1 _ rfl
        have c2 := cellOf R3.out 2 _ rfl
        have cl := lt_of_block R3.out
        have HLS := HL2.out.size
        by_cases hqm : q < m
        · have qI : (q : Int) < (m : Int) := by omega
          have hq' : q < c.eds.length := by rw [HM.out]; exact hqm
          obtain ⟨eb, eo, pa, pc, rfl, d0, d1, d2, hpp⟩ := (E2.out.below HL2.out).get hq'
          have hed := HV.out.ed _ (List.getElem_mem hq')
          have hrg := HRG.out q hqm
          rw [getD_lt _ _ hq'] at hrg
          have hof := HOF.out q (by omega)
          have hofs : offK c.eds (q + 1) = offK c.eds q + c.eds[q].pts.length := by simp only [offK]; rw [getD_lt _ _ hq']
          have HRK := Lib.hid hrg
          obtain ⟨xa0, xan, xb0, xbn, _, _, xp4, _⟩ := hed
          generalize offK c.eds q = n0 at *
          generalize c.eds[q] = d at *
          obtain ⟨da, db, ps⟩ := d
          simp only at d0 d1 d2 hpp xp4 xa0 xan xb0 xbn hofs
          obtain ⟨np, hnp⟩ : ∃ np, ps.length = np := ⟨_, rfl⟩
          rw [hnp] at d2 hpp xp4 hofs
          have HNP := Lib.hid hnp
          have HOFS := Lib.hid hofs
          have npI : (np : Int) ≤ 4 := by omega
          have hn0 : n0 ≤ 32 := by omega
          obtain ⟨ia, rfl⟩ : ∃ i : Nat, da = i := ⟨da.toNat, by omega⟩
          obtain ⟨ib, rfl⟩ : ∃ i : Nat, db = i := ⟨db.toNat, by omega⟩
          have hkk := HNA.out
          have hcn : c.shs.length = A.length := by rw [← HOK.out.sl]
          have iaA : ia < A.length := by omega
          have ibA : ib < A.length := by omega
          have iaI : (ia : Int) < (k : Int) := by omega
          have ibI : (ib : Int) < (k : Int) := by omega
          have hsa := HAB.out ia
          have hsb := HAB.out ib
          obtain ⟨va, hva⟩ : ∃ v, A.getD ia 0 = v := ⟨_, rfl⟩
          obtain ⟨vb, hvb⟩ : ∃ v, A.getD ib 0 = v := ⟨_, rfl⟩
          obtain ⟨ab, ao, rfl, a0⟩ := (A2.out.below HL2.out).get iaA
          obtain ⟨ab', ao', ee, a1⟩ := (A2.out.below HL2.out).get ibA
          injection ee with ee
          injection ee with e2 e3
          subst e2 e3
          rw [show A[ia] = va by rw [← hva]; simp [List.getD_eq_getElem?_getD, iaA]] at a0
          rw [show A[ib] = vb by rw [← hvb]; simp [List.getD_eq_getElem?_getD, ibA]] at a1
          rw [hva] at hsa
          rw [hvb] at hsb
          have HTP : Hid (∀ t, toldP A (highT hl) (fun n => offT hf ol (2 * n)) (fun n => offT hf ol (2 * n + 1)) ⟨(ia : Int), (ib : Int), ps⟩ t = (highT hl t + va + offT hf ol (2 * t), highT hl t + vb + offT hf ol (2 * t + 1))) := fun t => by
            unfold toldP
            simp only [Int.toNat_natCast, hva, hvb]
          obtain ⟨T, hT⟩ : ∃ T, (List.range ps.length).map (fun k => toldP A (highT hl) (fun n => offT hf ol (2 * n)) (fun n => offT hf ol (2 * n + 1)) ⟨(ia : Int), (ib : Int), ps⟩ (n0 + k)) = T := ⟨_, rfl⟩
          have HRT : Hid (RC.getD q default = ⟨(ia : Int), (ib : Int), T⟩) := by show _ = _; rw [HRK.out, ← hT]; rfl
          have HTL : Hid (T.length = np) := by show _ = _; rw [← hT, List.length_map, List.length_range, hnp]
          have HTS : Hid (∀ i, i < np → T.take (i + 1) = T.take i ++ [(highT hl (n0 + i) + va + offT hf ol (2 * (n0 + i)), highT hl (n0 + i) + vb + offT hf ol (2 * (n0 + i) + 1))]) := fun i hi => by
            have hiT : i < T.length := by rw [HTL.out]; exact hi
            rw [List.take_succ_eq_append_getElem hiT]
            have e : T[i] = toldP A (highT hl) (fun n => offT hf ol (2 * n)) (fun n => offT hf ol (2 * n + 1)) ⟨(ia : Int), (ib : Int), ps⟩ (n0 + i) := by
              subst hT
              simp
            rw [e, HTP.out]
          obtain ⟨V, hV⟩ : ∃ V, wr.alloc (Obj.cells #[.int .i64 (ia : Int), .int .i64 (ib : Int), .slice none 0 0] 71) = V := ⟨_, rfl⟩
          have hbV : Below wr.heap.size wr V := by rw [← hV]; exact (Below.refl _ _).alloc (Nat.le_refl _) _
          have HY := Lib.hid (show V.heap[wr.heap.size]? = some (Obj.cells #[.int .i64 (ia : Int), .int .i64 (ib : Int), .slice none 0 0] 71) by rw [← hV]; exact heap_alloc_new wr _)
          have hVs : V.heap.size = wr.heap.size + 1 := by rw [← hV]; simp
          have HVV := Lib.hid hV
          have HBV := Lib.hid hbV
          have D2 := Lib.hid d2
          have A0 := Lib.hid a0
          have A1 := Lib.hid a1
          have H3 := Lib.hid (H2.out.below HL2.out)
          have O3 := Lib.hid (O2.out.below HL2.out)
          clear hpp hnp hV hbV hq' hrg HRK HTP hT hva hvb hcn hkk iaA ibA a0 a1 hof hofs
          go_wp2_with fail
          rw [HVV.out]
          clear HVV
          obtain ⟨u, hu⟩ : ∃ u, wr.heap.size = u := ⟨_, rfl⟩
          rw [hu] at HY ⊢
          obtain ⟨wo, hwo⟩ : ∃ wo, wo = wr := ⟨_, rfl⟩
          subst hwo
          obtain ⟨gk2, hgk⟩ : ∃ g', g' + q + 1 = m := ⟨m - q - 1, by omega⟩
          clear c0 c1 c2 cl d0 d1 d2
          have ownp0 : V.ownsRow (u + 1) 74 2 (.slice none 0 0) 0 (flatP (T.take 0)) := World.ownsRow_nil _ _ _ _
          go_loopg [10, 14] np (fun g cv v wi => ∃ (i : Nat) (qa : Option Addr) (qc : Nat), g + i = np ∧ v = .int .i64 i ∧ cv = .int .i64 ((n0 + i : Nat) : Int) ∧ Hid (wi.heap[u]? = some (.cells #[.int .i64 (ia : Int), .int .i64 (ib : Int), .slice qa i qc] 71 (0, 0))) ∧ Hid (wi.ownsRow (u + 1) 74 2 (.slice qa i qc) i (flatP (T.take i))) ∧ Hid (Below wo.heap.size wo wi) ∧ u < wi.heap.size)
          case atStart => exact ⟨0, none, 0, by omega, rfl, rfl, HY, ownp0, HBV.out, by omega⟩
          case round =>
            clear ownp0 HY
            obtain ⟨i, qa, qc, hi, rfl, rfl, HY, OP, HLI, hus⟩ := hrel
            have R4 := Lib.hid ((HLI.out.block _ (lt_of_block R3.out)).trans R3.out)
            have X4 := Lib.hid ((HLI.out.block _ (lt_of_block X3.out)).trans X3.out)
            have c2 := cellOf R4.out 2 _ rfl
            have cl := lt_of_block R4.out
            have d2 := keepK D2.out HLI.out
            by_cases hin : i < np
            · have iI : (i : Int) < (np : Int) := by omega
              have hts := HTS.out i hin
              obtain ⟨N, hN⟩ : ∃ N, n0 + i = N := ⟨_, rfl⟩
              have HNN := Lib.hid hN
              have N36 : N ≤ 36 := by omega
              rw [hN] at hts ⊢
              have hhb := HOK.out.hh N
              obtain ⟨hh, hhh⟩ : ∃ h, highT hl N = h := ⟨_, rfl⟩
              rw [hhh] at hts hhb
              obtain ⟨o1, ho1⟩ : ∃ o, offT hf ol (2 * N) = o := ⟨_, rfl⟩
              obtain ⟨o2, ho2⟩ : ∃ o, offT hf ol (2 * N + 1) = o := ⟨_, rfl⟩
              have hob1 := offT_bd hf hf0 ol (2 * N)
              have hob2 := offT_bd hf hf0 ol (2 * N + 1)
              rw [ho1] at hts hob1
              rw [ho2] at hts hob2
              have HTX := Lib.hid hts
              obtain ⟨n2, hn2⟩ : ∃ t, 2 * N = t := ⟨_, rfl⟩
              obtain ⟨n3, hn3⟩ : ∃ t, n2 + 1 = t := ⟨_, rfl⟩
              rw [hn2] at ho1 ho2
              rw [hn3] at ho2
              have O4 := Lib.hid (O3.out.below HLI.out)
              have H4 := Lib.hid (H3.out.below HLI.out)
              have sn2 : IntKind.i64.wrap (2 * (N : Int)) = (n2 : Int) := by rw [IntKind.wrap_i64] <;> omega
              have sn3 : IntKind.i64.wrap ((n2 : Int) + 1) = (n3 : Int) := by rw [IntKind.wrap_i64] <;> omega
              have hz1 := turnS_le O4.out n2
              have hz2 := turnS_le O4.out n3
              unfold offT at ho1 ho2
              have HT1 := Lib.hid (fun wz (hb : Below wr.heap.size wr wz) => lturn_any _ ol n2 wz (O4.out.below hb) (by omega))
              have HT2 := Lib.hid (fun wz (hb : Below wr.heap.size wr wz) => lturn_any _ ol n3 wz (O4.out.below hb) (by omega))
              generalize turnS ol n2 = z1 at *
              generalize turnS ol n3 = z2 at *
              obtain ⟨dv, hdv⟩ : ∃ d : Int, 2 * hf + 1 = d := ⟨_, rfl⟩
              rw [hdv] at ho1 ho2
              have dv1 : 1 ≤ dv := by omega
              have dv51 : dv ≤ 51 := by omega
              have sd1 : IntKind.i64.wrap (2 * hf) = 2 * hf := by rw [IntKind.wrap_i64] <;> omega
              have sd2 : IntKind.i64.wrap (2 * hf + 1) = dv := by rw [← hdv, IntKind.wrap_i64] <;> omega
              have dz : (dv == 0) = false := by rw [beq_eq_false_iff_ne]; omega
              have nd0 : ¬ dv = 0 := by omega
              have nd1 : ¬ dv = -1 := by omega
              have em1 : (z1 : Int).tmod dv = (z1 : Int) % dv := Int.tmod_eq_emod_of_nonneg (by omega)
              have em2 : (z2 : Int).tmod dv = (z2 : Int) % dv := Int.tmod_eq_emod_of_nonneg (by omega)
              obtain ⟨r1, hr1⟩ : ∃ y : Int, (z1 : Int) % dv = y := ⟨_, rfl⟩
              obtain ⟨r2, hr2⟩ : ∃ y : Int, (z2 : Int) % dv = y := ⟨_, rfl⟩
              rw [hr1] at em1 ho1
              rw [hr2] at em2 ho2
              have sr1 : IntKind.i64.wrap r1 = r1 := by rw [IntKind.wrap_i64] <;> omega
              have sr2 : IntKind.i64.wrap r2 = r2 := by rw [IntKind.wrap_i64] <;> omega
              have so1 : IntKind.i64.wrap (r1 - hf) = o1 := by rw [IntKind.wrap_i64] <;> omega
              have so2 : IntKind.i64.wrap (r2 - hf) = o2 := by rw [IntKind.wrap_i64] <;> omega
              obtain ⟨y1, hy1⟩ : ∃ y, hh + va = y := ⟨_, rfl⟩
              obtain ⟨y2, hy2⟩ : ∃ y, hh + vb = y := ⟨_, rfl⟩
              obtain ⟨px, hpx⟩ : ∃ y, y1 + o1 = y := ⟨_, rfl⟩
              obtain ⟨py, hpy⟩ : ∃ y, y2 + o2 = y := ⟨_, rfl⟩
              have HTX2 : Hid (T.take (i + 1) = T.take i ++ [(px, py)]) := by show _ = _; rw [HTX.out, hy1, hy2, hpx, hpy]
              have sy1 : IntKind.i64.wrap (hh + va) = y1 := by rw [← hy1, IntKind.wrap_i64] <;> omega
              have sy2 : IntKind.i64.wrap (hh + vb) = y2 := by rw [← hy2, IntKind.wrap_i64] <;> omega
              have spx : IntKind.i64.wrap (y1 + o1) = px := by rw [← hpx, IntKind.wrap_i64] <;> omega
              have spy : IntKind.i64.wrap (y2 + o2) = py := by rw [← hpy, IntKind.wrap_i64] <;> omega
              have sN1 : IntKind.i64.wrap ((N : Int) + 1) = ((N + 1 : Nat) : Int) := by rw [IntKind.wrap_i64] <;> omega
              have iI4 : (i : Int) < 4 := by omega
              have hdvH := Lib.hid hdv
              clear HTX hts hN hn2 hn3 ho1 ho2 hob1 hob2 hr1 hr2 hz1 hz2 hy1 hy2 hpx hpy hdv hhb
              have x2 := cellOf X4.out 2 _ rfl
              have x1 := cellOf X4.out 1 _ rfl
              have xl := lt_of_block X4.out
              have HBW0 := Lib.hid (Below.refl wr.heap.size wr)
              by_cases hp0 : p = 0
              · skip
                have hh0 : hh = 100 := by rw [← hhh]; unfold highT; rw [if_pos (List.length_eq_zero_iff.1 (by rw [← HPL.out]; exact hp0))]
                have pI : ¬ (0 : Int) < (p : Int) := by omega
                clear hhh hp0
                subst hh0
                go_wp2_with fail
                have HBQ : Hid (Below wr.heap.size wr wr) := Below.refl _ _
                have OQ := OP
                have YQ := HY
                have HLQ := HLI
                have huq := hus
                refine (HT1.out wr HBQ.out).mono ?_
                rintro e wz ⟨rfl, rfl⟩
                go_wp2_with fail
                refine (HT2.out wr HBQ.out).mono ?_
                rintro e wz ⟨rfl, rfl⟩
                clear HT1 HT2
                have a0 := keepK A0.out HLQ.out
                have a1 := keepK A1.out HLQ.out
                have y0c := cellOf YQ.out 0 _ rfl
                have y1c := cellOf YQ.out 1 _ rfl
                have y2c := cellOf YQ.out 2 _ rfl
                have huv : u + 1 ≤ wr.heap.size := huq
                have abl : ab < u := by have h : ab < wo.heap.size := World.block_lt_of_cell? _ _ A0.out; omega
                clear x1 xl
                try clear x2 c2 cl d2
                go_wp2_with fail
                have KA : ∀ W' : World, Below (u + 1) wr W' → (W'.cell? ⟨u, 0, none⟩ = some (.int .i64 (ia : Int)) ∧ W'.cell? ⟨u, 1, none⟩ = some (.int .i64 (ib : Int)) ∧ W'.cell? ⟨u, 2, none⟩ = some (.slice qa i qc) ∧ W'.cell? ⟨ab, ao + ia, none⟩ = some (.int .i64 va) ∧ W'.cell? ⟨ab, ao + ib, none⟩ = some (.int .i64 vb) ∧ Below (u + 1) wr W') := fun W' hb => ⟨keepT y0c hb (by omega), keepT y1c hb (by omega), keepT y2c hb (by omega), keepT a0 hb (by omega), keepT a1 hb (by omega), hb⟩
                refine wp_region_noPanic ?_
                refine wp_region_last (S := (fun W' : World => W'.cell? ⟨u, 0, none⟩ = some (.int .i64 (ia : Int)) ∧ W'.cell? ⟨u, 1, none⟩ = some (.int .i64 (ib : Int)) ∧ W'.cell? ⟨u, 2, none⟩ = some (.slice qa i qc) ∧ W'.cell? ⟨ab, ao + ia, none⟩ = some (.int .i64 va) ∧ W'.cell? ⟨ab, ao + ib, none⟩ = some (.int .i64 vb) ∧ Below (u + 1) wr W')) 24 (by kernel_rfl) (by decide) (fun inv0 => ?_)
                have hh0 := KA _ (Below.refl _ _).drew
                refine wpAnyZ_take (i := 0) (v := ?_) rfl (Lib.hid ⟨by as_aux_lemma => kernel_rfl, by as_aux_lemma => kernel_rfl, by as_aux_lemma => kernel_rfl, rfl⟩) (by decide) inv0 (by as_aux_lemma => kernel_rfl) (by as_aux_lemma => kernel_rfl) (fun _ _ _ h => h) (Or.inl ⟨by rfl, ?_⟩) hh0 (fun inv1 => ?_)
                rotate_left
                · intro w hSw
                  try dsimp only at hSw
                  go_simp
                  try with_reducible rfl
                clear inv0
                try simp only [Act.put, List.getElem_toArray, List.getElem_cons_succ, List.getElem_cons_zero, List.setIfInBounds_toArray, List.set_cons_zero, List.set_cons_succ]
                refine wpAnyZ_take (i := 1) (v := ?_) rfl (Lib.hid ⟨by as_aux_lemma => kernel_rfl, by as_aux_lemma => kernel_rfl, by as_aux_lemma => kernel_rfl, rfl⟩) (by decide) inv1 (by as_aux_lemma => kernel_rfl) (by as_aux_lemma => kernel_rfl) (fun _ _ _ h => h) (Or.inl ⟨by rfl, ?_⟩) hh0 (fun inv2 => ?_)
                rotate_left
                · intro w hSw
                  try dsimp only at hSw
                  go_simp
                  try with_reducible rfl
                clear inv1
                try simp only [Act.put, List.getElem_toArray, List.getElem_cons_succ, List.getElem_cons_zero, List.setIfInBounds_toArray, List.set_cons_zero, List.set_cons_succ]
                refine wpAnyZ_take (i := 2) (v := ?_) rfl (Lib.hid ⟨by as_aux_lemma => kernel_rfl, by as_aux_lemma => kernel_rfl, by as_aux_lemma => kernel_rfl, rfl⟩) (by decide) inv2 (by as_aux_lemma => kernel_rfl) (by as_aux_lemma => kernel_rfl) (fun _ _ _ h => h) (Or.inl ⟨by rfl, ?_⟩) hh0 (fun inv3 => ?_)
                rotate_left
                · intro w hSw
                  try dsimp only at hSw
                  go_simp
                  try with_reducible rfl
                clear inv2
                try simp only [Act.put, List.getElem_toArray, List.getElem_cons_succ, List.getElem_cons_zero, List.setIfInBounds_toArray, List.set_cons_zero, List.set_cons_succ]
                refine wpAnyZ_take (i := 3) (v := ?_) rfl (Lib.hid ⟨by as_aux_lemma => kernel_rfl, by as_aux_lemma => kernel_rfl, by as_aux_lemma => kernel_rfl, rfl⟩) (by decide) inv3 (by as_aux_lemma => kernel_rfl) (by as_aux_lemma => kernel_rfl) (fun _ _ _ h => h) (Or.inl ⟨by rfl, ?_⟩) hh0 (fun inv4 => ?_)
                rotate_left
                · intro w hSw
                  try dsimp only at hSw
                  go_simp
                  try with_reducible rfl
                clear inv3
                try simp only [Act.put, List.getElem_toArray, List.getElem_cons_succ, List.getElem_cons_zero, List.setIfInBounds_toArray, List.set_cons_zero, List.set_cons_succ]
                refine wpAnyZ_take (i := 4) (v := ?_) rfl (Lib.hid ⟨by as_aux_lemma => kernel_rfl, by as_aux_lemma => kernel_rfl, by as_aux_lemma => kernel_rfl, rfl⟩) (by decide) inv4 (by as_aux_lemma => kernel_rfl) (by as_aux_lemma => kernel_rfl) (fun _ _ _ h => h) (Or.inl ⟨by rfl, ?_⟩) hh0 (fun inv5 => ?_)
                rotate_left
                · intro w hSw
                  try dsimp only at hSw
                  go_simp
                  try with_reducible rfl
                clear inv4
                try simp only [Act.put, List.getElem_toArray, List.getElem_cons_succ, List.getElem_cons_zero, List.setIfInBounds_toArray, List.set_cons_zero, List.set_cons_succ]
                refine wpAnyZ_take (i := 5) (v := ?_) rfl (Lib.hid ⟨by as_aux_lemma => kernel_rfl, by as_aux_lemma => kernel_rfl, by as_aux_lemma => kernel_rfl, rfl⟩) (by decide) inv5 (by as_aux_lemma => kernel_rfl) (by as_aux_lemma => kernel_rfl) (fun _ _ _ h => h) (Or.inl ⟨by rfl, ?_⟩) hh0 (fun inv6 => ?_)
                rotate_left
                · intro w hSw
                  try dsimp only at hSw
                  go_simp
                  try with_reducible rfl
                clear inv5
                try simp only [Act.put, List.getElem_toArray, List.getElem_cons_succ, List.getElem_cons_zero, List.setIfInBounds_toArray, List.set_cons_zero, List.set_cons_succ]
                refine wpAnyZ_take (i := 6) (v := ?_) rfl (Lib.hid ⟨by as_aux_lemma => kernel_rfl, by as_aux_lemma => kernel_rfl, by as_aux_lemma => kernel_rfl, rfl⟩) (by decide) inv6 (by as_aux_lemma => kernel_rfl) (by as_aux_lemma => kernel_rfl) (fun _ _ _ h => h) (Or.inl ⟨by rfl, ?_⟩) hh0 (fun inv7 => ?_)
                rotate_left
                · intro w hSw
                  try dsimp only at hSw
                  go_simp
                  try with_reducible rfl
                clear inv6
                try simp only [Act.put, List.getElem_toArray, List.getElem_cons_succ, List.getElem_cons_zero, List.setIfInBounds_toArray, List.set_cons_zero, List.set_cons_succ]
                refine wpAnyZ_take (i := 7) (v := ?_) rfl (Lib.hid ⟨by as_aux_lemma => kernel_rfl, by as_aux_lemma => kernel_rfl, by as_aux_lemma => kernel_rfl, rfl⟩) (by decide) inv7 (by as_aux_lemma => kernel_rfl) (by as_aux_lemma => kernel_rfl) (fun _ _ _ h => h) (Or.inl ⟨by rfl, ?_⟩) hh0 (fun inv8 => ?_)
                rotate_left
                · intro w hSw
                  try dsimp only at hSw
                  go_simp
                  try with_reducible rfl
                clear inv7
                try simp only [Act.put, List.getElem_toArray, List.getElem_cons_succ, List.getElem_cons_zero, List.setIfInBounds_toArray, List.set_cons_zero, List.set_cons_succ]
                refine wpAnyZ_take (i := 8) (v := ?_) rfl (Lib.hid ⟨by as_aux_lemma => kernel_rfl, by as_aux_lemma => kernel_rfl, by as_aux_lemma => kernel_rfl, rfl⟩) (by decide) inv8 (by as_aux_lemma => kernel_rfl) (by as_aux_lemma => kernel_rfl) (fun _ _ _ h => h) (Or.inl ⟨by rfl, ?_⟩) hh0 (fun inv9 => ?_)
                rotate_left
                · intro w hSw
                  try dsimp only at hSw
                  go_simp
                  try with_reducible rfl
                clear inv8
                try simp only [Act.put, List.getElem_toArray, List.getElem_cons_succ, List.getElem_cons_zero, List.setIfInBounds_toArray, List.set_cons_zero, List.set_cons_succ]
                refine wpAnyZ_take (i := 9) (v := ?_) rfl (Lib.hid ⟨by as_aux_lemma => kernel_rfl, by as_aux_lemma => kernel_rfl, by as_aux_lemma => kernel_rfl, rfl⟩) (by decide) inv9 (by as_aux_lemma => kernel_rfl) (by as_aux_lemma => kernel_rfl) (fun _ _ _ h => h) (Or.inl ⟨by rfl, ?_⟩) hh0 (fun inv10 => ?_)
                rotate_left
                · intro w hSw
                  try dsimp only at hSw
                  go_simp
                  try with_reducible rfl
                clear inv9
                try simp only [Act.put, List.getElem_toArray, List.getElem_cons_succ, List.getElem_cons_zero, List.setIfInBounds_toArray, List.set_cons_zero, List.set_cons_succ]
                refine wpAnyZ_take (i := 10) (v := ?_) rfl (Lib.hid ⟨by as_aux_lemma => kernel_rfl, by as_aux_lemma => kernel_rfl, by as_aux_lemma => kernel_rfl, rfl⟩) (by decide) inv10 (by as_aux_lemma => kernel_rfl) (by as_aux_lemma => kernel_rfl) (fun _ _ _ h => h) (Or.inl ⟨by rfl, ?_⟩) hh0 (fun inv11 => ?_)
                rotate_left
                · intro w hSw
                  try dsimp only at hSw
                  go_simp
                  try with_reducible rfl
                clear inv10
                try simp only [Act.put, List.getElem_toArray, List.getElem_cons_succ, List.getElem_cons_zero, List.setIfInBounds_toArray, List.set_cons_zero, List.set_cons_succ]
                refine wpAnyZ_take (i := 11) (v := ?_) rfl (Lib.hid ⟨by as_aux_lemma => kernel_rfl, by as_aux_lemma => kernel_rfl, by as_aux_lemma => kernel_rfl, rfl⟩) (by decide) inv11 (by as_aux_lemma => kernel_rfl) (by as_aux_lemma => kernel_rfl) (fun _ _ _ h => h) (Or.inl ⟨by rfl, ?_⟩) hh0 (fun inv12 => ?_)
                rotate_left
                · intro w hSw
                  try dsimp only at hSw
                  go_simp
                  try with_reducible rfl
                clear inv11
                try simp only [Act.put, List.getElem_toArray, List.getElem_cons_succ, List.getElem_cons_zero, List.setIfInBounds_toArray, List.set_cons_zero, List.set_cons_succ]
                refine wpAnyZ_take (i := 12) (v := ?_) rfl (Lib.hid ⟨by as_aux_lemma => kernel_rfl, by as_aux_lemma => kernel_rfl, by as_aux_lemma => kernel_rfl, rfl⟩) (by decide) inv12 (by as_aux_lemma => kernel_rfl) (by as_aux_lemma => kernel_rfl) (fun _ _ _ h => h) (Or.inl ⟨by rfl, ?_⟩) hh0 (fun inv13 => ?_)
                rotate_left
                · intro w hSw
                  try dsimp only at hSw
                  go_simp
                  try with_reducible rfl
                clear inv12
                try simp only [Act.put, List.getElem_toArray, List.getElem_cons_succ, List.getElem_cons_zero, List.setIfInBounds_toArray, List.set_cons_zero, List.set_cons_succ]
                refine wpAnyZ_take (i := 13) (v := ?_) rfl (Lib.hid ⟨by as_aux_lemma => kernel_rfl, by as_aux_lemma => kernel_rfl, by as_aux_lemma => kernel_rfl, rfl⟩) (by decide) inv13 (by as_aux_lemma => kernel_rfl) (by as_aux_lemma => kernel_rfl) (fun _ _ _ h => h) (Or.inl ⟨by rfl, ?_⟩) hh0 (fun inv14 => ?_)
                rotate_left
                · intro w hSw
                  try dsimp only at hSw
                  go_simp
                  try with_reducible rfl
                clear inv13
                try simp only [Act.put, List.getElem_toArray, List.getElem_cons_succ, List.getElem_cons_zero, List.setIfInBounds_toArray, List.set_cons_zero, List.set_cons_succ]
                refine wpAnyZ_take (i := 14) (v := ?_) rfl (Lib.hid ⟨by as_aux_lemma => kernel_rfl, by as_aux_lemma => kernel_rfl, by as_aux_lemma => kernel_rfl, rfl⟩) (by decide) inv14 (by as_aux_lemma => kernel_rfl) (by as_aux_lemma => kernel_rfl) (fun _ _ _ h => h) (Or.inl ⟨by rfl, ?_⟩) hh0 (fun inv15 => ?_)
                rotate_left
                · intro w hSw
                  try dsimp only at hSw
                  go_simp
                  try with_reducible rfl
                clear inv14
                try simp only [Act.put, List.getElem_toArray, List.getElem_cons_succ, List.getElem_cons_zero, List.setIfInBounds_toArray, List.set_cons_zero, List.set_cons_succ]
                refine wpAnyZ_take (i := 15) (v := ?_) rfl (Lib.hid ⟨by as_aux_lemma => kernel_rfl, by as_aux_lemma => kernel_rfl, by as_aux_lemma => kernel_rfl, rfl⟩) (by decide) inv15 (by as_aux_lemma => kernel_rfl) (by as_aux_lemma => kernel_rfl) (fun _ _ _ h => h) (Or.inl ⟨by rfl, ?_⟩) hh0 (fun inv16 => ?_)
                rotate_left
                · intro w hSw
                  try dsimp only at hSw
                  go_simp
                  try with_reducible rfl
                clear inv15
                try simp only [Act.put, List.getElem_toArray, List.getElem_cons_succ, List.getElem_cons_zero, List.setIfInBounds_toArray, List.set_cons_zero, List.set_cons_succ]
                refine wpAnyZ_take (i := 16) (v := ?_) rfl (Lib.hid ⟨by as_aux_lemma => kernel_rfl, by as_aux_lemma => kernel_rfl, by as_aux_lemma => kernel_rfl, rfl⟩) (by decide) inv16 (by as_aux_lemma => kernel_rfl) (by as_aux_lemma => kernel_rfl) (fun _ _ _ h => h) (Or.inl ⟨by rfl, ?_⟩) hh0 (fun inv17 => ?_)
                rotate_left
                · intro w hSw
                  try dsimp only at hSw
                  go_simp
                  try with_reducible rfl
                clear inv16
                try simp only [Act.put, List.getElem_toArray, List.getElem_cons_succ, List.getElem_cons_zero, List.setIfInBounds_toArray, List.set_cons_zero, List.set_cons_succ]
                refine wpAnyZ_take (i := 17) (v := ?_) rfl (Lib.hid ⟨by as_aux_lemma => kernel_rfl, by as_aux_lemma => kernel_rfl, by as_aux_lemma => kernel_rfl, rfl⟩) (by decide) inv17 (by as_aux_lemma => kernel_rfl) (by as_aux_lemma => kernel_rfl) (fun _ _ _ h => h) (Or.inl ⟨by rfl, ?_⟩) hh0 (fun inv18 => ?_)
                rotate_left
                · intro w hSw
                  try dsimp only at hSw
                  go_simp
                  try with_reducible rfl
                clear inv17
                try simp only [Act.put, List.getElem_toArray, List.getElem_cons_succ, List.getElem_cons_zero, List.setIfInBounds_toArray, List.set_cons_zero, List.set_cons_succ]
                refine wpAnyZ_take (i := 18) (v := ?_) rfl (Lib.hid ⟨by as_aux_lemma => kernel_rfl, by as_aux_lemma => kernel_rfl, by as_aux_lemma => kernel_rfl, rfl⟩) (by decide) inv18 (by as_aux_lemma => kernel_rfl) (by as_aux_lemma => kernel_rfl) (fun _ _ _ h => h) (Or.inl ⟨by rfl, ?_⟩) hh0 (fun inv19 => ?_)
                rotate_left
                · intro w hSw
                  try dsimp only at hSw
                  go_simp
                  try with_reducible rfl
                clear inv18
                try simp only [Act.put, List.getElem_toArray, List.getElem_cons_succ, List.getElem_cons_zero, List.setIfInBounds_toArray, List.set_cons_zero, List.set_cons_succ]
                refine wpAnyZ_take (i := 19) (v := ?_) rfl (Lib.hid ⟨by as_aux_lemma => kernel_rfl, by as_aux_lemma => kernel_rfl, by as_aux_lemma => kernel_rfl, rfl⟩) (by decide) inv19 (by as_aux_lemma => kernel_rfl) (by as_aux_lemma => kernel_rfl) (fun _ _ _ h => h) (Or.inl ⟨by rfl, ?_⟩) hh0 (fun inv20 => ?_)
                rotate_left
                · intro w hSw
                  try dsimp only at hSw
                  go_simp
                  try with_reducible rfl
                clear inv19
                try simp only [Act.put, List.getElem_toArray, List.getElem_cons_succ, List.getElem_cons_zero, List.setIfInBounds_toArray, List.set_cons_zero, List.set_cons_succ]
                refine wpAnyZ_take (i := 20) (v := ?_) rfl (Lib.hid ⟨by as_aux_lemma => kernel_rfl, by as_aux_lemma => kernel_rfl, by as_aux_lemma => kernel_rfl, rfl⟩) (by decide) inv20 (by as_aux_lemma => kernel_rfl) (by as_aux_lemma => kernel_rfl) (fun _ _ _ h => h) (Or.inl ⟨by rfl, ?_⟩) hh0 (fun inv21 => ?_)
                rotate_left
                · intro w hSw
                  try dsimp only at hSw
                  go_simp
                  try with_reducible rfl
                clear inv20
                try simp only [Act.put, List.getElem_toArray, List.getElem_cons_succ, List.getElem_cons_zero, List.setIfInBounds_toArray, List.set_cons_zero, List.set_cons_succ]
                refine wpAnyZ_all (rs := [21]) (by as_aux_lemma => kernel_rfl) (by simp) ?_
                intro i hi
                obtain rfl : i = 21 := by simpa using hi
                refine step_Z rfl (fun K hK => ?_)
                go_simp
                have hh1 := KA _ (((Below.refl (u + 1) wr).drew).alloc (show u + 1 ≤ wr.drew.heap.size from huv) (Obj.cells #[.int .i64 px, .int .i64 py] 74))
                refine hK.out _ _ (fun _ => hh1) ?_
                have inv22 := hinv_set inv21 (by as_aux_lemma => kernel_rfl) (by decide : 21 < 24)
                clear hK K hh0 inv21
                try simp only [Act.put, List.getElem_toArray, List.getElem_cons_succ, List.getElem_cons_zero, List.setIfInBounds_toArray, List.set_cons_zero, List.set_cons_succ]
                refine wpAnyZ_all (rs := [22]) (by as_aux_lemma => kernel_rfl) (by simp) ?_
                intro i hi
                obtain rfl : i = 22 := by simpa using hi
                refine step_Z rfl (fun K hK => ?_)
                refine step_app (by rfl) _ _ 69 74 (by rfl) i0 (.agg #[.int .i64 0, .int .i64 0]) 2 16 Try.underlying69 hi0 HI0.out.1 HI0.out.2.1 HI0.out.2.2 rfl (by decide) (u + 1) i _ _ ⟨wr.heap.size, 0, none⟩ 1 1 [.int .i64 px, .int .i64 py] (by rfl) (by rfl) (OQ.out.drew.alloc (Obj.cells #[.int .i64 px, .int .i64 py] 74)) rfl ?pa1 ?pa2 (by simp; omega) (by unfold maxLen; omega) (by omega) ?_
                case pa1 =>
                  intro j' u' hj'
                  match j', hj' with
                  | 0, hj' => simp at hj'; subst hj'; exact cellOf (heap_alloc_new wr.drew (Obj.cells #[.int .i64 px, .int .i64 py] 74)) 0 _ rfl
                  | 1, hj' => simp at hj'; subst hj'; exact cellOf (heap_alloc_new wr.drew (Obj.cells #[.int .i64 px, .int .i64 py] 74)) 1 _ rfl
                  | j' + 2, hj' => simp at hj'
                case pa2 =>
                  intro u' hu'
                  simp at hu'
                  rcases hu' with rfl | rfl <;> rfl
                intro v1 V1 ho1 hg1 hl1 _
                have HB1 := Lib.hid ((((Below.refl (u + 1) wr).drew).alloc (show u + 1 ≤ wr.drew.heap.size from huv) (Obj.cells #[.int .i64 px, .int .i64 py] 74)).grown hg1 (by simp; omega) (fun q hq => (hl1 q hq).1))
                have HY1 := Lib.hid ((HB1.out.block u (by omega)).trans YQ.out)
                have ho2 : V1.ownsRow (u + 1) 74 2 v1 (i + 1) (flatP (T.take (i + 1))) := by
                  rw [HTX2.out, flatP_append]
                  exact ho1
                obtain ⟨qa', qc', rfl⟩ := own_slice ho2
                have HO2 := Lib.hid ho2
                clear ho1 hg1 hl1 ho2
                have hh2 := KA _ HB1.out
                refine hK.out _ _ (fun _ => hh2) ?_
                have inv23 := hinv_set inv22 (by as_aux_lemma => kernel_rfl) (by decide : 22 < 24)
                clear hK K hh1 inv22
                try simp only [Act.put, List.getElem_toArray, List.getElem_cons_succ, List.getElem_cons_zero, List.setIfInBounds_toArray, List.set_cons_zero, List.set_cons_succ]
                refine wpAnyZ_take (i := 23) (v := ?_) rfl (Lib.hid ⟨by as_aux_lemma => kernel_rfl, by as_aux_lemma => kernel_rfl, by as_aux_lemma => kernel_rfl, rfl⟩) (by decide) inv23 (by as_aux_lemma => kernel_rfl) (by as_aux_lemma => kernel_rfl) (fun _ _ _ h => h) (Or.inl ⟨by rfl, ?_⟩) hh2 (fun inv24 => ?_)
                rotate_left
                · intro w hSw
                  try dsimp only at hSw
                  go_simp
                  try with_reducible rfl
                clear inv23
                try simp only [Act.put, List.getElem_toArray, List.getElem_cons_succ, List.getElem_cons_zero, List.setIfInBounds_toArray, List.set_cons_zero, List.set_cons_succ]
                refine wpAnyZ_all (rs := [24]) (by as_aux_lemma => kernel_rfl) (by simp) ?_
                intro i hi
                obtain rfl : i = 24 := by simpa using hi
                refine step_Z rfl (fun K hK => ?_)
                have y2f := frozen_of_row _ _ 2 _ _ HY1.out
                go_simp
                refine hK.out _ _ (fun h => absurd rfl h) ?_
                clear hK K
                try simp only [Act.put, List.getElem_toArray, List.getElem_cons_succ, List.getElem_cons_zero, List.setIfInBounds_toArray, List.set_cons_zero, List.set_cons_succ]
                refine wpAnyZ_done (by as_aux_lemma => kernel_rfl) ?_ _
                refine NoPanic.normal ?_
                have hz1 := HB1.out.size
                have HBW := Lib.hid (HLQ.out.trans (HB1.out.mono (by omega)))
                clear KA a0 a1 y0c y1c y2c y2f YQ OQ HLQ HB1
                go_wp2_with fail
                go_roundg (gk - 1)
                case measure => omega
                case rel => exact ⟨i + 1, qa', qc', by omega, by go_num, by rw [show n0 + (i + 1) = N + 1 by have := HNN.out; omega]; go_num, heap_setCell_same V1 u 2 _ _ (.slice qa' (i + 1) qc') HY1.out, own_other HO2.out ⟨u, 2, none⟩ (by simp) _, HBW.out.setCell (by simp; omega) _, by simp; omega⟩
              · skip
                have pI : (0 : Int) < (p : Int) := by omega
                have pn : ¬ p = 0 := hp0
                have pn1 : ¬ (p : Int) = -1 := by omega
                have pz : ((p : Int) == 0) = false := by rw [beq_eq_false_iff_ne]; omega
                have hne : hl ≠ [] := fun e => hp0 (by rw [HPL.out, e]; rfl)
                obtain ⟨_, a', cap', e, h2⟩ := H4.out
                injection e with e1 e2 e3
                obtain ⟨lb, lo, e4, hcl⟩ := h2 hne
                have hkl : N % hl.length < hl.length := Nat.mod_lt _ (List.length_pos_iff.2 hne)
                have e0 := (hcl _ hkl).1
                have ebd := (hcl _ hkl).2
                have hy2 : 100 + hl.getD (N % hl.length) 0 % 8800 = hh := by rw [← hhh]; unfold highT; rw [if_neg hne]
                obtain ⟨yh, hyh⟩ : ∃ y, hl.getD (N % hl.length) 0 = y := ⟨_, rfl⟩
                rw [hyh] at e0 hy2 ebd
                subst e4
                subst e1
                rw [← HPL.out] at e0 hkl
                have em : (N : Int).tmod (p : Int) = ((N % p : Nat) : Int) := tmod_nat N p
                obtain ⟨kp, hkp⟩ : ∃ z, N % p = z := ⟨_, rfl⟩
                rw [hkp] at e0 hkl em
                have kpI : (kp : Int) < (p : Int) := by omega
                have s64 : IntKind.i64.wrap yh = yh := by rw [IntKind.wrap_i64] <;> omega
                obtain ⟨rh, hrh⟩ : ∃ y, yh % 8800 = y := ⟨_, rfl⟩
                have emh : yh.tmod 8800 = rh := by rw [← hrh]; exact Int.tmod_eq_emod_of_nonneg ebd.1
                rw [hrh] at hy2
                have srh : IntKind.i64.wrap rh = rh := by rw [IntKind.wrap_i64] <;> omega
                have shh : IntKind.i64.wrap (100 + rh) = hh := by rw [IntKind.wrap_i64] <;> omega
                clear hhh hyh hcl h2 hne e2 e3 hkp hy2 hrh ebd
                go_wp2_with fail
                go_quiet (fail)
                clear e0 em s64 emh srh shh
                obtain ⟨wq, hwq⟩ : ∃ V, wr.drewN nq = V := ⟨_, rfl⟩
                rw [hwq]
                have HBQ : Hid (Below wr.heap.size wr wq) := by show Below _ _ _; rw [← hwq]; exact ⟨rfl, rfl, rfl, Nat.le_refl _, fun _ _ => rfl⟩
                have OQ : Hid (wq.ownsRow (u + 1) 74 2 (.slice qa i qc) i (flatP (T.take i))) := own_below OP.out HBQ.out
                have YQ := Lib.hid ((HBQ.out.block _ (lt_of_block HY.out)).trans HY.out)
                have XQ := Lib.hid ((HBQ.out.block _ (lt_of_block X4.out)).trans X4.out)
                have HLQ := Lib.hid (HLI.out.trans (HBQ.out.mono HLI.out.size))
                have huq : u < wq.heap.size := lt_of_block YQ.out
                clear hwq c2 cl d2 x1 x2 xl OP HY X4 HLI R4 H4
                have x1 := cellOf XQ.out 1 _ rfl
                have xl := lt_of_block XQ.out
                go_wp2_with fail
                refine (HT1.out wq HBQ.out).mono ?_
                rintro e wz ⟨rfl, rfl⟩
                go_wp2_with fail
                refine (HT2.out wq HBQ.out).mono ?_
                rintro e wz ⟨rfl, rfl⟩
                clear HT1 HT2
                have a0 := keepK A0.out HLQ.out
                have a1 := keepK A1.out HLQ.out
                have y0c := cellOf YQ.out 0 _ rfl
                have y1c := cellOf YQ.out 1 _ rfl
                have y2c := cellOf YQ.out 2 _ rfl
                have huv : u + 1 ≤ wq.heap.size := huq
                have abl : ab < u := by have h : ab < wo.heap.size := World.block_lt_of_cell? _ _ A0.out; omega
                clear x1 xl
                try clear x2 c2 cl d2
                go_wp2_with fail
                have KA : ∀ W' : World, Below (u + 1) wq W' → (W'.cell? ⟨u, 0, none⟩ = some (.int .i64 (ia : Int)) ∧ W'.cell? ⟨u, 1, none⟩ = some (.int .i64 (ib : Int)) ∧ W'.cell? ⟨u, 2, none⟩ = some (.slice qa i qc) ∧ W'.cell? ⟨ab, ao + ia, none⟩ = some (.int .i64 va) ∧ W'.cell? ⟨ab, ao + ib, none⟩ = some (.int .i64 vb) ∧ Below (u + 1) wq W') := fun W' hb => ⟨keepT y0c hb (by omega), keepT y1c hb (by omega), keepT y2c hb (by omega), keepT a0 hb (by omega), keepT a1 hb (by omega), hb⟩
                refine wp_region_noPanic ?_
                refine wp_region_last (S := (fun W' : World => W'.cell? ⟨u, 0, none⟩ = some (.int .i64 (ia : Int)) ∧ W'.cell? ⟨u, 1, none⟩ = some (.int .i64 (ib : Int)) ∧ W'.cell? ⟨u, 2, none⟩ = some (.slice qa i qc) ∧ W'.cell? ⟨ab, ao + ia, none⟩ = some (.int .i64 va) ∧ W'.cell? ⟨ab, ao + ib, none⟩ = some (.int .i64 vb) ∧ Below (u + 1) wq W')) 24 (by kernel_rfl) (by decide) (fun inv0 => ?_)
                have hh0 := KA _ (Below.refl _ _).drew
                refine wpAnyZ_take (i := 0) (v := ?_) rfl (Lib.hid ⟨by as_aux_lemma => kernel_rfl, by as_aux_lemma => kernel_rfl, by as_aux_lemma => kernel_rfl, rfl⟩) (by decide) inv0 (by as_aux_lemma => kernel_rfl) (by as_aux_lemma => kernel_rfl) (fun _ _ _ h => h) (Or.inl ⟨by rfl, ?_⟩) hh0 (fun inv1 => ?_)
                rotate_left
                · intro w hSw
                  try dsimp only at hSw
                  go_simp
                  try with_reducible rfl
                clear inv0
                try simp only [Act.put, List.getElem_toArray, List.getElem_cons_succ, List.getElem_cons_zero, List.setIfInBounds_toArray, List.set_cons_zero, List.set_cons_succ]
                refine wpAnyZ_take (i := 1) (v := ?_) rfl (Lib.hid ⟨by as_aux_lemma => kernel_rfl, by as_aux_lemma => kernel_rfl, by as_aux_lemma => kernel_rfl, rfl⟩) (by decide) inv1 (by as_aux_lemma => kernel_rfl) (by as_aux_lemma => kernel_rfl) (fun _ _ _ h => h) (Or.inl ⟨by rfl, ?_⟩) hh0 (fun inv2 => ?_)
                rotate_left
                · intro w hSw
                  try dsimp only at hSw
                  go_simp
                  try with_reducible rfl
                clear inv1
                try simp only [Act.put, List.getElem_toArray, List.getElem_cons_succ, List.getElem_cons_zero, List.setIfInBounds_toArray, List.set_cons_zero, List.set_cons_succ]
                refine wpAnyZ_take (i := 2) (v := ?_) rfl (Lib.hid ⟨by as_aux_lemma => kernel_rfl, by as_aux_lemma => kernel_rfl, by as_aux_lemma => kernel_rfl, rfl⟩) (by decide) inv2 (by as_aux_lemma => kernel_rfl) (by as_aux_lemma => kernel_rfl) (fun _ _ _ h => h) (Or.inl ⟨by rfl, ?_⟩) hh0 (fun inv3 => ?_)
                rotate_left
                · intro w hSw
                  try dsimp only at hSw
                  go_simp
                  try with_reducible rfl
                clear inv2
                try simp only [Act.put, List.getElem_toArray, List.getElem_cons_succ, List.getElem_cons_zero, List.setIfInBounds_toArray, List.set_cons_zero, List.set_cons_succ]
                refine wpAnyZ_take (i := 3) (v := ?_) rfl (Lib.hid ⟨by as_aux_lemma => kernel_rfl, by as_aux_lemma => kernel_rfl, by as_aux_lemma => kernel_rfl, rfl⟩) (by decide) inv3 (by as_aux_lemma => kernel_rfl) (by as_aux_lemma => kernel_rfl) (fun _ _ _ h => h) (Or.inl ⟨by rfl, ?_⟩) hh0 (fun inv4 => ?_)
                rotate_left
                · intro w hSw
                  try dsimp only at hSw
                  go_simp
                  try with_reducible rfl
                clear inv3
                try simp only [Act.put, List.getElem_toArray, List.getElem_cons_succ, List.getElem_cons_zero, List.setIfInBounds_toArray, List.set_cons_zero, List.set_cons_succ]
                refine wpAnyZ_take (i := 4) (v := ?_) rfl (Lib.hid ⟨by as_aux_lemma => kernel_rfl, by as_aux_lemma => kernel_rfl, by as_aux_lemma => kernel_rfl, rfl⟩) (by decide) inv4 (by as_aux_lemma => kernel_rfl) (by as_aux_lemma => kernel_rfl) (fun _ _ _ h => h) (Or.inl ⟨by rfl, ?_⟩) hh0 (fun inv5 => ?_)
                rotate_left
                · intro w hSw
                  try dsimp only at hSw
                  go_simp
                  try with_reducible rfl
                clear inv4
                try simp only [Act.put, List.getElem_toArray, List.getElem_cons_succ, List.getElem_cons_zero, List.setIfInBounds_toArray, List.set_cons_zero, List.set_cons_succ]
                refine wpAnyZ_take (i := 5) (v := ?_) rfl (Lib.hid ⟨by as_aux_lemma => kernel_rfl, by as_aux_lemma => kernel_rfl, by as_aux_lemma => kernel_rfl, rfl⟩) (by decide) inv5 (by as_aux_lemma => kernel_rfl) (by as_aux_lemma => kernel_rfl) (fun _ _ _ h => h) (Or.inl ⟨by rfl, ?_⟩) hh0 (fun inv6 => ?_)
                rotate_left
                · intro w hSw
                  try dsimp only at hSw
                  go_simp
                  try with_reducible rfl
                clear inv5
                try simp only [Act.put, List.getElem_toArray, List.getElem_cons_succ, List.getElem_cons_zero, List.setIfInBounds_toArray, List.set_cons_zero, List.set_cons_succ]
                refine wpAnyZ_take (i := 6) (v := ?_) rfl (Lib.hid ⟨by as_aux_lemma => kernel_rfl, by as_aux_lemma => kernel_rfl, by as_aux_lemma => kernel_rfl, rfl⟩) (by decide) inv6 (by as_aux_lemma => kernel_rfl) (by as_aux_lemma => kernel_rfl) (fun _ _ _ h => h) (Or.inl ⟨by rfl, ?_⟩) hh0 (fun inv7 => ?_)
                rotate_left
                · intro w hSw
                  try dsimp only at hSw
                  go_simp
                  try with_reducible rfl
                clear inv6
                try simp only [Act.put, List.getElem_toArray, List.getElem_cons_succ, List.getElem_cons_zero, List.setIfInBounds_toArray, List.set_cons_zero, List.set_cons_succ]
                refine wpAnyZ_take (i := 7) (v := ?_) rfl (Lib.hid ⟨by as_aux_lemma => kernel_rfl, by as_aux_lemma => kernel_rfl, by as_aux_lemma => kernel_rfl, rfl⟩) (by decide) inv7 (by as_aux_lemma => kernel_rfl) (by as_aux_lemma => kernel_rfl) (fun _ _ _ h => h) (Or.inl ⟨by rfl, ?_⟩) hh0 (fun inv8 => ?_)
                rotate_left
                · intro w hSw
                  try dsimp only at hSw
                  go_simp
                  try with_reducible rfl
                clear inv7
                try simp only [Act.put, List.getElem_toArray, List.getElem_cons_succ, List.getElem_cons_zero, List.setIfInBounds_toArray, List.set_cons_zero, List.set_cons_succ]
                refine wpAnyZ_take (i := 8) (v := ?_) rfl (Lib.hid ⟨by as_aux_lemma => kernel_rfl, by as_aux_lemma => kernel_rfl, by as_aux_lemma => kernel_rfl, rfl⟩) (by decide) inv8 (by as_aux_lemma => kernel_rfl) (by as_aux_lemma => kernel_rfl) (fun _ _ _ h => h) (Or.inl ⟨by rfl, ?_⟩) hh0 (fun inv9 => ?_)
                rotate_left
                · intro w hSw
                  try dsimp only at hSw
                  go_simp
                  try with_reducible rfl
                clear inv8
                try simp only [Act.put, List.getElem_toArray, List.getElem_cons_succ, List.getElem_cons_zero, List.setIfInBounds_toArray, List.set_cons_zero, List.set_cons_succ]
                refine wpAnyZ_take (i := 9) (v := ?_) rfl (Lib.hid ⟨by as_aux_lemma => kernel_rfl, by as_aux_lemma => kernel_rfl, by as_aux_lemma => kernel_rfl, rfl⟩) (by decide) inv9 (by as_aux_lemma => kernel_rfl) (by as_aux_lemma => kernel_rfl) (fun _ _ _ h => h) (Or.inl ⟨by rfl, ?_⟩) hh0 (fun inv10 => ?_)
                rotate_left
                · intro w hSw
                  try dsimp only at hSw
                  go_simp
                  try with_reducible rfl
                clear inv9
                try simp only [Act.put, List.getElem_toArray, List.getElem_cons_succ, List.getElem_cons_zero, List.setIfInBounds_toArray, List.set_cons_zero, List.set_cons_succ]
                refine wpAnyZ_take (i := 10) (v := ?_) rfl (Lib.hid ⟨by as_aux_lemma => kernel_rfl, by as_aux_lemma => kernel_rfl, by as_aux_lemma => kernel_rfl, rfl⟩) (by decide) inv10 (by as_aux_lemma => kernel_rfl) (by as_aux_lemma => kernel_rfl) (fun _ _ _ h => h) (Or.inl ⟨by rfl, ?_⟩) hh0 (fun inv11 => ?_)
                rotate_left
                · intro w hSw
                  try dsimp only at hSw
                  go_simp
                  try with_reducible rfl
                clear inv10
                try simp only [Act.put, List.getElem_toArray, List.getElem_cons_succ, List.getElem_cons_zero, List.setIfInBounds_toArray, List.set_cons_zero, List.set_cons_succ]
                refine wpAnyZ_take (i := 11) (v := ?_) rfl (Lib.hid ⟨by as_aux_lemma => kernel_rfl, by as_aux_lemma => kernel_rfl, by as_aux_lemma => kernel_rfl, rfl⟩) (by decide) inv11 (by as_aux_lemma => kernel_rfl) (by as_aux_lemma => kernel_rfl) (fun _ _ _ h => h) (Or.inl ⟨by rfl, ?_⟩) hh0 (fun inv12 => ?_)
                rotate_left
                · intro w hSw
                  try dsimp only at hSw
                  go_simp
                  try with_reducible rfl
                clear inv11
                try simp only [Act.put, List.getElem_toArray, List.getElem_cons_succ, List.getElem_cons_zero, List.setIfInBounds_toArray, List.set_cons_zero, List.set_cons_succ]
                refine wpAnyZ_take (i := 12) (v := ?_) rfl (Lib.hid ⟨by as_aux_lemma => kernel_rfl, by as_aux_lemma => kernel_rfl, by as_aux_lemma => kernel_rfl, rfl⟩) (by decide) inv12 (by as_aux_lemma => kernel_rfl) (by as_aux_lemma => kernel_rfl) (fun _ _ _ h => h) (Or.inl ⟨by rfl, ?_⟩) hh0 (fun inv13 => ?_)
                rotate_left
                · intro w hSw
                  try dsimp only at hSw
                  go_simp
                  try with_reducible rfl
                clear inv12
                try simp only [Act.put, List.getElem_toArray, List.getElem_cons_succ, List.getElem_cons_zero, List.setIfInBounds_toArray, List.set_cons_zero, List.set_cons_succ]
                refine wpAnyZ_take (i := 13) (v := ?_) rfl (Lib.hid ⟨by as_aux_lemma => kernel_rfl, by as_aux_lemma => kernel_rfl, by as_aux_lemma => kernel_rfl, rfl⟩) (by decide) inv13 (by as_aux_lemma => kernel_rfl) (by as_aux_lemma => kernel_rfl) (fun _ _ _ h => h) (Or.inl ⟨by rfl, ?_⟩) hh0 (fun inv14 => ?_)
                rotate_left
                · intro w hSw
                  try dsimp only at hSw
                  go_simp
                  try with_reducible rfl
                clear inv13
                try simp only [Act.put, List.getElem_toArray, List.getElem_cons_succ, List.getElem_cons_zero, List.setIfInBounds_toArray, List.set_cons_zero, List.set_cons_succ]
                refine wpAnyZ_take (i := 14) (v := ?_) rfl (Lib.hid ⟨by as_aux_lemma => kernel_rfl, by as_aux_lemma => kernel_rfl, by as_aux_lemma => kernel_rfl, rfl⟩) (by decide) inv14 (by as_aux_lemma => kernel_rfl) (by as_aux_lemma => kernel_rfl) (fun _ _ _ h => h) (Or.inl ⟨by rfl, ?_⟩) hh0 (fun inv15 => ?_)
                rotate_left
                · intro w hSw
                  try dsimp only at hSw
                  go_simp
                  try with_reducible rfl
                clear inv14
                try simp only [Act.put, List.getElem_toArray, List.getElem_cons_succ, List.getElem_cons_zero, List.setIfInBounds_toArray, List.set_cons_zero, List.set_cons_succ]
                refine wpAnyZ_take (i := 15) (v := ?_) rfl (Lib.hid ⟨by as_aux_lemma => kernel_rfl, by as_aux_lemma => kernel_rfl, by as_aux_lemma => kernel_rfl, rfl⟩) (by decide) inv15 (by as_aux_lemma => kernel_rfl) (by as_aux_lemma => kernel_rfl) (fun _ _ _ h => h) (Or.inl ⟨by rfl, ?_⟩) hh0 (fun inv16 => ?_)
                rotate_left
                · intro w hSw
                  try dsimp only at hSw
                  go_simp
                  try with_reducible rfl
                clear inv15
                try simp only [Act.put, List.getElem_toArray, List.getElem_cons_succ, List.getElem_cons_zero, List.setIfInBounds_toArray, List.set_cons_zero, List.set_cons_succ]
                refine wpAnyZ_take (i := 16) (v := ?_) rfl (Lib.hid ⟨by as_aux_lemma => kernel_rfl, by as_aux_lemma => kernel_rfl, by as_aux_lemma => kernel_rfl, rfl⟩) (by decide) inv16 (by as_aux_lemma => kernel_rfl) (by as_aux_lemma => kernel_rfl) (fun _ _ _ h => h) (Or.inl ⟨by rfl, ?_⟩) hh0 (fun inv17 => ?_)
                rotate_left
                · intro w hSw
                  try dsimp only at hSw
                  go_simp
                  try with_reducible rfl
                clear inv16
                try simp only [Act.put, List.getElem_toArray, List.getElem_cons_succ, List.getElem_cons_zero, List.setIfInBounds_toArray, List.set_cons_zero, List.set_cons_succ]
                refine wpAnyZ_take (i := 17) (v := ?_) rfl (Lib.hid ⟨by as_aux_lemma => kernel_rfl, by as_aux_lemma => kernel_rfl, by as_aux_lemma => kernel_rfl, rfl⟩) (by decide) inv17 (by as_aux_lemma => kernel_rfl) (by as_aux_lemma => kernel_rfl) (fun _ _ _ h => h) (Or.inl ⟨by rfl, ?_⟩) hh0 (fun inv18 => ?_)
                rotate_left
                · intro w hSw
                  try dsimp only at hSw
                  go_simp
                  try with_reducible rfl
                clear inv17
                try simp only [Act.put, List.getElem_toArray, List.getElem_cons_succ, List.getElem_cons_zero, List.setIfInBounds_toArray, List.set_cons_zero, List.set_cons_succ]
                refine wpAnyZ_take (i := 18) (v := ?_) rfl (Lib.hid ⟨by as_aux_lemma => kernel_rfl, by as_aux_lemma => kernel_rfl, by as_aux_lemma => kernel_rfl, rfl⟩) (by decide) inv18 (by as_aux_lemma => kernel_rfl) (by as_aux_lemma => kernel_rfl) (fun _ _ _ h => h) (Or.inl ⟨by rfl, ?_⟩) hh0 (fun inv19 => ?_)
                rotate_left
                · intro w hSw
                  try dsimp only at hSw
                  go_simp
                  try with_reducible rfl
                clear inv18
                try simp only [Act.put, List.getElem_toArray, List.getElem_cons_succ, List.getElem_cons_zero, List.setIfInBounds_toArray, List.set_cons_zero, List.set_cons_succ]
                refine wpAnyZ_take (i := 19) (v := ?_) rfl (Lib.hid ⟨by as_aux_lemma => kernel_rfl, by as_aux_lemma => kernel_rfl, by as_aux_lemma => kernel_rfl, rfl⟩) (by decide) inv19 (by as_aux_lemma => kernel_rfl) (by as_aux_lemma => kernel_rfl) (fun _ _ _ h => h) (Or.inl ⟨by rfl, ?_⟩) hh0 (fun inv20 => ?_)
                rotate_left
                · intro w hSw
                  try dsimp only at hSw
                  go_simp
                  try with_reducible rfl
                clear inv19
                try simp only [Act.put, List.getElem_toArray, List.getElem_cons_succ, List.getElem_cons_zero, List.setIfInBounds_toArray, List.set_cons_zero, List.set_cons_succ]
                refine wpAnyZ_take (i := 20) (v := ?_) rfl (Lib.hid ⟨by as_aux_lemma => kernel_rfl, by as_aux_lemma => kernel_rfl, by as_aux_lemma => kernel_rfl, rfl⟩) (by decide) inv20 (by as_aux_lemma => kernel_rfl) (by as_aux_lemma => kernel_rfl) (fun _ _ _ h => h) (Or.inl ⟨by rfl, ?_⟩) hh0 (fun inv21 => ?_)
                rotate_left
                · intro w hSw
                  try dsimp only at hSw
                  go_simp
                  try with_reducible rfl
                clear inv20
                try simp only [Act.put, List.getElem_toArray, List.getElem_cons_succ, List.getElem_cons_zero, List.setIfInBounds_toArray, List.set_cons_zero, List.set_cons_succ]
                refine wpAnyZ_all (rs := [21]) (by as_aux_lemma => kernel_rfl) (by simp) ?_
                intro i hi
                obtain rfl : i = 21 := by simpa using hi
                refine step_Z rfl (fun K hK => ?_)
                go_simp
                have hh1 := KA _ (((Below.refl (u + 1) wq).drew).alloc (show u + 1 ≤ wq.drew.heap.size from huv) (Obj.cells #[.int .i64 px, .int .i64 py] 74))
                refine hK.out _ _ (fun _ => hh1) ?_
                have inv22 := hinv_set inv21 (by as_aux_lemma => kernel_rfl) (by decide : 21 < 24)
                clear hK K hh0 inv21
                try simp only [Act.put, List.getElem_toArray, List.getElem_cons_succ, List.getElem_cons_zero, List.setIfInBounds_toArray, List.set_cons_zero, List.set_cons_succ]
                refine wpAnyZ_all (rs := [22]) (by as_aux_lemma => kernel_rfl) (by simp) ?_
                intro i hi
                obtain rfl : i = 22 := by simpa using hi
                refine step_Z rfl (fun K hK => ?_)
                refine step_app (by rfl) _ _ 69 74 (by rfl) i0 (.agg #[.int .i64 0, .int .i64 0]) 2 16 Try.underlying69 hi0 HI0.out.1 HI0.out.2.1 HI0.out.2.2 rfl (by decide) (u + 1) i _ _ ⟨wq.heap.size, 0, none⟩ 1 1 [.int .i64 px, .int .i64 py] (by rfl) (by rfl) (OQ.out.drew.alloc (Obj.cells #[.int .i64 px, .int .i64 py] 74)) rfl ?pa1 ?pa2 (by simp; omega) (by unfold maxLen; omega) (by omega) ?_
                case pa1 =>
                  intro j' u' hj'
                  match j', hj' with
                  | 0, hj' => simp at hj'; subst hj'; exact cellOf (heap_alloc_new wq.drew (Obj.cells #[.int .i64 px, .int .i64 py] 74)) 0 _ rfl
                  | 1, hj' => simp at hj'; subst hj'; exact cellOf (heap_alloc_new wq.drew (Obj.cells #[.int .i64 px, .int .i64 py] 74)) 1 _ rfl
                  | j' + 2, hj' => simp at hj'
                case pa2 =>
                  intro u' hu'
                  simp at hu'
                  rcases hu' with rfl | rfl <;> rfl
                intro v1 V1 ho1 hg1 hl1 _
                have HB1 := Lib.hid ((((Below.refl (u + 1) wq).drew).alloc (show u + 1 ≤ wq.drew.heap.size from huv) (Obj.cells #[.int .i64 px, .int .i64 py] 74)).grown hg1 (by simp; omega) (fun q hq => (hl1 q hq).1))
                have HY1 := Lib.hid ((HB1.out.block u (by omega)).trans YQ.out)
                have ho2 : V1.ownsRow (u + 1) 74 2 v1 (i + 1) (flatP (T.take (i + 1))) := by
                  rw [HTX2.out, flatP_append]
                  exact ho1
                obtain ⟨qa', qc', rfl⟩ := own_slice ho2
                have HO2 := Lib.hid ho2
                clear ho1 hg1 hl1 ho2
                have hh2 := KA _ HB1.out
                refine hK.out _ _ (fun _ => hh2) ?_
                have inv23 := hinv_set inv22 (by as_aux_lemma => kernel_rfl) (by decide : 22 < 24)
                clear hK K hh1 inv22
                try simp only [Act.put, List.getElem_toArray, List.getElem_cons_succ, List.getElem_cons_zero, List.setIfInBounds_toArray, List.set_cons_zero, List.set_cons_succ]
                refine wpAnyZ_take (i := 23) (v := ?_) rfl (Lib.hid ⟨by as_aux_lemma => kernel_rfl, by as_aux_lemma => kernel_rfl, by as_aux_lemma => kernel_rfl, rfl⟩) (by decide) inv23 (by as_aux_lemma => kernel_rfl) (by as_aux_lemma => kernel_rfl) (fun _ _ _ h => h) (Or.inl ⟨by rfl, ?_⟩) hh2 (fun inv24 => ?_)
                rotate_left
                · intro w hSw
                  try dsimp only at hSw
                  go_simp
                  try with_reducible rfl
                clear inv23
                try simp only [Act.put, List.getElem_toArray, List.getElem_cons_succ, List.getElem_cons_zero, List.setIfInBounds_toArray, List.set_cons_zero, List.set_cons_succ]
                refine wpAnyZ_all (rs := [24]) (by as_aux_lemma => kernel_rfl) (by simp) ?_
                intro i hi
                obtain rfl : i = 24 := by simpa using hi
                refine step_Z rfl (fun K hK => ?_)
                have y2f := frozen_of_row _ _ 2 _ _ HY1.out
                go_simp
                refine hK.out _ _ (fun h => absurd rfl h) ?_
                clear hK K
                try simp only [Act.put, List.getElem_toArray, List.getElem_cons_succ, List.getElem_cons_zero, List.setIfInBounds_toArray, List.set_cons_zero, List.set_cons_succ]
                refine wpAnyZ_done (by as_aux_lemma => kernel_rfl) ?_ _
                refine NoPanic.normal ?_
                have hz1 := HB1.out.size
                have HBW := Lib.hid (HLQ.out.trans (HB1.out.mono (by omega)))
                clear KA a0 a1 y0c y1c y2c y2f YQ OQ HLQ HB1
                go_wp2_with fail
                go_roundg (gk - 1)
                case measure => omega
                case rel => exact ⟨i + 1, qa', qc', by omega, by go_num, by rw [show n0 + (i + 1) = N + 1 by have := HNN.out; omega]; go_num, heap_setCell_same V1 u 2 _ _ (.slice qa' (i + 1) qc') HY1.out, own_other HO2.out ⟨u, 2, none⟩ (by simp) _, HBW.out.setCell (by simp; omega) _, by simp; omega⟩
            · obtain rfl : i = np := by omega
              have iI : ¬ (i : Int) < (i : Int) := by omega
              have HTA : Hid (T.take i = T) := by show _ = _; rw [List.take_of_length_le]; rw [HTL.out]; exact Nat.le_refl _
              have OW := HOW.out.below HLI.out
              have hba : Below wr.heap.size wr (wr.alloc (Obj.cells #[.int .i64 (ia : Int), .int .i64 (ib : Int), .slice qa i qc] 71)) := (Below.refl _ _).alloc (Nat.le_refl _) _
              have OWA := Lib.hid (OW.below hba)
              have hownA := OWA.out.row
              have OPA : Hid ((wr.alloc (Obj.cells #[.int .i64 (ia : Int), .int .i64 (ib : Int), .slice qa i qc] 71)).ownsRow w2.heap.size 74 2 (.slice qa i qc) (RC.getD q default).pts.length (flatP (RC.getD q default).pts)) := by
                show World.ownsRow _ _ _ _ _ _ _
                rw [HRT.out]
                simp only
                rw [HTL.out, ← HTA.out]
                exact own_base (OP.out.alloc _) (by omega)
              have PB := Lib.hid ((HL2.out.trans (HLI.out.mono HL2.out.size)).trans (hba.mono (by have := HLI.out.size; omega)))
              have HKN := Lib.hid (cells3_new wr 71 (.int .i64 (ia : Int)) (.int .i64 (ib : Int)) (.slice qa i qc))
              have y0c := cellOf HY.out 0 _ rfl
              have y1c := cellOf HY.out 1 _ rfl
              have y2c := cellOf HY.out 2 _ rfl
              have HWS : w2.heap.size ≤ wr.heap.size := by have := HLI.out.size; omega
              have qI8 : (q : Int) < 8 := by omega
              have hq8 : q < 8 := by omega
              clear hba OW hin hi
              go_wp2_with (at_builtin; refine wpList_append_own _ rfl _ _ 23 rfl w2.heap.size 71 i1 (.agg #[.int .i64 0, .int .i64 0, .slice none 0 0]) 3 40 Try.underlying23 hi1 HI1.out.1 HI1.out.2.1 HI1.out.2.2 rfl (by decide) _ _ _ rfl hownA ⟨wr.heap.size, 0, none⟩ 1 1 [.int .i64 (ia : Int), .int .i64 (ib : Int), .slice qa i qc] rfl rfl HKN.out (by intro u hu; simp at hu; rcases hu with rfl | rfl | rfl <;> rfl) (by unfold maxLen; omega) (by omega) (by simp; omega) ?_)
              intro v' w3 hown3 hgrow _
              have hB3 := Lib.hid (PB.out.grown hgrow PB.out.size (fun g hg => (hownA.lt g hg).1))
              obtain ⟨la', lc', rfl⟩ := own_slice hown3
              have HN3 : Hid (EdOwn w2.heap.size w3 (.slice la' (q + 1) lc') RC (q + 1) (fun j => if j = q then .slice qa i qc else P j)) := OWA.out.next OPA.out hgrow (by rw [HRT.out]; exact hown3)
              clear hown3 hgrow hownA OWA OPA PB HKN OP HY c2 cl d2 y0c y1c y2c iI
              go_wp2
              go_roundg gk2
              case measure => omega
              case rel => exact ⟨q + 1, la', lc', _, by omega, by go_num, rfl, by rw [HOFS.out]; go_num, HN3, hB3⟩
        · obtain rfl : q = m := by omega
          have qI : ¬ (q : Int) < (q : Int) := by omega
          have Q3 := Lib.hid ((HL2.out.block _ (lt_of_block Q2.out)).trans Q2.out)
          have q0 : wr.cell? ⟨u3, 0, none⟩ = some (.int .i64 0) := cellOf Q3.out 0 _ rfl
          have q1 : wr.cell? ⟨u3, 1, none⟩ = some (.slice none 0 0) := cellOf Q3.out 1 _ rfl
          have q2 : wr.cell? ⟨u3, 2, none⟩ = some (.slice none 0 0) := cellOf Q3.out 2 _ rfl
          have ql := lt_of_block Q3.out
          have f0 := frozen_of_row _ _ 0 _ _ Q3.out
          have f1 := frozen_of_row _ _ 1 _ _ Q3.out
          have f2 := frozen_of_row _ _ 2 _ _ Q3.out
          have g2 := frozen_of_row _ _ 2 _ _ R3.out
          have hz1 := HL.out.size
          obtain ⟨n9, hn9⟩ : ∃ z, offK c.eds q = z := ⟨_, rfl⟩
          rw [hn9]
          clear hqm hq hn9
          go_upto_region 26 with fail
          iterate 16 go_step
          have hA := ((((HOW.out.other ⟨w.heap.size, 2, none⟩ (by simp; omega) (.slice na q nc)).other ⟨u3, 0, none⟩ (by simp; omega) (.int .i64 tol)).other ⟨u3, 1, none⟩ (by simp; omega) (.slice sa k sc)).other ⟨u3, 2, none⟩ (by simp; omega) (.slice na q nc))
          have hbk := own_other (own_other (own_other (own_other (own_below HBK.out HL2.out) ⟨w.heap.size, 2, none⟩ (by simp; omega) (.slice na q nc)) ⟨u3, 0, none⟩ (by simp; omega) (.int .i64 tol)) ⟨u3, 1, none⟩ (by simp; omega) (.slice sa k sc)) ⟨u3, 2, none⟩ (by simp; omega) (.slice na q nc)
          have hbf := put3_below (g := u3) (a := .int .i64 tol) (b := .slice sa k sc) (c := .slice na q nc) ((B2.out.trans (HL2.out.mono B2.out.size)).setCell (p := ⟨w.heap.size, 2, none⟩) (Nat.le_refl _) (.slice na q nc)) (by omega)
          have hres := put3_at (V := wr.setCell ⟨w.heap.size, 2, none⟩ (.slice na q nc)) (g := u3) (a := .int .i64 tol) (b := .slice sa k sc) (c := .slice na q nc) ((heap_setCell_other wr ⟨w.heap.size, 2, none⟩ (u3) _ (by simp; omega)).trans Q3.out)
          have hk2 := HRL.out
          have hnl : (negs A).length = k := by unfold negs; rw [List.length_map, HNA.out]
          go_step
          refine bodyPost_ret (case_result2 rfl _ _ (u3) _ _ _ rfl hres) rfl ⟨_, _, rfl, ⟨?_, ?_⟩, intsAt_own (by rw [hnl]; exact hbk) (by rw [hnl]; omega), hbf⟩
          · exact HSH.out.below hbf
          · show EdgsAt _ _ (toldT c sl ol hl).eds
            rw [HRC.out]
            subst hk2
            refine EdOwn.at hA (by have := HRL.out; omega) fun d hd => ?_
            obtain ⟨j, hj, rfl⟩ := List.mem_iff_getElem.1 hd
            have hg := HRG.out j hj
            rw [getD_lt _ _ hj] at hg
            rw [hg]
            have hjc : j < c.eds.length := by rw [HM.out]; exact hj
            rw [getD_lt _ _ hjc]
            have := (HV.out.ed _ (List.getElem_mem hjc)).p4
            simp only [toldE, List.length_map, List.length_range]
            omega
end Go.Proofs.Ythhlakodnpopmaa
namespace Go.Proofs.Ythhlakodnpopmaa
open Go Go.RowKit Go.Shelf Ed Go.ChangeShapes Go.WideShapes Go.Deep Go.Joins

theorem cellsU16 : Try.prog.cellsOf 78 = 1 := by kernel_rfl
theorem bytesU16 : Try.prog.bytesOf 78 = 2 := by kernel_rfl
theorem cellsShown : Try.prog.cellsOf 61 = 3 := by kernel_rfl
theorem cellsU8s : Try.prog.cellsOf 47 = 1 := by kernel_rfl
section
variable {H : Type} {enc : TypeId × Value → H} {W : World} {sp : Nat → Bool} {base : Nat} {v : Value} {d : DataW H} {p : List MemPlace}
set_option maxRecDepth 100000 in
theorem reads_u8s {n : Nat} {y : DataW H × List MemPlace} (h : DataW.trod enc Try.prog W 0 sp true n 47 [v] = some y) (hw : ∀ x ∈ y.1.weights Try.prog 47, x ≤ reachBytes) :
    ∃ l : List Nat, U8At W v l := by
  rcases open_slice1 Try.underlying47 cellsU8 h with ⟨hcs, _⟩ | ⟨a, len, cap, m, n', V, D, Pl, hcs, _, hl, hm, hmm, hx, hel⟩
  · simp only [List.cons.injEq, and_true] at hcs
    subst hcs
    exact ⟨[], by simp, none, 0, rfl, fun h => absurd rfl h⟩
  · simp only [List.cons.injEq, and_true] at hcs
    subst hcs
    have hlm : len ≤ m := by rw [hmm]; split <;> omega
    have hd : y.1 = .slice ((List.range len).map D) ((List.range (m - len)).map fun j => D (len + j)) := congrArg Prod.fst hx
    have hb : len * 1 ≤ reachBytes := by
      have := hw ((((List.range len).map D).length + ((List.range (m - len)).map fun j => D (len + j)).length) * 1) (by rw [hd]; simp [DataW.weights, Try.underlying47, bytesU8])
      simp only [List.length_map, List.length_range] at this
      omega
    have hr : reachBytes = 140737488351232 := rfl
    obtain ⟨f, hfl⟩ := choose_lt (α := Nat) (n := len) (p := fun i x => W.cell? (a.add i) = some (.int .u8 x) ∧ x ≤ 255) (fun i hi => by
      obtain ⟨h1, h2⟩ := hel i (by omega)
      obtain ⟨k, e, _, w⟩ := DataW.trod_int Try.underlying5 h2
      simp only [List.cons.injEq, and_true] at e
      have bd := bounds_u8 w
      refine ⟨k.toNat, ?_, by omega⟩
      rw [h1, e, Int.toNat_of_nonneg bd.1])
    refine ⟨(List.range len).map f, by simp; omega, some a, cap, by simp, fun hne => ?_⟩
    have h0 : 0 < len := by
      rcases Nat.eq_zero_or_pos len with h | h
      · subst h; exact absurd rfl hne
      · exact h
    obtain ⟨b, o, spot⟩ := a
    have hspot : spot = none := by simpa [Addr.add] using World.cell?_spot (hfl 0 h0).1
    subst hspot
    refine ⟨b, o, rfl, fun k hk => ?_⟩
    have hk' : k < len := by simpa using hk
    have hc := hfl k hk'
    rw [add_plain] at hc
    simpa [List.getD_eq_getElem?_getD, hk'] using hc
set_option maxRecDepth 100000 in
theorem reads_u16s {n : Nat} {y : DataW H × List MemPlace} (h : DataW.trod enc Try.prog W 0 sp true n 59 [v] = some y) (hw : ∀ x ∈ y.1.weights Try.prog 59, x ≤ reachBytes) :
    ∃ l : List Int, U16At W v l := by
  rcases open_slice1 Try.underlying59 cellsU16 h with ⟨hcs, _⟩ | ⟨a, len, cap, m, n', V, D, Pl, hcs, _, hl, hm, hmm, hx, hel⟩
  · simp only [List.cons.injEq, and_true] at hcs
    subst hcs
    exact ⟨[], by simp, none, 0, rfl, fun h => absurd rfl h⟩
  · simp only [List.cons.injEq, and_true] at hcs
    subst hcs
    have hlm : len ≤ m := by rw [hmm]; split <;> omega
    have hd : y.1 = .slice ((List.range len).map D) ((List.range (m - len)).map fun j => D (len + j)) := congrArg Prod.fst hx
    have hb : len * 2 ≤ reachBytes := by
      have := hw ((((List.range len).map D).length + ((List.range (m - len)).map fun j => D (len + j)).length) * 2) (by rw [hd]; simp [DataW.weights, Try.underlying59, bytesU16])
      simp only [List.length_map, List.length_range] at this
      omega
    have hr : reachBytes = 140737488351232 := rfl
    obtain ⟨f, hfl⟩ := choose_lt (α := Int) (n := len) (p := fun i x => W.cell? (a.add i) = some (.int .u16 x) ∧ 0 ≤ x ∧ x ≤ 65535) (fun i hi => by
      obtain ⟨h1, h2⟩ := hel i (by omega)
      obtain ⟨k, e, _, w⟩ := DataW.trod_int Try.underlying78 h2
      simp only [List.cons.injEq, and_true] at e
      have bd := bounds_u16 w
      exact ⟨k, by rw [h1, e], bd⟩)
    refine ⟨(List.range len).map f, by simp; omega, some a, cap, by simp, fun hne => ?_⟩
    have h0 : 0 < len := by
      rcases Nat.eq_zero_or_pos len with h | h
      · subst h; exact absurd rfl hne
      · exact h
    obtain ⟨b, o, spot⟩ := a
    have hspot : spot = none := by simpa [Addr.add] using World.cell?_spot (hfl 0 h0).1
    subst hspot
    refine ⟨b, o, rfl, fun k hk => ?_⟩
    have hk' : k < len := by simpa using hk
    have hc := hfl k hk'
    rw [add_plain] at hc
    simpa [List.getD_eq_getElem?_getD, hk'] using hc
set_option maxRecDepth 100000 in
/-- What is shown, as it came in. -/
theorem open_shown (hok : Value.okWide Try.prog W .any base 61 v) (h : DataW.Trod enc Try.prog W 0 sp true 61 v d p) (hw : ∀ x ∈ d.weights Try.prog 61, x ≤ reachBytes) :
    ∃ (l m : List Nat) (k : List Int) (u o hh : Value), v = .agg #[u, o, hh] ∧ U8At W u l ∧ U8At W o m ∧ U16At W hh k := by
  obtain ⟨v0, v1, v2, y0, y1, y2, n, rfl, rfl, rfl, h0, h1, h2⟩ := open_agg3 Try.underlying61 (by kernel_rfl) cellsShown hok h
  simp only [DataW.weights, Try.underlying61, DataW.weightsEach, List.map, List.mem_append] at hw
  obtain ⟨l, hl⟩ := reads_u8s h0 (fun x hx => hw x (Or.inl hx))
  obtain ⟨m, hm⟩ := reads_u8s h1 (fun x hx => hw x (Or.inr (Or.inl hx)))
  obtain ⟨k, hk⟩ := reads_u16s h2 (fun x hx => hw x (Or.inr (Or.inr (Or.inl hx))))
  exact ⟨l, m, k, v0, v1, v2, rfl, hl, hm, hk⟩
end
theorem toldT_facts (c : Cas) (h : errC c = 0) (sl ol : List Nat) (hl : List Int) (hh : ∀ n, 100 ≤ highT hl n ∧ highT hl n ≤ 8899) :
    errC (toldT c sl ol hl) = 0 ∧ (negs (anyC c sl)).length = (toldT c sl ol hl).shs.length ∧ Ag (sysA (toldT c sl ol hl)) (fun i => (negs (anyC c sl)).getD i 0) := by
  have hok := toldT_ok c (valid_of h) sl ol hl hh
  refine ⟨told_err c h _ _ _ _ _ hok, ?_, ?_⟩
  · unfold negs
    rw [List.length_map, anyC_length]
    rfl
  · have ha := told_ag c h _ _ _ _ _ hok
    have e : (fun i => (negs (anyC c sl)).getD i 0) = fun i => -((anyC c sl).getD i 0) := funext fun i => negs_get _ i
    rw [e]
    exact ha
set_option maxRecDepth 100000 in
set_option maxHeartbeats 16000000 in
theorem ltrue_any (c : Cas) (sv ev xv ov hv' : Value) (sl ol : List Nat) (hl : List Int) (w : World) (hC : CasAt w c sv ev) (hS : U8At w xv sl) (hO : U8At w ov ol) (hH : U16At w hv' hl) :
    Calls Try.prog 10 #[.agg #[.int .i64 c.tol, sv, ev], .agg #[xv, ov, hv']] w fun e w' => e = .returned (.bool true) ∧ Below w.heap.size w w' := by
  obtain ⟨sa, n, sc, rfl, hn⟩ : ∃ a n cc, sv = .slice a n cc ∧ n = c.shs.length := by obtain ⟨_, a, cap, h, _⟩ := hC.shs; exact ⟨_, _, _, h, rfl⟩
  obtain ⟨ea, m, ec, rfl⟩ : ∃ a n cc, ev = .slice a n cc := by obtain ⟨_, a, cap, h, _⟩ := hC.eds; exact ⟨_, _, _, h⟩
  obtain ⟨xa, xn, xc, rfl⟩ : ∃ a n cc, xv = .slice a n cc := by obtain ⟨_, a, cap, h, _⟩ := hS; exact ⟨_, _, _, h⟩
  obtain ⟨oa, on, oc, rfl⟩ : ∃ a n cc, ov = .slice a n cc := by obtain ⟨_, a, cap, h, _⟩ := hO; exact ⟨_, _, _, h⟩
  obtain ⟨ha, hq, hc, rfl⟩ : ∃ a n cc, hv' = .slice a n cc := by obtain ⟨_, a, cap, h, _⟩ := hH; exact ⟨_, _, _, h⟩
  obtain ⟨tol, htol⟩ : ∃ t, c.tol = t := ⟨_, rfl⟩
  have HTOL := Lib.hid htol
  have HN := Lib.hid hn
  have HHB := Lib.hid (highT_bd hH)
  obtain ⟨W, hW, q1, q2, hb, hsz⟩ := al2 w (Obj.cells #[.int .i64 tol, .slice sa n sc, .slice ea m ec] 25) (Obj.cells #[.slice xa xn xc, .slice oa on oc, .slice ha hq hc] 61)
  have HR := Lib.hid q1
  have HZ := Lib.hid q2
  have HC := Lib.hid (hC.below hb)
  have HS := Lib.hid (hS.below hb)
  have HO := Lib.hid (hO.below hb)
  have HH := Lib.hid (hH.below hb)
  have HW := Lib.hid hW
  have HB := Lib.hid hb
  rw [htol]
  clear hW hb hC htol hn q1 q2 hsz hS hO hH
  go_enter Try.func10, Try.ntmps10
  go_wp2_with fail
  rw [HW.out]
  clear HW
  have r0 := cellOf HR.out 0 _ rfl
  have r1 := cellOf HR.out 1 _ rfl
  have r2 := cellOf HR.out 2 _ rfl
  have rl := lt_of_block HR.out
  have z0 := cellOf HZ.out 0 _ rfl
  have z1 := cellOf HZ.out 1 _ rfl
  have z2 := cellOf HZ.out 2 _ rfl
  have zl := lt_of_block HZ.out
  go_wp2_with fail
  clear r0 r1 r2 rl z0 z1 z2 zl
  have hcall := lvalid_any c _ _ W HC.out
  rw [HTOL.out] at hcall
  refine hcall.mono ?_
  clear hcall
  rintro e w1 ⟨rfl, hb⟩
  have HR' := Lib.hid ((hb.block _ (lt_of_block HR.out)).trans HR.out)
  have HZ' := Lib.hid ((hb.block _ (lt_of_block HZ.out)).trans HZ.out)
  have HC' := Lib.hid (HC.out.below hb)
  have HS' := Lib.hid (HS.out.below hb)
  have HO' := Lib.hid (HO.out.below hb)
  have HH' := Lib.hid (HH.out.below hb)
  have HB' := Lib.hid (HB.out.trans (hb.mono HB.out.size))
  clear HR
  have HR := HR'
  clear HR'
  clear HZ
  have HZ := HZ'
  clear HZ'
  clear HC
  have HC := HC'
  clear HC'
  clear HS
  have HS := HS'
  clear HS'
  clear HO
  have HO := HO'
  clear HO'
  clear HH
  have HH := HH'
  clear HH'
  clear HB
  have HB := HB'
  clear HB'
  clear hb
  by_cases h0 : errC c = 0
  · skip
    have HV := Lib.hid (valid_of h0)
    have H0 := Lib.hid h0
    rw [show decide (errC c = 0) = true by simp [h0]]
    clear h0
    obtain ⟨f1, f2, f3⟩ := toldT_facts c H0.out sl ol hl HHB.out
    have HAF := Lib.hid (agree_facts _ f1 _ f2 f3)
    have hbn : (negs (anyC c sl)).length = n := by rw [f2, HN.out]; rfl
    clear f1 f2 f3
    have r0 := cellOf HR.out 0 _ rfl
    have r1 := cellOf HR.out 1 _ rfl
    have r2 := cellOf HR.out 2 _ rfl
    have rl := lt_of_block HR.out
    have z0 := cellOf HZ.out 0 _ rfl
    have z1 := cellOf HZ.out 1 _ rfl
    have z2 := cellOf HZ.out 2 _ rfl
    have zl := lt_of_block HZ.out
    go_wp2_with fail
    clear r0 r1 r2 rl z0 z1 z2 zl
    have hcall := told_any c HV.out _ _ _ _ _ sl ol hl w1 HC.out HS.out HO.out HH.out
    rw [HTOL.out] at hcall
    refine hcall.mono ?_
    clear hcall
    rintro e w2 ⟨dv, bv, rfl, hD, hI, hb⟩
    have HR' := Lib.hid ((hb.block _ (lt_of_block HR.out)).trans HR.out)
    have HZ' := Lib.hid ((hb.block _ (lt_of_block HZ.out)).trans HZ.out)
    have HC' := Lib.hid (HC.out.below hb)
    have HS' := Lib.hid (HS.out.below hb)
    have HO' := Lib.hid (HO.out.below hb)
    have HH' := Lib.hid (HH.out.below hb)
    have HB' := Lib.hid (HB.out.trans (hb.mono HB.out.size))
    clear HR
    have HR := HR'
    clear HR'
    clear HZ
    have HZ := HZ'
    clear HZ'
    clear HC
    have HC := HC'
    clear HC'
    clear HS
    have HS := HS'
    clear HS'
    clear HO
    have HO := HO'
    clear HO'
    clear HH
    have HH := HH'
    clear HH'
    clear HB
    have HB := HB'
    clear HB'
    clear hb
    have HD := Lib.hid hD
    have HK := Lib.hid hI
    have hds : (toldT c sl ol hl).shs.length = n := by rw [HN.out]; rfl
    have HTD : Hid ((toldT c sl ol hl).tol = tol) := HTOL.out
    generalize toldT c sl ol hl = D at *
    generalize negs (anyC c sl) = bl at *
    clear hD hI
    obtain ⟨da, dn, dc, rfl⟩ : ∃ a n cc, dv = .slice a n cc := by obtain ⟨_, a, cap, h, _⟩ := HD.out.eds; exact ⟨_, _, _, h⟩
    obtain ⟨ba, bn, bc, rfl, hbl⟩ : ∃ a n cc, bv = .slice a n cc ∧ n = bl.length := by obtain ⟨_, a, cap, h, _⟩ := HK.out; exact ⟨_, _, _, h, rfl⟩
    obtain rfl : bn = n := by rw [hbl, hbn]
    have HBN := Lib.hid hbn
    have HDS := Lib.hid hds
    have n5 : bn ≤ 5 := by have := HV.out.n5; have := HN.out; omega
    have nI : (bn : Int) ≤ 5 := by omega
    clear hbn hds hbl
    obtain ⟨g1, g2, g3, g4, g5, g6, g7⟩ := HAF.out
    obtain ⟨⟨cb, ce⟩, hcb⟩ : ∃ r, costC D bl = r := ⟨_, rfl⟩
    obtain ⟨⟨ll, lc, le⟩, hle⟩ : ∃ r, leastE D = r := ⟨_, rfl⟩
    rw [hcb] at g2 g5
    rw [hle] at g3 g5 g6 g7
    simp only at g2 g3 g5 g6 g7
    subst g2 g3
    rw [HDS.out] at g7
    have HG1 := Lib.hid g1
    have HG4 := Lib.hid g4
    have HG6 := Lib.hid g6
    have HG7 := Lib.hid g7
    have HCB := Lib.hid hcb
    have HLE := Lib.hid hle
    have hlc : ¬ cb < lc := by omega
    have hlc2 : decide (cb < lc) = false := by simp; omega
    have hlc3 : decide (lc > cb) = false := by simp; omega
    clear g1 g4 g5 g6 g7 hcb hle HAF
    have r0 := cellOf HR.out 0 _ rfl
    have r1 := cellOf HR.out 1 _ rfl
    have r2 := cellOf HR.out 2 _ rfl
    have rl := lt_of_block HR.out
    have z0 := cellOf HZ.out 0 _ rfl
    have z1 := cellOf HZ.out 1 _ rfl
    have z2 := cellOf HZ.out 2 _ rfl
    have zl := lt_of_block HZ.out
    go_wp2_with fail
    clear r0 r1 r2 rl z0 z1 z2 zl
    have hb := (Below.refl w2.heap.size w2).alloc (Nat.le_refl _) (Obj.cells #[.int .i64 tol, .slice sa bn sc, .slice da dn dc] 25)
    have HDB := Lib.hid (heap_alloc_new w2 (Obj.cells #[.int .i64 tol, .slice sa bn sc, .slice da dn dc] 25))
    have HR' := Lib.hid ((hb.block _ (lt_of_block HR.out)).trans HR.out)
    have HZ' := Lib.hid ((hb.block _ (lt_of_block HZ.out)).trans HZ.out)
    have HC' := Lib.hid (HC.out.below hb)
    have HS' := Lib.hid (HS.out.below hb)
    have HO' := Lib.hid (HO.out.below hb)
    have HH' := Lib.hid (HH.out.below hb)
    have HB' := Lib.hid (HB.out.trans (hb.mono HB.out.size))
    have HD' := Lib.hid (HD.out.below hb)
    have HK' := Lib.hid (HK.out.below hb)
    clear HR
    have HR := HR'
    clear HR'
    clear HZ
    have HZ := HZ'
    clear HZ'
    clear HC
    have HC := HC'
    clear HC'
    clear HS
    have HS := HS'
    clear HS'
    clear HO
    have HO := HO'
    clear HO'
    clear HH
    have HH := HH'
    clear HH'
    clear HB
    have HB := HB'
    clear HB'
    clear HD
    have HD := HD'
    clear HD'
    clear HK
    have HK := HK'
    clear HK'
    clear hb
    generalize w2.alloc (Obj.cells #[.int .i64 tol, .slice sa bn sc, .slice da dn dc] 25) = w3 at *
    obtain ⟨u7, hu7⟩ : ∃ u, w2.heap.size = u := ⟨_, rfl⟩
    rw [hu7] at HDB ⊢
    clear hu7
    have hcall := agrees_any D _ _ _ bl w3 HD.out HK.out
    rw [HTD.out] at hcall
    refine hcall.mono ?_
    clear hcall
    rintro e w4 ⟨rfl, hb⟩
    have HR' := Lib.hid ((hb.block _ (lt_of_block HR.out)).trans HR.out)
    have HZ' := Lib.hid ((hb.block _ (lt_of_block HZ.out)).trans HZ.out)
    have HC' := Lib.hid (HC.out.below hb)
    have HS' := Lib.hid (HS.out.below hb)
    have HO' := Lib.hid (HO.out.below hb)
    have HH' := Lib.hid (HH.out.below hb)
    have HB' := Lib.hid (HB.out.trans (hb.mono HB.out.size))
    have HD' := Lib.hid (HD.out.below hb)
    have HK' := Lib.hid (HK.out.below hb)
    have HDB' := Lib.hid ((hb.block _ (lt_of_block HDB.out)).trans HDB.out)
    clear HR
    have HR := HR'
    clear HR'
    clear HZ
    have HZ := HZ'
    clear HZ'
    clear HC
    have HC := HC'
    clear HC'
    clear HS
    have HS := HS'
    clear HS'
    clear HO
    have HO := HO'
    clear HO'
    clear HH
    have HH := HH'
    clear HH'
    clear HB
    have HB := HB'
    clear HB'
    clear HD
    have HD := HD'
    clear HD'
    clear HK
    have HK := HK'
    clear HK'
    clear HDB
    have HDB := HDB'
    clear HDB'
    clear hb
    rw [HG1.out]
    simp only
    have r0 := cellOf HR.out 0 _ rfl
    have r1 := cellOf HR.out 1 _ rfl
    have r2 := cellOf HR.out 2 _ rfl
    have rl := lt_of_block HR.out
    have z0 := cellOf HZ.out 0 _ rfl
    have z1 := cellOf HZ.out 1 _ rfl
    have z2 := cellOf HZ.out 2 _ rfl
    have zl := lt_of_block HZ.out
    have v0 := cellOf HDB.out 0 _ rfl
    have v1 := cellOf HDB.out 1 _ rfl
    have v2 := cellOf HDB.out 2 _ rfl
    have vl := lt_of_block HDB.out
    go_wp2_with fail
    clear r0 r1 r2 rl z0 z1 z2 zl v0 v1 v2 vl
    have hcall := cost__any D _ _ _ bl w4 HD.out HK.out
    rw [HTD.out] at hcall
    refine hcall.mono ?_
    clear hcall
    rintro e w5 ⟨rfl, hb⟩
    have HR' := Lib.hid ((hb.block _ (lt_of_block HR.out)).trans HR.out)
    have HZ' := Lib.hid ((hb.block _ (lt_of_block HZ.out)).trans HZ.out)
    have HC' := Lib.hid (HC.out.below hb)
    have HS' := Lib.hid (HS.out.below hb)
    have HO' := Lib.hid (HO.out.below hb)
    have HH' := Lib.hid (HH.out.below hb)
    have HB' := Lib.hid (HB.out.trans (hb.mono HB.out.size))
    have HD' := Lib.hid (HD.out.below hb)
    have HK' := Lib.hid (HK.out.below hb)
    have HDB' := Lib.hid ((hb.block _ (lt_of_block HDB.out)).trans HDB.out)
    clear HR
    have HR := HR'
    clear HR'
    clear HZ
    have HZ := HZ'
    clear HZ'
    clear HC
    have HC := HC'
    clear HC'
    clear HS
    have HS := HS'
    clear HS'
    clear HO
    have HO := HO'
    clear HO'
    clear HH
    have HH := HH'
    clear HH'
    clear HB
    have HB := HB'
    clear HB'
    clear HD
    have HD := HD'
    clear HD'
    clear HK
    have HK := HK'
    clear HK'
    clear HDB
    have HDB := HDB'
    clear HDB'
    clear hb
    rw [HCB.out]
    simp only
    have r0 := cellOf HR.out 0 _ rfl
    have r1 := cellOf HR.out 1 _ rfl
    have r2 := cellOf HR.out 2 _ rfl
    have rl := lt_of_block HR.out
    have z0 := cellOf HZ.out 0 _ rfl
    have z1 := cellOf HZ.out 1 _ rfl
    have z2 := cellOf HZ.out 2 _ rfl
    have zl := lt_of_block HZ.out
    have v0 := cellOf HDB.out 0 _ rfl
    have v1 := cellOf HDB.out 1 _ rfl
    have v2 := cellOf HDB.out 2 _ rfl
    have vl := lt_of_block HDB.out
    go_wp2_with fail
    clear r0 r1 r2 rl z0 z1 z2 zl v0 v1 v2 vl
    have hcall := least1_any D _ _ w5 HD.out
    rw [HTD.out] at hcall
    refine hcall.mono ?_
    clear hcall
    rintro e w6 ⟨lv, rfl, hI, hb⟩
    have HR' := Lib.hid ((hb.block _ (lt_of_block HR.out)).trans HR.out)
    have HZ' := Lib.hid ((hb.block _ (lt_of_block HZ.out)).trans HZ.out)
    have HC' := Lib.hid (HC.out.below hb)
    have HS' := Lib.hid (HS.out.below hb)
    have HO' := Lib.hid (HO.out.below hb)
    have HH' := Lib.hid (HH.out.below hb)
    have HB' := Lib.hid (HB.out.trans (hb.mono HB.out.size))
    have HD' := Lib.hid (HD.out.below hb)
    have HK' := Lib.hid (HK.out.below hb)
    have HDB' := Lib.hid ((hb.block _ (lt_of_block HDB.out)).trans HDB.out)
    clear HR
    have HR := HR'
    clear HR'
    clear HZ
    have HZ := HZ'
    clear HZ'
    clear HC
    have HC := HC'
    clear HC'
    clear HS
    have HS := HS'
    clear HS'
    clear HO
    have HO := HO'
    clear HO'
    clear HH
    have HH := HH'
    clear HH'
    clear HB
    have HB := HB'
    clear HB'
    clear HD
    have HD := HD'
    clear HD'
    clear HK
    have HK := HK'
    clear HK'
    clear HDB
    have HDB := HDB'
    clear HDB'
    clear hb
    rw [HLE.out] at hI ⊢
    simp only at hI ⊢
    have HL1 := Lib.hid hI
    clear hI
    obtain ⟨va, vn, vc, rfl, hvn⟩ : ∃ a n cc, lv = .slice a n cc ∧ n = ll.length := by obtain ⟨_, a, cap, h, _⟩ := HL1.out; exact ⟨_, _, _, h, rfl⟩
    obtain rfl : vn = bn := by rw [hvn, HG6.out, HBN.out]
    have HVN := Lib.hid hvn
    clear hvn
    have r0 := cellOf HR.out 0 _ rfl
    have r1 := cellOf HR.out 1 _ rfl
    have r2 := cellOf HR.out 2 _ rfl
    have rl := lt_of_block HR.out
    have z0 := cellOf HZ.out 0 _ rfl
    have z1 := cellOf HZ.out 1 _ rfl
    have z2 := cellOf HZ.out 2 _ rfl
    have zl := lt_of_block HZ.out
    have v0 := cellOf HDB.out 0 _ rfl
    have v1 := cellOf HDB.out 1 _ rfl
    have v2 := cellOf HDB.out 2 _ rfl
    have vl := lt_of_block HDB.out
    go_wp2_with fail
    clear r0 r1 r2 rl z0 z1 z2 zl v0 v1 v2 vl
    have hcall := without1_any D _ _ w6 HD.out
    rw [HTD.out] at hcall
    refine hcall.mono ?_
    clear hcall
    rintro e w7 ⟨uv, rfl, hI, hb⟩
    have HR' := Lib.hid ((hb.block _ (lt_of_block HR.out)).trans HR.out)
    have HZ' := Lib.hid ((hb.block _ (lt_of_block HZ.out)).trans HZ.out)
    have HC' := Lib.hid (HC.out.below hb)
    have HS' := Lib.hid (HS.out.below hb)
    have HO' := Lib.hid (HO.out.below hb)
    have HH' := Lib.hid (HH.out.below hb)
    have HB' := Lib.hid (HB.out.trans (hb.mono HB.out.size))
    have HD' := Lib.hid (HD.out.below hb)
    have HK' := Lib.hid (HK.out.below hb)
    have HDB' := Lib.hid ((hb.block _ (lt_of_block HDB.out)).trans HDB.out)
    have HL1' := Lib.hid (HL1.out.below hb)
    clear HR
    have HR := HR'
    clear HR'
    clear HZ
    have HZ := HZ'
    clear HZ'
    clear HC
    have HC := HC'
    clear HC'
    clear HS
    have HS := HS'
    clear HS'
    clear HO
    have HO := HO'
    clear HO'
    clear HH
    have HH := HH'
    clear HH'
    clear HB
    have HB := HB'
    clear HB'
    clear HD
    have HD := HD'
    clear HD'
    clear HK
    have HK := HK'
    clear HK'
    clear HDB
    have HDB := HDB'
    clear HDB'
    clear HL1
    have HL1 := HL1'
    clear HL1'
    clear hb
    rw [HG4.out] at hI ⊢
    simp only at hI ⊢
    obtain ⟨_, ua, uc, rfl, _⟩ := id hI
    clear hI
    have tvv : ((vn : Int) != (vn : Int)) = false := by simp
    have tm1 : ((-1 : Int) != -1) = false := by decide
    have r0 := cellOf HR.out 0 _ rfl
    have r1 := cellOf HR.out 1 _ rfl
    have r2 := cellOf HR.out 2 _ rfl
    have rl := lt_of_block HR.out
    have z0 := cellOf HZ.out 0 _ rfl
    have z1 := cellOf HZ.out 1 _ rfl
    have z2 := cellOf HZ.out 2 _ rfl
    have zl := lt_of_block HZ.out
    have v0 := cellOf HDB.out 0 _ rfl
    have v1 := cellOf HDB.out 1 _ rfl
    have v2 := cellOf HDB.out 2 _ rfl
    have vl := lt_of_block HDB.out
    go_wp2_with fail
    clear r0 r1 r2 rl z0 z1 z2 zl v0 v1 v2 vl
    clear tm1 tvv
    have HRF := Lib.hid HR.out
    have HZF := Lib.hid HZ.out
    have HCF := Lib.hid HC.out
    have HSF := Lib.hid HS.out
    have HOF := Lib.hid HO.out
    have HHF := Lib.hid HH.out
    have HBF := Lib.hid HB.out
    have HDF := Lib.hid HD.out
    have HKF := Lib.hid HK.out
    have HDBF := Lib.hid HDB.out
    have HL1F := Lib.hid HL1.out
    clear HR HZ HC HS HO HH HB HD HK HDB HL1
    go_loopg [18] vn (fun g v wr => ∃ k : Nat, g + k = vn ∧ v = .int .i64 k ∧ Hid (Below w7.heap.size w7 wr))
    case atStart => exact ⟨0, by omega, rfl, Below.refl _ _⟩
    case round =>
      obtain ⟨k, hk, rfl, HLP⟩ := hrel
      have HR := Lib.hid ((HLP.out.block _ (lt_of_block HRF.out)).trans HRF.out)
      have HZ := Lib.hid ((HLP.out.block _ (lt_of_block HZF.out)).trans HZF.out)
      have HC := Lib.hid (HCF.out.below HLP.out)
      have HS := Lib.hid (HSF.out.below HLP.out)
      have HO := Lib.hid (HOF.out.below HLP.out)
      have HH := Lib.hid (HHF.out.below HLP.out)
      have HB := Lib.hid (HBF.out.trans (HLP.out.mono HBF.out.size))
      have HD := Lib.hid (HDF.out.below HLP.out)
      have HK := Lib.hid (HKF.out.below HLP.out)
      have HDB := Lib.hid ((HLP.out.block _ (lt_of_block HDBF.out)).trans HDBF.out)
      have HL1 := Lib.hid (HL1F.out.below HLP.out)
      by_cases hkn : k < vn
      · skip
        have kI : (k : Int) < (vn : Int) := by omega
        have hg := HG7.out k hkn
        obtain ⟨⟨⟨rlo, rhi⟩, re⟩, hr⟩ : ∃ r, rangeE D (k : Int) = r := ⟨_, rfl⟩
        rw [hr] at hg
        simp only at hg
        obtain ⟨e0, e1, e2, e3, e4⟩ := hg
        subst e0
        have HRR := Lib.hid hr
        clear hr
        have r0 := cellOf HR.out 0 _ rfl
        have r1 := cellOf HR.out 1 _ rfl
        have r2 := cellOf HR.out 2 _ rfl
        have rl := lt_of_block HR.out
        have z0 := cellOf HZ.out 0 _ rfl
        have z1 := cellOf HZ.out 1 _ rfl
        have z2 := cellOf HZ.out 2 _ rfl
        have zl := lt_of_block HZ.out
        have v0 := cellOf HDB.out 0 _ rfl
        have v1 := cellOf HDB.out 1 _ rfl
        have v2 := cellOf HDB.out 2 _ rfl
        have vl := lt_of_block HDB.out
        go_wp2_with fail
        clear r0 r1 r2 rl z0 z1 z2 zl v0 v1 v2 vl
        have hcall := rangeT_any D _ _ (k : Int) wr HD.out
        rw [HTD.out] at hcall
        refine hcall.mono ?_
        clear hcall
        rintro e w9 ⟨rfl, hb⟩
        have HR' := Lib.hid ((hb.block _ (lt_of_block HR.out)).trans HR.out)
        have HZ' := Lib.hid ((hb.block _ (lt_of_block HZ.out)).trans HZ.out)
        have HC' := Lib.hid (HC.out.below hb)
        have HS' := Lib.hid (HS.out.below hb)
        have HO' := Lib.hid (HO.out.below hb)
        have HH' := Lib.hid (HH.out.below hb)
        have HB' := Lib.hid (HB.out.trans (hb.mono HB.out.size))
        have HD' := Lib.hid (HD.out.below hb)
        have HK' := Lib.hid (HK.out.below hb)
        have HDB' := Lib.hid ((hb.block _ (lt_of_block HDB.out)).trans HDB.out)
        have HL1' := Lib.hid (HL1.out.below hb)
        have HLP' := Lib.hid (HLP.out.trans (hb.mono HLP.out.size))
        clear HR
        have HR := HR'
        clear HR'
        clear HZ
        have HZ := HZ'
        clear HZ'
        clear HC
        have HC := HC'
        clear HC'
        clear HS
        have HS := HS'
        clear HS'
        clear HO
        have HO := HO'
        clear HO'
        clear HH
        have HH := HH'
        clear HH'
        clear HB
        have HB := HB'
        clear HB'
        clear HD
        have HD := HD'
        clear HD'
        clear HK
        have HK := HK'
        clear HK'
        clear HDB
        have HDB := HDB'
        clear HDB'
        clear HL1
        have HL1 := HL1'
        clear HL1'
        clear HLP
        have HLP := HLP'
        clear HLP'
        clear hb
        rw [HRR.out]
        simp only
        have r0 := cellOf HR.out 0 _ rfl
        have r1 := cellOf HR.out 1 _ rfl
        have r2 := cellOf HR.out 2 _ rfl
        have rl := lt_of_block HR.out
        have z0 := cellOf HZ.out 0 _ rfl
        have z1 := cellOf HZ.out 1 _ rfl
        have z2 := cellOf HZ.out 2 _ rfl
        have zl := lt_of_block HZ.out
        have v0 := cellOf HDB.out 0 _ rfl
        have v1 := cellOf HDB.out 1 _ rfl
        have v2 := cellOf HDB.out 2 _ rfl
        have vl := lt_of_block HDB.out
        go_wp2_with fail
        clear r0 r1 r2 rl z0 z1 z2 zl v0 v1 v2 vl
        have hb := (Below.refl w9.heap.size w9).alloc (Nat.le_refl _) (Obj.cells #[.int .i64 rlo, .int .i64 rhi] 31)
        have HSP := Lib.hid (heap_alloc_new w9 (Obj.cells #[.int .i64 rlo, .int .i64 rhi] 31))
        have HR' := Lib.hid ((hb.block _ (lt_of_block HR.out)).trans HR.out)
        have HZ' := Lib.hid ((hb.block _ (lt_of_block HZ.out)).trans HZ.out)
        have HC' := Lib.hid (HC.out.below hb)
        have HS' := Lib.hid (HS.out.below hb)
        have HO' := Lib.hid (HO.out.below hb)
        have HH' := Lib.hid (HH.out.below hb)
        have HB' := Lib.hid (HB.out.trans (hb.mono HB.out.size))
        have HD' := Lib.hid (HD.out.below hb)
        have HK' := Lib.hid (HK.out.below hb)
        have HDB' := Lib.hid ((hb.block _ (lt_of_block HDB.out)).trans HDB.out)
        have HL1' := Lib.hid (HL1.out.below hb)
        have HLP' := Lib.hid (HLP.out.trans (hb.mono HLP.out.size))
        clear HR
        have HR := HR'
        clear HR'
        clear HZ
        have HZ := HZ'
        clear HZ'
        clear HC
        have HC := HC'
        clear HC'
        clear HS
        have HS := HS'
        clear HS'
        clear HO
        have HO := HO'
        clear HO'
        clear HH
        have HH := HH'
        clear HH'
        clear HB
        have HB := HB'
        clear HB'
        clear HD
        have HD := HD'
        clear HD'
        clear HK
        have HK := HK'
        clear HK'
        clear HDB
        have HDB := HDB'
        clear HDB'
        clear HL1
        have HL1 := HL1'
        clear HL1'
        clear HLP
        have HLP := HLP'
        clear HLP'
        clear hb
        generalize w9.alloc (Obj.cells #[.int .i64 rlo, .int .i64 rhi] 31) = wa at *
        obtain ⟨u19, hu19⟩ : ∃ u, w9.heap.size = u := ⟨_, rfl⟩
        rw [hu19] at HSP ⊢
        clear hu19
        have hkb : k < bl.length := by rw [HBN.out]; exact hkn
        have hkl : k < ll.length := by rw [← HVN.out]; exact hkn
        obtain ⟨bb, bo, heq, b0⟩ := HK.out.get hkb
        subst heq
        obtain ⟨lb, lo, heq, l0⟩ := HL1.out.get hkl
        subst heq
        rw [show bl.getD k 0 = bl[k] by simp [List.getD_eq_getElem?_getD, hkb]] at e1 e2
        rw [show ll.getD k 0 = ll[k] by simp [List.getD_eq_getElem?_getD, hkl]] at e3 e4
        generalize bl[k] = bk at *
        generalize ll[k] = lk at *
        have s0c := cellOf HSP.out 0 _ rfl
        have s1c := cellOf HSP.out 1 _ rfl
        have t1 : decide (bk < rlo) = false := by simp; omega
        have t2 : decide (bk > rhi) = false := by simp; omega
        have t2' : decide (rhi < bk) = false := by simp; omega
        have t3 : decide (lk < rlo) = false := by simp; omega
        have t4 : decide (lk > rhi) = false := by simp; omega
        have t4' : decide (rhi < lk) = false := by simp; omega
        clear e1 e2 e3 e4 hkb hkl
        have KA : ∀ W' : World, Below wa.heap.size wa W' → (W'.cell? ⟨u19, 0, none⟩ = some (.int .i64 rlo) ∧ W'.cell? ⟨u19, 1, none⟩ = some (.int .i64 rhi) ∧ W'.cell? ⟨bb, bo + k, none⟩ = some (.int .i64 bk) ∧ W'.cell? ⟨lb, lo + k, none⟩ = some (.int .i64 lk) ∧ Below wa.heap.size wa W') := fun W' hb => ⟨keepK s0c hb, keepK s1c hb, keepK b0 hb, keepK l0 hb, hb⟩
        refine wp_region_noPanic ?_
        refine wp_region_held_drew (S := (fun W' => W'.cell? ⟨u19, 0, none⟩ = some (.int .i64 rlo) ∧ W'.cell? ⟨u19, 1, none⟩ = some (.int .i64 rhi) ∧ W'.cell? ⟨bb, bo + k, none⟩ = some (.int .i64 bk) ∧ W'.cell? ⟨lb, lo + k, none⟩ = some (.int .i64 lk) ∧ Below wa.heap.size wa W')) (by kernel_rfl) ?_ (fun hh0 => ?_)
        · exact KA _ (Below.refl _ _).drew
        refine wpAnyH_take (i := 0) (v := ?_) rfl (by as_aux_lemma => kernel_rfl) (by as_aux_lemma => kernel_rfl) (by as_aux_lemma => kernel_rfl) (fun _ _ _ h => h) (Or.inl ⟨by rfl, ?_⟩) (by assumption) ?_
        rotate_left
        · intro w hSw
          try dsimp only at hSw
          go_simp
          try with_reducible rfl
        try simp only [Act.put, List.getElem_toArray, List.getElem_cons_succ, List.getElem_cons_zero, List.setIfInBounds_toArray, List.set_cons_zero, List.set_cons_succ]
        refine wpAnyH_take (i := 1) (v := ?_) rfl (by as_aux_lemma => kernel_rfl) (by as_aux_lemma => kernel_rfl) (by as_aux_lemma => kernel_rfl) (fun _ _ _ h => h) (Or.inl ⟨by rfl, ?_⟩) (by assumption) ?_
        rotate_left
        · intro w hSw
          try dsimp only at hSw
          go_simp
          try with_reducible rfl
        try simp only [Act.put, List.getElem_toArray, List.getElem_cons_succ, List.getElem_cons_zero, List.setIfInBounds_toArray, List.set_cons_zero, List.set_cons_succ]
        refine wpAnyH_take (i := 2) (v := ?_) rfl (by as_aux_lemma => kernel_rfl) (by as_aux_lemma => kernel_rfl) (by as_aux_lemma => kernel_rfl) (fun _ _ _ h => h) (Or.inl ⟨by rfl, ?_⟩) (by assumption) ?_
        rotate_left
        · intro w hSw
          try dsimp only at hSw
          go_simp
          try with_reducible rfl
        try simp only [Act.put, List.getElem_toArray, List.getElem_cons_succ, List.getElem_cons_zero, List.setIfInBounds_toArray, List.set_cons_zero, List.set_cons_succ]
        refine wpAnyH_take (i := 3) (v := ?_) rfl (by as_aux_lemma => kernel_rfl) (by as_aux_lemma => kernel_rfl) (by as_aux_lemma => kernel_rfl) (fun _ _ _ h => h) (Or.inl ⟨by rfl, ?_⟩) (by assumption) ?_
        rotate_left
        · intro w hSw
          try dsimp only at hSw
          go_simp
          try with_reducible rfl
        try simp only [Act.put, List.getElem_toArray, List.getElem_cons_succ, List.getElem_cons_zero, List.setIfInBounds_toArray, List.set_cons_zero, List.set_cons_succ]
        refine wpAnyH_take (i := 4) (v := ?_) rfl (by as_aux_lemma => kernel_rfl) (by as_aux_lemma => kernel_rfl) (by as_aux_lemma => kernel_rfl) (fun _ _ _ h => h) (Or.inl ⟨by rfl, ?_⟩) (by assumption) ?_
        rotate_left
        · intro w hSw
          try dsimp only at hSw
          go_simp
          try with_reducible rfl
        try simp only [Act.put, List.getElem_toArray, List.getElem_cons_succ, List.getElem_cons_zero, List.setIfInBounds_toArray, List.set_cons_zero, List.set_cons_succ]
        refine wpAnyH_take (i := 5) (v := ?_) rfl (by as_aux_lemma => kernel_rfl) (by as_aux_lemma => kernel_rfl) (by as_aux_lemma => kernel_rfl) (fun _ _ _ h => h) (Or.inl ⟨by rfl, ?_⟩) (by assumption) ?_
        rotate_left
        · intro w hSw
          try dsimp only at hSw
          go_simp
          try with_reducible rfl
        try simp only [Act.put, List.getElem_toArray, List.getElem_cons_succ, List.getElem_cons_zero, List.setIfInBounds_toArray, List.set_cons_zero, List.set_cons_succ]
        refine wpAnyH_take (i := 6) (v := ?_) rfl (by as_aux_lemma => kernel_rfl) (by as_aux_lemma => kernel_rfl) (by as_aux_lemma => kernel_rfl) (fun _ _ _ h => h) (Or.inl ⟨by rfl, ?_⟩) (by assumption) ?_
        rotate_left
        · intro w hSw
          try dsimp only at hSw
          go_simp
          try with_reducible rfl
        try simp only [Act.put, List.getElem_toArray, List.getElem_cons_succ, List.getElem_cons_zero, List.setIfInBounds_toArray, List.set_cons_zero, List.set_cons_succ]
        refine wpAnyH_take (i := 7) (v := ?_) rfl (by as_aux_lemma => kernel_rfl) (by as_aux_lemma => kernel_rfl) (by as_aux_lemma => kernel_rfl) (fun _ _ _ h => h) (Or.inl ⟨by rfl, ?_⟩) (by assumption) ?_
        rotate_left
        · intro w hSw
          try dsimp only at hSw
          go_simp
          try with_reducible rfl
        try simp only [Act.put, List.getElem_toArray, List.getElem_cons_succ, List.getElem_cons_zero, List.setIfInBounds_toArray, List.set_cons_zero, List.set_cons_succ]
        refine wpAnyH_take (i := 8) (v := ?_) rfl (by as_aux_lemma => kernel_rfl) (by as_aux_lemma => kernel_rfl) (by as_aux_lemma => kernel_rfl) (fun _ _ _ h => h) (Or.inl ⟨by rfl, ?_⟩) (by assumption) ?_
        rotate_left
        · intro w hSw
          try dsimp only at hSw
          go_simp
          try with_reducible rfl
        try simp only [Act.put, List.getElem_toArray, List.getElem_cons_succ, List.getElem_cons_zero, List.setIfInBounds_toArray, List.set_cons_zero, List.set_cons_succ]
        refine wpAnyH_take (i := 9) (v := ?_) rfl (by as_aux_lemma => kernel_rfl) (by as_aux_lemma => kernel_rfl) (by as_aux_lemma => kernel_rfl) (fun _ _ _ h => h) (Or.inl ⟨by rfl, ?_⟩) (by assumption) ?_
        rotate_left
        · intro w hSw
          try dsimp only at hSw
          go_simp
          try with_reducible rfl
        try simp only [Act.put, List.getElem_toArray, List.getElem_cons_succ, List.getElem_cons_zero, List.setIfInBounds_toArray, List.set_cons_zero, List.set_cons_succ]
        refine wpAnyH_take (i := 10) (v := ?_) rfl (by as_aux_lemma => kernel_rfl) (by as_aux_lemma => kernel_rfl) (by as_aux_lemma => kernel_rfl) (fun _ _ _ h => h) (Or.inl ⟨by rfl, ?_⟩) (by assumption) ?_
        rotate_left
        · intro w hSw
          try dsimp only at hSw
          go_simp
          try with_reducible rfl
        try simp only [Act.put, List.getElem_toArray, List.getElem_cons_succ, List.getElem_cons_zero, List.setIfInBounds_toArray, List.set_cons_zero, List.set_cons_succ]
        refine wpAnyH_take (i := 11) (v := ?_) rfl (by as_aux_lemma => kernel_rfl) (by as_aux_lemma => kernel_rfl) (by as_aux_lemma => kernel_rfl) (fun _ _ _ h => h) (Or.inl ⟨by rfl, ?_⟩) (by assumption) ?_
        rotate_left
        · intro w hSw
          try dsimp only at hSw
          go_simp
          try with_reducible rfl
        try simp only [Act.put, List.getElem_toArray, List.getElem_cons_succ, List.getElem_cons_zero, List.setIfInBounds_toArray, List.set_cons_zero, List.set_cons_succ]
        refine wpAnyH_take (i := 12) (v := ?_) rfl (by as_aux_lemma => kernel_rfl) (by as_aux_lemma => kernel_rfl) (by as_aux_lemma => kernel_rfl) (fun _ _ _ h => h) (Or.inl ⟨by rfl, ?_⟩) (by assumption) ?_
        rotate_left
        · intro w hSw
          try dsimp only at hSw
          go_simp
          try with_reducible rfl
        try simp only [Act.put, List.getElem_toArray, List.getElem_cons_succ, List.getElem_cons_zero, List.setIfInBounds_toArray, List.set_cons_zero, List.set_cons_succ]
        refine wpAnyH_take (i := 13) (v := ?_) rfl (by as_aux_lemma => kernel_rfl) (by as_aux_lemma => kernel_rfl) (by as_aux_lemma => kernel_rfl) (fun _ _ _ h => h) (Or.inl ⟨by rfl, ?_⟩) (by assumption) ?_
        rotate_left
        · intro w hSw
          try dsimp only at hSw
          go_simp
          try with_reducible rfl
        try simp only [Act.put, List.getElem_toArray, List.getElem_cons_succ, List.getElem_cons_zero, List.setIfInBounds_toArray, List.set_cons_zero, List.set_cons_succ]
        refine wpAnyH_take (i := 14) (v := ?_) rfl (by as_aux_lemma => kernel_rfl) (by as_aux_lemma => kernel_rfl) (by as_aux_lemma => kernel_rfl) (fun _ _ _ h => h) (Or.inl ⟨by rfl, ?_⟩) (by assumption) ?_
        rotate_left
        · intro w hSw
          try dsimp only at hSw
          go_simp
          try with_reducible rfl
        try simp only [Act.put, List.getElem_toArray, List.getElem_cons_succ, List.getElem_cons_zero, List.setIfInBounds_toArray, List.set_cons_zero, List.set_cons_succ]
        refine wpAnyH_take (i := 15) (v := ?_) rfl (by as_aux_lemma => kernel_rfl) (by as_aux_lemma => kernel_rfl) (by as_aux_lemma => kernel_rfl) (fun _ _ _ h => h) (Or.inl ⟨by rfl, ?_⟩) (by assumption) ?_
        rotate_left
        · intro w hSw
          try dsimp only at hSw
          go_simp
          try with_reducible rfl
        try simp only [Act.put, List.getElem_toArray, List.getElem_cons_succ, List.getElem_cons_zero, List.setIfInBounds_toArray, List.set_cons_zero, List.set_cons_succ]
        refine wpAnyH_take (i := 16) (v := ?_) rfl (by as_aux_lemma => kernel_rfl) (by as_aux_lemma => kernel_rfl) (by as_aux_lemma => kernel_rfl) (fun _ _ _ h => h) (Or.inl ⟨by rfl, ?_⟩) (by assumption) ?_
        rotate_left
        · intro w hSw
          try dsimp only at hSw
          go_simp
          try with_reducible rfl
        try simp only [Act.put, List.getElem_toArray, List.getElem_cons_succ, List.getElem_cons_zero, List.setIfInBounds_toArray, List.set_cons_zero, List.set_cons_succ]
        refine wpAnyH_take (i := 17) (v := ?_) rfl (by as_aux_lemma => kernel_rfl) (by as_aux_lemma => kernel_rfl) (by as_aux_lemma => kernel_rfl) (fun _ _ _ h => h) (Or.inl ⟨by rfl, ?_⟩) (by assumption) ?_
        rotate_left
        · intro w hSw
          try dsimp only at hSw
          go_simp
          try with_reducible rfl
        try simp only [Act.put, List.getElem_toArray, List.getElem_cons_succ, List.getElem_cons_zero, List.setIfInBounds_toArray, List.set_cons_zero, List.set_cons_succ]
        refine wpAnyH_take (i := 18) (v := ?_) rfl (by as_aux_lemma => kernel_rfl) (by as_aux_lemma => kernel_rfl) (by as_aux_lemma => kernel_rfl) (fun _ _ _ h => h) (Or.inl ⟨by rfl, ?_⟩) (by assumption) ?_
        rotate_left
        · intro w hSw
          try dsimp only at hSw
          go_simp
          try with_reducible rfl
        try simp only [Act.put, List.getElem_toArray, List.getElem_cons_succ, List.getElem_cons_zero, List.setIfInBounds_toArray, List.set_cons_zero, List.set_cons_succ]
        refine wpAnyH_take (i := 19) (v := ?_) rfl (by as_aux_lemma => kernel_rfl) (by as_aux_lemma => kernel_rfl) (by as_aux_lemma => kernel_rfl) (fun _ _ _ h => h) (Or.inl ⟨by rfl, ?_⟩) (by assumption) ?_
        rotate_left
        · intro w hSw
          try dsimp only at hSw
          go_simp
          try with_reducible rfl
        try simp only [Act.put, List.getElem_toArray, List.getElem_cons_succ, List.getElem_cons_zero, List.setIfInBounds_toArray, List.set_cons_zero, List.set_cons_succ]
        refine wpAnyH_take (i := 20) (v := ?_) rfl (by as_aux_lemma => kernel_rfl) (by as_aux_lemma => kernel_rfl) (by as_aux_lemma => kernel_rfl) (fun _ _ _ h => h) (Or.inl ⟨by rfl, ?_⟩) (by assumption) ?_
        rotate_left
        · intro w hSw
          try dsimp only at hSw
          go_simp
          try with_reducible rfl
        try simp only [Act.put, List.getElem_toArray, List.getElem_cons_succ, List.getElem_cons_zero, List.setIfInBounds_toArray, List.set_cons_zero, List.set_cons_succ]
        refine wpAnyH_take (i := 21) (v := ?_) rfl (by as_aux_lemma => kernel_rfl) (by as_aux_lemma => kernel_rfl) (by as_aux_lemma => kernel_rfl) (fun _ _ _ h => h) (Or.inl ⟨by rfl, ?_⟩) (by assumption) ?_
        rotate_left
        · intro w hSw
          try dsimp only at hSw
          go_simp
          try with_reducible rfl
        try simp only [Act.put, List.getElem_toArray, List.getElem_cons_succ, List.getElem_cons_zero, List.setIfInBounds_toArray, List.set_cons_zero, List.set_cons_succ]
        refine wpAnyH_take (i := 22) (v := ?_) rfl (by as_aux_lemma => kernel_rfl) (by as_aux_lemma => kernel_rfl) (by as_aux_lemma => kernel_rfl) (fun _ _ _ h => h) (Or.inl ⟨by rfl, ?_⟩) (by assumption) ?_
        rotate_left
        · intro w hSw
          try dsimp only at hSw
          go_simp
          try with_reducible rfl
        try simp only [Act.put, List.getElem_toArray, List.getElem_cons_succ, List.getElem_cons_zero, List.setIfInBounds_toArray, List.set_cons_zero, List.set_cons_succ]
        refine wpAnyH_take (i := 23) (v := ?_) rfl (by as_aux_lemma => kernel_rfl) (by as_aux_lemma => kernel_rfl) (by as_aux_lemma => kernel_rfl) (fun _ _ _ h => h) (Or.inl ⟨by rfl, ?_⟩) (by assumption) ?_
        rotate_left
        · intro w hSw
          try dsimp only at hSw
          go_simp
          try with_reducible rfl
        try simp only [Act.put, List.getElem_toArray, List.getElem_cons_succ, List.getElem_cons_zero, List.setIfInBounds_toArray, List.set_cons_zero, List.set_cons_succ]
        refine wpAnyH_take (i := 24) (v := ?_) rfl (by as_aux_lemma => kernel_rfl) (by as_aux_lemma => kernel_rfl) (by as_aux_lemma => kernel_rfl) (fun _ _ _ h => h) (Or.inl ⟨by rfl, ?_⟩) (by assumption) ?_
        rotate_left
        · intro w hSw
          try dsimp only at hSw
          go_simp
          try with_reducible rfl
        try simp only [Act.put, List.getElem_toArray, List.getElem_cons_succ, List.getElem_cons_zero, List.setIfInBounds_toArray, List.set_cons_zero, List.set_cons_succ]
        refine wpAnyH_take (i := 25) (v := ?_) rfl (by as_aux_lemma => kernel_rfl) (by as_aux_lemma => kernel_rfl) (by as_aux_lemma => kernel_rfl) (fun _ _ _ h => h) (Or.inl ⟨by rfl, ?_⟩) (by assumption) ?_
        rotate_left
        · intro w hSw
          try dsimp only at hSw
          go_simp
          try with_reducible rfl
        try simp only [Act.put, List.getElem_toArray, List.getElem_cons_succ, List.getElem_cons_zero, List.setIfInBounds_toArray, List.set_cons_zero, List.set_cons_succ]
        refine wpAnyH_take (i := 26) (v := ?_) rfl (by as_aux_lemma => kernel_rfl) (by as_aux_lemma => kernel_rfl) (by as_aux_lemma => kernel_rfl) (fun _ _ _ h => h) (Or.inl ⟨by rfl, ?_⟩) (by assumption) ?_
        rotate_left
        · intro w hSw
          try dsimp only at hSw
          go_simp
          try with_reducible rfl
        try simp only [Act.put, List.getElem_toArray, List.getElem_cons_succ, List.getElem_cons_zero, List.setIfInBounds_toArray, List.set_cons_zero, List.set_cons_succ]
        refine wpAnyH_take (i := 27) (v := ?_) rfl (by as_aux_lemma => kernel_rfl) (by as_aux_lemma => kernel_rfl) (by as_aux_lemma => kernel_rfl) (fun _ _ _ h => h) (Or.inl ⟨by rfl, ?_⟩) (by assumption) ?_
        rotate_left
        · intro w hSw
          try dsimp only at hSw
          go_simp
          try with_reducible rfl
        try simp only [Act.put, List.getElem_toArray, List.getElem_cons_succ, List.getElem_cons_zero, List.setIfInBounds_toArray, List.set_cons_zero, List.set_cons_succ]
        refine wpAnyH_take (i := 28) (v := ?_) rfl (by as_aux_lemma => kernel_rfl) (by as_aux_lemma => kernel_rfl) (by as_aux_lemma => kernel_rfl) (fun _ _ _ h => h) (Or.inl ⟨by rfl, ?_⟩) (by assumption) ?_
        rotate_left
        · intro w hSw
          try dsimp only at hSw
          go_simp
          try with_reducible rfl
        try simp only [Act.put, List.getElem_toArray, List.getElem_cons_succ, List.getElem_cons_zero, List.setIfInBounds_toArray, List.set_cons_zero, List.set_cons_succ]
        refine wpAnyH_take (i := 29) (v := ?_) rfl (by as_aux_lemma => kernel_rfl) (by as_aux_lemma => kernel_rfl) (by as_aux_lemma => kernel_rfl) (fun _ _ _ h => h) (Or.inl ⟨by rfl, ?_⟩) (by assumption) ?_
        rotate_left
        · intro w hSw
          try dsimp only at hSw
          go_simp
          try with_reducible rfl
        try simp only [Act.put, List.getElem_toArray, List.getElem_cons_succ, List.getElem_cons_zero, List.setIfInBounds_toArray, List.set_cons_zero, List.set_cons_succ]
        refine wpAnyH_take (i := 30) (v := ?_) rfl (by as_aux_lemma => kernel_rfl) (by as_aux_lemma => kernel_rfl) (by as_aux_lemma => kernel_rfl) (fun _ _ _ h => h) (Or.inl ⟨by rfl, ?_⟩) (by assumption) ?_
        rotate_left
        · intro w hSw
          try dsimp only at hSw
          go_simp
          try with_reducible rfl
        try simp only [Act.put, List.getElem_toArray, List.getElem_cons_succ, List.getElem_cons_zero, List.setIfInBounds_toArray, List.set_cons_zero, List.set_cons_succ]
        refine wpAnyH_take (i := 31) (v := ?_) rfl (by as_aux_lemma => kernel_rfl) (by as_aux_lemma => kernel_rfl) (by as_aux_lemma => kernel_rfl) (fun _ _ _ h => h) (Or.inl ⟨by rfl, ?_⟩) (by assumption) ?_
        rotate_left
        · intro w hSw
          try dsimp only at hSw
          go_simp
          try with_reducible rfl
        try simp only [Act.put, List.getElem_toArray, List.getElem_cons_succ, List.getElem_cons_zero, List.setIfInBounds_toArray, List.set_cons_zero, List.set_cons_succ]
        refine wpAnyH_take (i := 32) (v := ?_) rfl (by as_aux_lemma => kernel_rfl) (by as_aux_lemma => kernel_rfl) (by as_aux_lemma => kernel_rfl) (fun _ _ _ h => h) (Or.inl ⟨by rfl, ?_⟩) (by assumption) ?_
        rotate_left
        · intro w hSw
          try dsimp only at hSw
          go_simp
          try with_reducible rfl
        try simp only [Act.put, List.getElem_toArray, List.getElem_cons_succ, List.getElem_cons_zero, List.setIfInBounds_toArray, List.set_cons_zero, List.set_cons_succ]
        refine wpAnyH_take (i := 33) (v := ?_) rfl (by as_aux_lemma => kernel_rfl) (by as_aux_lemma => kernel_rfl) (by as_aux_lemma => kernel_rfl) (fun _ _ _ h => h) (Or.inl ⟨by rfl, ?_⟩) (by assumption) ?_
        rotate_left
        · intro w hSw
          try dsimp only at hSw
          go_simp
          try with_reducible rfl
        try simp only [Act.put, List.getElem_toArray, List.getElem_cons_succ, List.getElem_cons_zero, List.setIfInBounds_toArray, List.set_cons_zero, List.set_cons_succ]
        refine wpAnyH_take (i := 34) (v := ?_) rfl (by as_aux_lemma => kernel_rfl) (by as_aux_lemma => kernel_rfl) (by as_aux_lemma => kernel_rfl) (fun _ _ _ h => h) (Or.inl ⟨by rfl, ?_⟩) (by assumption) ?_
        rotate_left
        · intro w hSw
          try dsimp only at hSw
          go_simp
          try with_reducible rfl
        try simp only [Act.put, List.getElem_toArray, List.getElem_cons_succ, List.getElem_cons_zero, List.setIfInBounds_toArray, List.set_cons_zero, List.set_cons_succ]
        refine wpAnyH_take (i := 35) (v := ?_) rfl (by as_aux_lemma => kernel_rfl) (by as_aux_lemma => kernel_rfl) (by as_aux_lemma => kernel_rfl) (fun _ _ _ h => h) (Or.inl ⟨by rfl, ?_⟩) (by assumption) ?_
        rotate_left
        · intro w hSw
          try dsimp only at hSw
          go_simp
          try with_reducible rfl
        try simp only [Act.put, List.getElem_toArray, List.getElem_cons_succ, List.getElem_cons_zero, List.setIfInBounds_toArray, List.set_cons_zero, List.set_cons_succ]
        refine wpAnyH_take (i := 36) (v := ?_) rfl (by as_aux_lemma => kernel_rfl) (by as_aux_lemma => kernel_rfl) (by as_aux_lemma => kernel_rfl) (fun _ _ _ h => h) (Or.inl ⟨by rfl, ?_⟩) (by assumption) ?_
        rotate_left
        · intro w hSw
          try dsimp only at hSw
          go_simp
          try with_reducible rfl
        try simp only [Act.put, List.getElem_toArray, List.getElem_cons_succ, List.getElem_cons_zero, List.setIfInBounds_toArray, List.set_cons_zero, List.set_cons_succ]
        refine wpAnyH_take (i := 37) (v := ?_) rfl (by as_aux_lemma => kernel_rfl) (by as_aux_lemma => kernel_rfl) (by as_aux_lemma => kernel_rfl) (fun _ _ _ h => h) (Or.inl ⟨by rfl, ?_⟩) (by assumption) ?_
        rotate_left
        · intro w hSw
          try dsimp only at hSw
          go_simp
          try with_reducible rfl
        try simp only [Act.put, List.getElem_toArray, List.getElem_cons_succ, List.getElem_cons_zero, List.setIfInBounds_toArray, List.set_cons_zero, List.set_cons_succ]
        refine wpAnyH_done (by as_aux_lemma => kernel_rfl) ?_ _
        refine NoPanic.normal ?_
        have HBZ := Lib.hid (hh0.2.2.2.2)
        have HBN2 := Lib.hid (HLP.out.trans (HBZ.out.mono HLP.out.size))
        clear s0c s1c b0 l0 t1 t2 t2' t3 t4 t4' KA
        go_wp2_with fail
        go_roundg (gk - 1)
        case measure => omega
        case rel => exact ⟨k + 1, by omega, by go_num, HBN2⟩
      · skip
        have kI : ¬ (k : Int) < (vn : Int) := by omega
        obtain rfl : k = vn := by omega
        clear hkn hk
        have r0 := cellOf HR.out 0 _ rfl
        have r1 := cellOf HR.out 1 _ rfl
        have r2 := cellOf HR.out 2 _ rfl
        have rl := lt_of_block HR.out
        have z0 := cellOf HZ.out 0 _ rfl
        have z1 := cellOf HZ.out 1 _ rfl
        have z2 := cellOf HZ.out 2 _ rfl
        have zl := lt_of_block HZ.out
        have v0 := cellOf HDB.out 0 _ rfl
        have v1 := cellOf HDB.out 1 _ rfl
        have v2 := cellOf HDB.out 2 _ rfl
        have vl := lt_of_block HDB.out
        go_wp2_with fail
        clear r0 r1 r2 rl z0 z1 z2 zl v0 v1 v2 vl
        refine (awake_any wr).mono ?_
        rintro e wz ⟨rfl, hb⟩
        have HBF := Lib.hid (HB.out.trans (hb.mono HB.out.size))
        clear hb
        go_wp2_with fail
        go_ret
        exact ⟨rfl, HBF.out⟩
  · skip
    rw [show decide (errC c = 0) = false by simp [h0]]
    have r0 := cellOf HR.out 0 _ rfl
    have r1 := cellOf HR.out 1 _ rfl
    have r2 := cellOf HR.out 2 _ rfl
    have rl := lt_of_block HR.out
    have z0 := cellOf HZ.out 0 _ rfl
    have z1 := cellOf HZ.out 1 _ rfl
    have z2 := cellOf HZ.out 2 _ rfl
    have zl := lt_of_block HZ.out
    go_wp2_with fail
    clear r0 r1 r2 rl z0 z1 z2 zl
    have hcall := without1_any c _ _ w1 HC.out
    rw [HTOL.out] at hcall
    refine hcall.mono ?_
    clear hcall
    rintro e w2 ⟨lv, rfl, hI, hb⟩
    have HR' := Lib.hid ((hb.block _ (lt_of_block HR.out)).trans HR.out)
    have HZ' := Lib.hid ((hb.block _ (lt_of_block HZ.out)).trans HZ.out)
    have HC' := Lib.hid (HC.out.below hb)
    have HS' := Lib.hid (HS.out.below hb)
    have HO' := Lib.hid (HO.out.below hb)
    have HH' := Lib.hid (HH.out.below hb)
    have HB' := Lib.hid (HB.out.trans (hb.mono HB.out.size))
    clear HR
    have HR := HR'
    clear HR'
    clear HZ
    have HZ := HZ'
    clear HZ'
    clear HC
    have HC := HC'
    clear HC'
    clear HS
    have HS := HS'
    clear HS'
    clear HO
    have HO := HO'
    clear HO'
    clear HH
    have HH := HH'
    clear HH'
    clear HB
    have HB := HB'
    clear HB'
    clear hb
    have hwe : withoutE c = ([], errC c) := by unfold withoutE; rw [if_pos h0]
    rw [hwe]
    simp only
    obtain ⟨er, her⟩ : ∃ x, errC c = x := ⟨_, rfl⟩
    rw [her] at h0 ⊢
    have tz : (er != 0) = true := by simp [h0]
    clear her h0 hwe hI
    have r0 := cellOf HR.out 0 _ rfl
    have r1 := cellOf HR.out 1 _ rfl
    have r2 := cellOf HR.out 2 _ rfl
    have rl := lt_of_block HR.out
    have z0 := cellOf HZ.out 0 _ rfl
    have z1 := cellOf HZ.out 1 _ rfl
    have z2 := cellOf HZ.out 2 _ rfl
    have zl := lt_of_block HZ.out
    go_wp2_with fail
    clear r0 r1 r2 rl z0 z1 z2 zl
    refine (awake_any w2).mono ?_
    rintro e wz ⟨rfl, hb⟩
    have HBF := Lib.hid (HB.out.trans (hb.mono HB.out.size))
    clear hb
    go_wp2_with fail
    go_ret
    exact ⟨rfl, HBF.out⟩
end Go.Proofs.Ythhlakodnpopmaa
namespace Go.Proofs.Ythhlakodnpopmaa
namespace ClaimEdgeTrue
open Go.ChangeShapes Go.WideShapes Go.ChangeAt Go.RowKit

theorem own : ownKnob Try.prog.godebug = none := by kernel_rfl
theorem laidOutP : laidOutB Try.prog = true := by kernel_rfl

set_option maxRecDepth 100000 in
theorem contract (H : Type) (enc : TypeId × Value → H) (W : World) (base : Nat) (args : Array Value) (ds gs : List (DataW H)) (before : List MemPlace)
    (hval : ∀ (j : Nat) t v, Try.f10.params[j]? = some t → args[j]? = some v → Value.okWide Try.prog W .any base t v)
    (hW : DataW.Whole enc Try.prog Try.f10.params.toList Rows.edgeTrueSpec.vars false W args.toList ds gs before)
    (hsz : (DataW.weightsEach Try.prog (Try.f10.params.toList ++ Rows.edgeTrueSpec.plain.varTypes Try.prog) (ds ++ gs)).all (· ≤ reachBytes) = true) :
    Calls Try.prog 10 args W fun e W' => ∃ v, e = .returned v ∧ Rows.edgeTrueSpec.post enc Try.prog Try.f10 false true false false W args v W' := by
  have hW' := hW
  obtain ⟨p, q, hA0, hV, rfl, hfz, hnd⟩ := hW
  have hA : DataW.TrodAll enc Try.prog W 0 (fun _ => true) true Try.f10.params.toList args.toList ds p := hA0
  rw [Try.params10] at hA hval hsz
  obtain ⟨v0, vs0, d0, ds0, p0, q0, hargs, rfl, rfl, h0, r0⟩ := trodAll_cons hA
  obtain ⟨v1, vs1, d1, ds1, p1, q1, rfl, rfl, rfl, h1, r1⟩ := trodAll_cons r0
  obtain ⟨rfl, rfl, rfl⟩ := trodAll_nil r1
  obtain rfl : args = #[v0, v1] := by cases args; simp_all
  obtain ⟨rfl, rfl⟩ := trodVars_none hV
  have w0 : ∀ x ∈ d0.weights Try.prog 25, x ≤ reachBytes := fun x hx => of_decide_eq_true (List.all_eq_true.1 hsz _ (DataW.weights_mem_each (j := 0) (t := 25) (d := d0) rfl rfl x hx))
  obtain ⟨c0, sv0, ev0, rfl, hC0⟩ := open_case (hval 0 25 v0 rfl rfl) h0 w0
  have w1 : ∀ x ∈ d1.weights Try.prog 61, x ≤ reachBytes := fun x hx => of_decide_eq_true (List.all_eq_true.1 hsz _ (DataW.weights_mem_each (j := 1) (t := 61) (d := d1) rfl rfl x hx))
  obtain ⟨l1, m1, k1, u1, o1, hh1, rfl, hL1, hM1, hK1⟩ := open_shown (hval 1 61 v1 rfl rfl) h1 w1
  clear hA0
  refine (ltrue_any c0 sv0 ev0 u1 o1 hh1 l1 m1 k1 W hC0 hL1 hM1 hK1).mono fun e W' ⟨he, hb⟩ => ?_
  subst he
  exact ⟨_, rfl, post_law laidOutP (by rw [Try.params10]; intro t ht; simp at ht; rcases ht with rfl | rfl <;> exact ⟨by kernel_rfl, of_decide_eq_true (by kernel_rfl)⟩) rfl rfl Try.underlying4 rfl hW' hb⟩

set_option maxRecDepth 100000 in
theorem lifted (os : Os) (started : os.Started) (H : Type) (enc : TypeId × Value → H) :
    ReturnsInHanded {} Try.checked os 10 .any (Rows.edgeTrueSpec.pre6 enc Try.prog Try.f10 Rows.edgeTrueRow.domain false) (Rows.edgeTrueSpec.post enc Try.prog Try.f10 false true false false) := by
  refine returnsInHanded_of_change_sized (C := Try.checked) own started (by kernel_rfl) Try.func10
    (ChangeSpec.witness6 (enc := enc) (C := Try.checked) false ⟨#[], #[.agg #[.int .i64 0, .slice none 0 0, .slice none 0 0], .agg #[.slice none 0 0, .slice none 0 0, .slice none 0 0]], []⟩ 8 (by kernel_rfl) (by kernel_rfl) (by kernel_rfl) (by kernel_rfl)) ?_
  intro W base args ds gs before hval hW _ hsz _
  exact contract H enc W base args ds gs before hval hW hsz

theorem over : Rows.EdgeTrueSaid :=
  OpenClaim.holds_of_wide 10 Try.f10 rfl rfl rfl rfl rfl rfl rfl ⟨rfl, rfl, rfl, rfl, rfl⟩ rfl rfl rfl rfl rfl (by kernel_rfl) Try.func10 (by kernel_rfl)
    (of_decide_eq_true (by kernel_rfl)) (by unfold Func.isWrapper; first | (rw [if_pos (by decide +kernel)]; kernel_rfl) | (rw [if_neg (by decide +kernel)]; exact ⟨rfl, rfl⟩))
    (fun os started H enc _ => lifted os started H enc)
end ClaimEdgeTrue

theorem edgeTrue_holds : Rows.EdgeTrueSaid := ClaimEdgeTrue.over
end Go.Proofs.Ythhlakodnpopmaa
