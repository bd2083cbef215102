/- The arguments of the statements about package edge, opened: a case, an edge, numbers read as plain data. Condition: no string and no slice that came in takes more than all addresses. -/
import Derived.Test.YtojdocomkhihoaaEm
import Derived.Test.YtojdocomkhihoaaEu
import Derived.Lib.SmallJoins
import Derived.SliceStrings
import Derived.Deep.Slices
import Derived.SizedLaws
import Derived.OpenShut
import Derived.ChangeSame
import Derived.WideKeyArgs
set_option linter.unusedSimpArgs false
set_option linter.unusedVariables false
namespace Go.Proofs.Ytojdocomkhihoaa
open Go Go.RowKit Ed Go.ChangeShapes Go.WideShapes Go.Deep Go.Joins

theorem weightsAll_in {H : Type} {P : Program} {e : TypeId} : ∀ {l : List (DataW H)} {d : DataW H}, d ∈ l → ∀ n ∈ d.weights P e, n ∈ DataW.weightsAll P e l
  | d' :: r, d, hd, n, hn => by
    simp only [DataW.weightsAll, List.mem_append]
    rcases List.mem_cons.1 hd with rfl | h
    · exact Or.inl hn
    · exact Or.inr (weightsAll_in h n hn)

theorem cellsInt : Try.prog.cellsOf 3 = 1 := by kernel_rfl
theorem cellsStr : Try.prog.cellsOf 9 = 1 := by kernel_rfl
theorem cellsPairT : Try.prog.cellsOf 74 = 2 := by kernel_rfl
theorem cellsSht : Try.prog.cellsOf 66 = 3 := by kernel_rfl
theorem cellsEdg : Try.prog.cellsOf 71 = 3 := by kernel_rfl
theorem cellsCase : Try.prog.cellsOf 25 = 3 := by kernel_rfl
theorem cellsPtsT : Try.prog.cellsOf 69 = 1 := by kernel_rfl
theorem bytesPairT : Try.prog.bytesOf 74 = 16 := by kernel_rfl
theorem bytesSht : Try.prog.bytesOf 66 = 32 := by kernel_rfl
theorem bytesEdg : Try.prog.bytesOf 71 = 40 := by kernel_rfl

section
variable {H : Type} {enc : TypeId × Value → H} {W : World} {sp : Nat → Bool}
set_option maxRecDepth 100000 in
theorem open_pt {n : Nat} {cs : List Value} {y : DataW H × List MemPlace} (h : DataW.trod enc Try.prog W 0 sp true n 74 cs = some y) :
    ∃ x : Int × Int, cs = [.int .i64 x.1, .int .i64 x.2] := by
  obtain ⟨xs, m, _, hx, hl, hlen, hf⟩ := DataW.trod_struct Try.underlying74 h
  rw [cellsPairT] at hl
  match cs, hl with
  | [c0, c1], _ =>
    match xs, hlen with
    | [y0, y1], _ =>
      have h0 : DataW.trod enc Try.prog W 0 sp true m 3 (([c0, c1].drop 0).take (Try.prog.cellsOf 3)) = [y0, y1][0]? := hf 0 _ rfl
      have h1 : DataW.trod enc Try.prog W 0 sp true m 3 (([c0, c1].drop 1).take (Try.prog.cellsOf 3)) = [y0, y1][1]? := hf 1 _ rfl
      rw [cellsInt] at h0 h1
      obtain ⟨k0, e0, _⟩ := DataW.trod_int Try.underlying3 (h0.trans (by rfl : [y0, y1][0]? = some y0))
      obtain ⟨k1, e1, _⟩ := DataW.trod_int Try.underlying3 (h1.trans (by rfl : [y0, y1][1]? = some y1))
      simp at e0 e1
      exact ⟨(k0, k1), by simp [e0, e1]⟩
set_option maxRecDepth 100000 in
theorem reads_pairs {n : Nat} {v : Value} {y : DataW H × List MemPlace} (h : DataW.trod enc Try.prog W 0 sp true n 69 [v] = some y) (hw : ∀ x ∈ y.1.weights Try.prog 69, x ≤ reachBytes) :
    ∃ l : List (Int × Int), PairsAt W v l := by
  rcases open_slice Try.underlying69 h with ⟨hcs, _⟩ | ⟨a, len, cap, m, n', D, Pl, hcs, _, hl, hm, hmm, hx, hel⟩
  · simp only [List.cons.injEq, and_true] at hcs
    subst hcs
    exact ⟨[], by simp, none, 0, rfl, Nat.le_refl _, fun h => absurd rfl h⟩
  · simp only [List.cons.injEq, and_true] at hcs
    subst hcs
    have hlm : len ≤ m := by rw [hmm]; split <;> omega
    have hb : len * 16 ≤ reachBytes := by
      have := hw ((((List.range len).map D).length + ((List.range (m - len)).map fun j => D (len + j)).length) * 16) (by rw [hx]; simp [DataW.weights, Try.underlying69, bytesPairT])
      simp only [List.length_map, List.length_range] at this
      omega
    have hr : reachBytes = 140737488351232 := rfl
    obtain ⟨f, hf⟩ := choose_lt (α := Int × Int) (n := len) (p := fun i x => ∃ cs', W.cells? 0 (a.add (i * 2)) 2 = some cs' ∧ cs' = [.int .i64 x.1, .int .i64 x.2]) (fun i hi => by
      obtain ⟨cs', h1, h2⟩ := hel i (by omega)
      rw [cellsPairT] at h1
      obtain ⟨x, hx⟩ := open_pt h2
      exact ⟨x, cs', h1, hx⟩)
    refine ⟨(List.range len).map f, by simp; omega, some a, cap, by simp, by simpa using hl, fun hne => ?_⟩
    have h0 : 0 < len := by
      rcases Nat.eq_zero_or_pos len with h | h
      · subst h; exact absurd rfl hne
      · exact h
    have hc : ∀ i, i < len → ∀ j, j < 2 → W.cell? ((a.add (i * 2)).add j) = [Value.int .i64 (f i).1, .int .i64 (f i).2][j]? := fun i hi j hj => by
      obtain ⟨cs', h1, rfl⟩ := hf i hi
      exact (World.cells?_some h1).2.2 j hj
    obtain ⟨b, o, spot⟩ := a
    have hspot : spot = none := by
      have := hc 0 h0 0 (by omega)
      simpa [Addr.add] using World.cell?_spot this
    subst hspot
    refine ⟨b, o, rfl, fun k hk => ?_⟩
    have hk' : k < len := by simpa using hk
    have q0 := hc k hk' 0 (by omega)
    have q1 := hc k hk' 1 (by omega)
    rw [add_plain, add_plain] at q0 q1
    simp only [List.getElem_map, List.getElem_range]
    exact ⟨q0, q1⟩
set_option maxRecDepth 100000 in
theorem open_sht {n : Nat} {cs : List Value} {y : DataW H × List MemPlace} (h : DataW.trod enc Try.prog W 0 sp true n 66 cs = some y) (hw : ∀ x ∈ y.1.weights Try.prog 66, x ≤ reachBytes) :
    ∃ x : Sht, cs = [.string x.nm, .int .i64 x.wt, .int .i64 x.most] ∧ x.nm.size ≤ 140737488351232 := by
  obtain ⟨xs, m, _, hx, hl, hlen, hf⟩ := DataW.trod_struct Try.underlying66 h
  rw [cellsSht] at hl
  match cs, hl with
  | [c0, c1, c2], _ =>
    match xs, hlen with
    | [y0, y1, y2], _ =>
      have h0 : DataW.trod enc Try.prog W 0 sp true m 9 (([c0, c1, c2].drop 0).take (Try.prog.cellsOf 9)) = [y0, y1, y2][0]? := hf 0 _ rfl
      have h1 : DataW.trod enc Try.prog W 0 sp true m 3 (([c0, c1, c2].drop 1).take (Try.prog.cellsOf 3)) = [y0, y1, y2][1]? := hf 1 _ rfl
      have h2 : DataW.trod enc Try.prog W 0 sp true m 3 (([c0, c1, c2].drop 2).take (Try.prog.cellsOf 3)) = [y0, y1, y2][2]? := hf 2 _ rfl
      rw [cellsStr] at h0
      rw [cellsInt] at h1 h2
      obtain ⟨s, e0, hz, _⟩ := DataW.trod_string Try.underlying9 (h0.trans (by rfl : [y0, y1, y2][0]? = some y0))
      obtain ⟨k1, e1, _⟩ := DataW.trod_int Try.underlying3 (h1.trans (by rfl : [y0, y1, y2][1]? = some y1))
      obtain ⟨k2, e2, _⟩ := DataW.trod_int Try.underlying3 (h2.trans (by rfl : [y0, y1, y2][2]? = some y2))
      simp at e0 e1 e2
      refine ⟨⟨s, k1, k2⟩, by simp [e0, e1, e2], ?_⟩
      have hy0 : y0.1 = .lit (.string s.data.toList) := congrArg Prod.fst hz
      have := hw s.size (by
        rw [hx]
        simp [DataW.weights, Try.underlying66, DataW.weightsEach, hy0])
      have hr : reachBytes = 140737488351232 := rfl
      simp only
      omega
set_option maxRecDepth 100000 in
theorem reads_shts {n : Nat} {v : Value} {y : DataW H × List MemPlace} (h : DataW.trod enc Try.prog W 0 sp true n 22 [v] = some y) (hw : ∀ x ∈ y.1.weights Try.prog 22, x ≤ reachBytes) :
    ∃ l : List Sht, ShtsAt W v l := by
  rcases open_slice Try.underlying22 h with ⟨hcs, _⟩ | ⟨a, len, cap, m, n', D, Pl, hcs, _, hl, hm, hmm, hx, hel⟩
  · simp only [List.cons.injEq, and_true] at hcs
    subst hcs
    exact ⟨[], by simp, none, 0, rfl, Nat.le_refl _, (fun s hs => by simp at hs), fun h => absurd rfl h⟩
  · simp only [List.cons.injEq, and_true] at hcs
    subst hcs
    have hlm : len ≤ m := by rw [hmm]; split <;> omega
    have hy : y.1 = .slice ((List.range len).map D) ((List.range (m - len)).map fun j => D (len + j)) := congrArg Prod.fst hx
    have hb : len * 32 ≤ reachBytes := by
      have := hw ((((List.range len).map D).length + ((List.range (m - len)).map fun j => D (len + j)).length) * 32) (by rw [hx]; simp [DataW.weights, Try.underlying22, bytesSht])
      simp only [List.length_map, List.length_range] at this
      omega
    have hr : reachBytes = 140737488351232 := rfl
    obtain ⟨f, hf⟩ := choose_lt (α := Sht) (n := len) (p := fun i x => (∃ cs', W.cells? 0 (a.add (i * 3)) 3 = some cs' ∧ cs' = [.string x.nm, .int .i64 x.wt, .int .i64 x.most]) ∧ x.nm.size ≤ 140737488351232) (fun i hi => by
      obtain ⟨cs', h1, h2⟩ := hel i (by omega)
      rw [cellsSht] at h1
      obtain ⟨x, hx, hs⟩ := open_sht h2 (fun x hx => hw x (by
        rw [hy]
        simp only [DataW.weights, Try.underlying22, List.mem_cons, List.mem_append]
        exact Or.inr (Or.inl (weightsAll_in (d := D i) (List.mem_map.2 ⟨i, List.mem_range.2 hi, rfl⟩) _ hx))))
      exact ⟨x, ⟨cs', h1, hx⟩, hs⟩)
    refine ⟨(List.range len).map f, by simp; omega, some a, cap, by simp, by simpa using hl, fun s hs => ?_, fun hne => ?_⟩
    · obtain ⟨i, hi, rfl⟩ := List.mem_map.1 hs
      exact (hf i (List.mem_range.1 hi)).2
    have h0 : 0 < len := by
      rcases Nat.eq_zero_or_pos len with h | h
      · subst h; exact absurd rfl hne
      · exact h
    have hc : ∀ i, i < len → ∀ j, j < 3 → W.cell? ((a.add (i * 3)).add j) = [Value.string (f i).nm, .int .i64 (f i).wt, .int .i64 (f i).most][j]? := fun i hi j hj => by
      obtain ⟨⟨cs', h1, rfl⟩, _⟩ := hf i hi
      exact (World.cells?_some h1).2.2 j hj
    obtain ⟨b, o, spot⟩ := a
    have hspot : spot = none := by
      have := hc 0 h0 0 (by omega)
      simpa [Addr.add] using World.cell?_spot this
    subst hspot
    refine ⟨b, o, rfl, fun k hk => ?_⟩
    have hk' : k < len := by simpa using hk
    have q0 := hc k hk' 0 (by omega)
    have q1 := hc k hk' 1 (by omega)
    have q2 := hc k hk' 2 (by omega)
    rw [add_plain, add_plain] at q0 q1 q2
    simp only [List.getElem_map, List.getElem_range]
    exact ⟨q0, q1, q2⟩
set_option maxRecDepth 100000 in
theorem open_edg {n : Nat} {cs : List Value} {y : DataW H × List MemPlace} (h : DataW.trod enc Try.prog W 0 sp true n 71 cs = some y) (hw : ∀ x ∈ y.1.weights Try.prog 71, x ≤ reachBytes) :
    ∃ (x : Edg) (pv : Value), cs = [.int .i64 x.a, .int .i64 x.b, pv] ∧ PairsAt W pv x.pts := by
  obtain ⟨xs, m, _, hx, hl, hlen, hf⟩ := DataW.trod_struct Try.underlying71 h
  rw [cellsEdg] at hl
  match cs, hl with
  | [c0, c1, c2], _ =>
    match xs, hlen with
    | [y0, y1, y2], _ =>
      have h0 : DataW.trod enc Try.prog W 0 sp true m 3 (([c0, c1, c2].drop 0).take (Try.prog.cellsOf 3)) = [y0, y1, y2][0]? := hf 0 _ rfl
      have h1 : DataW.trod enc Try.prog W 0 sp true m 3 (([c0, c1, c2].drop 1).take (Try.prog.cellsOf 3)) = [y0, y1, y2][1]? := hf 1 _ rfl
      have h2 : DataW.trod enc Try.prog W 0 sp true m 69 (([c0, c1, c2].drop 2).take (Try.prog.cellsOf 69)) = [y0, y1, y2][2]? := hf 2 _ rfl
      rw [cellsInt] at h0 h1
      rw [cellsPtsT] at h2
      obtain ⟨k0, e0, _⟩ := DataW.trod_int Try.underlying3 (h0.trans (by rfl : [y0, y1, y2][0]? = some y0))
      obtain ⟨k1, e1, _⟩ := DataW.trod_int Try.underlying3 (h1.trans (by rfl : [y0, y1, y2][1]? = some y1))
      have h2' : DataW.trod enc Try.prog W 0 sp true m 69 [c2] = some y2 := h2.trans (by rfl : [y0, y1, y2][2]? = some y2)
      obtain ⟨l, hp⟩ := reads_pairs h2' (fun x hm => hw x (by
        rw [hx]
        simp only [DataW.weights, Try.underlying71, DataW.weightsEach, List.map, List.mem_append]
        exact Or.inr (Or.inr (Or.inl hm))))
      simp at e0 e1
      exact ⟨⟨k0, k1, l⟩, c2, by simp [e0, e1], hp⟩
set_option maxRecDepth 100000 in
theorem reads_edgs {n : Nat} {v : Value} {y : DataW H × List MemPlace} (h : DataW.trod enc Try.prog W 0 sp true n 23 [v] = some y) (hw : ∀ x ∈ y.1.weights Try.prog 23, x ≤ reachBytes) :
    ∃ l : List Edg, EdgsAt W v l := by
  rcases open_slice Try.underlying23 h with ⟨hcs, _⟩ | ⟨a, len, cap, m, n', D, Pl, hcs, _, hl, hm, hmm, hx, hel⟩
  · simp only [List.cons.injEq, and_true] at hcs
    subst hcs
    exact ⟨[], by simp, none, 0, rfl, Nat.le_refl _, fun h => absurd rfl h⟩
  · simp only [List.cons.injEq, and_true] at hcs
    subst hcs
    have hlm : len ≤ m := by rw [hmm]; split <;> omega
    have hy : y.1 = .slice ((List.range len).map D) ((List.range (m - len)).map fun j => D (len + j)) := congrArg Prod.fst hx
    have hb : len * 40 ≤ reachBytes := by
      have := hw ((((List.range len).map D).length + ((List.range (m - len)).map fun j => D (len + j)).length) * 40) (by rw [hx]; simp [DataW.weights, Try.underlying23, bytesEdg])
      simp only [List.length_map, List.length_range] at this
      omega
    have hr : reachBytes = 140737488351232 := rfl
    obtain ⟨f, hf⟩ := choose_lt (α := Edg × Value) (n := len) (p := fun i x => (∃ cs', W.cells? 0 (a.add (i * 3)) 3 = some cs' ∧ cs' = [.int .i64 x.1.a, .int .i64 x.1.b, x.2]) ∧ PairsAt W x.2 x.1.pts) (fun i hi => by
      obtain ⟨cs', h1, h2⟩ := hel i (by omega)
      rw [cellsEdg] at h1
      obtain ⟨x, pv, hx, hs⟩ := open_edg h2 (fun x hx => hw x (by
        rw [hy]
        simp only [DataW.weights, Try.underlying23, List.mem_cons, List.mem_append]
        exact Or.inr (Or.inl (weightsAll_in (d := D i) (List.mem_map.2 ⟨i, List.mem_range.2 hi, rfl⟩) _ hx))))
      exact ⟨(x, pv), ⟨cs', h1, hx⟩, hs⟩)
    refine ⟨(List.range len).map fun i => (f i).1, by simp; omega, some a, cap, by simp, by simpa using hl, fun hne => ?_⟩
    have h0 : 0 < len := by
      rcases Nat.eq_zero_or_pos len with h | h
      · subst h; exact absurd rfl hne
      · exact h
    have hc : ∀ i, i < len → ∀ j, j < 3 → W.cell? ((a.add (i * 3)).add j) = [Value.int .i64 (f i).1.a, .int .i64 (f i).1.b, (f i).2][j]? := fun i hi j hj => by
      obtain ⟨⟨cs', h1, rfl⟩, _⟩ := hf i hi
      exact (World.cells?_some h1).2.2 j hj
    obtain ⟨b, o, spot⟩ := a
    have hspot : spot = none := by
      have := hc 0 h0 0 (by omega)
      simpa [Addr.add] using World.cell?_spot this
    subst hspot
    refine ⟨b, o, rfl, fun k hk => ?_⟩
    have hk' : k < len := by simpa using hk
    have q0 := hc k hk' 0 (by omega)
    have q1 := hc k hk' 1 (by omega)
    have q2 := hc k hk' 2 (by omega)
    rw [add_plain, add_plain] at q0 q1 q2
    simp only [List.getElem_map, List.getElem_range]
    exact ⟨q0, q1, _, q2, (hf k hk').2⟩
set_option maxRecDepth 100000 in
/-- A case that came in. -/
theorem open_case {base : Nat} {v : Value} {d : DataW H} {p : List MemPlace} (hok : Value.okWide Try.prog W .any base 25 v) (h : DataW.Trod enc Try.prog W 0 sp true 25 v d p)
    (hw : ∀ x ∈ d.weights Try.prog 25, x ≤ reachBytes) : ∃ (c : Cas) (sv ev : Value), v = .agg #[.int .i64 c.tol, sv, ev] ∧ CasAt W c sv ev := by
  obtain ⟨v0, v1, v2, y0, y1, y2, n, rfl, rfl, rfl, h0, h1, h2⟩ := open_agg3 Try.underlying25 (by kernel_rfl) cellsCase hok h
  obtain ⟨k, e0, _, wk⟩ := DataW.trod_int Try.underlying3 h0
  simp only [List.cons.injEq, and_true] at e0
  subst e0
  simp only [DataW.weights, Try.underlying25, DataW.weightsEach, List.map, List.mem_append] at hw
  obtain ⟨ss, hs⟩ := reads_shts h1 (fun x hx => hw x (Or.inr (Or.inl hx)))
  obtain ⟨es, he⟩ := reads_edgs h2 (fun x hx => hw x (Or.inr (Or.inr (Or.inl hx))))
  exact ⟨⟨k, ss, es⟩, v1, v2, rfl, hs, he⟩
set_option maxRecDepth 100000 in
/-- An edge that came in. -/
theorem open_edge {base : Nat} {v : Value} {d : DataW H} {p : List MemPlace} (hok : Value.okWide Try.prog W .any base 71 v) (h : DataW.Trod enc Try.prog W 0 sp true 71 v d p)
    (hw : ∀ x ∈ d.weights Try.prog 71, x ≤ reachBytes) : ∃ (x : Edg) (pv : Value), v = .agg #[.int .i64 x.a, .int .i64 x.b, pv] ∧ PairsAt W pv x.pts := by
  obtain ⟨v0, v1, v2, y0, y1, y2, n, rfl, rfl, rfl, h0, h1, h2⟩ := open_agg3 Try.underlying71 (by kernel_rfl) cellsEdg hok h
  obtain ⟨k, e0, _⟩ := DataW.trod_int Try.underlying3 h0
  obtain ⟨k1, e1, _⟩ := DataW.trod_int Try.underlying3 h1
  simp only [List.cons.injEq, and_true] at e0 e1
  subst e0 e1
  simp only [DataW.weights, Try.underlying71, DataW.weightsEach, List.map, List.mem_append] at hw
  obtain ⟨l, hp⟩ := reads_pairs h2 (fun x hx => hw x (Or.inr (Or.inr (Or.inl hx))))
  exact ⟨⟨k, k1, l⟩, v2, rfl, hp⟩
end
theorem cellsU8 : Try.prog.cellsOf 5 = 1 := by kernel_rfl
theorem bytesU8 : Try.prog.bytesOf 5 = 1 := by kernel_rfl
theorem cellsU8x2 : Try.prog.cellsOf 72 = 2 := by kernel_rfl
theorem cellsU8x3 : Try.prog.cellsOf 76 = 3 := by kernel_rfl
theorem okWide_arr {P : Program} {W : World} {r : Reach} {b0 : Nat} {v : Value} {t e : TypeId} {n : Nat} (ht : P.underlying t = some (.array n e)) (h : Value.okWide P W r b0 t v) : ∃ cs, v = .agg cs ∧ cs.size = P.cellsOf t := by
  simp only [Value.okWide, ht] at h
  obtain ⟨cs, h1, h2, _⟩ := h
  exact ⟨cs, h1, h2⟩
section
variable {H : Type} {enc : TypeId × Value → H} {W : World} {sp : Nat → Bool} {base : Nat} {v : Value} {d : DataW H} {p : List MemPlace}
set_option maxRecDepth 100000 in
theorem open_u8x2 (hok : Value.okWide Try.prog W .any base 72 v) (h : DataW.Trod enc Try.prog W 0 sp true 72 v d p) : ∃ x y : Nat, v = .agg #[.int .u8 x, .int .u8 y] ∧ x ≤ 255 ∧ y ≤ 255 := by
  obtain ⟨cs, rfl, hsz⟩ := okWide_arr Try.underlying72 hok
  rw [cellsU8x2] at hsz
  obtain ⟨l⟩ := cs
  match l, hsz with
  | [c0, c1], _ =>
    obtain ⟨fuel, hf⟩ := h
    obtain ⟨xs, m, _, _, _, hlen, hg⟩ := DataW.trod_array Try.underlying72 hf
    match xs, hlen with
    | [y0, y1], _ =>
      have h0 := hg 0 (by omega)
      have h1 := hg 1 (by omega)
      rw [cellsU8] at h0 h1
      obtain ⟨k0, e0, _, w0⟩ := DataW.trod_int Try.underlying5 (h0.trans (by rfl : [y0, y1][0]? = some y0))
      obtain ⟨k1, e1, _, w1⟩ := DataW.trod_int Try.underlying5 (h1.trans (by rfl : [y0, y1][1]? = some y1))
      simp [Value.cells] at e0 e1
      subst e0 e1
      have b0 := bounds_u8 w0
      have b1 := bounds_u8 w1
      exact ⟨k0.toNat, k1.toNat, by rw [Int.toNat_of_nonneg b0.1, Int.toNat_of_nonneg b1.1], by omega, by omega⟩
set_option maxRecDepth 100000 in
theorem open_u8x3 (hok : Value.okWide Try.prog W .any base 76 v) (h : DataW.Trod enc Try.prog W 0 sp true 76 v d p) : ∃ x y z : Nat, v = .agg #[.int .u8 x, .int .u8 y, .int .u8 z] ∧ x ≤ 255 ∧ y ≤ 255 ∧ z ≤ 255 := by
  obtain ⟨cs, rfl, hsz⟩ := okWide_arr Try.underlying76 hok
  rw [cellsU8x3] at hsz
  obtain ⟨l⟩ := cs
  match l, hsz with
  | [c0, c1, c2], _ =>
    obtain ⟨fuel, hf⟩ := h
    obtain ⟨xs, m, _, _, _, hlen, hg⟩ := DataW.trod_array Try.underlying76 hf
    match xs, hlen with
    | [y0, y1, y2], _ =>
      have h0 := hg 0 (by omega)
      have h1 := hg 1 (by omega)
      have h2 := hg 2 (by omega)
      rw [cellsU8] at h0 h1 h2
      obtain ⟨k0, e0, _, w0⟩ := DataW.trod_int Try.underlying5 (h0.trans (by rfl : [y0, y1, y2][0]? = some y0))
      obtain ⟨k1, e1, _, w1⟩ := DataW.trod_int Try.underlying5 (h1.trans (by rfl : [y0, y1, y2][1]? = some y1))
      obtain ⟨k2, e2, _, w2⟩ := DataW.trod_int Try.underlying5 (h2.trans (by rfl : [y0, y1, y2][2]? = some y2))
      simp [Value.cells] at e0 e1 e2
      subst e0 e1 e2
      have b0 := bounds_u8 w0
      have b1 := bounds_u8 w1
      have b2 := bounds_u8 w2
      exact ⟨k0.toNat, k1.toNat, k2.toNat, by rw [Int.toNat_of_nonneg b0.1, Int.toNat_of_nonneg b1.1, Int.toNat_of_nonneg b2.1], by omega, by omega, by omega⟩
set_option maxRecDepth 100000 in
theorem open_u8s (hok : Value.okWide Try.prog W .any base 47 v) (h : DataW.Trod enc Try.prog W 0 sp true 47 v d p) (hw : ∀ x ∈ d.weights Try.prog 47, x ≤ reachBytes) :
    ∃ l : List Nat, U8At W v l := by
  obtain ⟨a0, len0, cap0, rfl⟩ := okWide_slice Try.underlying47 hok
  obtain ⟨fuel, hf⟩ := h
  have hf' : DataW.trod enc Try.prog W 0 sp true fuel 47 [.slice a0 len0 cap0] = some (d, p) := hf
  rcases open_slice1 Try.underlying47 cellsU8 hf' with ⟨hcs, _⟩ | ⟨a, len, cap, m, n', V, D, Pl, hcs, _, hl, hm, hmm, hx, hel⟩
  · simp only [List.cons.injEq, Value.slice.injEq, and_true] at hcs
    obtain ⟨rfl, rfl, rfl⟩ := hcs
    exact ⟨[], by simp, none, 0, rfl, fun h => absurd rfl h⟩
  · simp only [List.cons.injEq, Value.slice.injEq, and_true] at hcs
    obtain ⟨rfl, rfl, rfl⟩ := hcs
    have hlm : len0 ≤ m := by rw [hmm]; split <;> omega
    have hd : d = .slice ((List.range len0).map D) ((List.range (m - len0)).map fun j => D (len0 + j)) := congrArg Prod.fst hx
    have hb : len0 * 1 ≤ reachBytes := by
      have := hw ((((List.range len0).map D).length + ((List.range (m - len0)).map fun j => D (len0 + j)).length) * 1) (by rw [hd]; simp [DataW.weights, Try.underlying47, bytesU8])
      simp only [List.length_map, List.length_range] at this
      omega
    have hr : reachBytes = 140737488351232 := rfl
    obtain ⟨f, hfl⟩ := choose_lt (α := Nat) (n := len0) (p := fun i x => W.cell? (a.add i) = some (.int .u8 x) ∧ x ≤ 255) (fun i hi => by
      obtain ⟨h1, h2⟩ := hel i (by omega)
      obtain ⟨k, e, _, w⟩ := DataW.trod_int Try.underlying5 h2
      simp only [List.cons.injEq, and_true] at e
      have bd := bounds_u8 w
      refine ⟨k.toNat, ?_, by omega⟩
      rw [h1, e, Int.toNat_of_nonneg bd.1])
    refine ⟨(List.range len0).map f, by simp; omega, some a, cap0, by simp, fun hne => ?_⟩
    have h0 : 0 < len0 := by
      rcases Nat.eq_zero_or_pos len0 with h | h
      · subst h; exact absurd rfl hne
      · exact h
    obtain ⟨b, o, spot⟩ := a
    have hspot : spot = none := by simpa [Addr.add] using World.cell?_spot (hfl 0 h0).1
    subst hspot
    refine ⟨b, o, rfl, fun k hk => ?_⟩
    have hk' : k < len0 := by simpa using hk
    have hc := hfl k hk'
    rw [add_plain] at hc
    simpa [List.getD_eq_getElem?_getD, hk'] using hc
end

theorem bytesInt : Try.prog.bytesOf 3 = 8 := by kernel_rfl
section
variable {H : Type} {enc : TypeId × Value → H} {W : World} {sp : Nat → Bool} {base : Nat} {v : Value} {d : DataW H} {p : List MemPlace}
set_option maxRecDepth 100000 in
theorem open_ints (hok : Value.okWide Try.prog W .any base 26 v) (h : DataW.Trod enc Try.prog W 0 sp true 26 v d p) (hw : ∀ x ∈ d.weights Try.prog 26, x ≤ reachBytes) :
    ∃ l : List Int, IntsAt W v l := by
  obtain ⟨a0, len0, cap0, rfl⟩ := okWide_slice Try.underlying26 hok
  obtain ⟨fuel, hf⟩ := h
  have hf' : DataW.trod enc Try.prog W 0 sp true fuel 26 [.slice a0 len0 cap0] = some (d, p) := hf
  rcases open_slice1 Try.underlying26 cellsInt hf' with ⟨hcs, _⟩ | ⟨a, len, cap, m, n', V, D, Pl, hcs, _, hl, hm, hmm, hx, hel⟩
  · simp only [List.cons.injEq, Value.slice.injEq, and_true] at hcs
    obtain ⟨rfl, rfl, rfl⟩ := hcs
    exact ⟨[], by simp, none, 0, rfl, Nat.le_refl _, fun h => absurd rfl h⟩
  · simp only [List.cons.injEq, Value.slice.injEq, and_true] at hcs
    obtain ⟨rfl, rfl, rfl⟩ := hcs
    have hlm : len0 ≤ m := by rw [hmm]; split <;> omega
    have hd : d = .slice ((List.range len0).map D) ((List.range (m - len0)).map fun j => D (len0 + j)) := congrArg Prod.fst hx
    have hb : len0 * 8 ≤ reachBytes := by
      have := hw ((((List.range len0).map D).length + ((List.range (m - len0)).map fun j => D (len0 + j)).length) * 8) (by rw [hd]; simp [DataW.weights, Try.underlying26, bytesInt])
      simp only [List.length_map, List.length_range] at this
      omega
    have hr : reachBytes = 140737488351232 := rfl
    obtain ⟨f, hfl⟩ := choose_lt (α := Int) (n := len0) (p := fun i x => W.cell? (a.add i) = some (.int .i64 x)) (fun i hi => by
      obtain ⟨h1, h2⟩ := hel i (by omega)
      obtain ⟨k, e, _, w⟩ := DataW.trod_int Try.underlying3 h2
      simp only [List.cons.injEq, and_true] at e
      exact ⟨k, by rw [h1, e]⟩)
    refine ⟨(List.range len0).map f, by simp; omega, some a, cap0, by simp, by simpa using hl, fun hne => ?_⟩
    have h0 : 0 < len0 := by
      rcases Nat.eq_zero_or_pos len0 with h | h
      · subst h; exact absurd rfl hne
      · exact h
    obtain ⟨b, o, spot⟩ := a
    have hspot : spot = none := by simpa [Addr.add] using World.cell?_spot (hfl 0 h0)
    subst hspot
    refine ⟨b, o, rfl, fun k hk => ?_⟩
    have hk' : k < len0 := by simpa using hk
    have hc := hfl k hk'
    rw [add_plain] at hc
    simpa using hc
end
section
variable {H : Type} {enc : TypeId × Value → H} {P : Program}
/-- All arguments read behind a call that turned nothing old as they read before. -/
theorem args_stay {W W' : World} {sp : Nat → Bool} (hl : laidOutB P = true) (hb : Below W.heap.size W W') :
    ∀ {ts : List TypeId} {vs : List Value} {ds : List (DataW H)} {ps : List MemPlace}, (∀ t, t ∈ ts → P.readableRec t = true ∧ t < P.types.size) → DataW.TrodAll enc P W 0 (fun _ => true) true ts vs ds ps →
      (∀ x, x ∈ ps → x.block < W.heap.size ∧ sp x.block = true) → DataW.TrodAll enc P W' 0 sp true ts vs ds ps
  | [], [], [], _, _, h, _ => h
  | t :: ts, v :: vs, d :: ds, _, hr, ⟨p, q, h1, h2, e⟩, hs =>
    ⟨p, q, WideElems.Trod_stays hl (hr t (List.mem_cons_self ..)).1 (hr t (List.mem_cons_self ..)).2 h1 (fun x hx => hb.same (hs x (e ▸ List.mem_append_left q hx)).1) (fun x hx => (hs x (e ▸ List.mem_append_left q hx)).2),
      args_stay hl hb (fun u hu => hr u (List.mem_cons_of_mem _ hu)) h2 (fun x hx => hs x (e ▸ List.mem_append_right p hx)), e⟩
/-- What a statement's row asks behind a call that returned true and turned nothing that was there. -/
theorem post_law {f : Func} {s : ChangeSpec} {W W' : World} {args : Array Value} {ds : List (DataW H)} {before : List MemPlace} {tb : TypeId}
    (hl : laidOutB P = true) (hr : ∀ t, t ∈ f.params.toList → P.readableRec t = true ∧ t < P.types.size) (hvars : s.vars = []) (hres : f.resultTypes = #[tb]) (htb : P.underlying tb = some .bool)
    (hfn : s.fn H ds = { results := [.lit (.bool true)], args := ds }) (hW : DataW.Whole enc P f.params.toList s.vars false W args.toList ds [] before) (hb : Below W.heap.size W W') :
    s.post enc P f false true false false W args (.bool true) W' := by
  have hlt : ∀ x, x ∈ before → x.block < W.heap.size := fun x hx => hW.lt x hx
  obtain ⟨p, q, hA, hV, hbf, _, _⟩ := id hW
  have hq : q = [] := by rw [hvars] at hV; exact hV
  subst hq
  simp only [List.append_nil] at hbf
  subst hbf
  have e : ds ++ ([] : List (DataW H)) = ds := List.append_nil ds
  refine ⟨ds, [], _, [], before, [], hW, ?_, ?_, ?_, hb.frame _, fun h => by cases h⟩
  · rw [e, hfn, hres]
    exact trodAll_cons_mk (shut_bool htb _) trodAll_mk0
  · rw [e, hfn]
    exact args_stay hl hb hr hA (fun x hx => ⟨hlt x hx, by simpa using hlt x hx⟩)
  · rw [e, hfn, hvars]
    exact rfl
end
end Go.Proofs.Ytojdocomkhihoaa
