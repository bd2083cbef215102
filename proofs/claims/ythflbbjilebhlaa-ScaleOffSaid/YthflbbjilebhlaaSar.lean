/- The arguments of the statements about package scale, opened: a case, scales, marks, numbers read as plain data. Condition: no slice that came in takes more than all addresses. -/
import Derived.Test.YthflbbjilebhlaaUj
import Derived.Lib.SmallJoins
import Derived.SliceStrings
import Derived.Deep.Slices
import Derived.SizedLaws
import Derived.OpenShut
import Derived.ChangeSame
import Derived.WideKeyArgs
set_option linter.unusedSimpArgs false
set_option linter.unusedVariables false
namespace Go.Proofs.Ythflbbjilebhlaa
open Go Go.RowKit Sc Go.ChangeShapes Go.WideShapes Go.Deep Go.Joins

theorem cellsInt : Try.prog.cellsOf 3 = 1 := by kernel_rfl
theorem cellsSpan : Try.prog.cellsOf 51 = 2 := by kernel_rfl
theorem cellsMark : Try.prog.cellsOf 53 = 3 := by kernel_rfl
theorem bytesMark : Try.prog.bytesOf 53 = 24 := by kernel_rfl
theorem cellsCase : Try.prog.cellsOf 25 = 5 := by kernel_rfl
theorem cellsScl : Try.prog.cellsOf 27 = 2 := by kernel_rfl
theorem bytesScl : Try.prog.bytesOf 27 = 16 := by kernel_rfl
theorem cellsRoad : Try.prog.cellsOf 79 = 2 := by kernel_rfl
theorem bytesRoad : Try.prog.bytesOf 79 = 16 := by kernel_rfl
theorem array5 {α : Type} {cs : Array α} (h : cs.size = 5) : ∃ c0 c1 c2 c3 c4, cs = #[c0, c1, c2, c3, c4] := by
  obtain ⟨l⟩ := cs
  match l, h with
  | [c0, c1, c2, c3, c4], _ => exact ⟨c0, c1, c2, c3, c4, rfl⟩
theorem okWide_str {P : Program} {W : World} {r : Reach} {b0 : Nat} {v : Value} {t : TypeId} {fs : Array Field} (ht : P.underlying t = some (.struct fs)) (h : Value.okWide P W r b0 t v) : ∃ cs, v = .agg cs ∧ cs.size = P.cellsOf t := by
  exact okWide_struct ht h

section
variable {H : Type} {enc : TypeId × Value → H} {W : World} {sp : Nat → Bool}
set_option maxRecDepth 100000 in
theorem open_rd {n : Nat} {cs : List Value} {y : DataW H × List MemPlace} (h : DataW.trod enc Try.prog W 0 sp true n 79 cs = some y) :
    ∃ x : Int × Int, cs = [.int .i64 x.1, .int .i64 x.2] := by
  obtain ⟨xs, m, _, hx, hl, hlen, hf⟩ := DataW.trod_struct Try.underlying79 h
  rw [cellsRoad] at hl
  match cs, hl with
  | [c0, c1], _ =>
    match xs, hlen with
    | [y0, y1], _ =>
      have h0 : DataW.trod enc Try.prog W 0 sp true m 3 (([c0, c1].drop 0).take (Try.prog.cellsOf 3)) = [y0, y1][0]? := hf 0 _ rfl
      have h1 : DataW.trod enc Try.prog W 0 sp true m 3 (([c0, c1].drop 1).take (Try.prog.cellsOf 3)) = [y0, y1][1]? := hf 1 _ rfl
      rw [cellsInt] at h0 h1
      obtain ⟨k0, e0, _⟩ := DataW.trod_int Try.underlying3 (h0.trans (by rfl : [y0, y1][0]? = some y0))
      obtain ⟨k1, e1, _⟩ := DataW.trod_int Try.underlying3 (h1.trans (by rfl : [y0, y1][1]? = some y1))
      simp at e0 e1
      exact ⟨(k0, k1), by simp [e0, e1]⟩
set_option maxRecDepth 100000 in
theorem reads_rds {n : Nat} {v : Value} {y : DataW H × List MemPlace} (h : DataW.trod enc Try.prog W 0 sp true n 23 [v] = some y) (hw : ∀ x ∈ y.1.weights Try.prog 23, x ≤ reachBytes) :
    ∃ l : List (Int × Int), PairsAt W v l := by
  rcases open_slice Try.underlying23 h with ⟨hcs, _⟩ | ⟨a, len, cap, m, n', D, Pl, hcs, _, hl, hm, hmm, hx, hel⟩
  · simp only [List.cons.injEq, and_true] at hcs
    subst hcs
    exact ⟨[], by simp, none, 0, rfl, Nat.le_refl _, fun h => absurd rfl h⟩
  · simp only [List.cons.injEq, and_true] at hcs
    subst hcs
    have hlm : len ≤ m := by rw [hmm]; split <;> omega
    have hb : len * 16 ≤ reachBytes := by
      have := hw ((((List.range len).map D).length + ((List.range (m - len)).map fun j => D (len + j)).length) * 16) (by rw [hx]; simp [DataW.weights, Try.underlying23, bytesRoad])
      simp only [List.length_map, List.length_range] at this
      omega
    have hr : reachBytes = 140737488351232 := rfl
    obtain ⟨f, hf⟩ := choose_lt (α := Int × Int) (n := len) (p := fun i x => ∃ cs', W.cells? 0 (a.add (i * 2)) 2 = some cs' ∧ cs' = [.int .i64 x.1, .int .i64 x.2]) (fun i hi => by
      obtain ⟨cs', h1, h2⟩ := hel i (by omega)
      rw [cellsRoad] at h1
      obtain ⟨x, hx⟩ := open_rd h2
      exact ⟨x, cs', h1, hx⟩)
    refine ⟨(List.range len).map f, by simp; omega, some a, cap, by simp, by simpa using hl, fun hne => ?_⟩
    have h0 : 0 < len := by
      rcases Nat.eq_zero_or_pos len with h | h
      · subst h; exact absurd rfl hne
      · exact h
    have hc : ∀ i, i < len → ∀ j, j < 2 → W.cell? ((a.add (i * 2)).add j) = [Value.int .i64 (f i).1, .int .i64 (f i).2][j]? := fun i hi j hj => by
      obtain ⟨cs', h1, rfl⟩ := hf i hi
      exact (World.cells?_some h1).2.2 j hj
    obtain ⟨b, o, spot⟩ := a
    have hspot : spot = none := by
      have := hc 0 h0 0 (by omega)
      simpa [Addr.add] using World.cell?_spot this
    subst hspot
    refine ⟨b, o, rfl, fun k hk => ?_⟩
    have hk' : k < len := by simpa using hk
    have q0 := hc k hk' 0 (by omega)
    have q1 := hc k hk' 1 (by omega)
    rw [WideShapes.add_plain, WideShapes.add_plain] at q0 q1
    simp only [List.getElem_map, List.getElem_range]
    exact ⟨q0, q1⟩
set_option maxRecDepth 100000 in
theorem open_sl {n : Nat} {cs : List Value} {y : DataW H × List MemPlace} (h : DataW.trod enc Try.prog W 0 sp true n 27 cs = some y) :
    ∃ x : Int × Int, cs = [.int .i64 x.1, .int .i64 x.2] := by
  obtain ⟨xs, m, _, hx, hl, hlen, hf⟩ := DataW.trod_struct Try.underlying27 h
  rw [cellsScl] at hl
  match cs, hl with
  | [c0, c1], _ =>
    match xs, hlen with
    | [y0, y1], _ =>
      have h0 : DataW.trod enc Try.prog W 0 sp true m 3 (([c0, c1].drop 0).take (Try.prog.cellsOf 3)) = [y0, y1][0]? := hf 0 _ rfl
      have h1 : DataW.trod enc Try.prog W 0 sp true m 3 (([c0, c1].drop 1).take (Try.prog.cellsOf 3)) = [y0, y1][1]? := hf 1 _ rfl
      rw [cellsInt] at h0 h1
      obtain ⟨k0, e0, _⟩ := DataW.trod_int Try.underlying3 (h0.trans (by rfl : [y0, y1][0]? = some y0))
      obtain ⟨k1, e1, _⟩ := DataW.trod_int Try.underlying3 (h1.trans (by rfl : [y0, y1][1]? = some y1))
      simp at e0 e1
      exact ⟨(k0, k1), by simp [e0, e1]⟩
set_option maxRecDepth 100000 in
theorem reads_sls {n : Nat} {v : Value} {y : DataW H × List MemPlace} (h : DataW.trod enc Try.prog W 0 sp true n 42 [v] = some y) (hw : ∀ x ∈ y.1.weights Try.prog 42, x ≤ reachBytes) :
    ∃ l : List (Int × Int), PairsAt W v l := by
  rcases open_slice Try.underlying42 h with ⟨hcs, _⟩ | ⟨a, len, cap, m, n', D, Pl, hcs, _, hl, hm, hmm, hx, hel⟩
  · simp only [List.cons.injEq, and_true] at hcs
    subst hcs
    exact ⟨[], by simp, none, 0, rfl, Nat.le_refl _, fun h => absurd rfl h⟩
  · simp only [List.cons.injEq, and_true] at hcs
    subst hcs
    have hlm : len ≤ m := by rw [hmm]; split <;> omega
    have hb : len * 16 ≤ reachBytes := by
      have := hw ((((List.range len).map D).length + ((List.range (m - len)).map fun j => D (len + j)).length) * 16) (by rw [hx]; simp [DataW.weights, Try.underlying42, bytesScl])
      simp only [List.length_map, List.length_range] at this
      omega
    have hr : reachBytes = 140737488351232 := rfl
    obtain ⟨f, hf⟩ := choose_lt (α := Int × Int) (n := len) (p := fun i x => ∃ cs', W.cells? 0 (a.add (i * 2)) 2 = some cs' ∧ cs' = [.int .i64 x.1, .int .i64 x.2]) (fun i hi => by
      obtain ⟨cs', h1, h2⟩ := hel i (by omega)
      rw [cellsScl] at h1
      obtain ⟨x, hx⟩ := open_sl h2
      exact ⟨x, cs', h1, hx⟩)
    refine ⟨(List.range len).map f, by simp; omega, some a, cap, by simp, by simpa using hl, fun hne => ?_⟩
    have h0 : 0 < len := by
      rcases Nat.eq_zero_or_pos len with h | h
      · subst h; exact absurd rfl hne
      · exact h
    have hc : ∀ i, i < len → ∀ j, j < 2 → W.cell? ((a.add (i * 2)).add j) = [Value.int .i64 (f i).1, .int .i64 (f i).2][j]? := fun i hi j hj => by
      obtain ⟨cs', h1, rfl⟩ := hf i hi
      exact (World.cells?_some h1).2.2 j hj
    obtain ⟨b, o, spot⟩ := a
    have hspot : spot = none := by
      have := hc 0 h0 0 (by omega)
      simpa [Addr.add] using World.cell?_spot this
    subst hspot
    refine ⟨b, o, rfl, fun k hk => ?_⟩
    have hk' : k < len := by simpa using hk
    have q0 := hc k hk' 0 (by omega)
    have q1 := hc k hk' 1 (by omega)
    rw [WideShapes.add_plain, WideShapes.add_plain] at q0 q1
    simp only [List.getElem_map, List.getElem_range]
    exact ⟨q0, q1⟩
set_option maxRecDepth 100000 in
theorem open_mk {n : Nat} {cs : List Value} {y : DataW H × List MemPlace} (h : DataW.trod enc Try.prog W 0 sp true n 53 cs = some y) :
    ∃ x : Mrk, cs = [.int .i64 x.pt, .int .i64 x.lo, .int .i64 x.hi] := by
  obtain ⟨xs, m, _, hx, hl, hlen, hf⟩ := DataW.trod_struct Try.underlying53 h
  rw [cellsMark] at hl
  match cs, hl with
  | [c0, c1, c2], _ =>
    match xs, hlen with
    | [y0, y1], _ =>
      have h0 : DataW.trod enc Try.prog W 0 sp true m 3 (([c0, c1, c2].drop 0).take (Try.prog.cellsOf 3)) = [y0, y1][0]? := hf 0 _ rfl
      have h1 : DataW.trod enc Try.prog W 0 sp true m 51 (([c0, c1, c2].drop 1).take (Try.prog.cellsOf 51)) = [y0, y1][1]? := hf 1 _ rfl
      rw [cellsInt] at h0
      rw [cellsSpan] at h1
      obtain ⟨k0, e0, _⟩ := DataW.trod_int Try.underlying3 (h0.trans (by rfl : [y0, y1][0]? = some y0))
      have h1' : DataW.trod enc Try.prog W 0 sp true m 51 [c1, c2] = some y1 := h1.trans (by rfl : [y0, y1][1]? = some y1)
      obtain ⟨zs, m', _, _, _, hlen', hg⟩ := DataW.trod_struct Try.underlying51 h1'
      match zs, hlen' with
      | [z0, z1], _ =>
        have g0 : DataW.trod enc Try.prog W 0 sp true m' 3 (([c1, c2].drop 0).take (Try.prog.cellsOf 3)) = [z0, z1][0]? := hg 0 _ rfl
        have g1 : DataW.trod enc Try.prog W 0 sp true m' 3 (([c1, c2].drop 1).take (Try.prog.cellsOf 3)) = [z0, z1][1]? := hg 1 _ rfl
        rw [cellsInt] at g0 g1
        obtain ⟨k1, e1, _⟩ := DataW.trod_int Try.underlying3 (g0.trans (by rfl : [z0, z1][0]? = some z0))
        obtain ⟨k2, e2, _⟩ := DataW.trod_int Try.underlying3 (g1.trans (by rfl : [z0, z1][1]? = some z1))
        simp at e0 e1 e2
        exact ⟨⟨k0, k1, k2⟩, by simp [e0, e1, e2]⟩
set_option maxRecDepth 100000 in
theorem reads_mks {n : Nat} {v : Value} {y : DataW H × List MemPlace} (h : DataW.trod enc Try.prog W 0 sp true n 41 [v] = some y) (hw : ∀ x ∈ y.1.weights Try.prog 41, x ≤ reachBytes) :
    ∃ l : List Mrk, MrksAt W v l := by
  rcases open_slice Try.underlying41 h with ⟨hcs, _⟩ | ⟨a, len, cap, m, n', D, Pl, hcs, _, hl, hm, hmm, hx, hel⟩
  · simp only [List.cons.injEq, and_true] at hcs
    subst hcs
    exact ⟨[], by simp, none, 0, rfl, Nat.le_refl _, fun h => absurd rfl h⟩
  · simp only [List.cons.injEq, and_true] at hcs
    subst hcs
    have hlm : len ≤ m := by rw [hmm]; split <;> omega
    have hb : len * 24 ≤ reachBytes := by
      have := hw ((((List.range len).map D).length + ((List.range (m - len)).map fun j => D (len + j)).length) * 24) (by rw [hx]; simp [DataW.weights, Try.underlying41, bytesMark])
      simp only [List.length_map, List.length_range] at this
      omega
    have hr : reachBytes = 140737488351232 := rfl
    obtain ⟨f, hf⟩ := choose_lt (α := Mrk) (n := len) (p := fun i x => ∃ cs', W.cells? 0 (a.add (i * 3)) 3 = some cs' ∧ cs' = [.int .i64 x.pt, .int .i64 x.lo, .int .i64 x.hi]) (fun i hi => by
      obtain ⟨cs', h1, h2⟩ := hel i (by omega)
      rw [cellsMark] at h1
      obtain ⟨x, hx⟩ := open_mk h2
      exact ⟨x, cs', h1, hx⟩)
    refine ⟨(List.range len).map f, by simp; omega, some a, cap, by simp, by simpa using hl, fun hne => ?_⟩
    have h0 : 0 < len := by
      rcases Nat.eq_zero_or_pos len with h | h
      · subst h; exact absurd rfl hne
      · exact h
    have hc : ∀ i, i < len → ∀ j, j < 3 → W.cell? ((a.add (i * 3)).add j) = [Value.int .i64 (f i).pt, .int .i64 (f i).lo, .int .i64 (f i).hi][j]? := fun i hi j hj => by
      obtain ⟨cs', h1, rfl⟩ := hf i hi
      exact (World.cells?_some h1).2.2 j hj
    obtain ⟨b, o, spot⟩ := a
    have hspot : spot = none := by
      have := hc 0 h0 0 (by omega)
      simpa [Addr.add] using World.cell?_spot this
    subst hspot
    refine ⟨b, o, rfl, fun k hk => ?_⟩
    have hk' : k < len := by simpa using hk
    have q0 := hc k hk' 0 (by omega)
    have q1 := hc k hk' 1 (by omega)
    have q2 := hc k hk' 2 (by omega)
    rw [WideShapes.add_plain, WideShapes.add_plain] at q0 q1 q2
    simp only [List.getElem_map, List.getElem_range]
    exact ⟨q0, q1, q2⟩
set_option maxRecDepth 100000 in
/-- A scale that came in. -/
theorem open_scl {base : Nat} {v : Value} {d : DataW H} {p : List MemPlace} (hok : Value.okWide Try.prog W .any base 27 v) (h : DataW.Trod enc Try.prog W 0 sp true 27 v d p) :
    ∃ s : Scl, v = .agg #[.int .i64 s.1, .int .i64 s.2] := by
  obtain ⟨cs, rfl, hsz⟩ := okWide_str Try.underlying27 hok
  rw [cellsScl] at hsz
  obtain ⟨c0, c1, rfl⟩ := array2 hsz
  obtain ⟨fuel, hf⟩ := h
  have hf' : DataW.trod enc Try.prog W 0 sp true fuel 27 [c0, c1] = some (d, p) := hf
  obtain ⟨x, hx⟩ := open_sl hf'
  simp only [List.cons.injEq, and_true] at hx
  exact ⟨x, by rw [hx.1, hx.2]⟩
set_option maxRecDepth 100000 in
theorem open_scs {base : Nat} {v : Value} {d : DataW H} {p : List MemPlace} (hok : Value.okWide Try.prog W .any base 42 v) (h : DataW.Trod enc Try.prog W 0 sp true 42 v d p) (hw : ∀ x ∈ d.weights Try.prog 42, x ≤ reachBytes) :
    ∃ l : List Scl, PairsAt W v l := by
  obtain ⟨a0, len0, cap0, rfl⟩ := okWide_slice Try.underlying42 hok
  obtain ⟨fuel, hf⟩ := h
  have hf' : DataW.trod enc Try.prog W 0 sp true fuel 42 [.slice a0 len0 cap0] = some (d, p) := hf
  exact reads_sls hf' hw
set_option maxRecDepth 100000 in
theorem open_mks {base : Nat} {v : Value} {d : DataW H} {p : List MemPlace} (hok : Value.okWide Try.prog W .any base 41 v) (h : DataW.Trod enc Try.prog W 0 sp true 41 v d p) (hw : ∀ x ∈ d.weights Try.prog 41, x ≤ reachBytes) :
    ∃ l : List Mrk, MrksAt W v l := by
  obtain ⟨a0, len0, cap0, rfl⟩ := okWide_slice Try.underlying41 hok
  obtain ⟨fuel, hf⟩ := h
  have hf' : DataW.trod enc Try.prog W 0 sp true fuel 41 [.slice a0 len0 cap0] = some (d, p) := hf
  exact reads_mks hf' hw
end
theorem cellsU8 : Try.prog.cellsOf 5 = 1 := by kernel_rfl
theorem bytesU8 : Try.prog.bytesOf 5 = 1 := by kernel_rfl
theorem cellsU8x2 : Try.prog.cellsOf 56 = 2 := by kernel_rfl
theorem cellsU8x3 : Try.prog.cellsOf 81 = 3 := by kernel_rfl
theorem cellsU8x4 : Try.prog.cellsOf 65 = 4 := by kernel_rfl
theorem cellsU8x5 : Try.prog.cellsOf 84 = 5 := by kernel_rfl
theorem okWide_arr {P : Program} {W : World} {r : Reach} {b0 : Nat} {v : Value} {t e : TypeId} {n : Nat} (ht : P.underlying t = some (.array n e)) (h : Value.okWide P W r b0 t v) : ∃ cs, v = .agg cs ∧ cs.size = P.cellsOf t := by
  simp only [Value.okWide, ht] at h
  obtain ⟨cs, h1, h2, _⟩ := h
  exact ⟨cs, h1, h2⟩
section
variable {H : Type} {enc : TypeId × Value → H} {W : World} {sp : Nat → Bool} {base : Nat} {v : Value} {d : DataW H} {p : List MemPlace}
set_option maxRecDepth 100000 in
theorem open_u8x2 (hok : Value.okWide Try.prog W .any base 56 v) (h : DataW.Trod enc Try.prog W 0 sp true 56 v d p) : ∃ x y : Nat, v = .agg #[.int .u8 x, .int .u8 y] ∧ x ≤ 255 ∧ y ≤ 255 := by
  obtain ⟨cs, rfl, hsz⟩ := okWide_arr Try.underlying56 hok
  rw [cellsU8x2] at hsz
  obtain ⟨l⟩ := cs
  match l, hsz with
  | [c0, c1], _ =>
    obtain ⟨fuel, hf⟩ := h
    obtain ⟨xs, m, _, _, _, hlen, hg⟩ := DataW.trod_array Try.underlying56 hf
    match xs, hlen with
    | [y0, y1], _ =>
      have h0 := hg 0 (by omega)
      have h1 := hg 1 (by omega)
      rw [cellsU8] at h0 h1
      obtain ⟨k0, e0, _, w0⟩ := DataW.trod_int Try.underlying5 (h0.trans (by rfl : [y0, y1][0]? = some y0))
      obtain ⟨k1, e1, _, w1⟩ := DataW.trod_int Try.underlying5 (h1.trans (by rfl : [y0, y1][1]? = some y1))
      simp [Value.cells] at e0 e1
      subst e0 e1
      have b0 := bounds_u8 w0
      have b1 := bounds_u8 w1
      exact ⟨k0.toNat, k1.toNat, by rw [Int.toNat_of_nonneg b0.1, Int.toNat_of_nonneg b1.1], by omega, by omega⟩
set_option maxRecDepth 100000 in
theorem open_u8x3 (hok : Value.okWide Try.prog W .any base 81 v) (h : DataW.Trod enc Try.prog W 0 sp true 81 v d p) : ∃ x y z : Nat, v = .agg #[.int .u8 x, .int .u8 y, .int .u8 z] ∧ x ≤ 255 ∧ y ≤ 255 ∧ z ≤ 255 := by
  obtain ⟨cs, rfl, hsz⟩ := okWide_arr Try.underlying81 hok
  rw [cellsU8x3] at hsz
  obtain ⟨l⟩ := cs
  match l, hsz with
  | [c0, c1, c2], _ =>
    obtain ⟨fuel, hf⟩ := h
    obtain ⟨xs, m, _, _, _, hlen, hg⟩ := DataW.trod_array Try.underlying81 hf
    match xs, hlen with
    | [y0, y1, y2], _ =>
      have h0 := hg 0 (by omega)
      have h1 := hg 1 (by omega)
      have h2 := hg 2 (by omega)
      rw [cellsU8] at h0 h1 h2
      obtain ⟨k0, e0, _, w0⟩ := DataW.trod_int Try.underlying5 (h0.trans (by rfl : [y0, y1, y2][0]? = some y0))
      obtain ⟨k1, e1, _, w1⟩ := DataW.trod_int Try.underlying5 (h1.trans (by rfl : [y0, y1, y2][1]? = some y1))
      obtain ⟨k2, e2, _, w2⟩ := DataW.trod_int Try.underlying5 (h2.trans (by rfl : [y0, y1, y2][2]? = some y2))
      simp [Value.cells] at e0 e1 e2
      subst e0 e1 e2
      have b0 := bounds_u8 w0
      have b1 := bounds_u8 w1
      have b2 := bounds_u8 w2
      exact ⟨k0.toNat, k1.toNat, k2.toNat, by rw [Int.toNat_of_nonneg b0.1, Int.toNat_of_nonneg b1.1, Int.toNat_of_nonneg b2.1], by omega, by omega, by omega⟩
set_option maxRecDepth 100000 in
theorem open_u8s (hok : Value.okWide Try.prog W .any base 66 v) (h : DataW.Trod enc Try.prog W 0 sp true 66 v d p) (hw : ∀ x ∈ d.weights Try.prog 66, x ≤ reachBytes) :
    ∃ l : List Nat, U8At W v l := by
  obtain ⟨a0, len0, cap0, rfl⟩ := okWide_slice Try.underlying66 hok
  obtain ⟨fuel, hf⟩ := h
  have hf' : DataW.trod enc Try.prog W 0 sp true fuel 66 [.slice a0 len0 cap0] = some (d, p) := hf
  rcases open_slice1 Try.underlying66 cellsU8 hf' with ⟨hcs, _⟩ | ⟨a, len, cap, m, n', V, D, Pl, hcs, _, hl, hm, hmm, hx, hel⟩
  · simp only [List.cons.injEq, Value.slice.injEq, and_true] at hcs
    obtain ⟨rfl, rfl, rfl⟩ := hcs
    exact ⟨[], by simp, none, 0, rfl, fun h => absurd rfl h⟩
  · simp only [List.cons.injEq, Value.slice.injEq, and_true] at hcs
    obtain ⟨rfl, rfl, rfl⟩ := hcs
    have hlm : len0 ≤ m := by rw [hmm]; split <;> omega
    have hd : d = .slice ((List.range len0).map D) ((List.range (m - len0)).map fun j => D (len0 + j)) := congrArg Prod.fst hx
    have hb : len0 * 1 ≤ reachBytes := by
      have := hw ((((List.range len0).map D).length + ((List.range (m - len0)).map fun j => D (len0 + j)).length) * 1) (by rw [hd]; simp [DataW.weights, Try.underlying66, bytesU8])
      simp only [List.length_map, List.length_range] at this
      omega
    have hr : reachBytes = 140737488351232 := rfl
    obtain ⟨f, hfl⟩ := choose_lt (α := Nat) (n := len0) (p := fun i x => W.cell? (a.add i) = some (.int .u8 x) ∧ x ≤ 255) (fun i hi => by
      obtain ⟨h1, h2⟩ := hel i (by omega)
      obtain ⟨k, e, _, w⟩ := DataW.trod_int Try.underlying5 h2
      simp only [List.cons.injEq, and_true] at e
      have bd := bounds_u8 w
      refine ⟨k.toNat, ?_, by omega⟩
      rw [h1, e, Int.toNat_of_nonneg bd.1])
    refine ⟨(List.range len0).map f, by simp; omega, some a, cap0, by simp, fun hne => ?_⟩
    have h0 : 0 < len0 := by
      rcases Nat.eq_zero_or_pos len0 with h | h
      · subst h; exact absurd rfl hne
      · exact h
    obtain ⟨b, o, spot⟩ := a
    have hspot : spot = none := by simpa [Addr.add] using World.cell?_spot (hfl 0 h0).1
    subst hspot
    refine ⟨b, o, rfl, fun k hk => ?_⟩
    have hk' : k < len0 := by simpa using hk
    have hc := hfl k hk'
    rw [WideShapes.add_plain] at hc
    simpa [List.getD_eq_getElem?_getD, hk'] using hc
set_option maxRecDepth 100000 in
theorem open_u8x4 (hok : Value.okWide Try.prog W .any base 65 v) (h : DataW.Trod enc Try.prog W 0 sp true 65 v d p) : ∃ x0 x1 x2 x3 : Nat, v = .agg #[.int .u8 x0, .int .u8 x1, .int .u8 x2, .int .u8 x3] ∧ x0 ≤ 255 ∧ x1 ≤ 255 ∧ x2 ≤ 255 ∧ x3 ≤ 255 := by
  obtain ⟨cs, rfl, hsz⟩ := okWide_arr Try.underlying65 hok
  rw [cellsU8x4] at hsz
  obtain ⟨c0, c1, c2, c3, rfl⟩ := array4 hsz
  obtain ⟨fuel, hf⟩ := h
  obtain ⟨xs, m, _, _, _, hlen, hg⟩ := DataW.trod_array Try.underlying65 hf
  match xs, hlen with
  | [y0, y1, y2, y3], _ =>
    have h0 := hg 0 (by omega)
    have h1 := hg 1 (by omega)
    have h2 := hg 2 (by omega)
    have h3 := hg 3 (by omega)
    rw [cellsU8] at h0 h1 h2 h3
    obtain ⟨k0, e0, _, w0⟩ := DataW.trod_int Try.underlying5 (h0.trans (by rfl : [y0, y1, y2, y3][0]? = some y0))
    obtain ⟨k1, e1, _, w1⟩ := DataW.trod_int Try.underlying5 (h1.trans (by rfl : [y0, y1, y2, y3][1]? = some y1))
    obtain ⟨k2, e2, _, w2⟩ := DataW.trod_int Try.underlying5 (h2.trans (by rfl : [y0, y1, y2, y3][2]? = some y2))
    obtain ⟨k3, e3, _, w3⟩ := DataW.trod_int Try.underlying5 (h3.trans (by rfl : [y0, y1, y2, y3][3]? = some y3))
    simp [Value.cells] at e0 e1 e2 e3
    subst e0 e1 e2 e3
    have b0 := bounds_u8 w0
    have b1 := bounds_u8 w1
    have b2 := bounds_u8 w2
    have b3 := bounds_u8 w3
    exact ⟨k0.toNat, k1.toNat, k2.toNat, k3.toNat, by rw [Int.toNat_of_nonneg b0.1, Int.toNat_of_nonneg b1.1, Int.toNat_of_nonneg b2.1, Int.toNat_of_nonneg b3.1], by omega, by omega, by omega, by omega⟩
set_option maxRecDepth 100000 in
theorem open_u8x5 (hok : Value.okWide Try.prog W .any base 84 v) (h : DataW.Trod enc Try.prog W 0 sp true 84 v d p) : ∃ x0 x1 x2 x3 x4 : Nat, v = .agg #[.int .u8 x0, .int .u8 x1, .int .u8 x2, .int .u8 x3, .int .u8 x4] ∧ x0 ≤ 255 ∧ x1 ≤ 255 ∧ x2 ≤ 255 ∧ x3 ≤ 255 ∧ x4 ≤ 255 := by
  obtain ⟨cs, rfl, hsz⟩ := okWide_arr Try.underlying84 hok
  rw [cellsU8x5] at hsz
  obtain ⟨c0, c1, c2, c3, c4, rfl⟩ := array5 hsz
  obtain ⟨fuel, hf⟩ := h
  obtain ⟨xs, m, _, _, _, hlen, hg⟩ := DataW.trod_array Try.underlying84 hf
  match xs, hlen with
  | [y0, y1, y2, y3, y4], _ =>
    have h0 := hg 0 (by omega)
    have h1 := hg 1 (by omega)
    have h2 := hg 2 (by omega)
    have h3 := hg 3 (by omega)
    have h4 := hg 4 (by omega)
    rw [cellsU8] at h0 h1 h2 h3 h4
    obtain ⟨k0, e0, _, w0⟩ := DataW.trod_int Try.underlying5 (h0.trans (by rfl : [y0, y1, y2, y3, y4][0]? = some y0))
    obtain ⟨k1, e1, _, w1⟩ := DataW.trod_int Try.underlying5 (h1.trans (by rfl : [y0, y1, y2, y3, y4][1]? = some y1))
    obtain ⟨k2, e2, _, w2⟩ := DataW.trod_int Try.underlying5 (h2.trans (by rfl : [y0, y1, y2, y3, y4][2]? = some y2))
    obtain ⟨k3, e3, _, w3⟩ := DataW.trod_int Try.underlying5 (h3.trans (by rfl : [y0, y1, y2, y3, y4][3]? = some y3))
    obtain ⟨k4, e4, _, w4⟩ := DataW.trod_int Try.underlying5 (h4.trans (by rfl : [y0, y1, y2, y3, y4][4]? = some y4))
    simp [Value.cells] at e0 e1 e2 e3 e4
    subst e0 e1 e2 e3 e4
    have b0 := bounds_u8 w0
    have b1 := bounds_u8 w1
    have b2 := bounds_u8 w2
    have b3 := bounds_u8 w3
    have b4 := bounds_u8 w4
    exact ⟨k0.toNat, k1.toNat, k2.toNat, k3.toNat, k4.toNat, by rw [Int.toNat_of_nonneg b0.1, Int.toNat_of_nonneg b1.1, Int.toNat_of_nonneg b2.1, Int.toNat_of_nonneg b3.1, Int.toNat_of_nonneg b4.1], by omega, by omega, by omega, by omega, by omega⟩
end
theorem bytesInt : Try.prog.bytesOf 3 = 8 := by kernel_rfl
section
variable {H : Type} {enc : TypeId × Value → H} {W : World} {sp : Nat → Bool} {base : Nat} {v : Value} {d : DataW H} {p : List MemPlace}
set_option maxRecDepth 100000 in
theorem reads_ints {fuel : Nat} {a0 : Option Addr} {len0 cap0 : Nat} {y : DataW H × List MemPlace} (hf' : DataW.trod enc Try.prog W 0 sp true fuel 22 [.slice a0 len0 cap0] = some y) (hw : ∀ x ∈ y.1.weights Try.prog 22, x ≤ reachBytes) :
    ∃ l : List Int, IntsAt W (.slice a0 len0 cap0) l := by
  obtain ⟨d, p⟩ := y
  rcases open_slice1 Try.underlying22 cellsInt hf' with ⟨hcs, _⟩ | ⟨a, len, cap, m, n', V, D, Pl, hcs, _, hl, hm, hmm, hx, hel⟩
  · simp only [List.cons.injEq, Value.slice.injEq, and_true] at hcs
    obtain ⟨rfl, rfl, rfl⟩ := hcs
    exact ⟨[], by simp, none, 0, rfl, Nat.le_refl _, fun h => absurd rfl h⟩
  · simp only [List.cons.injEq, Value.slice.injEq, and_true] at hcs
    obtain ⟨rfl, rfl, rfl⟩ := hcs
    have hlm : len0 ≤ m := by rw [hmm]; split <;> omega
    have hd : d = .slice ((List.range len0).map D) ((List.range (m - len0)).map fun j => D (len0 + j)) := congrArg Prod.fst hx
    have hb : len0 * 8 ≤ reachBytes := by
      have := hw ((((List.range len0).map D).length + ((List.range (m - len0)).map fun j => D (len0 + j)).length) * 8) (by rw [hd]; simp [DataW.weights, Try.underlying22, bytesInt])
      simp only [List.length_map, List.length_range] at this
      omega
    have hr : reachBytes = 140737488351232 := rfl
    obtain ⟨f, hfl⟩ := choose_lt (α := Int) (n := len0) (p := fun i x => W.cell? (a.add i) = some (.int .i64 x)) (fun i hi => by
      obtain ⟨h1, h2⟩ := hel i (by omega)
      obtain ⟨k, e, _, w⟩ := DataW.trod_int Try.underlying3 h2
      simp only [List.cons.injEq, and_true] at e
      exact ⟨k, by rw [h1, e]⟩)
    refine ⟨(List.range len0).map f, by simp; omega, some a, cap0, by simp, by simpa using hl, fun hne => ?_⟩
    have h0 : 0 < len0 := by
      rcases Nat.eq_zero_or_pos len0 with h | h
      · subst h; exact absurd rfl hne
      · exact h
    obtain ⟨b, o, spot⟩ := a
    have hspot : spot = none := by simpa [Addr.add] using World.cell?_spot (hfl 0 h0)
    subst hspot
    refine ⟨b, o, rfl, fun k hk => ?_⟩
    have hk' : k < len0 := by simpa using hk
    have hc := hfl k hk'
    rw [WideShapes.add_plain] at hc
    simpa using hc
set_option maxRecDepth 100000 in
theorem open_ints (hok : Value.okWide Try.prog W .any base 22 v) (h : DataW.Trod enc Try.prog W 0 sp true 22 v d p) (hw : ∀ x ∈ d.weights Try.prog 22, x ≤ reachBytes) :
    ∃ l : List Int, IntsAt W v l := by
  obtain ⟨a0, len0, cap0, rfl⟩ := okWide_slice Try.underlying22 hok
  obtain ⟨fuel, hf⟩ := h
  have hf' : DataW.trod enc Try.prog W 0 sp true fuel 22 [.slice a0 len0 cap0] = some (d, p) := hf
  exact reads_ints hf' hw
end
set_option maxRecDepth 100000 in
/-- A case that came in. -/
theorem open_case {H : Type} {enc : TypeId × Value → H} {W : World} {sp : Nat → Bool} {base : Nat} {v : Value} {d : DataW H} {p : List MemPlace} (hok : Value.okWide Try.prog W .any base 25 v) (h : DataW.Trod enc Try.prog W 0 sp true 25 v d p)
    (hw : ∀ x ∈ d.weights Try.prog 25, x ≤ reachBytes) : ∃ (c : Cse) (hv rv : Value), v = .agg #[.int .i64 c.kind, .int .i64 c.base, .int .i64 c.most, hv, rv] ∧ CseAt W c hv rv := by
  obtain ⟨cs, rfl, hsz⟩ := okWide_str Try.underlying25 hok
  rw [cellsCase] at hsz
  obtain ⟨c0, c1, c2, c3, c4, rfl⟩ := array5 hsz
  obtain ⟨fuel, hf0⟩ := h
  have hf : DataW.trod enc Try.prog W 0 sp true fuel 25 [c0, c1, c2, c3, c4] = some (d, p) := hf0
  obtain ⟨xs, m, _, hx, _, hlen, hg⟩ := DataW.trod_struct Try.underlying25 hf
  match xs, hlen with
  | [y0, y1, y2, y3, y4], _ =>
    have h0 : DataW.trod enc Try.prog W 0 sp true m 3 (([c0, c1, c2, c3, c4].drop 0).take (Try.prog.cellsOf 3)) = [y0, y1, y2, y3, y4][0]? := hg 0 _ rfl
    have h1 : DataW.trod enc Try.prog W 0 sp true m 3 (([c0, c1, c2, c3, c4].drop 1).take (Try.prog.cellsOf 3)) = [y0, y1, y2, y3, y4][1]? := hg 1 _ rfl
    have h2 : DataW.trod enc Try.prog W 0 sp true m 3 (([c0, c1, c2, c3, c4].drop 2).take (Try.prog.cellsOf 3)) = [y0, y1, y2, y3, y4][2]? := hg 2 _ rfl
    have h3 : DataW.trod enc Try.prog W 0 sp true m 22 (([c0, c1, c2, c3, c4].drop 3).take (Try.prog.cellsOf 22)) = [y0, y1, y2, y3, y4][3]? := hg 3 _ rfl
    have h4 : DataW.trod enc Try.prog W 0 sp true m 23 (([c0, c1, c2, c3, c4].drop 4).take (Try.prog.cellsOf 23)) = [y0, y1, y2, y3, y4][4]? := hg 4 _ rfl
    rw [cellsInt] at h0 h1 h2
    rw [show Try.prog.cellsOf 22 = 1 by kernel_rfl] at h3
    rw [show Try.prog.cellsOf 23 = 1 by kernel_rfl] at h4
    obtain ⟨k0, e0, _⟩ := DataW.trod_int Try.underlying3 (h0.trans (by rfl : [y0, y1, y2, y3, y4][0]? = some y0))
    obtain ⟨k1, e1, _⟩ := DataW.trod_int Try.underlying3 (h1.trans (by rfl : [y0, y1, y2, y3, y4][1]? = some y1))
    obtain ⟨k2, e2, _⟩ := DataW.trod_int Try.underlying3 (h2.trans (by rfl : [y0, y1, y2, y3, y4][2]? = some y2))
    have h3' : DataW.trod enc Try.prog W 0 sp true m 22 [c3] = some y3 := h3.trans (by rfl : [y0, y1, y2, y3, y4][3]? = some y3)
    have h4' : DataW.trod enc Try.prog W 0 sp true m 23 [c4] = some y4 := h4.trans (by rfl : [y0, y1, y2, y3, y4][4]? = some y4)
    simp only [Prod.mk.injEq] at hx
    obtain ⟨rfl, rfl⟩ := hx
    simp only [List.map, DataW.weights, Try.underlying25, DataW.weightsEach, List.mem_append] at hw
    obtain ⟨rs, hr⟩ := reads_rds h4' (fun x hx => hw x (Or.inr (Or.inr (Or.inr (Or.inr (Or.inl hx))))))
    obtain ⟨a3, len3, cap3, e3⟩ : ∃ a l c, c3 = .slice a l c := by
      rcases open_slice Try.underlying22 h3' with ⟨hcs, _⟩ | ⟨a, len, cap, _, _, _, _, hcs, _⟩
      · simp only [List.cons.injEq, and_true] at hcs; exact ⟨_, _, _, hcs⟩
      · simp only [List.cons.injEq, and_true] at hcs; exact ⟨_, _, _, hcs⟩
    subst e3
    obtain ⟨l, hl⟩ := reads_ints h3' (fun x hx => hw x (Or.inr (Or.inr (Or.inr (Or.inl hx)))))
    simp at e0 e1 e2
    exact ⟨⟨k0, k1, k2, l, rs⟩, _, _, by simp [e0, e1, e2], hl, hr⟩
section
variable {H : Type} {enc : TypeId × Value → H} {P : Program}
/-- All arguments read behind a call that turned nothing old as they read before. -/
theorem args_stay {W W' : World} {sp : Nat → Bool} (hl : laidOutB P = true) (hb : Below W.heap.size W W') :
    ∀ {ts : List TypeId} {vs : List Value} {ds : List (DataW H)} {ps : List MemPlace}, (∀ t, t ∈ ts → P.readableRec t = true ∧ t < P.types.size) → DataW.TrodAll enc P W 0 (fun _ => true) true ts vs ds ps →
      (∀ x, x ∈ ps → x.block < W.heap.size ∧ sp x.block = true) → DataW.TrodAll enc P W' 0 sp true ts vs ds ps
  | [], [], [], _, _, h, _ => h
  | t :: ts, v :: vs, d :: ds, _, hr, ⟨p, q, h1, h2, e⟩, hs =>
    ⟨p, q, WideElems.Trod_stays hl (hr t (List.mem_cons_self ..)).1 (hr t (List.mem_cons_self ..)).2 h1 (fun x hx => hb.same (hs x (e ▸ List.mem_append_left q hx)).1) (fun x hx => (hs x (e ▸ List.mem_append_left q hx)).2),
      args_stay hl hb (fun u hu => hr u (List.mem_cons_of_mem _ hu)) h2 (fun x hx => hs x (e ▸ List.mem_append_right p hx)), e⟩
/-- What a statement's row asks behind a call that returned true and turned nothing that was there. -/
theorem post_law {f : Func} {s : ChangeSpec} {W W' : World} {args : Array Value} {ds : List (DataW H)} {before : List MemPlace} {tb : TypeId}
    (hl : laidOutB P = true) (hr : ∀ t, t ∈ f.params.toList → P.readableRec t = true ∧ t < P.types.size) (hvars : s.vars = []) (hres : f.resultTypes = #[tb]) (htb : P.underlying tb = some .bool)
    (hfn : s.fn H ds = { results := [.lit (.bool true)], args := ds }) (hW : DataW.Whole enc P f.params.toList s.vars false W args.toList ds [] before) (hb : Below W.heap.size W W') :
    s.post enc P f false true false false W args (.bool true) W' := by
  have hlt : ∀ x, x ∈ before → x.block < W.heap.size := fun x hx => hW.lt x hx
  obtain ⟨p, q, hA, hV, hbf, _, _⟩ := id hW
  have hq : q = [] := by rw [hvars] at hV; exact hV
  subst hq
  simp only [List.append_nil] at hbf
  subst hbf
  have e : ds ++ ([] : List (DataW H)) = ds := List.append_nil ds
  refine ⟨ds, [], _, [], before, [], hW, ?_, ?_, ?_, hb.frame _, fun h => by cases h⟩
  · rw [e, hfn, hres]
    exact trodAll_cons_mk (shut_bool htb _) trodAll_mk0
  · rw [e, hfn]
    exact args_stay hl hb hr hA (fun x hx => ⟨hlt x hx, by simpa using hlt x hx⟩)
  · rw [e, hfn, hvars]
    exact rfl
end
end Go.Proofs.Ythflbbjilebhlaa
