/- The arguments of the statements about package carve, opened: a row reads as plain data. Condition: no slice that came in takes more than all addresses. -/
import Derived.Test.YtnciomoapajonaaCvb
import Derived.Test.YtnciomoapajonaaByt
import Derived.Lib.SmallJoins
import Derived.SliceStrings
import Derived.Deep.Slices
import Derived.SizedLaws
import Derived.OpenShut
import Derived.ChangeSame
import Derived.WideKeyArgs
set_option linter.unusedSimpArgs false
set_option linter.unusedVariables false
namespace Go.Proofs.Ytnciomoapajonaa
open Go Go.RowKit Cv Go.ChangeShapes Go.WideShapes Go.Deep Go.Joins

theorem cellsInt : Try.prog.cellsOf 3 = 1 := by kernel_rfl
theorem cellsPoint : Try.prog.cellsOf 58 = 3 := by kernel_rfl
theorem cellsRow : Try.prog.cellsOf 24 = 2 := by kernel_rfl
theorem bytesPoint : Try.prog.bytesOf 58 = 24 := by kernel_rfl

section
variable {H : Type} {enc : TypeId × Value → H} {W : World} {sp : Nat → Bool}
set_option maxRecDepth 100000 in
theorem open_point {n : Nat} {cs : List Value} {y : DataW H × List MemPlace} (h : DataW.trod enc Try.prog W 0 sp true n 58 cs = some y) :
    ∃ x : Pt, cs = [.int .i64 x.bd, .int .i64 x.lo, .int .i64 x.hi] := by
  obtain ⟨xs, m, _, hx, hl, hlen, hf⟩ := DataW.trod_struct Try.underlying58 h
  rw [cellsPoint] at hl
  match cs, hl with
  | [c0, c1, c2], _ =>
    match xs, hlen with
    | [y0, y1, y2], _ =>
      have h0 : DataW.trod enc Try.prog W 0 sp true m 3 (([c0, c1, c2].drop 0).take (Try.prog.cellsOf 3)) = [y0, y1, y2][0]? := hf 0 _ rfl
      have h1 : DataW.trod enc Try.prog W 0 sp true m 3 (([c0, c1, c2].drop 1).take (Try.prog.cellsOf 3)) = [y0, y1, y2][1]? := hf 1 _ rfl
      have h2 : DataW.trod enc Try.prog W 0 sp true m 3 (([c0, c1, c2].drop 2).take (Try.prog.cellsOf 3)) = [y0, y1, y2][2]? := hf 2 _ rfl
      rw [cellsInt] at h0 h1 h2
      obtain ⟨k0, e0, _⟩ := DataW.trod_int Try.underlying3 (h0.trans (by rfl : [y0, y1, y2][0]? = some y0))
      obtain ⟨k1, e1, _⟩ := DataW.trod_int Try.underlying3 (h1.trans (by rfl : [y0, y1, y2][1]? = some y1))
      obtain ⟨k2, e2, _⟩ := DataW.trod_int Try.underlying3 (h2.trans (by rfl : [y0, y1, y2][2]? = some y2))
      simp at e0 e1 e2
      exact ⟨⟨k0, k1, k2⟩, by simp [e0, e1, e2]⟩

set_option maxRecDepth 100000 in
theorem reads_pts {n : Nat} {v : Value} {y : DataW H × List MemPlace} (h : DataW.trod enc Try.prog W 0 sp true n 22 [v] = some y) (hw : ∀ x ∈ y.1.weights Try.prog 22, x ≤ reachBytes) :
    ∃ l : List Pt, PtsAt W v l := by
  rcases open_slice Try.underlying22 h with ⟨hcs, _⟩ | ⟨a, len, cap, m, n', D, Pl, hcs, _, hl, hm, hmm, hx, hel⟩
  · simp only [List.cons.injEq, and_true] at hcs
    subst hcs
    exact ⟨[], by simp, none, 0, rfl, Nat.le_refl _, fun h => absurd rfl h⟩
  · simp only [List.cons.injEq, and_true] at hcs
    subst hcs
    have hlm : len ≤ m := by rw [hmm]; split <;> omega
    have hb : len * 24 ≤ reachBytes := by
      have := hw ((((List.range len).map D).length + ((List.range (m - len)).map fun j => D (len + j)).length) * 24) (by rw [hx]; simp [DataW.weights, Try.underlying22, bytesPoint])
      simp only [List.length_map, List.length_range] at this
      omega
    have hr : reachBytes = 140737488351232 := rfl
    obtain ⟨f, hf⟩ := choose_lt (α := Pt) (n := len) (p := fun i x => ∃ cs', W.cells? 0 (a.add (i * 3)) 3 = some cs' ∧ cs' = [.int .i64 x.bd, .int .i64 x.lo, .int .i64 x.hi]) (fun i hi => by
      obtain ⟨cs', h1, h2⟩ := hel i (by omega)
      rw [cellsPoint] at h1
      obtain ⟨x, hx⟩ := open_point h2
      exact ⟨x, cs', h1, hx⟩)
    refine ⟨(List.range len).map f, by simp; omega, some a, cap, by simp, by simpa using hl, fun hne => ?_⟩
    have h0 : 0 < len := by
      rcases Nat.eq_zero_or_pos len with h | h
      · subst h; exact absurd rfl hne
      · exact h
    have hc : ∀ i, i < len → ∀ j, j < 3 → W.cell? ((a.add (i * 3)).add j) = [Value.int .i64 (f i).bd, .int .i64 (f i).lo, .int .i64 (f i).hi][j]? := fun i hi j hj => by
      obtain ⟨cs', h1, rfl⟩ := hf i hi
      exact (World.cells?_some h1).2.2 j hj
    obtain ⟨b, o, spot⟩ := a
    have hspot : spot = none := by
      have := hc 0 h0 0 (by omega)
      simpa [Addr.add] using World.cell?_spot this
    subst hspot
    have hcc : ∀ i, i < len → ∀ j, j < 3 → W.cell? ⟨b, o + i * 3 + j, none⟩ = [Value.int .i64 (f i).bd, .int .i64 (f i).lo, .int .i64 (f i).hi][j]? := fun i hi j hj => by
      have := hc i hi j hj
      rwa [add_plain, add_plain] at this
    refine ⟨b, o, rfl, fun k hk => ?_⟩
    have hk' : k < len := by simpa using hk
    simp only [List.getElem_map, List.getElem_range]
    exact ⟨hcc k hk' 0 (by omega), hcc k hk' 1 (by omega), hcc k hk' 2 (by omega)⟩

set_option maxRecDepth 100000 in
/-- A row that came in. -/
theorem open_row {base : Nat} {v : Value} {d : DataW H} {p : List MemPlace} (hok : Value.okWide Try.prog W .any base 24 v) (h : DataW.Trod enc Try.prog W 0 sp true 24 v d p)
    (hw : ∀ x ∈ d.weights Try.prog 24, x ≤ reachBytes) : ∃ (r : Row) (pv : Value), v = .agg #[.int .i64 r.st, pv] ∧ PtsAt W pv r.pts ∧ -9223372036854775808 ≤ r.st ∧ r.st ≤ 9223372036854775807 := by
  obtain ⟨v0, v1, y0, y1, n, rfl, rfl, rfl, h0, h1⟩ := open_agg2 Try.underlying24 (by kernel_rfl) cellsRow hok h
  obtain ⟨k, e0, _, wk⟩ := DataW.trod_int Try.underlying3 h0
  simp only [List.cons.injEq, and_true] at e0
  subst e0
  simp only [DataW.weights, Try.underlying24, DataW.weightsEach, List.map, List.mem_append] at hw
  obtain ⟨pts, hp⟩ := reads_pts h1 (fun x hx => hw x (Or.inr (Or.inl hx)))
  have hk : -9223372036854775808 ≤ k ∧ k ≤ 9223372036854775807 := by simpa [Lit.wf, IntKind.min, IntKind.max, IntKind.signed, IntKind.bits] using wk
  exact ⟨⟨k, pts⟩, v1, rfl, hp, hk.1, hk.2⟩
end

theorem cellsU8 : Try.prog.cellsOf 5 = 1 := by kernel_rfl
theorem bytesU8 : Try.prog.bytesOf 5 = 1 := by kernel_rfl
theorem cellsU8x2 : Try.prog.cellsOf 52 = 2 := by kernel_rfl
theorem cellsU8x3 : Try.prog.cellsOf 67 = 3 := by kernel_rfl
theorem okWide_arr {P : Program} {W : World} {r : Reach} {b0 : Nat} {v : Value} {t e : TypeId} {n : Nat} (ht : P.underlying t = some (.array n e)) (h : Value.okWide P W r b0 t v) : ∃ cs, v = .agg cs ∧ cs.size = P.cellsOf t := by
  simp only [Value.okWide, ht] at h
  obtain ⟨cs, h1, h2, _⟩ := h
  exact ⟨cs, h1, h2⟩
section
variable {H : Type} {enc : TypeId × Value → H} {W : World} {sp : Nat → Bool} {base : Nat} {v : Value} {d : DataW H} {p : List MemPlace}
set_option maxRecDepth 100000 in
theorem open_u8x2 (hok : Value.okWide Try.prog W .any base 52 v) (h : DataW.Trod enc Try.prog W 0 sp true 52 v d p) : ∃ x y : Nat, v = .agg #[.int .u8 x, .int .u8 y] ∧ x ≤ 255 ∧ y ≤ 255 := by
  obtain ⟨cs, rfl, hsz⟩ := okWide_arr Try.underlying52 hok
  rw [cellsU8x2] at hsz
  obtain ⟨l⟩ := cs
  match l, hsz with
  | [c0, c1], _ =>
    obtain ⟨fuel, hf⟩ := h
    obtain ⟨xs, m, _, _, _, hlen, hg⟩ := DataW.trod_array Try.underlying52 hf
    match xs, hlen with
    | [y0, y1], _ =>
      have h0 := hg 0 (by omega)
      have h1 := hg 1 (by omega)
      rw [cellsU8] at h0 h1
      obtain ⟨k0, e0, _, w0⟩ := DataW.trod_int Try.underlying5 (h0.trans (by rfl : [y0, y1][0]? = some y0))
      obtain ⟨k1, e1, _, w1⟩ := DataW.trod_int Try.underlying5 (h1.trans (by rfl : [y0, y1][1]? = some y1))
      simp [Value.cells] at e0 e1
      subst e0 e1
      have b0 := bounds_u8 w0
      have b1 := bounds_u8 w1
      exact ⟨k0.toNat, k1.toNat, by rw [Int.toNat_of_nonneg b0.1, Int.toNat_of_nonneg b1.1], by omega, by omega⟩
set_option maxRecDepth 100000 in
theorem open_u8x3 (hok : Value.okWide Try.prog W .any base 67 v) (h : DataW.Trod enc Try.prog W 0 sp true 67 v d p) : ∃ x y z : Nat, v = .agg #[.int .u8 x, .int .u8 y, .int .u8 z] ∧ x ≤ 255 ∧ y ≤ 255 ∧ z ≤ 255 := by
  obtain ⟨cs, rfl, hsz⟩ := okWide_arr Try.underlying67 hok
  rw [cellsU8x3] at hsz
  obtain ⟨l⟩ := cs
  match l, hsz with
  | [c0, c1, c2], _ =>
    obtain ⟨fuel, hf⟩ := h
    obtain ⟨xs, m, _, _, _, hlen, hg⟩ := DataW.trod_array Try.underlying67 hf
    match xs, hlen with
    | [y0, y1, y2], _ =>
      have h0 := hg 0 (by omega)
      have h1 := hg 1 (by omega)
      have h2 := hg 2 (by omega)
      rw [cellsU8] at h0 h1 h2
      obtain ⟨k0, e0, _, w0⟩ := DataW.trod_int Try.underlying5 (h0.trans (by rfl : [y0, y1, y2][0]? = some y0))
      obtain ⟨k1, e1, _, w1⟩ := DataW.trod_int Try.underlying5 (h1.trans (by rfl : [y0, y1, y2][1]? = some y1))
      obtain ⟨k2, e2, _, w2⟩ := DataW.trod_int Try.underlying5 (h2.trans (by rfl : [y0, y1, y2][2]? = some y2))
      simp [Value.cells] at e0 e1 e2
      subst e0 e1 e2
      have b0 := bounds_u8 w0
      have b1 := bounds_u8 w1
      have b2 := bounds_u8 w2
      exact ⟨k0.toNat, k1.toNat, k2.toNat, by rw [Int.toNat_of_nonneg b0.1, Int.toNat_of_nonneg b1.1, Int.toNat_of_nonneg b2.1], by omega, by omega, by omega⟩
set_option maxRecDepth 100000 in
theorem open_u8s (hok : Value.okWide Try.prog W .any base 51 v) (h : DataW.Trod enc Try.prog W 0 sp true 51 v d p) (hw : ∀ x ∈ d.weights Try.prog 51, x ≤ reachBytes) :
    ∃ l : List Nat, U8At W v l := by
  obtain ⟨a0, len0, cap0, rfl⟩ := okWide_slice Try.underlying51 hok
  obtain ⟨fuel, hf⟩ := h
  have hf' : DataW.trod enc Try.prog W 0 sp true fuel 51 [.slice a0 len0 cap0] = some (d, p) := hf
  rcases open_slice1 Try.underlying51 cellsU8 hf' with ⟨hcs, _⟩ | ⟨a, len, cap, m, n', V, D, Pl, hcs, _, hl, hm, hmm, hx, hel⟩
  · simp only [List.cons.injEq, Value.slice.injEq, and_true] at hcs
    obtain ⟨rfl, rfl, rfl⟩ := hcs
    exact ⟨[], by simp, none, 0, rfl, fun h => absurd rfl h⟩
  · simp only [List.cons.injEq, Value.slice.injEq, and_true] at hcs
    obtain ⟨rfl, rfl, rfl⟩ := hcs
    have hlm : len0 ≤ m := by rw [hmm]; split <;> omega
    have hd : d = .slice ((List.range len0).map D) ((List.range (m - len0)).map fun j => D (len0 + j)) := congrArg Prod.fst hx
    have hb : len0 * 1 ≤ reachBytes := by
      have := hw ((((List.range len0).map D).length + ((List.range (m - len0)).map fun j => D (len0 + j)).length) * 1) (by rw [hd]; simp [DataW.weights, Try.underlying51, bytesU8])
      simp only [List.length_map, List.length_range] at this
      omega
    have hr : reachBytes = 140737488351232 := rfl
    obtain ⟨f, hfl⟩ := choose_lt (α := Nat) (n := len0) (p := fun i x => W.cell? (a.add i) = some (.int .u8 x) ∧ x ≤ 255) (fun i hi => by
      obtain ⟨h1, h2⟩ := hel i (by omega)
      obtain ⟨k, e, _, w⟩ := DataW.trod_int Try.underlying5 h2
      simp only [List.cons.injEq, and_true] at e
      have bd := bounds_u8 w
      refine ⟨k.toNat, ?_, by omega⟩
      rw [h1, e, Int.toNat_of_nonneg bd.1])
    refine ⟨(List.range len0).map f, by simp; omega, some a, cap0, by simp, fun hne => ?_⟩
    have h0 : 0 < len0 := by
      rcases Nat.eq_zero_or_pos len0 with h | h
      · subst h; exact absurd rfl hne
      · exact h
    obtain ⟨b, o, spot⟩ := a
    have hspot : spot = none := by simpa [Addr.add] using World.cell?_spot (hfl 0 h0).1
    subst hspot
    refine ⟨b, o, rfl, fun k hk => ?_⟩
    have hk' : k < len0 := by simpa using hk
    have hc := hfl k hk'
    rw [add_plain] at hc
    simpa [List.getD_eq_getElem?_getD, hk'] using hc
end

section
variable {H : Type} {enc : TypeId × Value → H} {P : Program}
/-- All arguments read behind a call that turned nothing old as they read before. -/
theorem args_stay {W W' : World} {sp : Nat → Bool} (hl : laidOutB P = true) (hb : Below W.heap.size W W') :
    ∀ {ts : List TypeId} {vs : List Value} {ds : List (DataW H)} {ps : List MemPlace}, (∀ t, t ∈ ts → P.readableRec t = true ∧ t < P.types.size) → DataW.TrodAll enc P W 0 (fun _ => true) true ts vs ds ps →
      (∀ x, x ∈ ps → x.block < W.heap.size ∧ sp x.block = true) → DataW.TrodAll enc P W' 0 sp true ts vs ds ps
  | [], [], [], _, _, h, _ => h
  | t :: ts, v :: vs, d :: ds, _, hr, ⟨p, q, h1, h2, e⟩, hs =>
    ⟨p, q, WideElems.Trod_stays hl (hr t (List.mem_cons_self ..)).1 (hr t (List.mem_cons_self ..)).2 h1 (fun x hx => hb.same (hs x (e ▸ List.mem_append_left q hx)).1) (fun x hx => (hs x (e ▸ List.mem_append_left q hx)).2),
      args_stay hl hb (fun u hu => hr u (List.mem_cons_of_mem _ hu)) h2 (fun x hx => hs x (e ▸ List.mem_append_right p hx)), e⟩
/-- What a statement's row asks behind a call that returned true and turned nothing that was there. -/
theorem post_law {f : Func} {s : ChangeSpec} {W W' : World} {args : Array Value} {ds : List (DataW H)} {before : List MemPlace} {tb : TypeId}
    (hl : laidOutB P = true) (hr : ∀ t, t ∈ f.params.toList → P.readableRec t = true ∧ t < P.types.size) (hvars : s.vars = []) (hres : f.resultTypes = #[tb]) (htb : P.underlying tb = some .bool)
    (hfn : s.fn H ds = { results := [.lit (.bool true)], args := ds }) (hW : DataW.Whole enc P f.params.toList s.vars false W args.toList ds [] before) (hb : Below W.heap.size W W') :
    s.post enc P f false true false false W args (.bool true) W' := by
  have hlt : ∀ x, x ∈ before → x.block < W.heap.size := fun x hx => hW.lt x hx
  obtain ⟨p, q, hA, hV, hbf, _, _⟩ := id hW
  have hq : q = [] := by rw [hvars] at hV; exact hV
  subst hq
  simp only [List.append_nil] at hbf
  subst hbf
  have e : ds ++ ([] : List (DataW H)) = ds := List.append_nil ds
  refine ⟨ds, [], _, [], before, [], hW, ?_, ?_, ?_, hb.frame _, fun h => by cases h⟩
  · rw [e, hfn, hres]
    exact trodAll_cons_mk (shut_bool htb _) trodAll_mk0
  · rw [e, hfn]
    exact args_stay hl hb hr hA (fun x hx => ⟨hlt x hx, by simpa using hlt x hx⟩)
  · rw [e, hfn, hvars]
    exact rfl
end
end Go.Proofs.Ytnciomoapajonaa
