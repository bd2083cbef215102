/- The arguments of the statements about package sheet, opened: a sheet reads as plain data. Condition: no string and no slice that came in takes more than all addresses. -/
import Derived.Test.YtacmaddjpaebfaaGreatDoorCheck
import Derived.Lib.SmallJoins
import Derived.SliceStrings
import Derived.Deep.Slices
import Derived.SizedLaws
import Derived.OpenShut
import Derived.ChangeSame
import Derived.WideKeyArgs
set_option linter.unusedSimpArgs false
set_option linter.unusedVariables false
namespace Go.Proofs.YtacmaddjpaebfaaGreatDoor
open Go Go.RowKit Hs Go.ChangeShapes Go.WideShapes Go.Deep Go.Joins

theorem weightsAll_in {H : Type} {P : Program} {e : TypeId} : ∀ {l : List (DataW H)} {d : DataW H}, d ∈ l → ∀ n ∈ d.weights P e, n ∈ DataW.weightsAll P e l
  | d' :: r, d, hd, n, hn => by
    simp only [DataW.weightsAll, List.mem_append]
    rcases List.mem_cons.1 hd with rfl | h
    · exact Or.inl hn
    · exact Or.inr (weightsAll_in h n hn)

theorem cellsInt : Tryz.prog.cellsOf 3 = 1 := by kernel_rfl
theorem cellsSpan : Tryz.prog.cellsOf 40 = 2 := by kernel_rfl
theorem cellsNote : Tryz.prog.cellsOf 67 = 5 := by kernel_rfl
theorem cellsStr : Tryz.prog.cellsOf 9 = 1 := by kernel_rfl
theorem cellsSheet : Tryz.prog.cellsOf 25 = 3 := by kernel_rfl
theorem bytesStr : Tryz.prog.bytesOf 9 = 16 := by kernel_rfl
theorem bytesNote : Tryz.prog.bytesOf 67 = 40 := by kernel_rfl

section
variable {H : Type} {enc : TypeId × Value → H} {W : World} {sp : Nat → Bool}
set_option maxRecDepth 100000 in
theorem open_span {n : Nat} {cs : List Value} {y : DataW H × List MemPlace} (h : DataW.trod enc Tryz.prog W 0 sp true n 40 cs = some y) : ∃ lo hi : Int, cs = [.int .i64 lo, .int .i64 hi] := by
  obtain ⟨xs, m, _, hx, hl, hlen, hf⟩ := DataW.trod_struct Tryz.underlying40 h
  rw [cellsSpan] at hl
  match cs, hl with
  | [c0, c1], _ =>
    match xs, hlen with
    | [y0, y1], _ =>
      have h0 : DataW.trod enc Tryz.prog W 0 sp true m 3 (([c0, c1].drop 0).take (Tryz.prog.cellsOf 3)) = [y0, y1][0]? := hf 0 _ rfl
      have h1 : DataW.trod enc Tryz.prog W 0 sp true m 3 (([c0, c1].drop 1).take (Tryz.prog.cellsOf 3)) = [y0, y1][1]? := hf 1 _ rfl
      rw [cellsInt] at h0 h1
      obtain ⟨k0, e0, _⟩ := DataW.trod_int Tryz.underlying3 (h0.trans (by rfl : [y0, y1][0]? = some y0))
      obtain ⟨k1, e1, _⟩ := DataW.trod_int Tryz.underlying3 (h1.trans (by rfl : [y0, y1][1]? = some y1))
      simp at e0 e1
      exact ⟨k0, k1, by rw [e0, e1]⟩

set_option maxRecDepth 100000 in
theorem open_note {n : Nat} {cs : List Value} {y : DataW H × List MemPlace} (h : DataW.trod enc Tryz.prog W 0 sp true n 67 cs = some y) :
    ∃ x : Note, cs = [.int .i64 x.k, .int .i64 x.a, .int .i64 x.b, .int .i64 x.lo, .int .i64 x.hi] := by
  obtain ⟨xs, m, _, hx, hl, hlen, hf⟩ := DataW.trod_struct Tryz.underlying67 h
  rw [cellsNote] at hl
  match cs, hl with
  | [c0, c1, c2, c3, c4], _ =>
    match xs, hlen with
    | [y0, y1, y2, y3], _ =>
      have h0 : DataW.trod enc Tryz.prog W 0 sp true m 3 (([c0, c1, c2, c3, c4].drop 0).take (Tryz.prog.cellsOf 3)) = [y0, y1, y2, y3][0]? := hf 0 _ rfl
      have h1 : DataW.trod enc Tryz.prog W 0 sp true m 3 (([c0, c1, c2, c3, c4].drop 1).take (Tryz.prog.cellsOf 3)) = [y0, y1, y2, y3][1]? := hf 1 _ rfl
      have h2 : DataW.trod enc Tryz.prog W 0 sp true m 3 (([c0, c1, c2, c3, c4].drop 2).take (Tryz.prog.cellsOf 3)) = [y0, y1, y2, y3][2]? := hf 2 _ rfl
      have h3 : DataW.trod enc Tryz.prog W 0 sp true m 40 (([c0, c1, c2, c3, c4].drop 3).take (Tryz.prog.cellsOf 40)) = [y0, y1, y2, y3][3]? := hf 3 _ rfl
      rw [cellsInt] at h0 h1 h2
      rw [cellsSpan] at h3
      obtain ⟨k0, e0, _⟩ := DataW.trod_int Tryz.underlying3 (h0.trans (by rfl : [y0, y1, y2, y3][0]? = some y0))
      obtain ⟨k1, e1, _⟩ := DataW.trod_int Tryz.underlying3 (h1.trans (by rfl : [y0, y1, y2, y3][1]? = some y1))
      obtain ⟨k2, e2, _⟩ := DataW.trod_int Tryz.underlying3 (h2.trans (by rfl : [y0, y1, y2, y3][2]? = some y2))
      obtain ⟨k3, k4, e3⟩ := open_span (h3.trans (by rfl : [y0, y1, y2, y3][3]? = some y3))
      simp at e0 e1 e2 e3
      exact ⟨⟨k0, k1, k2, k3, k4⟩, by simp [e0, e1, e2, e3]⟩

/-- A slice whose capacity is not below its length. -/
def CapOk (v : Value) : Prop := ∃ a n c, v = .slice a n c ∧ n ≤ c
set_option maxRecDepth 100000 in
theorem reads_strs {n : Nat} {v : Value} {y : DataW H × List MemPlace} (h : DataW.trod enc Tryz.prog W 0 sp true n 22 [v] = some y) (hw : ∀ x ∈ y.1.weights Tryz.prog 22, x ≤ reachBytes) :
    ∃ l : List ByteArray, StrsAt W.heap.size W v l ∧ CapOk v ∧ ∀ x, x ∈ l → x.size ≤ 140737488351232 := by
  rcases open_strings Tryz.underlying22 Tryz.underlying9 cellsStr h with ⟨hcs, _⟩ | ⟨a, len, cap, ss, hcs, _, hl, hm, hz, hx, hcell, _⟩
  · simp only [List.cons.injEq, and_true] at hcs
    subst hcs
    exact ⟨[], ⟨by simp, none, 0, rfl, fun h => absurd rfl h⟩, ⟨none, 0, 0, rfl, Nat.le_refl _⟩, fun x hx => by cases hx⟩
  · simp only [List.cons.injEq, and_true] at hcs
    subst hcs
    have hlen : (ss.take len).length = len := by rw [List.length_take]; split at hz <;> omega
    have hy : y.1 = .slice (strs (ss.take len)) (strs (ss.drop len)) := by rw [hx]
    have hb : len * 16 ≤ reachBytes := by
      have := hw (((strs (H := H) (ss.take len)).length + (strs (H := H) (ss.drop len)).length) * 16) (by rw [hy]; simp [DataW.weights, Tryz.underlying22, bytesStr])
      simp only [strs, List.length_map, hlen] at this
      omega
    have hr : reachBytes = 140737488351232 := rfl
    refine ⟨ss.take len, ⟨by omega, some a, cap, by rw [hlen], fun hne => ?_⟩, ⟨_, _, _, rfl, hl⟩, fun x hx => ?_⟩
    · have h0 : 0 < len := by
        rcases Nat.eq_zero_or_pos len with h | h
        · exact absurd (List.length_eq_zero_iff.1 (hlen.trans h)) hne
        · exact h
      have hss : len ≤ ss.length := by rw [List.length_take] at hlen; omega
      obtain ⟨b, o, spot⟩ := a
      have hspot : spot = none := by simpa [Addr.add] using World.cell?_spot (hcell 0 (by omega))
      subst hspot
      refine ⟨b, o, rfl, ?_, fun k hk => ?_⟩
      · have := World.block_lt_of_cell? W _ (hcell 0 (by omega))
        simpa [Addr.add] using this
      · have := hcell k (by omega)
        rw [add_plain] at this
        rw [this]
        simp [List.getD_eq_getElem?_getD, show k < ss.length by omega]
    · have := hw x.size (by
        rw [hy]
        simp only [DataW.weights, Tryz.underlying22, List.mem_cons, List.mem_append]
        refine Or.inr (Or.inl (weightsAll_in (d := .lit (.string x.data.toList)) (List.mem_map.2 ⟨x, hx, rfl⟩) _ ?_))
        simp [DataW.weights])
      omega

set_option maxRecDepth 100000 in
theorem reads_notes {n : Nat} {v : Value} {y : DataW H × List MemPlace} (h : DataW.trod enc Tryz.prog W 0 sp true n 23 [v] = some y) (hw : ∀ x ∈ y.1.weights Tryz.prog 23, x ≤ reachBytes) :
    ∃ l : List Note, NotesAt W.heap.size W v l := by
  rcases open_slice Tryz.underlying23 h with ⟨hcs, _⟩ | ⟨a, len, cap, m, n', D, Pl, hcs, _, hl, hm, hmm, hx, hel⟩
  · simp only [List.cons.injEq, and_true] at hcs
    subst hcs
    exact ⟨[], by simp, none, 0, rfl, fun h => absurd rfl h⟩
  · simp only [List.cons.injEq, and_true] at hcs
    subst hcs
    have hlm : len ≤ m := by rw [hmm]; split <;> omega
    have hb : len * 40 ≤ reachBytes := by
      have := hw ((((List.range len).map D).length + ((List.range (m - len)).map fun j => D (len + j)).length) * 40) (by rw [hx]; simp [DataW.weights, Tryz.underlying23, bytesNote])
      simp only [List.length_map, List.length_range] at this
      omega
    have hr : reachBytes = 140737488351232 := rfl
    obtain ⟨f, hf⟩ := choose_lt (α := Note) (n := len) (p := fun i x => ∃ cs', W.cells? 0 (a.add (i * 5)) 5 = some cs' ∧ cs' = [.int .i64 x.k, .int .i64 x.a, .int .i64 x.b, .int .i64 x.lo, .int .i64 x.hi]) (fun i hi => by
      obtain ⟨cs', h1, h2⟩ := hel i (by omega)
      rw [cellsNote] at h1
      obtain ⟨x, hx⟩ := open_note h2
      exact ⟨x, cs', h1, hx⟩)
    refine ⟨(List.range len).map f, by simp; omega, some a, cap, by simp, fun hne => ?_⟩
    have h0 : 0 < len := by
      rcases Nat.eq_zero_or_pos len with h | h
      · subst h; exact absurd rfl hne
      · exact h
    have hc : ∀ i, i < len → ∀ j, j < 5 → W.cell? ((a.add (i * 5)).add j) = [Value.int .i64 (f i).k, .int .i64 (f i).a, .int .i64 (f i).b, .int .i64 (f i).lo, .int .i64 (f i).hi][j]? := fun i hi j hj => by
      obtain ⟨cs', h1, rfl⟩ := hf i hi
      exact (World.cells?_some h1).2.2 j hj
    obtain ⟨b, o, spot⟩ := a
    have hspot : spot = none := by
      have := hc 0 h0 0 (by omega)
      simpa [Addr.add] using World.cell?_spot this
    subst hspot
    have hcc : ∀ i, i < len → ∀ j, j < 5 → W.cell? ⟨b, o + i * 5 + j, none⟩ = [Value.int .i64 (f i).k, .int .i64 (f i).a, .int .i64 (f i).b, .int .i64 (f i).lo, .int .i64 (f i).hi][j]? := fun i hi j hj => by
      have := hc i hi j hj
      rwa [add_plain, add_plain] at this
    refine ⟨b, o, rfl, World.block_lt_of_cell? W _ (hcc 0 h0 0 (by omega)), fun k hk => ?_⟩
    have hk' : k < len := by simpa using hk
    simp only [List.getElem_map, List.getElem_range]
    exact ⟨hcc k hk' 0 (by omega), hcc k hk' 1 (by omega), hcc k hk' 2 (by omega), hcc k hk' 3 (by omega), hcc k hk' 4 (by omega)⟩

set_option maxRecDepth 100000 in
/-- A sheet that came in. -/
theorem open_sheet {base : Nat} {v : Value} {d : DataW H} {p : List MemPlace} (hok : Value.okWide Tryz.prog W .any base 25 v) (h : DataW.Trod enc Tryz.prog W 0 sp true 25 v d p)
    (hw : ∀ x ∈ d.weights Tryz.prog 25, x ≤ reachBytes) : ∃ s pv nv, v = .agg #[.int .i64 s.iv, pv, nv] ∧ SheetAt W.heap.size W pv nv s ∧ CapOk pv := by
  obtain ⟨v0, v1, v2, y0, y1, y2, n, rfl, rfl, rfl, h0, h1, h2⟩ := open_agg3 Tryz.underlying25 (by kernel_rfl) cellsSheet hok h
  obtain ⟨k, e0, _⟩ := DataW.trod_int Tryz.underlying3 h0
  simp only [List.cons.injEq, and_true] at e0
  subst e0
  simp only [DataW.weights, Tryz.underlying25, DataW.weightsEach, List.map, List.mem_append] at hw
  obtain ⟨pts, hp, hcap, hz⟩ := reads_strs h1 (fun x hx => hw x (Or.inr (Or.inl hx)))
  obtain ⟨notes, hn⟩ := reads_notes h2 (fun x hx => hw x (Or.inr (Or.inr (Or.inl hx))))
  exact ⟨⟨k, pts, notes⟩, v1, v2, rfl, ⟨hp, hn, hz⟩, hcap⟩
end

section
variable {H : Type} {enc : TypeId × Value → H} {P : Program}
/-- All arguments read behind a call that turned nothing old as they read before. -/
theorem args_stay {W W' : World} {sp : Nat → Bool} (hl : laidOutB P = true) (hb : Below W.heap.size W W') :
    ∀ {ts : List TypeId} {vs : List Value} {ds : List (DataW H)} {ps : List MemPlace}, (∀ t, t ∈ ts → P.readableRec t = true ∧ t < P.types.size) → DataW.TrodAll enc P W 0 (fun _ => true) true ts vs ds ps →
      (∀ x, x ∈ ps → x.block < W.heap.size ∧ sp x.block = true) → DataW.TrodAll enc P W' 0 sp true ts vs ds ps
  | [], [], [], _, _, h, _ => h
  | t :: ts, v :: vs, d :: ds, _, hr, ⟨p, q, h1, h2, e⟩, hs =>
    ⟨p, q, WideElems.Trod_stays hl (hr t (List.mem_cons_self ..)).1 (hr t (List.mem_cons_self ..)).2 h1 (fun x hx => hb.same (hs x (e ▸ List.mem_append_left q hx)).1) (fun x hx => (hs x (e ▸ List.mem_append_left q hx)).2),
      args_stay hl hb (fun u hu => hr u (List.mem_cons_of_mem _ hu)) h2 (fun x hx => hs x (e ▸ List.mem_append_right p hx)), e⟩
/-- What a statement's row asks behind a call that returned true and turned nothing that was there. -/
theorem post_law {f : Func} {s : ChangeSpec} {W W' : World} {args : Array Value} {ds : List (DataW H)} {before : List MemPlace} {tb : TypeId}
    (hl : laidOutB P = true) (hr : ∀ t, t ∈ f.params.toList → P.readableRec t = true ∧ t < P.types.size) (hvars : s.vars = []) (hres : f.resultTypes = #[tb]) (htb : P.underlying tb = some .bool)
    (hfn : s.fn H ds = { results := [.lit (.bool true)], args := ds }) (hW : DataW.Whole enc P f.params.toList s.vars false W args.toList ds [] before) (hb : Below W.heap.size W W') :
    s.post enc P f false true false false W args (.bool true) W' := by
  have hlt : ∀ x, x ∈ before → x.block < W.heap.size := fun x hx => hW.lt x hx
  obtain ⟨p, q, hA, hV, hbf, _, _⟩ := id hW
  have hq : q = [] := by rw [hvars] at hV; exact hV
  subst hq
  simp only [List.append_nil] at hbf
  subst hbf
  have e : ds ++ ([] : List (DataW H)) = ds := List.append_nil ds
  refine ⟨ds, [], _, [], before, [], hW, ?_, ?_, ?_, hb.frame _, fun h => by cases h⟩
  · rw [e, hfn, hres]
    exact trodAll_cons_mk (shut_bool htb _) trodAll_mk0
  · rw [e, hfn]
    exact args_stay hl hb hr hA (fun x hx => ⟨hlt x hx, by simpa using hlt x hx⟩)
  · rw [e, hfn, hvars]
    exact rfl
end
end Go.Proofs.YtacmaddjpaebfaaGreatDoor
