/- Package carve: what the ways from places are kept in. -/
import Derived.Test.YtnciomoapajonaaCwo
import Derived.Laws.StructEq
set_option linter.unusedSimpArgs false
set_option linter.unusedVariables false
namespace Go.Proofs.Ytnciomoapajonaa
open Go Go.RowKit Go.Shelf Cv

/-! ## Where a surface may come from, with the height there -/
/-- A place at point k - 1, and where surfaces come from there. -/
def FromZ (r : Row) (k : Nat) (g : Int) (f : From) : Prop := (0 ≤ g ∧ g ≤ 9000) ∧ FromOk r k f ∧ ∀ p h, f = some (p, h) → h = g
theorem FromZ.one {r : Row} {k : Nat} {g : Int} {f f' : From} (h : FromZ r k g f) (h' : FromZ r k g f') : f = f' := by
  obtain ⟨_, a, b⟩ := h
  obtain ⟨_, a', b'⟩ := h'
  cases k with
  | zero => rw [show f = none from a, show f' = none from a']
  | succ i =>
    obtain ⟨x, rfl, _, _⟩ := a
    obtain ⟨y, rfl, _, _⟩ := a'
    have := b _ _ rfl
    have := b' _ _ rfl
    subst_vars
    rfl
theorem low_bd (r : Row) (hv : Valid r) (i : Nat) (hi : i < r.pts.length) (hc : crossB r = false) : 0 ≤ lowF r i ∧ lowF r i ≤ highF r i ∧ highF r i ≤ 9000 := by
  have a := (lowF_is r hv.s0).ge i hi
  have b : -(hiF r i) ≤ -(highF r i) := (highF_is r hv.s0).ge i hi
  have e1 := loF_get r i hi
  have e2 := hiF_get r i hi
  have e : r.pts.getD i default = r.pts[i] := by simp [List.getD_eq_getElem?_getD, hi]
  rw [e] at e1 e2
  have ok := hv.ok r.pts[i] (List.getElem_mem hi)
  have := ok.l0
  have := ok.h9
  unfold crossB at hc
  rw [List.any_eq_false] at hc
  have hx := hc i (List.mem_range.2 hi)
  simp at hx
  refine ⟨by omega, hx, by omega⟩
theorem FromZ.next {r : Row} (hv : Valid r) (hc : crossB r = false) {k : Nat} (hk : k < r.pts.length) {x : Int} (h1 : lowF r k ≤ x) (h2 : x ≤ highF r k) : FromZ r (k + 1) x (some (r.pts.getD k default, x)) := by
  have b := low_bd r hv k hk hc
  exact ⟨by omega, ⟨x, rfl, h1, h2⟩, fun p h e => by cases e; rfl⟩
/-- The best way from a place. -/
def wayK (r : Row) (q : Bool) (k : Nat) (f : From) : Int × Nd := wayL r.st q ((bndR r).drop k) f
theorem good_from (r : Row) (hv : Valid r) (hc : crossB r = false) (k : Nat) (f : From) (hf : FromOk r k f) (hk : k ≤ r.pts.length) : ∃ s, GoodL r.st f (((bndR r).drop k).map (·.1)) s := by
  rw [List.map_drop, bndR_map]
  cases k with
  | zero =>
    rw [show f = none from hf, List.drop_zero]
    exact (good_iff r hv.s0).1 hc
  | succ i =>
    obtain ⟨g, rfl, h1, h2⟩ := hf
    obtain ⟨t, ht, hti⟩ := through r hv.s0 hc i (by omega) g h1 h2
    refine ⟨_, goodF_drop r t ht (i + 1) _ fun hlt => ?_⟩
    have a := ht.up i hlt
    have b := ht.dn i hlt
    simp only [nearF, Bool.and_eq_true, decide_eq_true_eq]
    omega
theorem deepF_nonneg (f : From) : 0 ≤ deepF f := by
  cases f with
  | none => simp [deepF]
  | some p => simp only [deepF]; omega
theorem wayK_bd (r : Row) (hv : Valid r) (hc : crossB r = false) (q : Bool) (k : Nat) (f : From) (hf : FromOk r k f) (hk : k ≤ r.pts.length) :
    0 ≤ (wayK r q k f).2.1 ∧ (wayK r q k f).2.1 ≤ 90000 ∧ 0 ≤ (wayK r q k f).2.2 ∧ (wayK r q k f).2.2 ≤ 90000 := by
  have hok : ∀ b, b ∈ (bndR r).drop k → PtOk b.1 := by
    intro b hb
    obtain ⟨i, hi, rfl⟩ := List.mem_map.1 (List.mem_of_mem_drop hb)
    have := List.mem_range.1 hi
    simp only [List.getD_eq_getElem?_getD, this, List.getElem?_eq_getElem, Option.getD_some]
    exact hv.ok _ (List.getElem_mem _)
  have hl : ((bndR r).drop k).length ≤ 10 := by rw [List.length_drop, bndR_length]; have := hv.n10; omega
  have h := wayL_is r.st q ((bndR r).drop k) f hok hl (deepF_nonneg f) (fine_at r hv.s0 hc (r.pts.length - k) k f (by omega) hf) (good_from r hv hc k f hf hk)
  obtain ⟨g1, g2, _⟩ := refL_some _ _ _ _ _ h
  simp only at g1 g2
  have b := needS_bd r.st (((bndR r).drop k).map (·.1)) f _ (fun p hp => by
    obtain ⟨b, hb, rfl⟩ := List.mem_map.1 hp
    exact hok b hb) g1 (deepF_nonneg f)
  rw [← g2, List.length_map] at b
  unfold wayK
  omega
theorem wayK_end (r : Row) (q : Bool) (f : From) : wayK r q r.pts.length f = (0, (0, 0)) := by
  unfold wayK
  rw [List.drop_of_length_le (by rw [bndR_length]; omega)]
  rfl
theorem near_eq (st z g h : Int) (f : From) (p : Pt) (hz : z = -1 ∧ f = none ∨ z ≠ -1 ∧ f = some (p, g)) : nearZ st z g h = nearF st f h := by
  unfold nearZ
  rcases hz with ⟨rfl, rfl⟩ | ⟨hz, rfl⟩
  · rfl
  · rw [if_neg hz]; rfl
theorem wayK_step (r : Row) (q : Bool) (k : Nat) (f : From) (hk : k < r.pts.length) : wayK r q k f = ((spanL (lowF r k) (highF r k)).filter (nearF r.st f)).foldl (fun a h => bet q a (h, addN (stepN f (r.pts.getD k default) h) (wayK r q (k + 1) (some (r.pts.getD k default, h))).2)) bigW := by
  unfold wayK
  have hl : k < (bndR r).length := by rw [bndR_length]; exact hk
  rw [List.drop_eq_getElem_cons hl, bndR_get r k hl]
  rfl
/-! ## The map -/
theorem eq_place (a b c d : Int) (w : World) : (Op.equal 123 (.agg #[.int .i64 a, .int .i64 b]) (.agg #[.int .i64 c, .int .i64 d])).run Try.prog w = .ok (a == c && b == d) w := by
  have h1 : Try.prog.underlying 123 = some (.struct (Try.prog.fieldsOf 123)) := by kernel_rfl
  have h2 : Try.prog.stoodInHeld 123 = false := by kernel_rfl
  have h3 : (Try.prog.fieldsOf 123).toList.map (fun f => (f.name, f.type, f.offset)) = [("at", 3, 0), ("height", 3, 1)] := by kernel_rfl
  have e : Op.maxDepth = 9999 + 1 := rfl
  unfold Op.equal
  rw [e, run_equalIn_agg w 9999 _ _ _ h1 h2]
  generalize (Try.prog.fieldsOf 123).toList = fs at *
  have hl : fs.length = 2 := by simpa using congrArg List.length h3
  obtain ⟨f1, f2, rfl⟩ : ∃ f1 f2, fs = [f1, f2] := by
    cases fs with
    | nil => simp at hl
    | cons x l =>
      cases l with
      | nil => simp at hl
      | cons y l =>
        have : l = [] := List.length_eq_zero_iff.1 (by simpa using hl)
        exact ⟨x, y, by rw [this]⟩
  clear hl
  simp only [List.map_cons, List.map_nil, List.cons.injEq, Prod.mk.injEq, and_true] at h3
  obtain ⟨⟨n1, t1, o1⟩, n2, t2, o2⟩ := h3
  have p1 : (part 3 #[.int .i64 a, .int .i64 b] 0).run Try.prog w = .ok (.int .i64 a) w := by kernel_rfl
  have p2 : (part 3 #[.int .i64 a, .int .i64 b] 1).run Try.prog w = .ok (.int .i64 b) w := by kernel_rfl
  have p3 : (part 3 #[.int .i64 c, .int .i64 d] 0).run Try.prog w = .ok (.int .i64 c) w := by kernel_rfl
  have p4 : (part 3 #[.int .i64 c, .int .i64 d] 1).run Try.prog w = .ok (.int .i64 d) w := by kernel_rfl
  have q1 := run_equalIn_int (P := Try.prog) w 9998 3 .i64 .i64 a c Try.underlying3
  have q2 := run_equalIn_int (P := Try.prog) w 9998 3 .i64 .i64 b d Try.underlying3
  simp only [Op.eqFields, n1, n2, t1, t2, o1, o2, Sem.run_bind, p1, p2, p3, p4, Result.andThen_ok, q1, q2, Sem.run_ite, Sem.run_pure]
  rw [if_pos (show "at" ≠ "_" by decide), if_pos (show "height" ≠ "_" by decide)]
  cases (a == c) <;> cases (b == d) <;> rfl
theorem check_place (em : Bool) (z g : Int) (w : World) : (Instr.checkKey em 10000 123 (.agg #[.int .i64 z, .int .i64 g])).run Try.prog w = .ok () w := by kernel_rfl
/-- What is kept of a map: only ways that are the best ones. -/
def Ents (r : Row) (q : Bool) (es : List MapEntry) : Prop := ∀ e, e ∈ es → ∃ (k : Nat) (z g : Int) (f : From), z + 1 = k ∧ FromZ r k g f ∧ e.key = .agg #[.int .i64 z, .int .i64 g] ∧ e.val = wayV (wayK r q k f)
theorem find_asking (r : Row) (q : Bool) (z g : Int) (w : World) : ∀ (es : List MapEntry) (i : Nat), Ents r q es → ∃ o, (Instr.findAsking 123 (.agg #[.int .i64 z, .int .i64 g]) es i).run Try.prog w = .ok o w ∧
    (o = none ∨ ∃ j e, o = some (j, e.val) ∧ i ≤ j ∧ es[j - i]? = some e ∧ e ∈ es ∧ e.key = .agg #[.int .i64 z, .int .i64 g]) := by
  intro es
  induction es with
  | nil => intro i _; exact ⟨none, rfl, .inl rfl⟩
  | cons e es ih =>
    intro i h
    obtain ⟨k, z', g', f, _, _, hk, _⟩ := h e (by simp)
    obtain ⟨o, h1, h2⟩ := ih (i + 1) fun x hx => h x (List.mem_cons_of_mem _ hx)
    by_cases hc : (z == z' && g == g') = true
    · refine ⟨some (i, e.val), ?_, .inr ⟨i, e, rfl, Nat.le_refl _, by simp, by simp, ?_⟩⟩
      · simp only [Instr.findAsking, Sem.run_bind, hk, eq_place, Result.andThen_ok, hc, if_true, Sem.run_pure]
      · simp at hc
        obtain ⟨rfl, rfl⟩ := hc
        exact hk
    · refine ⟨o, ?_, ?_⟩
      · simp only [Instr.findAsking, Sem.run_bind, hk, eq_place, Result.andThen_ok, hc]
        exact h1
      · rcases h2 with h2 | ⟨j, x, e1, e2, e3, e4, e5⟩
        · exact .inl h2
        · refine .inr ⟨j, x, e1, by omega, ?_, List.mem_cons_of_mem _ e4, e5⟩
          rw [show j - i = (j - (i + 1)) + 1 by omega]
          simpa using e3
theorem find_place (r : Row) (q : Bool) (z g : Int) (w : World) (es : List MapEntry) (h : Ents r q es) : ∃ o, (Instr.findKey 123 (.agg #[.int .i64 z, .int .i64 g]) es).run Try.prog w = .ok o w ∧
    (o = none ∨ ∃ (j : Nat) (e : MapEntry), o = some (j, e.val) ∧ es[j]? = some e ∧ e ∈ es ∧ e.key = .agg #[.int .i64 z, .int .i64 g]) := by
  obtain ⟨o, h1, h2⟩ := find_asking r q z g w es 0 h
  have hu : Try.prog.underlying 123 = some (.struct (Try.prog.fieldsOf 123)) := by kernel_rfl
  have h2' : o = none ∨ ∃ (j : Nat) (e : MapEntry), o = some (j, e.val) ∧ es[j]? = some e ∧ e ∈ es ∧ e.key = .agg #[.int .i64 z, .int .i64 g] := by
    rcases h2 with h2 | ⟨j, e, e1, _, e3, e4, e5⟩
    · exact .inl h2
    · exact .inr ⟨j, e, e1, by simpa using e3, e4, e5⟩
  cases es with
  | nil =>
    refine ⟨none, ?_, .inl rfl⟩
    simp [Instr.findKey, run_underlying hu, Instr.findNow]
  | cons e es =>
    refine ⟨o, ?_, h2'⟩
    obtain ⟨k, z', g', f, _, _, hk, _⟩ := h e (by simp)
    have : Instr.findNow (.struct (Try.prog.fieldsOf 123)) (.agg #[.int .i64 z, .int .i64 g]) (e :: es) 0 = none := by
      simp only [Instr.findNow, hk, Instr.sameNow]
    simp only [Instr.findKey, Sem.run_bind, run_underlying hu, Result.andThen_ok, this]
    exact h1
/-- A block holds a map of which only the best ways are told. -/
def MapSt (r : Row) (q : Bool) (b : Nat) (w : World) : Prop := ∃ es clock, w.heap[b]? = some (.map es clock) ∧ Ents r q es.toList
theorem look_place (r : Row) (q : Bool) (b k : Nat) (z g : Int) (f : From) (w : World) (h : MapSt r q b w) (hz : z + 1 = k) (hf : FromZ r k g f) :
    ∃ v t, (Instr.lookup 128 (.map (some b)) (.agg #[.int .i64 z, .int .i64 g]) true).run Try.prog w = .ok (.tuple #[wayV v, .bool t]) w ∧ (t = true → v = wayK r q k f) ∧ (t = false → v = (0, (0, 0))) := by
  obtain ⟨es, clock, hb, hE⟩ := h
  have hu : Try.prog.underlying 128 = some (.map 123 119) := by kernel_rfl
  have hzv : (zeroValue 119).run Try.prog w = .ok (wayV (0, (0, 0))) w := by kernel_rfl
  obtain ⟨o, h1, h2⟩ := find_place r q z g w es.toList hE
  rcases h2 with rfl | ⟨j, e, rfl, _, hm, hk⟩
  · refine ⟨(0, (0, 0)), false, ?_, (by intro h; cases h), fun _ => rfl⟩
    simp only [Instr.lookup, Sem.run_bind, run_underlying hu, Result.andThen_ok, MapKept.run_getObj_map hb, Sem.run_pure, check_place, h1, hzv]
    rfl
  · obtain ⟨k', z', g', f', hz', hf', hk', hv'⟩ := hE e hm
    rw [hk] at hk'
    simp only [Value.agg.injEq, Array.mk.injEq, List.cons.injEq, Value.int.injEq, true_and, and_true] at hk'
    obtain ⟨rfl, rfl⟩ := hk'
    obtain rfl : k' = k := by omega
    have := hf'.one hf
    subst this
    refine ⟨wayK r q k' f', true, ?_, fun _ => rfl, (by intro h; cases h)⟩
    simp only [Instr.lookup, Sem.run_bind, run_underlying hu, Result.andThen_ok, MapKept.run_getObj_map hb, Sem.run_pure, check_place, h1, hv']
    rfl
/-- Nothing that lay there has turned, but one block. -/
structure Bm (b : Nat) (w w' : World) : Prop where
  os : w'.os = w.os
  tape : w'.tape = w.tape
  output : w'.output = w.output
  size : w.heap.size ≤ w'.heap.size
  block : ∀ k, k < w.heap.size → k ≠ b → w'.heap[k]? = w.heap[k]?
theorem Bm.refl (b : Nat) (w : World) : Bm b w w := ⟨rfl, rfl, rfl, Nat.le_refl _, fun _ _ _ => rfl⟩
theorem Bm.trans {b : Nat} {x y z : World} (h : Bm b x y) (k : Bm b y z) : Bm b x z :=
  ⟨k.os.trans h.os, k.tape.trans h.tape, k.output.trans h.output, Nat.le_trans h.size k.size, fun i hi hne => (k.block i (Nat.lt_of_lt_of_le hi h.size) hne).trans (h.block i hi hne)⟩
theorem Bm.of_below {b : Nat} {w w' : World} (h : Below w.heap.size w w') : Bm b w w' := ⟨h.os, h.tape, h.output, h.size, fun k hk _ => h.block k hk⟩
/-- What lay below some number, but for one block. -/
theorem Bm.then {b : Nat} {w x y : World} (h : Bm b w x) (k : Below w.heap.size x y) : Bm b w y :=
  ⟨k.os.trans h.os, k.tape.trans h.tape, k.output.trans h.output, Nat.le_trans h.size k.size, fun i hi hne => (k.block i hi).trans (h.block i hi hne)⟩
theorem Bm.cells {b k : Nat} {w w' : World} {C : Array Value} {t : TypeId} {fr : Nat × Nat} (h : Bm b w w') (hk : w.heap[k]? = some (.cells C t fr)) (hne : k ≠ b) : w'.heap[k]? = some (.cells C t fr) :=
  (h.block k (lt_of_block hk) hne).trans hk
theorem MapSt.below {r : Row} {q : Bool} {b : Nat} {w w' : World} (h : MapSt r q b w) (hb : Below w.heap.size w w') : MapSt r q b w' := by
  obtain ⟨es, c, h1, h2⟩ := h
  exact ⟨es, c, (hb.block b (lt_of_block h1)).trans h1, h2⟩
theorem MapSt.keep {r : Row} {q : Bool} {b : Nat} {w w' : World} (h : MapSt r q b w) (hb : w'.heap[b]? = w.heap[b]?) : MapSt r q b w' := by
  obtain ⟨es, c, h1, h2⟩ := h
  exact ⟨es, c, hb.trans h1, h2⟩
theorem bm_set {b : Nat} {w : World} {es es' : Array MapEntry} {c c' : Nat} (h : w.heap[b]? = some (.map es c)) : Bm b w { w with heap := w.heap.setIfInBounds b (.map es' c') } ∧ ({ w with heap := w.heap.setIfInBounds b (.map es' c') } : World).heap[b]? = some (.map es' c') := by
  have hlt : b < w.heap.size := (Array.getElem?_eq_some_iff.1 h).1
  refine ⟨⟨rfl, rfl, rfl, by simp, fun k hk hne => ?_⟩, ?_⟩
  · show (w.heap.setIfInBounds b _)[k]? = _
    rw [Array.getElem?_setIfInBounds_ne (Ne.symm hne)]
  · show (w.heap.setIfInBounds b _)[b]? = _
    rw [Array.getElem?_setIfInBounds_self, if_pos hlt]
theorem same_place (z g : Int) (w : World) : (Instr.keyThatStays (.agg #[.int .i64 z, .int .i64 g]) (.agg #[.int .i64 z, .int .i64 g])).run Try.prog w = .ok (.agg #[.int .i64 z, .int .i64 g]) w := by
  have : Instr.sameBits (9999 + 1) (.agg #[.int .i64 z, .int .i64 g]) (.agg #[.int .i64 z, .int .i64 g]) = true := by
    simp [Instr.sameBits]
  unfold Instr.keyThatStays
  rw [show (10000 : Nat) = 9999 + 1 from rfl, this]
  rfl
theorem store_place (r : Row) (q : Bool) (b k : Nat) (z g : Int) (f : From) (w : World) (h : MapSt r q b w) (hz : z + 1 = k) (hf : FromZ r k g f) :
    ∃ w', (Instr.mapUpdate 128 (.map (some b)) (.agg #[.int .i64 z, .int .i64 g]) (wayV (wayK r q k f))).run Try.prog w = .ok () w' ∧ MapSt r q b w' ∧ Bm b w w' := by
  obtain ⟨es, clock, hb, hE⟩ := h
  have hu : Try.prog.underlying 128 = some (.map 123 119) := by kernel_rfl
  obtain ⟨o, h1, h2⟩ := find_place r q z g w es.toList hE
  rcases h2 with rfl | ⟨j, e, rfl, hj, hm, hk⟩
  · refine ⟨{ w with heap := w.heap.setIfInBounds b (.map (es.push { key := .agg #[.int .i64 z, .int .i64 g], val := wayV (wayK r q k f), born := clock }) (clock + 1)) }, ?_, ⟨_, _, (bm_set hb).2, ?_⟩, (bm_set hb).1⟩
    · simp only [Instr.mapUpdate, Sem.run_bind, run_underlying hu, Result.andThen_ok, MapKept.run_getObj_map hb, Sem.run_pure, check_place, h1]
      exact MapKept.run_setObj_map _ hb
    · intro x hx
      rw [Array.toList_push, List.mem_append] at hx
      rcases hx with hx | hx
      · exact hE x hx
      · simp at hx
        subst hx
        exact ⟨k, z, g, f, hz, hf, rfl, rfl⟩
  · refine ⟨{ w with heap := w.heap.setIfInBounds b (.map (es.modify j fun e => { e with key := .agg #[.int .i64 z, .int .i64 g], val := wayV (wayK r q k f) }) clock) }, ?_, ⟨_, _, (bm_set hb).2, ?_⟩, (bm_set hb).1⟩
    · have hj' : (es[j]?).map (·.key) = some (.agg #[.int .i64 z, .int .i64 g]) := by
        rw [Array.getElem?_toList] at hj
        rw [hj]
        simp [hk]
      simp only [Instr.mapUpdate, Sem.run_bind, run_underlying hu, Result.andThen_ok, MapKept.run_getObj_map hb, Sem.run_pure, check_place, h1, hj', Option.getD_some, same_place]
      exact MapKept.run_setObj_map _ hb
    · intro x hx
      rw [Array.toList_modify] at hx
      obtain ⟨i, hi⟩ := List.getElem?_of_mem hx
      rw [List.getElem?_modify] at hi
      split at hi
      · cases hx2 : es.toList[i]? with
        | none => rw [hx2] at hi; simp at hi
        | some y =>
          rw [hx2] at hi
          simp at hi
          subst hi
          exact ⟨k, z, g, f, hz, hf, rfl, rfl⟩
      · simp at hi
        exact hE x (List.mem_of_getElem? (by simpa using hi))
theorem ownFrom_bm {β : Type} {b B : Nat} {w : World} (hB : w.heap.size ≤ B) : OwnFrom B (fun (_ : β) W => Bm b w W) := by
  intro s X Y row h hg hr
  refine ⟨hg.os.trans h.os, hg.tape.trans h.tape, hg.output.trans h.output, Nat.le_trans h.size hg.size, fun k hk hne => ?_⟩
  refine (hg.block k (Nat.lt_of_lt_of_le hk h.size) (fun e => ?_)).trans (h.block k hk hne)
  have := (hr k e.symm).1
  omega
theorem ownFrom_map {β : Type} {r : Row} {q : Bool} {b B : Nat} (hb : b < B) : OwnFrom B (fun (_ : β) W => MapSt r q b W) := by
  intro s X Y row h hg hr
  obtain ⟨es, c, h1, h2⟩ := h
  refine ⟨es, c, (hg.block b (lt_of_block h1) (fun e => ?_)).trans h1, h2⟩
  have := (hr b e.symm).1
  omega
end Go.Proofs.Ytnciomoapajonaa
