/- Package edge: what prices are kept in: a map whose keys are changes. -/
import Derived.Test.YtojdocomkhihoaaHb1
import Derived.Laws.StructEq
import Derived.Maps.OwnSet
set_option linter.unusedSimpArgs false
set_option linter.unusedVariables false
namespace Go.Proofs.Ytojdocomkhihoaa
open Go Go.RowKit Go.Shelf Ed

theorem five (x : List Int) (h : x.length = 5) : ∃ a b c d e, x = [a, b, c, d, e] := by
  match x, h with
  | [a, b, c, d, e], _ => exact ⟨a, b, c, d, e, rfl⟩
theorem chC_inj {x y : List Int} (h : chC x = chC y) : x = y := by
  have h1 := congrArg Array.toList h
  simp only [chC] at h1
  exact (List.map_inj_right (fun a b h => by simpa using h)).1 h1
theorem eq_ch (p q : List Int) (hp : p.length = 5) (hq : q.length = 5) (w : World) : (Op.equal 96 (.agg (chC p)) (.agg (chC q))).run Try.prog w = .ok (decide (p = q)) w := ch_eql p q hp hq w
theorem check_ch (em : Bool) (x : List Int) (hx : x.length = 5) (w : World) : (Instr.checkKey em 10000 96 (.agg (chC x))).run Try.prog w = .ok () w := by
  obtain ⟨a, b, c, d, e, rfl⟩ := five x hx
  kernel_rfl
/-- What is kept of a map: only prices that are right. -/
def Ents (c : Cas) (ws : List Int) (es : List MapEntry) : Prop := ∀ e, e ∈ es → ∃ x : List Int, x.length = 5 ∧ e.key = .agg (chC x) ∧ e.val = .int .i64 (priceC c ws x)
theorem find_asking (c : Cas) (ws x : List Int) (hx : x.length = 5) (w : World) : ∀ (es : List MapEntry) (i : Nat), Ents c ws es → ∃ o, (Instr.findAsking 96 (.agg (chC x)) es i).run Try.prog w = .ok o w ∧
    (o = none ∨ ∃ j e, o = some (j, e.val) ∧ i ≤ j ∧ es[j - i]? = some e ∧ e ∈ es ∧ e.key = .agg (chC x)) := by
  intro es
  induction es with
  | nil => intro i _; exact ⟨none, rfl, .inl rfl⟩
  | cons e es ih =>
    intro i h
    obtain ⟨y, hy, hk, _⟩ := h e (by simp)
    obtain ⟨o, h1, h2⟩ := ih (i + 1) fun x hx => h x (List.mem_cons_of_mem _ hx)
    by_cases hc : x = y
    · subst hc
      refine ⟨some (i, e.val), ?_, .inr ⟨i, e, rfl, Nat.le_refl _, by simp, by simp, hk⟩⟩
      simp only [Instr.findAsking, Sem.run_bind, hk, eq_ch x x hx hx, Result.andThen_ok, decide_true, if_true, Sem.run_pure]
    · refine ⟨o, ?_, ?_⟩
      · simp only [Instr.findAsking, Sem.run_bind, hk, eq_ch x y hx hy, Result.andThen_ok, hc, decide_false]
        exact h1
      · rcases h2 with h2 | ⟨j, z, e1, e2, e3, e4, e5⟩
        · exact .inl h2
        · refine .inr ⟨j, z, e1, by omega, ?_, List.mem_cons_of_mem _ e4, e5⟩
          rw [show j - i = (j - (i + 1)) + 1 by omega]
          simpa using e3
theorem find_ch (c : Cas) (ws x : List Int) (hx : x.length = 5) (w : World) (es : List MapEntry) (h : Ents c ws es) : ∃ o, (Instr.findKey 96 (.agg (chC x)) es).run Try.prog w = .ok o w ∧
    (o = none ∨ ∃ (j : Nat) (e : MapEntry), o = some (j, e.val) ∧ es[j]? = some e ∧ e ∈ es ∧ e.key = .agg (chC x)) := by
  obtain ⟨o, h1, h2⟩ := find_asking c ws x hx w es 0 h
  have hu := Try.underlying96
  have h2' : o = none ∨ ∃ (j : Nat) (e : MapEntry), o = some (j, e.val) ∧ es[j]? = some e ∧ e ∈ es ∧ e.key = .agg (chC x) := by
    rcases h2 with h2 | ⟨j, e, e1, _, e3, e4, e5⟩
    · exact .inl h2
    · exact .inr ⟨j, e, e1, by simpa using e3, e4, e5⟩
  cases es with
  | nil =>
    refine ⟨none, ?_, .inl rfl⟩
    simp [Instr.findKey, run_underlying hu, Instr.findNow]
  | cons e es =>
    refine ⟨o, ?_, h2'⟩
    obtain ⟨y, hy, hk, _⟩ := h e (by simp)
    have : Instr.findNow (.array 5 3) (.agg (chC x)) (e :: es) 0 = none := by
      simp only [Instr.findNow, hk, Instr.sameNow]
    simp only [Instr.findKey, Sem.run_bind, run_underlying hu, Result.andThen_ok, this]
    exact h1
/-- A block holds a map of which only right prices are told. -/
def MapSt (c : Cas) (ws : List Int) (b : Nat) (w : World) : Prop := ∃ es clock, w.heap[b]? = some (.map es clock) ∧ Ents c ws es.toList
theorem look_ch (c : Cas) (ws : List Int) (b : Nat) (x : List Int) (hx : x.length = 5) (w : World) (h : MapSt c ws b w) :
    ∃ v t, (Instr.lookup 151 (.map (some b)) (.agg (chC x)) true).run Try.prog w = .ok (.tuple #[.int .i64 v, .bool t]) w ∧ (t = true → v = priceC c ws x) := by
  obtain ⟨es, clock, hb, hE⟩ := h
  have hu := Try.underlying151
  have hzv : (zeroValue 3).run Try.prog w = .ok (.int .i64 0) w := by kernel_rfl
  obtain ⟨o, h1, h2⟩ := find_ch c ws x hx w es.toList hE
  rcases h2 with rfl | ⟨j, e, rfl, _, hm, hk⟩
  · refine ⟨0, false, ?_, (by intro h; cases h)⟩
    simp only [Instr.lookup, Sem.run_bind, run_underlying hu, Result.andThen_ok, MapKept.run_getObj_map hb, Sem.run_pure, check_ch _ x hx, h1, hzv]
    rfl
  · obtain ⟨y, hy, hk', hv'⟩ := hE e hm
    rw [hk] at hk'
    have exy : x = y := chC_inj (by simpa using hk')
    subst exy
    refine ⟨priceC c ws x, true, ?_, fun _ => rfl⟩
    simp only [Instr.lookup, Sem.run_bind, run_underlying hu, Result.andThen_ok, MapKept.run_getObj_map hb, Sem.run_pure, check_ch _ x hx, h1, hv']
    rfl
/-- Nothing that lay there has turned, but one block. -/
structure Bm (b : Nat) (w w' : World) : Prop where
  os : w'.os = w.os
  tape : w'.tape = w.tape
  output : w'.output = w.output
  size : w.heap.size ≤ w'.heap.size
  block : ∀ k, k < w.heap.size → k ≠ b → w'.heap[k]? = w.heap[k]?
theorem Bm.refl (b : Nat) (w : World) : Bm b w w := ⟨rfl, rfl, rfl, Nat.le_refl _, fun _ _ _ => rfl⟩
theorem Bm.trans {b : Nat} {x y z : World} (h : Bm b x y) (k : Bm b y z) : Bm b x z :=
  ⟨k.os.trans h.os, k.tape.trans h.tape, k.output.trans h.output, Nat.le_trans h.size k.size, fun i hi hne => (k.block i (Nat.lt_of_lt_of_le hi h.size) hne).trans (h.block i hi hne)⟩
theorem Bm.of_below {b : Nat} {w w' : World} (h : Below w.heap.size w w') : Bm b w w' := ⟨h.os, h.tape, h.output, h.size, fun k hk _ => h.block k hk⟩
/-- What lay below some number, but for one block. -/
theorem Bm.then {b : Nat} {w x y : World} (h : Bm b w x) (k : Below w.heap.size x y) : Bm b w y :=
  ⟨k.os.trans h.os, k.tape.trans h.tape, k.output.trans h.output, Nat.le_trans h.size k.size, fun i hi hne => (k.block i hi).trans (h.block i hi hne)⟩
theorem Bm.cells {b k : Nat} {w w' : World} {C : Array Value} {t : TypeId} {fr : Nat × Nat} (h : Bm b w w') (hk : w.heap[k]? = some (.cells C t fr)) (hne : k ≠ b) : w'.heap[k]? = some (.cells C t fr) :=
  (h.block k (lt_of_block hk) hne).trans hk
theorem MapSt.below {c : Cas} {ws : List Int} {b : Nat} {w w' : World} (h : MapSt c ws b w) (hb : Below w.heap.size w w') : MapSt c ws b w' := by
  obtain ⟨es, k, h1, h2⟩ := h
  exact ⟨es, k, (hb.block b (lt_of_block h1)).trans h1, h2⟩
theorem MapSt.keep {c : Cas} {ws : List Int} {b : Nat} {w w' : World} (h : MapSt c ws b w) (hb : w'.heap[b]? = w.heap[b]?) : MapSt c ws b w' := by
  obtain ⟨es, k, h1, h2⟩ := h
  exact ⟨es, k, hb.trans h1, h2⟩
theorem bm_set {b : Nat} {w : World} {es es' : Array MapEntry} {c c' : Nat} (h : w.heap[b]? = some (.map es c)) : Bm b w { w with heap := w.heap.setIfInBounds b (.map es' c') } ∧ ({ w with heap := w.heap.setIfInBounds b (.map es' c') } : World).heap[b]? = some (.map es' c') := by
  have hlt : b < w.heap.size := (Array.getElem?_eq_some_iff.1 h).1
  refine ⟨⟨rfl, rfl, rfl, by simp, fun k hk hne => ?_⟩, ?_⟩
  · show (w.heap.setIfInBounds b _)[k]? = _
    rw [Array.getElem?_setIfInBounds_ne (Ne.symm hne)]
  · show (w.heap.setIfInBounds b _)[b]? = _
    rw [Array.getElem?_setIfInBounds_self, if_pos hlt]
theorem same_ch (x : List Int) (hx : x.length = 5) (w : World) : (Instr.keyThatStays (.agg (chC x)) (.agg (chC x))).run Try.prog w = .ok (.agg (chC x)) w := by
  have : Instr.sameBits (9999 + 1) (.agg (chC x)) (.agg (chC x)) = true := by
    obtain ⟨a, b, c, d, e, rfl⟩ := five x hx
    simp [chC, Instr.sameBits]
  unfold Instr.keyThatStays
  rw [show (10000 : Nat) = 9999 + 1 from rfl, this]
  rfl
theorem store_ch (c : Cas) (ws : List Int) (b : Nat) (x : List Int) (hx : x.length = 5) (w : World) (h : MapSt c ws b w) :
    ∃ w', (Instr.mapUpdate 151 (.map (some b)) (.agg (chC x)) (.int .i64 (priceC c ws x))).run Try.prog w = .ok () w' ∧ MapSt c ws b w' ∧ Bm b w w' := by
  obtain ⟨es, clock, hb, hE⟩ := h
  have hu := Try.underlying151
  obtain ⟨o, h1, h2⟩ := find_ch c ws x hx w es.toList hE
  rcases h2 with rfl | ⟨j, e, rfl, hj, hm, hk⟩
  · refine ⟨{ w with heap := w.heap.setIfInBounds b (.map (es.push { key := .agg (chC x), val := .int .i64 (priceC c ws x), born := clock }) (clock + 1)) }, ?_, ⟨_, _, (bm_set hb).2, ?_⟩, (bm_set hb).1⟩
    · simp only [Instr.mapUpdate, Sem.run_bind, run_underlying hu, Result.andThen_ok, MapKept.run_getObj_map hb, Sem.run_pure, check_ch _ x hx, h1]
      exact MapKept.run_setObj_map _ hb
    · intro y hy
      rw [Array.toList_push, List.mem_append] at hy
      rcases hy with hy | hy
      · exact hE y hy
      · simp at hy
        subst hy
        exact ⟨x, hx, rfl, rfl⟩
  · refine ⟨{ w with heap := w.heap.setIfInBounds b (.map (es.modify j fun e => { e with key := .agg (chC x), val := .int .i64 (priceC c ws x) }) clock) }, ?_, ⟨_, _, (bm_set hb).2, ?_⟩, (bm_set hb).1⟩
    · have hj' : (es[j]?).map (·.key) = some (.agg (chC x)) := by
        rw [Array.getElem?_toList] at hj
        rw [hj]
        simp [hk]
      simp only [Instr.mapUpdate, Sem.run_bind, run_underlying hu, Result.andThen_ok, MapKept.run_getObj_map hb, Sem.run_pure, check_ch _ x hx, h1, hj', Option.getD_some, same_ch x hx]
      exact MapKept.run_setObj_map _ hb
    · intro y hy
      rw [Array.toList_modify] at hy
      obtain ⟨i, hi⟩ := List.getElem?_of_mem hy
      rw [List.getElem?_modify] at hi
      split at hi
      · cases hx2 : es.toList[i]? with
        | none => rw [hx2] at hi; simp at hi
        | some z =>
          rw [hx2] at hi
          simp at hi
          subst hi
          exact ⟨x, hx, rfl, rfl⟩
      · simp at hi
        exact hE y (List.mem_of_getElem? (by simpa using hi))
/-- What lies in cells does not turn. -/
theorem blk_bm {c : Cas} {ws : List Int} {mb b : Nat} {w w' : World} {C : Array Value} {t : TypeId} {fr : Nat × Nat} (h : Bm mb w w') (hm : MapSt c ws mb w) (hc : w.heap[b]? = some (.cells C t fr)) : w'.heap[b]? = some (.cells C t fr) := by
  refine h.cells hc ?_
  rintro rfl
  obtain ⟨es, k, h1, _⟩ := hm
  rw [h1] at hc
  cases hc
end Go.Proofs.Ytojdocomkhihoaa
