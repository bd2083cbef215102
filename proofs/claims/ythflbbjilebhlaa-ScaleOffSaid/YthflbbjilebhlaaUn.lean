/- Package scale: models of several scales. -/
import Derived.Test.YthflbbjilebhlaaUm
import Derived.Great.FillDense
set_option linter.unusedSimpArgs false
set_option linter.unusedVariables false
namespace Go.Proofs.Ythflbbjilebhlaa
open Go Go.RowKit Go.Shelf Sc

theorem add_plain' (b o j : Nat) : (⟨b, o, none⟩ : Addr).add j = ⟨b, o + j, none⟩ := by unfold Addr.add; split <;> simp_all
theorem run_loadVar_at {P : Program} (w : World) (g o : Nat) (ty : TypeId) (cs : Array Value) (d : TypeDesc) (hg : ∀ j v, cs[j]? = some v → w.cell? ⟨g, o + j, none⟩ = some v)
    (hu : P.underlying ty = some d) (hd : (match d with | .struct _ | .array _ _ => true | _ => false) = true) (hi : (P.info? ty).map (·.size) = some cs.size) :
    (loadVar ty ⟨g, o, none⟩).run P w = .ok (.agg cs) w := by
  have hl : (loadCells ⟨g, o, none⟩ cs.toList.length).run P w = .ok cs.toList.toArray w :=
    run_loadCells_list (P := P) w ⟨g, o, none⟩ cs.toList (fun j v hv => by
      rw [add_plain']
      exact hg j v (by simpa using hv))
  cases hq : P.info? ty with
  | none => simp [hq] at hi
  | some i =>
    have hs : i.size = cs.size := by simpa [hq] using hi
    have hagg : (isAgg ty).run P w = .ok true w := by
      unfold isAgg
      rw [Sem.run_bind, run_underlying hu w]
      cases d <;> simp_all
    simp only [Array.length_toList, Array.toArray_toList] at hl
    simp [loadVar, Sem.run_bind, hagg, sizeOf, typeInfo, hq, hs, hl]
/-- A struct is loaded out of the middle of a row. -/
theorem wpList_load_at {P : Program} {ops : Array Oper} {rest : List Oper} {o : Oper} {a : Act} {w : World} {Q : Exit → Act → World → Prop} (hgd : o.guard = none) (ty : TypeId) (x : Operand) (ho : o.op = .load ty x)
    (g off : Nat) (hx : a.eval x = .pointer (some ⟨g, off, none⟩)) (cs : Array Value) (d : TypeDesc) (hg : ∀ j v, cs[j]? = some v → w.cell? ⟨g, off + j, none⟩ = some v)
    (hu : P.underlying ty = some d) (hd : (match d with | .struct _ | .array _ _ => true | _ => false) = true) (hi : (P.info? ty).map (·.size) = some cs.size)
    (h : wpList P ops Q rest (a.put o.dst (.agg cs)) w) : wpList P ops Q (o :: rest) a w :=
  wpList_plain hgd fun K hK => by
    unfold Oper.wp execOp
    simp only [ho, hx, Instr.loadAt, Instr.sureAddr, Sem.run_bind, Sem.run_pure, Result.andThen_ok, run_loadVar_at w g off ty cs d hg hu hd hi]
    exact hK _ _ h
/-- A struct is appended to a row of the call's own. -/
theorem wpl_appS {P : Program} {ops : Array Oper} {rest : List Oper} {o : Oper} {a : Act} {Q : Exit → Act → World → Prop} {w : World} (hgd : o.guard = none) (s x : Operand) (T E : TypeId)
    (ho : o.op = .call { callee := .builtin .append, args := #[s, x], argTypes := #[T, T] }) (hT : P.underlying T = some (.slice E)) (z : Value) (size bytes : Nat) (hi : (P.info? E).map (fun i => (i.zero, i.size, i.bytes)) = some (some z, size, bytes)) (hz : z.cells.size = size) (h0 : 0 < size)
    (base n : Nat) (v : Value) (xs : List Value) (g off c : Nat) (news : List Value) (hs : a.eval s = v) (hx : a.eval x = .slice (some ⟨g, off, none⟩) 1 c) (hown : w.ownsRow base E size v n xs) (hl : news.length = size)
    (hc : ∀ j u, news[j]? = some u → w.cell? ⟨g, off + j, none⟩ = some u) (hone : ∀ u, u ∈ news → u.oneCell' = true) (hb : base ≤ w.heap.size) (hn : n + 1 ≤ maxLen) (hby : (n + 1) * bytes ≤ 140737488355328)
    (h : ∀ v' w', w'.ownsRow base E size v' (n + 1) (xs ++ news) → w.grownBy w' v.ownBlock → (v'.ownBlock = v.ownBlock ∨ v'.ownBlock = some w.heap.size) → wpList P ops Q rest (a.put o.dst v') w') : wpList P ops Q (o :: rest) a w := by
  refine wpList_plain hgd fun K hK => ?_
  cases hq : P.info? E with
  | none => rw [hq] at hi; cases hi
  | some i0 =>
    rw [hq] at hi
    simp only [Option.map_some, Option.some.injEq, Prod.mk.injEq] at hi
    obtain ⟨v', w', h1, h2, h3, _, h5⟩ := run_append_own_at (P := P) w base T o.type E i0 z size bytes hT hq hi.1 hi.2.1 hi.2.2 hz h0 v n xs hown ⟨g, off, none⟩ 1 c news (by rw [hl, Nat.one_mul])
      (fun j u hu => by rw [add_plain']; exact hc j u hu) hone hn hby hb
    unfold Oper.wp execOp
    simp only [ho, resolve, invoke, builtin, Sem.run_bind, Sem.run_pure, Result.andThen_ok, List.map_toArray, List.map_cons, List.map_nil, hs, hx, h1]
    exact hK _ _ (h v' w' h2 h3 h5)
/-- A slice of one struct is built. -/
theorem wpl_bs1 {P : Program} {ops : Array Oper} {rest : List Oper} {o : Oper} {a : Act} {w : World} {Q : Exit → Act → World → Prop} (hg : o.guard = none) (t e : TypeId) (x : Operand) (ho : o.op = .buildSlice t 1 #[(0, x)])
    (z : Value) (size bytes : Nat) (hu : P.underlying t = some (.slice e)) (hi : (P.info? e).map (fun i => (i.zero, i.size, i.bytes)) = some (some z, size, bytes)) (h0 : 0 < size) (h9 : size ≤ 1000) (cells : Array Value) (hx : a.eval x = .agg cells) (hs : cells.size = size)
    (h : wpList P ops Q rest (a.put o.dst (.slice (some ⟨w.heap.size, 0, none⟩) 1 1)) (w.alloc (.cells cells e))) : wpList P ops Q (o :: rest) a w := by
  cases hq : P.info? e with
  | none => rw [hq] at hi; cases hi
  | some ie =>
    rw [hq] at hi
    simp only [Option.map_some, Option.some.injEq, Prod.mk.injEq] at hi
    obtain ⟨i1, i2, _⟩ := hi
    refine wpList_buildSlice hg t e 1 #[(0, x)] ho cells ie z hu hq i1 (by rw [i2]; omega) (by rw [i2]; omega) ?_ h
    have hf := Go.Great.fill_whole h0 [.agg cells] ((Array.range (1 * ie.size)).map (z.cells[· % z.cells.size]!)) (by intro v hv; simp at hv; subst hv; exact hs) (by simp [i2])
    have hl : (Array.map (fun y : Nat × Operand => match y with | (i, x) => (i, a.eval x)) #[(0, x)]).toList = [(0, Value.agg cells)] := by
      rw [List.map_toArray]
      simp [hx]
    rw [hl, i2]
    rw [i2] at hf
    refine hf.trans ?_
    simp [Value.cells]
theorem mdInfo : (Try.prog.info? 99).map (fun i => (i.zero, i.size, i.bytes)) = some (some (.agg (mdC pf0 z8)), 17, 168) := by kernel_rfl
/-- A value reads as a list of models, those with some scales. -/
def MdsAt (w : World) (v : Value) (c : Cse) (hv rv : Value) (l : List Scl) : Prop :=
  ∃ a cap, v = .slice a l.length cap ∧ l.length ≤ cap ∧ (l ≠ [] → ∃ b o, a = some ⟨b, o, none⟩ ∧ ∀ k (h : k < l.length), ∀ j u, (mdC (mdP c hv rv l[k]) (cut8 c l[k]))[j]? = some u → w.cell? ⟨b, o + k * 17 + j, none⟩ = some u)
theorem MdsAt.below {w w' : World} {v hv rv : Value} {c : Cse} {l : List Scl} (h : MdsAt w v c hv rv l) (hb : Below w.heap.size w w') : MdsAt w' v c hv rv l := by
  obtain ⟨a, cap, rfl, hc, h2⟩ := h
  refine ⟨a, cap, rfl, hc, fun hne => ?_⟩
  obtain ⟨b, o, rfl, hk⟩ := h2 hne
  refine ⟨b, o, rfl, fun k h j u hu => ?_⟩
  have h1 := hk k h j u hu
  exact (hb.cell (p := ⟨b, o + k * 17 + j, none⟩) (World.block_lt_of_cell? w _ h1)).trans h1
theorem MdsAt.get {w : World} {a : Option Addr} {n cap : Nat} {hv rv : Value} {c : Cse} {l : List Scl} (h : MdsAt w (.slice a n cap) c hv rv l) {k : Nat} (hk : k < l.length) :
    ∃ b o, a = some ⟨b, o, none⟩ ∧ ∀ j u, (mdC (mdP c hv rv l[k]) (cut8 c l[k]))[j]? = some u → w.cell? ⟨b, o + k * 17 + j, none⟩ = some u := by
  obtain ⟨a', cap', e, _, h2⟩ := h
  simp only [Value.slice.injEq] at e
  obtain ⟨rfl, _, _⟩ := e
  obtain ⟨b, o, rfl, hc⟩ := h2 (by rintro rfl; simp at hk)
  exact ⟨b, o, rfl, hc k hk⟩
theorem mdP_len (c : Cse) (hv rv : Value) (s : Scl) : (mdP c hv rv s).length = 9 := rfl
theorem cut8_len (c : Cse) (s : Scl) : (cut8 c s).length = 8 := cutTo_length _ _ _
theorem mdW_size (c : Cse) (hv rv : Value) (s : Scl) : (mdC (mdP c hv rv s) (cut8 c s)).size = 17 := by rw [md_size, mdP_len, cut8_len]
/-- The cells of models, one behind the other. -/
def mdsL (c : Cse) (hv rv : Value) (l : List Scl) : List Value := l.flatMap fun s => (mdC (mdP c hv rv s) (cut8 c s)).toList
theorem mdsL_len (c : Cse) (hv rv : Value) (l : List Scl) : (mdsL c hv rv l).length = l.length * 17 := by
  unfold mdsL
  induction l with
  | nil => rfl
  | cons s l ih => rw [List.flatMap_cons, List.length_append, ih, Array.length_toList, mdW_size, List.length_cons]; omega
theorem mdsL_get (c : Cse) (hv rv : Value) (l : List Scl) (k : Nat) (hk : k < l.length) (j : Nat) (u : Value) (hu : (mdC (mdP c hv rv l[k]) (cut8 c l[k]))[j]? = some u) : (mdsL c hv rv l)[k * 17 + j]? = some u := by
  induction l generalizing k with
  | nil => simp at hk
  | cons s l ih =>
    unfold mdsL
    rw [List.flatMap_cons]
    have hj : j < 17 := by
      have := (Array.getElem?_eq_some_iff.1 hu).1
      rw [mdW_size] at this
      exact this
    cases k with
    | zero =>
      rw [List.getElem?_append_left (by rw [Array.length_toList, mdW_size]; omega)]
      simpa using hu
    | succ k =>
      rw [List.getElem?_append_right (by rw [Array.length_toList, mdW_size]; omega), Array.length_toList, mdW_size, show (k + 1) * 17 + j - 17 = k * 17 + j by omega]
      exact ih k (by simpa using hk) (by simpa using hu)
theorem mdsAt_own {w : World} {base : Nat} {v hv rv : Value} {c : Cse} {l : List Scl} (h : w.ownsRow base 99 17 v l.length (mdsL c hv rv l)) : MdsAt w v c hv rv l := by
  rcases h.2 with ⟨rfl, h0⟩ | ⟨g, cap, cur, rfl, hb, hg, hnc, hcm, hcs, htake⟩
  · have : l = [] := List.length_eq_zero_iff.1 h0
    subst this
    exact ⟨none, 0, rfl, by simp, fun hne => absurd rfl hne⟩
  · refine ⟨_, cap, rfl, hnc, fun _ => ⟨g, 0, rfl, fun k hk j u hu => ?_⟩⟩
    rw [Nat.zero_add]
    have h2 := mdsL_get c hv rv l k hk j u hu
    have h1 := h.cellAt (k * 17 + j) (by have := (List.getElem?_eq_some_iff.1 h2).1; rw [mdsL_len] at this; exact this)
    rw [h1]
    exact h2
/-- The first error of scales. -/
def scsE : List Scl → Int
  | [] => 0
  | s :: l => if sclE s = 0 then scsE l else sclE s
theorem scsE_drop (l : List Scl) (k : Nat) (hk : k < l.length) : scsE (l.drop k) = if sclE l[k] = 0 then scsE (l.drop (k + 1)) else sclE l[k] := by
  rw [List.drop_eq_getElem_cons hk]
  rfl
theorem scsE_zero {l : List Scl} (h : scsE l = 0) : ∀ s, s ∈ l → sclE s = 0 := by
  induction l with
  | nil => intro s hs; cases hs
  | cons a l ih =>
    intro s hs
    unfold scsE at h
    split at h
    · rename_i h0
      rcases List.mem_cons.1 hs with rfl | hs
      · exact h0
      · exact ih h s hs
    · rename_i h0; exact absurd h h0
end Go.Proofs.Ythflbbjilebhlaa
