/- A range over a function, where the iterator itself ranges over a function: what the iterator lays, and turns, while it goes on, lies beyond what there was when it was entered. The body never leaves the loop. No program is named. -/
import Derived.RangeFuncNested
import Derived.RangeFuncBound
import Derived.RangeFuncCalls
import Derived.RangeFuncLeaves
import Derived.RangeFuncBox
set_option linter.unusedSimpArgs false
set_option linter.unusedVariables false
namespace Go
open Go.RowKit

/-- What lay from B on, and what is to be kept, lies as it lay. -/
structure KeptO (B : Nat) (kept : Nat → Prop) (W W' : World) : Prop where
  size : W.heap.size ≤ W'.heap.size
  same : ∀ k, k < W.heap.size → (B ≤ k ∨ kept k) → W'.heap[k]? = W.heap[k]?
theorem KeptO.refl (B : Nat) (kept : Nat → Prop) (W : World) : KeptO B kept W W := ⟨Nat.le_refl _, fun _ _ _ => rfl⟩
theorem KeptO.trans {B : Nat} {kept : Nat → Prop} {X Y Z : World} (h : KeptO B kept X Y) (k : KeptO B kept Y Z) : KeptO B kept X Z :=
  ⟨Nat.le_trans h.size k.size, fun i hi hb => (k.same i (Nat.lt_of_lt_of_le hi h.size) hb).trans (h.same i hi hb)⟩
theorem KeptO.mono {B B' : Nat} {kept : Nat → Prop} {X Y : World} (h : KeptO B kept X Y) (hb : B ≤ B') : KeptO B' kept X Y :=
  ⟨h.size, fun k hk hor => h.same k hk (hor.imp (fun h => Nat.le_trans hb h) id)⟩
theorem KeptO.putObj {B : Nat} {kept : Nat → Prop} {W : World} {l : Nat} (o : Obj) (hl : l < B) (hk : ¬ kept l) : KeptO B kept W (W.putObj l o) :=
  ⟨by simp [World.putObj], fun k _ hor => World.putObj_heap_other (fun e => by subst e; exact hor.elim (fun h => by omega) hk)⟩
theorem OwnFrom.up {β : Type} {B B' : Nat} {I : β → World → Prop} (h : OwnFrom B I) (hb : B ≤ B') : OwnFrom B' I :=
  fun s W W' row hs hg hr => h s W W' row hs hg (fun r e => ⟨Nat.le_trans hb (hr r e).1, (hr r e).2⟩)
/-- What an iterator does: it hands on one after the other; what it says is true of every invariant that abides new memory and the turns of what is no cells, beyond what lay when it was entered. -/
def SeqO {α : Type} (P : Program) (g : Nat) (lb : Array Value) (encs : α → Array Value) (kept : Nat → Prop) (S : List α → Prop) (N : Nat) (w : World) : Prop :=
  ∀ (m l : Nat) (J : List α → World → Prop) (W : World), Below w.heap.size w W → OwnFrom W.heap.size J →
    (∀ (m' : Nat) pre x W1, J pre W1 → pre.length < N → W.heap.size ≤ W1.heap.size → YieldAt Fence.wide m' P l (encs x) W1 fun e W' => e = .returned (.bool true) ∧ J (pre ++ [x]) W' ∧ KeptO W.heap.size kept W1 W') →
    J [] W →
    CallsIn Fence.wide m P g (#[.func (.yield l) #[] #[]] ++ lb) W fun e W' => (∃ v, e = .returned v) ∧ ∃ xs, S xs ∧ J xs W'
/-- The end of a round that goes on. -/
def PostO {α : Type} (B : Nat) (kept : Nat → Prop) (I : List α → World → Prop) (xs : List α) (W : World) : Exit → Act → World → Prop
  | .normal, _, W' => KeptO B kept W W' ∧ I xs W'
  | _, _, _ => False
variable {P : Program}
theorem wpIn_rangeFunc_O {α : Type} {g : Operand} {ps : Array Tmp} {assign body : Code} {Q : Exit → Act → World → Prop} {a : Act} {w : World} {n : Nat}
    {gf : Nat} {lb : Array Value} (hg : a.eval g = .func (.func gf) #[] lb) (eg : ∀ args w, (callFunc gf args).run P w = .ok (.enter gf args) w)
    {encs : α → Array Value} {kept : Nat → Prop} {S : List α → Prop} {N : Nat} {w0 : World} (hseq : SeqO P gf lb encs kept S N w0) (hb0 : Below w0.heap.size w0 w) (hps : ∀ x, (encs x).size = ps.size)
    (hkept : ∀ k, kept k → k < w.heap.size) (I : List α → World → Prop) (hI : OwnFrom w.heap.size I) (h0 : I [] w) (Ax : α → Act → World → Prop) (hAx : ∀ x a', OwnFrom w.heap.size (fun (_ : Unit) W => Ax x a' W))
    (hassign : ∀ (l m : Nat) (pre : List α) (x : α) (W : World) (K : Act → World → Prop), I pre W → (∀ a' W', KeptO 0 kept W W' → I pre W' → Ax x a' W' → K a' W') →
      assign.wpIn (Fence.wide.inRound l) m P (Exit.then K (fun _ _ _ => False)) { tmps := (ps.zip (encs x)).foldl (fun t (p, v) => t.setIfInBounds p v) a.tmps, defers := [] } W)
    (hbody : ∀ (l m : Nat) (pre : List α) (x : α) (a' : Act) (W : World), w.heap.size ≤ l → I pre W → Ax x a' W → pre.length < N → body.wpIn (Fence.wide.inRound l) m P (PostO w.heap.size kept I (pre ++ [x]) W) a' W)
    (hdone : ∀ (D : Nat) (xs : List α) (W : World), w.heap.size ≤ D → S xs → I xs W → W.heap[D]? = some (.deferred (some [])) → Q .normal { a with defers := { target := .collected D, args := #[] } :: a.defers } W) :
    (Code.rangeFunc g ps assign body).wpIn Fence.wide n P Q a w := by
  refine wpIn_rangeFunc ?_
  intro fn hfn
  obtain ⟨rec, hrec⟩ : ∃ rec : LoopState → Option Code → Loop, rec = fun st pe => { state := st, pending := pe, fn, tmps := a.tmps, params := ps, assign, body, defers := w.heap.size } := ⟨_, rfl⟩
  -- the two blocks that the loop lays
  obtain ⟨V, hV⟩ : ∃ V, (w.alloc (.deferred (some []))).alloc (.loop (rec .ready none)) = V := ⟨_, rfl⟩
  have hsz : V.heap.size = w.heap.size + 2 := by rw [← hV]; simp
  have hg1 : Below w.heap.size w V := by rw [← hV]; exact ((Below.refl _ w).alloc (Nat.le_refl _) _).alloc (by simp) _
  have hR : V.heap[w.heap.size + 1]? = some (.loop (rec .ready none)) := by
    have h := World.alloc_heap_new (w.alloc (.deferred (some []))) (.loop (rec .ready none))
    rw [World.size_alloc, hV] at h
    exact h
  have hD : V.heap[w.heap.size]? = some (.deferred (some [])) := by
    rw [← hV]
    exact (Below.heap_alloc _ _ _ (by simp)).trans (World.alloc_heap_new w _)
  have hIV : I [] V := by rw [← hV]; exact hI.alloc _ (hI.alloc _ h0)
  refine ⟨w.heap.size + 1, [{ target := .collected w.heap.size, args := #[] }], V, { target := .fn (.func gf) lb, args := #[.func (.yield (w.heap.size + 1)) #[] #[]] }, V, gf, #[.func (.yield (w.heap.size + 1)) #[] #[]] ++ lb, V, ?_, ?_, ?_, ?_, fun h => (by cases h), ?_⟩
  · rw [← hV, hrec]
    exact run_enterLoop_outer _ _ _ _ _
  · simp only [resolve, hg]
    simp [go_sem]
  · intro f _; exact trivial
  · simp [invoke, go_sem, eg]
  · have hturn : ∀ {A : World} {row : Option Nat} {k : Nat} {o : Obj}, (∀ r, row = some r → V.heap.size ≤ r ∧ ∃ o : Obj, A.heap[r]? = some o ∧ o.isCells = false) → ∀ {B : World}, A.grownBy B row → k < V.heap.size → A.heap[k]? = some o → B.heap[k]? = some o := by
      intro A row k o hr B hgr hk ho
      exact (hgr.block k (Array.getElem?_eq_some_iff.1 ho).1 (fun e => by have := (hr k e.symm).1; omega)).trans ho
    refine (hseq (n - 1) (w.heap.size + 1) (fun pre W => I pre W ∧ W.heap[w.heap.size + 1]? = some (.loop (rec .ready none)) ∧ W.heap[w.heap.size]? = some (.deferred (some []))) V (hb0.trans (hg1.mono hb0.size))
      (fun s A B row hs hgr hr => ⟨hI.up (by omega) s A B row hs.1 hgr hr, hturn hr hgr (by omega) hs.2.1, hturn hr hgr (by omega) hs.2.2⟩) ?_ ⟨hIV, hR, hD⟩).mono ?_
    · rintro m' pre x W ⟨hi, hl, hk⟩ hlen hW
      have hy := run_yield (P := P) (args := encs x) hl (by rw [hrec]; exact hps x)
      rw [hrec] at hy
      refine ⟨fn, _, assign, body, hy, roundIn_of_wpIn hfn (hassign _ _ pre x W _ hi ?_)⟩
      clear hy
      intro a' X hkX hiX hax
      have hlX := (hkX.same _ (Array.getElem?_eq_some_iff.1 hl).1 (.inl (Nat.zero_le _))).trans hl
      have hdX := (hkX.same _ (Array.getElem?_eq_some_iff.1 hk).1 (.inl (Nat.zero_le _))).trans hk
      have hltX : w.heap.size + 1 < X.heap.size := (Array.getElem?_eq_some_iff.1 hlX).1
      refine ⟨_, run_beginRound hlX (by rw [hrec]), ?_⟩
      obtain ⟨Y, hY⟩ : ∃ Y, X.putObj (w.heap.size + 1) (.loop { rec .ready none with state := .busy }) = Y := ⟨_, rfl⟩
      have hnk : ¬ kept (w.heap.size + 1) := fun h => by have := hkept _ h; omega
      have hXY : KeptO (w.heap.size + 2) kept X Y := by rw [← hY]; exact KeptO.putObj _ (by omega) hnk
      have hlY : Y.heap[w.heap.size + 1]? = some (.loop { rec .ready none with state := .busy }) := by rw [← hY]; exact World.putObj_heap_same hltX
      have hdY : Y.heap[w.heap.size]? = some (.deferred (some [])) := by rw [← hY]; exact (World.putObj_heap_other (by omega)).trans hdX
      have hiY : I pre Y := by rw [← hY]; exact hI.putObj _ hiX (by omega) hlX rfl
      have haY : Ax x a' Y := by rw [← hY]; exact (hAx x a').putObj (s := ()) _ hax (by omega) hlX rfl
      rw [hY]
      refine wpIn_mono (hbody _ _ pre x a' Y (by omega) hiY haY hlen) ?_
      rintro e a3 Z hp
      cases e with
      | normal =>
        obtain ⟨hkZ, hiZ⟩ := hp
        have hlZ := (hkZ.same _ (Array.getElem?_eq_some_iff.1 hlY).1 (.inl (by omega))).trans hlY
        have hdZ := (hkZ.same _ (Array.getElem?_eq_some_iff.1 hdY).1 (.inl (by omega))).trans hdY
        have hE := run_endRound (P := P) none hlZ
        rw [hrec] at hE
        have hlt : w.heap.size + 1 < Z.heap.size := (Array.getElem?_eq_some_iff.1 hlZ).1
        refine ⟨_, _, hE, rfl, ⟨hI.putObj _ hiZ (by omega) hlZ rfl, ?_, (World.putObj_heap_other (by omega)).trans hdZ⟩, ?_⟩
        · rw [hrec]
          exact World.putObj_heap_same hlt
        · rw [hsz]
          exact (hkX.mono (Nat.zero_le _)).trans (hXY.trans ((hkZ.mono (by omega)).trans (KeptO.putObj _ (by omega) hnk)))
      | ret => exact hp.elim
      | exit id => exact hp.elim
      | goto t => exact hp.elim
      | panic ch => exact hp.elim
      | outgrown => exact hp.elim
    · rintro e W2 ⟨⟨v, rfl⟩, xs, hS, hi, hl, hk⟩
      refine ⟨none, _, by have := run_endLoop (P := P) hl (by rw [hrec]; simp); rw [hrec] at this; exact this, hdone _ xs _ (Nat.le_refl _) hS (hI.putObj _ hi (by omega) hl rfl) ((World.putObj_heap_other (by omega)).trans hk)⟩
/-- What an iterator does, that says something of the memory of what it hands on: it hands on one after the other; what it says is true of every invariant that abides new memory and the turns of what is no cells, beyond what lay when it was entered. -/
def SeqV {α : Type} (P : Program) (g : Nat) (lb : Array Value) (encs : α → Array Value) (kept : Nat → Prop) (V : α → World → Prop) (S : List α → Prop) (N : Nat) (w : World) : Prop :=
  ∀ (m l : Nat) (J : List α → World → Prop) (W : World), Below w.heap.size w W → OwnFrom W.heap.size J →
    (∀ (m' : Nat) pre x W1, J pre W1 → V x W1 → pre.length < N → W.heap.size ≤ W1.heap.size → YieldAt Fence.wide m' P l (encs x) W1 fun e W' => e = .returned (.bool true) ∧ J (pre ++ [x]) W' ∧ KeptO W.heap.size kept W1 W') →
    J [] W →
    CallsIn Fence.wide m P g (#[.func (.yield l) #[] #[]] ++ lb) W fun e W' => (∃ v, e = .returned v) ∧ ∃ xs, S xs ∧ J xs W'
theorem wpIn_rangeFunc_V {α : Type} {g : Operand} {ps : Array Tmp} {assign body : Code} {Q : Exit → Act → World → Prop} {a : Act} {w : World} {n : Nat}
    {gf : Nat} {lb : Array Value} (hg : a.eval g = .func (.func gf) #[] lb) (eg : ∀ args w, (callFunc gf args).run P w = .ok (.enter gf args) w)
    {encs : α → Array Value} {kept : Nat → Prop} {Vx : α → World → Prop} {S : List α → Prop} {N : Nat} {w0 : World} (hseq : SeqV P gf lb encs kept Vx S N w0) (hb0 : Below w0.heap.size w0 w) (hps : ∀ x, (encs x).size = ps.size)
    (hkept : ∀ k, kept k → k < w.heap.size) (I : List α → World → Prop) (hI : OwnFrom w.heap.size I) (h0 : I [] w) (Ax : α → Act → World → Prop) (hAx : ∀ x a', OwnFrom w.heap.size (fun (_ : Unit) W => Ax x a' W))
    (hassign : ∀ (l m : Nat) (pre : List α) (x : α) (W : World) (K : Act → World → Prop), I pre W → Vx x W → (∀ a' W', KeptO 0 kept W W' → I pre W' → Ax x a' W' → K a' W') →
      assign.wpIn (Fence.wide.inRound l) m P (Exit.then K (fun _ _ _ => False)) { tmps := (ps.zip (encs x)).foldl (fun t (p, v) => t.setIfInBounds p v) a.tmps, defers := [] } W)
    (hbody : ∀ (l m : Nat) (pre : List α) (x : α) (a' : Act) (W : World), w.heap.size ≤ l → I pre W → Ax x a' W → pre.length < N → body.wpIn (Fence.wide.inRound l) m P (PostO w.heap.size kept I (pre ++ [x]) W) a' W)
    (hdone : ∀ (D : Nat) (xs : List α) (W : World), w.heap.size ≤ D → S xs → I xs W → W.heap[D]? = some (.deferred (some [])) → Q .normal { a with defers := { target := .collected D, args := #[] } :: a.defers } W) :
    (Code.rangeFunc g ps assign body).wpIn Fence.wide n P Q a w := by
  refine wpIn_rangeFunc ?_
  intro fn hfn
  obtain ⟨rec, hrec⟩ : ∃ rec : LoopState → Option Code → Loop, rec = fun st pe => { state := st, pending := pe, fn, tmps := a.tmps, params := ps, assign, body, defers := w.heap.size } := ⟨_, rfl⟩
  -- the two blocks that the loop lays
  obtain ⟨V, hV⟩ : ∃ V, (w.alloc (.deferred (some []))).alloc (.loop (rec .ready none)) = V := ⟨_, rfl⟩
  have hsz : V.heap.size = w.heap.size + 2 := by rw [← hV]; simp
  have hg1 : Below w.heap.size w V := by rw [← hV]; exact ((Below.refl _ w).alloc (Nat.le_refl _) _).alloc (by simp) _
  have hR : V.heap[w.heap.size + 1]? = some (.loop (rec .ready none)) := by
    have h := World.alloc_heap_new (w.alloc (.deferred (some []))) (.loop (rec .ready none))
    rw [World.size_alloc, hV] at h
    exact h
  have hD : V.heap[w.heap.size]? = some (.deferred (some [])) := by
    rw [← hV]
    exact (Below.heap_alloc _ _ _ (by simp)).trans (World.alloc_heap_new w _)
  have hIV : I [] V := by rw [← hV]; exact hI.alloc _ (hI.alloc _ h0)
  refine ⟨w.heap.size + 1, [{ target := .collected w.heap.size, args := #[] }], V, { target := .fn (.func gf) lb, args := #[.func (.yield (w.heap.size + 1)) #[] #[]] }, V, gf, #[.func (.yield (w.heap.size + 1)) #[] #[]] ++ lb, V, ?_, ?_, ?_, ?_, fun h => (by cases h), ?_⟩
  · rw [← hV, hrec]
    exact run_enterLoop_outer _ _ _ _ _
  · simp only [resolve, hg]
    simp [go_sem]
  · intro f _; exact trivial
  · simp [invoke, go_sem, eg]
  · have hturn : ∀ {A : World} {row : Option Nat} {k : Nat} {o : Obj}, (∀ r, row = some r → V.heap.size ≤ r ∧ ∃ o : Obj, A.heap[r]? = some o ∧ o.isCells = false) → ∀ {B : World}, A.grownBy B row → k < V.heap.size → A.heap[k]? = some o → B.heap[k]? = some o := by
      intro A row k o hr B hgr hk ho
      exact (hgr.block k (Array.getElem?_eq_some_iff.1 ho).1 (fun e => by have := (hr k e.symm).1; omega)).trans ho
    refine (hseq (n - 1) (w.heap.size + 1) (fun pre W => I pre W ∧ W.heap[w.heap.size + 1]? = some (.loop (rec .ready none)) ∧ W.heap[w.heap.size]? = some (.deferred (some []))) V (hb0.trans (hg1.mono hb0.size))
      (fun s A B row hs hgr hr => ⟨hI.up (by omega) s A B row hs.1 hgr hr, hturn hr hgr (by omega) hs.2.1, hturn hr hgr (by omega) hs.2.2⟩) ?_ ⟨hIV, hR, hD⟩).mono ?_
    · rintro m' pre x W ⟨hi, hl, hk⟩ hvx hlen hW
      have hy := run_yield (P := P) (args := encs x) hl (by rw [hrec]; exact hps x)
      rw [hrec] at hy
      refine ⟨fn, _, assign, body, hy, roundIn_of_wpIn hfn (hassign _ _ pre x W _ hi hvx ?_)⟩
      clear hy
      intro a' X hkX hiX hax
      have hlX := (hkX.same _ (Array.getElem?_eq_some_iff.1 hl).1 (.inl (Nat.zero_le _))).trans hl
      have hdX := (hkX.same _ (Array.getElem?_eq_some_iff.1 hk).1 (.inl (Nat.zero_le _))).trans hk
      have hltX : w.heap.size + 1 < X.heap.size := (Array.getElem?_eq_some_iff.1 hlX).1
      refine ⟨_, run_beginRound hlX (by rw [hrec]), ?_⟩
      obtain ⟨Y, hY⟩ : ∃ Y, X.putObj (w.heap.size + 1) (.loop { rec .ready none with state := .busy }) = Y := ⟨_, rfl⟩
      have hnk : ¬ kept (w.heap.size + 1) := fun h => by have := hkept _ h; omega
      have hXY : KeptO (w.heap.size + 2) kept X Y := by rw [← hY]; exact KeptO.putObj _ (by omega) hnk
      have hlY : Y.heap[w.heap.size + 1]? = some (.loop { rec .ready none with state := .busy }) := by rw [← hY]; exact World.putObj_heap_same hltX
      have hdY : Y.heap[w.heap.size]? = some (.deferred (some [])) := by rw [← hY]; exact (World.putObj_heap_other (by omega)).trans hdX
      have hiY : I pre Y := by rw [← hY]; exact hI.putObj _ hiX (by omega) hlX rfl
      have haY : Ax x a' Y := by rw [← hY]; exact (hAx x a').putObj (s := ()) _ hax (by omega) hlX rfl
      rw [hY]
      refine wpIn_mono (hbody _ _ pre x a' Y (by omega) hiY haY hlen) ?_
      rintro e a3 Z hp
      cases e with
      | normal =>
        obtain ⟨hkZ, hiZ⟩ := hp
        have hlZ := (hkZ.same _ (Array.getElem?_eq_some_iff.1 hlY).1 (.inl (by omega))).trans hlY
        have hdZ := (hkZ.same _ (Array.getElem?_eq_some_iff.1 hdY).1 (.inl (by omega))).trans hdY
        have hE := run_endRound (P := P) none hlZ
        rw [hrec] at hE
        have hlt : w.heap.size + 1 < Z.heap.size := (Array.getElem?_eq_some_iff.1 hlZ).1
        refine ⟨_, _, hE, rfl, ⟨hI.putObj _ hiZ (by omega) hlZ rfl, ?_, (World.putObj_heap_other (by omega)).trans hdZ⟩, ?_⟩
        · rw [hrec]
          exact World.putObj_heap_same hlt
        · rw [hsz]
          exact (hkX.mono (Nat.zero_le _)).trans (hXY.trans ((hkZ.mono (by omega)).trans (KeptO.putObj _ (by omega) hnk)))
      | ret => exact hp.elim
      | exit id => exact hp.elim
      | goto t => exact hp.elim
      | panic ch => exact hp.elim
      | outgrown => exact hp.elim
    · rintro e W2 ⟨⟨v, rfl⟩, xs, hS, hi, hl, hk⟩
      refine ⟨none, _, by have := run_endLoop (P := P) hl (by rw [hrec]; simp); rw [hrec] at this; exact this, hdone _ xs _ (Nat.le_refl _) hS (hI.putObj _ hi (by omega) hl rfl) ((World.putObj_heap_other (by omega)).trans hk)⟩
end Go
