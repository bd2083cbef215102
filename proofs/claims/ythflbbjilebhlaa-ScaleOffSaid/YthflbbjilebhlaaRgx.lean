/- A range over a function, where the iterator itself ranges over a function: what the iterator lays, and turns, while it goes on, lies beyond what there was when it was entered. The body may leave the loop. No program is named. -/
import Derived.RangeFuncNested
import Derived.RangeFuncBound
import Derived.RangeFuncCalls
import Derived.RangeFuncLeaves
import Derived.RangeFuncBox
set_option linter.unusedSimpArgs false
set_option linter.unusedVariables false
namespace Go
open Go.RowKit

/-- What lay from B on, and what is to be kept, lies as it lay. -/
structure KeptO (B : Nat) (kept : Nat → Prop) (W W' : World) : Prop where
  size : W.heap.size ≤ W'.heap.size
  same : ∀ k, k < W.heap.size → (B ≤ k ∨ kept k) → W'.heap[k]? = W.heap[k]?
theorem KeptO.refl (B : Nat) (kept : Nat → Prop) (W : World) : KeptO B kept W W := ⟨Nat.le_refl _, fun _ _ _ => rfl⟩
theorem KeptO.trans {B : Nat} {kept : Nat → Prop} {X Y Z : World} (h : KeptO B kept X Y) (k : KeptO B kept Y Z) : KeptO B kept X Z :=
  ⟨Nat.le_trans h.size k.size, fun i hi hb => (k.same i (Nat.lt_of_lt_of_le hi h.size) hb).trans (h.same i hi hb)⟩
theorem KeptO.mono {B B' : Nat} {kept : Nat → Prop} {X Y : World} (h : KeptO B kept X Y) (hb : B ≤ B') : KeptO B' kept X Y :=
  ⟨h.size, fun k hk hor => h.same k hk (hor.imp (fun h => Nat.le_trans hb h) id)⟩
theorem KeptO.putObj {B : Nat} {kept : Nat → Prop} {W : World} {l : Nat} (o : Obj) (hl : l < B) (hk : ¬ kept l) : KeptO B kept W (W.putObj l o) :=
  ⟨by simp [World.putObj], fun k _ hor => World.putObj_heap_other (fun e => by subst e; exact hor.elim (fun h => by omega) hk)⟩
theorem OwnFrom.up {β : Type} {B B' : Nat} {I : β → World → Prop} (h : OwnFrom B I) (hb : B ≤ B') : OwnFrom B' I :=
  fun s W W' row hs hg hr => h s W W' row hs hg (fun r e => ⟨Nat.le_trans hb (hr r e).1, (hr r e).2⟩)
/-- What an iterator does, that says something of the memory of what it hands on: it hands on one after the other, till a round says that it has had enough; what it says is true of every invariant that abides new memory and the turns of what is no cells, beyond what lay when it was entered. -/
def SeqX {α : Type} (P : Program) (g : Nat) (lb : Array Value) (encs : α → Array Value) (kept : Nat → Prop) (V : List α → α → World → Prop) (S Sp : List α → Prop) (N : Nat) (w : World) : Prop :=
  ∀ (m l : Nat) (J Jx : List α → World → Prop) (W : World), Below w.heap.size w W → OwnFrom W.heap.size J → OwnFrom W.heap.size Jx →
    (∀ (m' : Nat) pre x W1, J pre W1 → V pre x W1 → pre.length < N → W.heap.size ≤ W1.heap.size → YieldAt Fence.wide m' P l (encs x) W1 fun e W' =>
      (e = .returned (.bool true) ∧ J (pre ++ [x]) W' ∧ KeptO W.heap.size kept W1 W') ∨ (e = .returned (.bool false) ∧ Jx (pre ++ [x]) W' ∧ KeptO W.heap.size kept W1 W')) →
    J [] W →
    CallsIn Fence.wide m P g (#[.func (.yield l) #[] #[]] ++ lb) W fun e W' => (∃ v, e = .returned v) ∧ ((∃ xs, S xs ∧ J xs W') ∨ (∃ pre, Sp pre ∧ Jx pre W'))
/-- The end of a round. -/
def PostX {α : Type} (B : Nat) (kept : Nat → Prop) (I : List α → World → Prop) (Ix : Code → List α → World → Prop) (xs : List α) (W : World) : Exit → Act → World → Prop
  | .normal, _, W' => KeptO B kept W W' ∧ I xs W'
  | .ret, _, W' => KeptO B kept W W' ∧ Ix .ret xs W'
  | .exit id, _, W' => KeptO B kept W W' ∧ Ix (.exit id) xs W'
  | .goto t, _, W' => KeptO B kept W W' ∧ Ix (.goto t) xs W'
  | _, _, _ => False
variable {P : Program}
theorem wpIn_rangeFunc_X {α : Type} {g : Operand} {ps : Array Tmp} {assign body : Code} {Q : Exit → Act → World → Prop} {a : Act} {w : World} {n : Nat}
    {gf : Nat} {lb : Array Value} (hg : a.eval g = .func (.func gf) #[] lb) (eg : ∀ args w, (callFunc gf args).run P w = .ok (.enter gf args) w)
    {encs : α → Array Value} {kept : Nat → Prop} {Vx : List α → α → World → Prop} {S Sp : List α → Prop} {N : Nat} {w0 : World} (hseq : SeqX P gf lb encs kept Vx S Sp N w0) (hb0 : Below w0.heap.size w0 w) (hps : ∀ x, (encs x).size = ps.size)
    (hkept : ∀ k, kept k → k < w.heap.size) (I : List α → World → Prop) (Ix : Code → List α → World → Prop) (hI : OwnFrom w.heap.size I) (hIx : ∀ c, OwnFrom w.heap.size (Ix c)) (h0 : I [] w) (Ax : List α → α → Act → World → Prop) (hAx : ∀ pre x a', OwnFrom w.heap.size (fun (_ : Unit) W => Ax pre x a' W))
    (hassign : ∀ (l m : Nat) (pre : List α) (x : α) (W : World) (K : Act → World → Prop), I pre W → Vx pre x W → (∀ a' W', KeptO 0 kept W W' → I pre W' → Ax pre x a' W' → K a' W') →
      assign.wpIn (Fence.wide.inRound l) m P (Exit.then K (fun _ _ _ => False)) { tmps := (ps.zip (encs x)).foldl (fun t (p, v) => t.setIfInBounds p v) a.tmps, defers := [] } W)
    (hbody : ∀ (l m : Nat) (pre : List α) (x : α) (a' : Act) (W : World), w.heap.size ≤ l → I pre W → Ax pre x a' W → pre.length < N → body.wpIn (Fence.wide.inRound l) m P (PostX w.heap.size kept I Ix (pre ++ [x]) W) a' W)
    (hdone : ∀ (D : Nat) (xs : List α) (W : World), w.heap.size ≤ D → S xs → I xs W → W.heap[D]? = some (.deferred (some [])) → Q .normal { a with defers := { target := .collected D, args := #[] } :: a.defers } W)
    (hstop : ∀ (D : Nat) (c : Code) (pre : List α) (W : World), w.heap.size ≤ D → Sp pre → Ix c pre W → W.heap[D]? = some (.deferred (some [])) → c.wpIn Fence.wide n P Q { a with defers := { target := .collected D, args := #[] } :: a.defers } W) :
    (Code.rangeFunc g ps assign body).wpIn Fence.wide n P Q a w := by
  refine wpIn_rangeFunc ?_
  intro fn hfn
  obtain ⟨rec, hrec⟩ : ∃ rec : LoopState → Option Code → Loop, rec = fun st pe => { state := st, pending := pe, fn, tmps := a.tmps, params := ps, assign, body, defers := w.heap.size } := ⟨_, rfl⟩
  -- the two blocks that the loop lays
  obtain ⟨V, hV⟩ : ∃ V, (w.alloc (.deferred (some []))).alloc (.loop (rec .ready none)) = V := ⟨_, rfl⟩
  have hsz : V.heap.size = w.heap.size + 2 := by rw [← hV]; simp
  have hg1 : Below w.heap.size w V := by rw [← hV]; exact ((Below.refl _ w).alloc (Nat.le_refl _) _).alloc (by simp) _
  have hR : V.heap[w.heap.size + 1]? = some (.loop (rec .ready none)) := by
    have h := World.alloc_heap_new (w.alloc (.deferred (some []))) (.loop (rec .ready none))
    rw [World.size_alloc, hV] at h
    exact h
  have hD : V.heap[w.heap.size]? = some (.deferred (some [])) := by
    rw [← hV]
    exact (Below.heap_alloc _ _ _ (by simp)).trans (World.alloc_heap_new w _)
  have hIV : I [] V := by rw [← hV]; exact hI.alloc _ (hI.alloc _ h0)
  refine ⟨w.heap.size + 1, [{ target := .collected w.heap.size, args := #[] }], V, { target := .fn (.func gf) lb, args := #[.func (.yield (w.heap.size + 1)) #[] #[]] }, V, gf, #[.func (.yield (w.heap.size + 1)) #[] #[]] ++ lb, V, ?_, ?_, ?_, ?_, fun h => (by cases h), ?_⟩
  · rw [← hV, hrec]
    exact run_enterLoop_outer _ _ _ _ _
  · simp only [resolve, hg]
    simp [go_sem]
  · intro f _; exact trivial
  · simp [invoke, go_sem, eg]
  · have hturn : ∀ {A : World} {row : Option Nat} {k : Nat} {o : Obj}, (∀ r, row = some r → V.heap.size ≤ r ∧ ∃ o : Obj, A.heap[r]? = some o ∧ o.isCells = false) → ∀ {B : World}, A.grownBy B row → k < V.heap.size → A.heap[k]? = some o → B.heap[k]? = some o := by
      intro A row k o hr B hgr hk ho
      exact (hgr.block k (Array.getElem?_eq_some_iff.1 ho).1 (fun e => by have := (hr k e.symm).1; omega)).trans ho
    refine (hseq (n - 1) (w.heap.size + 1) (fun pre W => I pre W ∧ W.heap[w.heap.size + 1]? = some (.loop (rec .ready none)) ∧ W.heap[w.heap.size]? = some (.deferred (some [])))
      (fun pre W => ∃ c, Ix c pre W ∧ W.heap[w.heap.size + 1]? = some (.loop (rec .done (some c))) ∧ W.heap[w.heap.size]? = some (.deferred (some []))) V (hb0.trans (hg1.mono hb0.size))
      (fun s A B row hs hgr hr => ⟨hI.up (by omega) s A B row hs.1 hgr hr, hturn hr hgr (by omega) hs.2.1, hturn hr hgr (by omega) hs.2.2⟩)
      (fun s A B row hs hgr hr => by obtain ⟨c, hc, hl, hk⟩ := hs; exact ⟨c, (hIx c).up (by omega) s A B row hc hgr hr, hturn hr hgr (by omega) hl, hturn hr hgr (by omega) hk⟩) ?_ ⟨hIV, hR, hD⟩).mono ?_
    · rintro m' pre x W ⟨hi, hl, hk⟩ hvx hlen hW
      have hy := run_yield (P := P) (args := encs x) hl (by rw [hrec]; exact hps x)
      rw [hrec] at hy
      refine ⟨fn, _, assign, body, hy, roundIn_of_wpIn hfn (hassign _ _ pre x W _ hi hvx ?_)⟩
      clear hy
      intro a' X hkX hiX hax
      have hlX := (hkX.same _ (Array.getElem?_eq_some_iff.1 hl).1 (.inl (Nat.zero_le _))).trans hl
      have hdX := (hkX.same _ (Array.getElem?_eq_some_iff.1 hk).1 (.inl (Nat.zero_le _))).trans hk
      have hltX : w.heap.size + 1 < X.heap.size := (Array.getElem?_eq_some_iff.1 hlX).1
      refine ⟨_, run_beginRound hlX (by rw [hrec]), ?_⟩
      obtain ⟨Y, hY⟩ : ∃ Y, X.putObj (w.heap.size + 1) (.loop { rec .ready none with state := .busy }) = Y := ⟨_, rfl⟩
      have hnk : ¬ kept (w.heap.size + 1) := fun h => by have := hkept _ h; omega
      have hXY : KeptO (w.heap.size + 2) kept X Y := by rw [← hY]; exact KeptO.putObj _ (by omega) hnk
      have hlY : Y.heap[w.heap.size + 1]? = some (.loop { rec .ready none with state := .busy }) := by rw [← hY]; exact World.putObj_heap_same hltX
      have hdY : Y.heap[w.heap.size]? = some (.deferred (some [])) := by rw [← hY]; exact (World.putObj_heap_other (by omega)).trans hdX
      have hiY : I pre Y := by rw [← hY]; exact hI.putObj _ hiX (by omega) hlX rfl
      have haY : Ax pre x a' Y := by rw [← hY]; exact (hAx pre x a').putObj (s := ()) _ hax (by omega) hlX rfl
      rw [hY]
      refine wpIn_mono (hbody _ _ pre x a' Y (by omega) hiY haY hlen) ?_
      have fin : ∀ (jump : Option Code) (Z : World), KeptO w.heap.size kept Y Z →
          (Instr.endRound (w.heap.size + 1) jump).run P Z = .ok (.bool jump.isNone) (Z.putObj (w.heap.size + 1) (.loop (rec (if jump.isNone then .ready else .done) jump))) ∧
          Z.heap[w.heap.size + 1]? = some (.loop { rec .ready none with state := .busy }) ∧
          (Z.putObj (w.heap.size + 1) (.loop (rec (if jump.isNone then .ready else .done) jump))).heap[w.heap.size + 1]? = some (.loop (rec (if jump.isNone then .ready else .done) jump)) ∧
          (Z.putObj (w.heap.size + 1) (.loop (rec (if jump.isNone then .ready else .done) jump))).heap[w.heap.size]? = some (.deferred (some [])) ∧
          KeptO V.heap.size kept W (Z.putObj (w.heap.size + 1) (.loop (rec (if jump.isNone then .ready else .done) jump))) := fun jump Z hkZ => by
        have hlZ := (hkZ.same _ (Array.getElem?_eq_some_iff.1 hlY).1 (.inl (by omega))).trans hlY
        have hdZ := (hkZ.same _ (Array.getElem?_eq_some_iff.1 hdY).1 (.inl (by omega))).trans hdY
        have hlt : w.heap.size + 1 < Z.heap.size := (Array.getElem?_eq_some_iff.1 hlZ).1
        have hE := run_endRound (P := P) jump hlZ
        rw [hrec] at hE ⊢
        refine ⟨hE, by rw [hrec] at hlZ; exact hlZ, World.putObj_heap_same hlt, (World.putObj_heap_other (by omega)).trans hdZ, ?_⟩
        rw [hsz]
        exact (hkX.mono (Nat.zero_le _)).trans (hXY.trans ((hkZ.mono (by omega)).trans (KeptO.putObj _ (by omega) hnk)))
      rintro e a3 Z hp
      cases e with
      | normal =>
        obtain ⟨hkZ, hiZ⟩ := hp
        obtain ⟨hE, hlZ, hl4, hk4, hkk⟩ := fin none Z hkZ
        exact ⟨_, _, hE, .inl ⟨rfl, ⟨hI.putObj _ hiZ (by omega) hlZ rfl, hl4, hk4⟩, hkk⟩⟩
      | ret =>
        obtain ⟨hkZ, hiZ⟩ := hp
        obtain ⟨hE, hlZ, hl4, hk4, hkk⟩ := fin (some .ret) Z hkZ
        exact ⟨_, _, hE, .inr ⟨rfl, ⟨.ret, (hIx _).putObj _ hiZ (by omega) hlZ rfl, hl4, hk4⟩, hkk⟩⟩
      | exit id =>
        obtain ⟨hkZ, hiZ⟩ := hp
        obtain ⟨hE, hlZ, hl4, hk4, hkk⟩ := fin (some (.exit id)) Z hkZ
        exact ⟨_, _, hE, .inr ⟨rfl, ⟨.exit id, (hIx _).putObj _ hiZ (by omega) hlZ rfl, hl4, hk4⟩, hkk⟩⟩
      | goto t =>
        obtain ⟨hkZ, hiZ⟩ := hp
        obtain ⟨hE, hlZ, hl4, hk4, hkk⟩ := fin (some (.goto t)) Z hkZ
        exact ⟨_, _, hE, .inr ⟨rfl, ⟨.goto t, (hIx _).putObj _ hiZ (by omega) hlZ rfl, hl4, hk4⟩, hkk⟩⟩
      | panic ch => exact hp.elim
      | outgrown => exact hp.elim
    · rintro e W2 ⟨⟨v, rfl⟩, (⟨xs, hS, hi, hl, hk⟩ | ⟨pre, hSp, c, hi, hl, hk⟩)⟩
      · refine ⟨none, _, by have := run_endLoop (P := P) hl (by rw [hrec]; simp); rw [hrec] at this; exact this, hdone _ xs _ (Nat.le_refl _) hS (hI.putObj _ hi (by omega) hl rfl) ((World.putObj_heap_other (by omega)).trans hk)⟩
      · exact ⟨some c, _, by have := run_endLoop (P := P) hl (by rw [hrec]; simp); rw [hrec] at this; exact this, hstop _ c pre _ (Nat.le_refl _) hSp ((hIx c).putObj _ hi (by omega) hl rfl) ((World.putObj_heap_other (by omega)).trans hk)⟩
/-- New memory does not touch what abides it. -/
theorem own_kept {β : Type} {B : Nat} {I : β → World → Prop} (h : OwnFrom B I) {s : β} {W W' : World} (hs : I s W) (hb : Below W.heap.size W W') : I s W' :=
  h s W W' none hs ⟨hb.os, hb.tape, hb.output, hb.size, fun k hk _ => hb.block k hk⟩ (fun r e => by cases e)
theorem keptO_of_below {B : Nat} {kept : Nat → Prop} {W W' : World} (h : Below W.heap.size W W') : KeptO B kept W W' := ⟨h.size, fun k hk _ => h.block k hk⟩
/-- A round where no depth is asked, within another round. -/
theorem roundIn_any {m m' l' : Nat} {P : Program} {l : Nat} {f : FuncId} {tmps : Array Value} {assign body : Code} {w : World} {R : Ending → World → Prop} (h : RoundIn Fence.wide m P l f tmps assign body w R) : RoundIn (Fence.wide.inRound l') m' P l f tmps assign body w R :=
  ⟨h.1, fun c cs _ => h.2 c cs (fun d hd => (by cases hd))⟩
theorem roundIn_free {m m' : Nat} {P : Program} {l : Nat} {f : FuncId} {tmps : Array Value} {assign body : Code} {w : World} {R : Ending → World → Prop} (h : RoundIn Fence.wide m P l f tmps assign body w R) : RoundIn Fence.wide m' P l f tmps assign body w R :=
  ⟨h.1, fun c cs _ => h.2 c cs (fun d hd => (by cases hd))⟩
theorem blk_own {β : Type} (b : Nat) (f : β → Array Value) (t : TypeId) (fr : Nat × Nat) : Own (fun s W => W.heap[b]? = some (.cells (f s) t fr)) := by
  intro s X Y row h hg hr
  refine (hg.block b (Array.getElem?_eq_some_iff.1 h).1 (fun e => ?_)).trans h
  obtain ⟨o, ho, hc⟩ := hr b e.symm
  have h' : X.heap[b]? = _ := h
  rw [h'] at ho; cases ho; cases hc
theorem below_put {n : Nat} {w W : World} {D : Nat} {o : Obj} (o' : Obj) (hb : Below n w W) (hn : n ≤ w.heap.size) (hD : n ≤ D) (hl : W.heap[D]? = some o) (hc : o.isCells = false) : Below n w (W.putObj D o') :=
  (ownFrom_below (β := Unit) (B := n) hn (Nat.le_refl _)).putObj o' (s := ()) hb hD hl hc
theorem KeptO.setCell {B : Nat} {kept : Nat → Prop} {X W : World} (h : KeptO B kept X W) (p : Addr) (v : Value) (hB : p.block < B) (hk : ¬ kept p.block) : KeptO B kept X (W.setCell p v) := by
  refine h.trans ⟨by simp, fun k hk2 hor => ?_⟩
  exact heap_setCell_other W p k v (fun e => by subst e; exact hor.elim (fun h => by omega) hk)
end Go
