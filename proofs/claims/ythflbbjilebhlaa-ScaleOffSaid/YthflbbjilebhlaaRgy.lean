/- A range over a function, as in Rgx, where a round may also append to a list of its own: the row in which the list lies may have been laid in an earlier round, beyond what there was when the iterator was entered. Which row that is, is read off the list's own box. No program is named. -/
import Derived.Test.YthflbbjilebhlaaRgx
set_option linter.unusedSimpArgs false
set_option linter.unusedVariables false
namespace Go
open Go.RowKit

/-- The row of the list that lies in the box. -/
def ownOf (ob : Option Nat) (W : World) : Option Nat :=
  match ob with
  | none => none
  | some b => (W.heap[b]?).bind fun (o : Obj) => match o with
    | .cells row _ _ => (row[0]?).bind fun (v : Value) => match v with
      | .slice (some p) _ _ => some p.block
      | _ => none
    | _ => none
theorem ownOf_eq {ob : Option Nat} {W W' : World} (h : ∀ b, ob = some b → W'.heap[b]? = W.heap[b]?) : ownOf ob W' = ownOf ob W := by
  cases ob with
  | none => rfl
  | some b => simp only [ownOf]; rw [h b rfl]
/-- The box holds cells, and the row that it names is there. -/
structure Okw (ob : Option Nat) (W : World) : Prop where
  box : ∀ b, ob = some b → ∃ row t fr, W.heap[b]? = some (.cells row t fr)
  lt : ∀ k, ownOf ob W = some k → k < W.heap.size
theorem okw_none (W : World) : Okw none W := ⟨fun _ h => (by cases h), fun _ h => (by cases h)⟩
theorem Okw.grow {ob : Option Nat} {W W' : World} {row : Option Nat} (h : Okw ob W) (hg : W.grownBy W' row) (hr : ∀ r, row = some r → ∃ o : Obj, W.heap[r]? = some o ∧ o.isCells = false) : ownOf ob W' = ownOf ob W ∧ Okw ob W' := by
  have hb : ∀ b, ob = some b → W'.heap[b]? = W.heap[b]? := fun b e => by
    obtain ⟨rw', t, fr, hc⟩ := h.box b e
    refine hg.block b (Array.getElem?_eq_some_iff.1 hc).1 (fun er => ?_)
    obtain ⟨o, ho, hn⟩ := hr b er.symm
    rw [hc] at ho; cases ho; cases hn
  have e := ownOf_eq hb
  refine ⟨e, fun b eb => ?_, fun k hk => ?_⟩
  · obtain ⟨rw', t, fr, hc⟩ := h.box b eb
    exact ⟨rw', t, fr, (hb b eb).trans hc⟩
  · rw [e] at hk; exact Nat.lt_of_lt_of_le (h.lt k hk) hg.size
theorem Okw.below {ob : Option Nat} {W W' : World} (h : Okw ob W) (hb : Below W.heap.size W W') : ownOf ob W' = ownOf ob W ∧ Okw ob W' :=
  h.grow (row := none) ⟨hb.os, hb.tape, hb.output, hb.size, fun k hk _ => hb.block k hk⟩ (fun r e => by cases e)
theorem Okw.put {ob : Option Nat} {W : World} {l : Nat} {o : Obj} (h : Okw ob W) (hl : W.heap[l]? = some o) (hc : o.isCells = false) (o' : Obj) : ownOf ob (W.putObj l o') = ownOf ob W ∧ Okw ob (W.putObj l o') := by
  have hb : ∀ b, ob = some b → (W.putObj l o').heap[b]? = W.heap[b]? := fun b e => by
    obtain ⟨rw', t, fr, hk⟩ := h.box b e
    exact World.putObj_heap_other (fun er => by subst er; rw [hk] at hl; cases hl; cases hc)
  have e := ownOf_eq hb
  refine ⟨e, fun b eb => ?_, fun k hk => ?_⟩
  · obtain ⟨rw', t, fr, hk⟩ := h.box b eb
    exact ⟨rw', t, fr, (hb b eb).trans hk⟩
  · rw [e] at hk; have := h.lt k hk; simpa [World.putObj] using this
/-- A block that is not the list's row. -/
structure AtY (ob : Option Nat) (W : World) (k : Nat) (o : Obj) : Prop where
  at_ : W.heap[k]? = some o
  ok : Okw ob W
  ne : ownOf ob W ≠ some k
theorem AtY.grow {ob : Option Nat} {W W' : World} {row : Option Nat} {k : Nat} {o : Obj} (h : AtY ob W k o) (hg : W.grownBy W' row) (hr : ∀ r, row = some r → ∃ o : Obj, W.heap[r]? = some o ∧ o.isCells = false) (hk : row ≠ some k) : AtY ob W' k o :=
  ⟨(hg.block k (Array.getElem?_eq_some_iff.1 h.at_).1 (fun e => hk (by rw [e]))).trans h.at_, (h.ok.grow hg hr).2, by rw [(h.ok.grow hg hr).1]; exact h.ne⟩
theorem AtY.below {ob : Option Nat} {W W' : World} {k : Nat} {o : Obj} (h : AtY ob W k o) (hb : Below W.heap.size W W') : AtY ob W' k o :=
  ⟨(hb.block k (Array.getElem?_eq_some_iff.1 h.at_).1).trans h.at_, (h.ok.below hb).2, by rw [(h.ok.below hb).1]; exact h.ne⟩
theorem AtY.fresh {ob : Option Nat} {W W' : World} {k : Nat} {o : Obj} (h : Okw ob W) (hb : Below W.heap.size W W') (hk : W.heap.size ≤ k) (ho : W'.heap[k]? = some o) : AtY ob W' k o :=
  ⟨ho, (h.below hb).2, fun e => by rw [(h.below hb).1] at e; have := h.lt k e; omega⟩
theorem AtY.put_same {ob : Option Nat} {W : World} {k : Nat} {o : Obj} (h : AtY ob W k o) (hc : o.isCells = false) (o' : Obj) : AtY ob (W.putObj k o') k o' :=
  ⟨World.putObj_heap_same (Array.getElem?_eq_some_iff.1 h.at_).1, (h.ok.put h.at_ hc o').2, by rw [(h.ok.put h.at_ hc o').1]; exact h.ne⟩
theorem AtY.put_other {ob : Option Nat} {W : World} {k l : Nat} {o p : Obj} (h : AtY ob W k o) (hl : W.heap[l]? = some p) (hc : p.isCells = false) (hk : k ≠ l) (o' : Obj) : AtY ob (W.putObj l o') k o :=
  ⟨(World.putObj_heap_other hk).trans h.at_, (h.ok.put hl hc o').2, by rw [(h.ok.put hl hc o').1]; exact h.ne⟩
theorem AtY.own {β : Type} {ob : Option Nat} (k : Nat) (f : β → Array Value) (t : TypeId) (fr : Nat × Nat) (B : Nat) : OwnFrom B (fun s W => AtY ob W k (.cells (f s) t fr)) := by
  intro s X Y row h hg hr
  refine AtY.grow h hg (fun r e => (hr r e).2) (fun e => ?_)
  obtain ⟨_, o, ho, hc⟩ := hr k e
  have h' := h.at_
  rw [h'] at ho; cases ho; cases hc
theorem okw_own {β : Type} {ob : Option Nat} (B : Nat) : OwnFrom B (fun (_ : β) W => Okw ob W) :=
  fun _ _ _ _ h hg hr => (Okw.grow h hg (fun r e => (hr r e).2)).2
/-- What lay from B on, and what is to be kept, lies as it lay, but for the list's row. -/
structure KeptY (B : Nat) (kept : Nat → Prop) (ob : Option Nat) (W W' : World) : Prop where
  size : W.heap.size ≤ W'.heap.size
  same : ∀ k, k < W.heap.size → (B ≤ k ∨ kept k) → ownOf ob W ≠ some k → W'.heap[k]? = W.heap[k]?
  own : ∀ k, ownOf ob W' = some k → ownOf ob W = some k ∨ W.heap.size ≤ k
  ok : Okw ob W → Okw ob W'
theorem KeptY.refl (B : Nat) (kept : Nat → Prop) (ob : Option Nat) (W : World) : KeptY B kept ob W W := ⟨Nat.le_refl _, fun _ _ _ _ => rfl, fun _ h => .inl h, id⟩
theorem KeptY.trans {B : Nat} {kept : Nat → Prop} {ob : Option Nat} {X Y Z : World} (h : KeptY B kept ob X Y) (k : KeptY B kept ob Y Z) : KeptY B kept ob X Z :=
  ⟨Nat.le_trans h.size k.size, fun i hi hb hn => (k.same i (Nat.lt_of_lt_of_le hi h.size) hb (fun e => (h.own i e).elim hn (fun e => by omega))).trans (h.same i hi hb hn),
    fun i hi => (k.own i hi).elim (fun e => h.own i e) (fun e => .inr (Nat.le_trans h.size e)), fun e => k.ok (h.ok e)⟩
theorem KeptY.mono {B B' : Nat} {kept : Nat → Prop} {ob : Option Nat} {X Y : World} (h : KeptY B kept ob X Y) (hb : B ≤ B') : KeptY B' kept ob X Y :=
  ⟨h.size, fun k hk hor hn => h.same k hk (hor.imp (fun h => Nat.le_trans hb h) id) hn, h.own, h.ok⟩
theorem KeptY.putObj {B : Nat} {kept : Nat → Prop} {ob : Option Nat} {W : World} {l : Nat} {p : Obj} (h : Okw ob W) (hl : W.heap[l]? = some p) (hc : p.isCells = false) (o : Obj) (hB : l < B) (hk : ¬ kept l) : KeptY B kept ob W (W.putObj l o) :=
  ⟨by simp [World.putObj], fun k _ hor _ => World.putObj_heap_other (fun e => by subst e; exact hor.elim (fun h => by omega) hk), fun k e => .inl (by rw [(h.put hl hc o).1] at e; exact e), fun _ => (h.put hl hc o).2⟩
theorem KeptY.of_below {B : Nat} {kept : Nat → Prop} {ob : Option Nat} {W W' : World} (h : Okw ob W) (hb : Below W.heap.size W W') : KeptY B kept ob W W' :=
  ⟨hb.size, fun k hk _ _ => hb.block k hk, fun k e => .inl (by rw [(h.below hb).1] at e; exact e), fun _ => (h.below hb).2⟩
theorem KeptY.keep {B : Nat} {kept : Nat → Prop} {ob : Option Nat} {X Y : World} {k : Nat} {o : Obj} (h : KeptY B kept ob X Y) (ha : AtY ob X k o) (hb : B ≤ k ∨ kept k) : AtY ob Y k o := by
  have hlt := (Array.getElem?_eq_some_iff.1 ha.at_).1
  exact ⟨(h.same k hlt hb ha.ne).trans ha.at_, h.ok ha.ok, fun e => (h.own k e).elim ha.ne (fun e => by omega)⟩
theorem KeptO.toY {B : Nat} {kept : Nat → Prop} {W W' : World} (h : KeptO B kept W W') : KeptY B kept none W W' :=
  ⟨h.size, fun k hk hor _ => h.same k hk hor, fun _ e => (by cases e), fun _ => okw_none _⟩
/-- The list's row lies beyond. -/
structure FarY (ob : Option Nat) (n : Nat) (W : World) : Prop where
  ok : Okw ob W
  far : ∀ k, ownOf ob W = some k → n ≤ k
theorem FarY.ofown {β : Type} {ob : Option Nat} {n : Nat} (B : Nat) : OwnFrom B (fun (_ : β) W => FarY ob n W) := fun _ _ _ _ h hg hr => by
  obtain ⟨e, hk⟩ := h.ok.grow hg (fun r e => (hr r e).2)
  exact ⟨hk, fun k e' => h.far k (by rw [e] at e'; exact e')⟩
theorem FarY.below {ob : Option Nat} {n : Nat} {W W' : World} (h : FarY ob n W) (hb : Below W.heap.size W W') : FarY ob n W' :=
  ⟨(h.ok.below hb).2, fun k e => h.far k (by rw [(h.ok.below hb).1] at e; exact e)⟩
theorem FarY.keep {ob : Option Nat} {n B : Nat} {kept : Nat → Prop} {X Y : World} (h : FarY ob n X) (hk : KeptY B kept ob X Y) (hn : n ≤ X.heap.size) : FarY ob n Y :=
  ⟨hk.ok h.ok, fun k e => (hk.own k e).elim (h.far k) (fun e => Nat.le_trans hn e)⟩
/-- What an iterator does (see SeqX), where the rounds append to a list of their own: its row is none of the blocks that were there when the iterator was made. -/
def SeqY {α : Type} (P : Program) (g : Nat) (lb : Array Value) (encs : α → Array Value) (kept : Nat → Prop) (ob : Option Nat) (V : List α → α → World → Prop) (S Sp : List α → Prop) (N : Nat) (w : World) : Prop :=
  ∀ (m l : Nat) (J Jx : List α → World → Prop) (W : World), Below w.heap.size w W → OwnFrom W.heap.size J → OwnFrom W.heap.size Jx → Okw ob W → (∀ k, ownOf ob W = some k → w.heap.size ≤ k) →
    (∀ (m' : Nat) pre x W1, J pre W1 → V pre x W1 → pre.length < N → W.heap.size ≤ W1.heap.size → Okw ob W1 → YieldAt Fence.wide m' P l (encs x) W1 fun e W' =>
      (e = .returned (.bool true) ∧ J (pre ++ [x]) W' ∧ KeptY W.heap.size kept ob W1 W') ∨ (e = .returned (.bool false) ∧ Jx (pre ++ [x]) W' ∧ KeptY W.heap.size kept ob W1 W')) →
    J [] W →
    CallsIn Fence.wide m P g (#[.func (.yield l) #[] #[]] ++ lb) W fun e W' => (∃ v, e = .returned v) ∧ ((∃ xs, S xs ∧ J xs W') ∨ (∃ pre, Sp pre ∧ Jx pre W'))
theorem SeqY.toX {α : Type} {P : Program} {g : Nat} {lb : Array Value} {encs : α → Array Value} {kept : Nat → Prop} {V : List α → α → World → Prop} {S Sp : List α → Prop} {N : Nat} {w : World} (h : SeqY P g lb encs kept none V S Sp N w) : SeqX P g lb encs kept V S Sp N w := by
  intro m l J Jx W hW hJ hJx hY h0
  refine h m l J Jx W hW hJ hJx (okw_none _) (fun _ e => by cases e) ?_ h0
  intro m' pre x W1 h1 h2 h3 h4 _
  obtain ⟨fn, tmps, assign, body, hy, hR⟩ := hY m' pre x W1 h1 h2 h3 h4
  refine ⟨fn, tmps, assign, body, hy, hR.mono ?_⟩
  rintro e W' (⟨rfl, hj, hk⟩ | ⟨rfl, hj, hk⟩)
  · exact .inl ⟨rfl, hj, hk.toY⟩
  · exact .inr ⟨rfl, hj, hk.toY⟩
/-- The end of a round. -/
def PostY {α : Type} (B : Nat) (kept : Nat → Prop) (ob : Option Nat) (I : List α → World → Prop) (Ix : Code → List α → World → Prop) (xs : List α) (W : World) : Exit → Act → World → Prop
  | .normal, _, W' => KeptY B kept ob W W' ∧ I xs W'
  | .ret, _, W' => KeptY B kept ob W W' ∧ Ix .ret xs W'
  | .exit id, _, W' => KeptY B kept ob W W' ∧ Ix (.exit id) xs W'
  | .goto t, _, W' => KeptY B kept ob W W' ∧ Ix (.goto t) xs W'
  | _, _, _ => False
variable {P : Program}
theorem wpIn_rangeFunc_Y {α : Type} {g : Operand} {ps : Array Tmp} {assign body : Code} {Q : Exit → Act → World → Prop} {a : Act} {w : World} {n : Nat}
    {gf : Nat} {lb : Array Value} (hg : a.eval g = .func (.func gf) #[] lb) (eg : ∀ args w, (callFunc gf args).run P w = .ok (.enter gf args) w)
    {encs : α → Array Value} {kept : Nat → Prop} {ob : Option Nat} {Vx : List α → α → World → Prop} {S Sp : List α → Prop} {N : Nat} {w0 : World} (hseq : SeqY P gf lb encs kept ob Vx S Sp N w0) (hb0 : Below w0.heap.size w0 w) (hok : Okw ob w) (hown : ∀ k, ownOf ob w = some k → w0.heap.size ≤ k) (hps : ∀ x, (encs x).size = ps.size)
    (hkept : ∀ k, kept k → k < w.heap.size) (I : List α → World → Prop) (Ix : Code → List α → World → Prop) (hI : OwnFrom w.heap.size I) (hIx : ∀ c, OwnFrom w.heap.size (Ix c)) (h0 : I [] w) (Ax : List α → α → Act → World → Prop) (hAx : ∀ pre x a', OwnFrom w.heap.size (fun (_ : Unit) W => Ax pre x a' W))
    (hassign : ∀ (l m : Nat) (pre : List α) (x : α) (W : World) (K : Act → World → Prop), I pre W → Okw ob W → Vx pre x W → (∀ a' W', KeptY 0 kept ob W W' → I pre W' → Ax pre x a' W' → K a' W') →
      assign.wpIn (Fence.wide.inRound l) m P (Exit.then K (fun _ _ _ => False)) { tmps := (ps.zip (encs x)).foldl (fun t (p, v) => t.setIfInBounds p v) a.tmps, defers := [] } W)
    (hbody : ∀ (l m : Nat) (pre : List α) (x : α) (a' : Act) (W : World), w.heap.size ≤ l → I pre W → Okw ob W → Ax pre x a' W → pre.length < N → body.wpIn (Fence.wide.inRound l) m P (PostY w.heap.size kept ob I Ix (pre ++ [x]) W) a' W)
    (hdone : ∀ (D : Nat) (xs : List α) (W : World), w.heap.size ≤ D → S xs → I xs W → W.heap[D]? = some (.deferred (some [])) → Q .normal { a with defers := { target := .collected D, args := #[] } :: a.defers } W)
    (hstop : ∀ (D : Nat) (c : Code) (pre : List α) (W : World), w.heap.size ≤ D → Sp pre → Ix c pre W → W.heap[D]? = some (.deferred (some [])) → c.wpIn Fence.wide n P Q { a with defers := { target := .collected D, args := #[] } :: a.defers } W) :
    (Code.rangeFunc g ps assign body).wpIn Fence.wide n P Q a w := by
  refine wpIn_rangeFunc ?_
  intro fn hfn
  obtain ⟨rec, hrec⟩ : ∃ rec : LoopState → Option Code → Loop, rec = fun st pe => { state := st, pending := pe, fn, tmps := a.tmps, params := ps, assign, body, defers := w.heap.size } := ⟨_, rfl⟩
  -- the two blocks that the loop lays
  obtain ⟨V, hV⟩ : ∃ V, (w.alloc (.deferred (some []))).alloc (.loop (rec .ready none)) = V := ⟨_, rfl⟩
  have hsz : V.heap.size = w.heap.size + 2 := by rw [← hV]; simp
  have hg1 : Below w.heap.size w V := by rw [← hV]; exact ((Below.refl _ w).alloc (Nat.le_refl _) _).alloc (by simp) _
  have hR : V.heap[w.heap.size + 1]? = some (.loop (rec .ready none)) := by
    have h := World.alloc_heap_new (w.alloc (.deferred (some []))) (.loop (rec .ready none))
    rw [World.size_alloc, hV] at h
    exact h
  have hD : V.heap[w.heap.size]? = some (.deferred (some [])) := by
    rw [← hV]
    exact (Below.heap_alloc _ _ _ (by simp)).trans (World.alloc_heap_new w _)
  have hVb : Below w.heap.size w V := hg1
  obtain ⟨hoV, hkV⟩ := hok.below hVb
  have hRY : AtY ob V (w.heap.size + 1) (.loop (rec .ready none)) := AtY.fresh hok hVb (by omega) hR
  have hDY : AtY ob V w.heap.size (.deferred (some [])) := AtY.fresh hok hVb (Nat.le_refl _) hD
  have hIV : I [] V := by rw [← hV]; exact hI.alloc _ (hI.alloc _ h0)
  refine ⟨w.heap.size + 1, [{ target := .collected w.heap.size, args := #[] }], V, { target := .fn (.func gf) lb, args := #[.func (.yield (w.heap.size + 1)) #[] #[]] }, V, gf, #[.func (.yield (w.heap.size + 1)) #[] #[]] ++ lb, V, ?_, ?_, ?_, ?_, fun h => (by cases h), ?_⟩
  · rw [← hV, hrec]
    exact run_enterLoop_outer _ _ _ _ _
  · simp only [resolve, hg]
    simp [go_sem]
  · intro f _; exact trivial
  · simp [invoke, go_sem, eg]
  · have hturn : ∀ {A : World} {row : Option Nat} {k : Nat} {o : Obj}, (∀ r, row = some r → V.heap.size ≤ r ∧ ∃ o : Obj, A.heap[r]? = some o ∧ o.isCells = false) → ∀ {B : World}, A.grownBy B row → k < V.heap.size → A.heap[k]? = some o → B.heap[k]? = some o := by
      intro A row k o hr B hgr hk ho
      exact (hgr.block k (Array.getElem?_eq_some_iff.1 ho).1 (fun e => by have := (hr k e.symm).1; omega)).trans ho
    refine (hseq (n - 1) (w.heap.size + 1) (fun pre W => I pre W ∧ AtY ob W (w.heap.size + 1) (.loop (rec .ready none)) ∧ AtY ob W w.heap.size (.deferred (some [])))
      (fun pre W => ∃ c, Ix c pre W ∧ W.heap[w.heap.size + 1]? = some (.loop (rec .done (some c))) ∧ W.heap[w.heap.size]? = some (.deferred (some []))) V (hb0.trans (hg1.mono hb0.size))
      (fun s A B row hs hgr hr => ⟨hI.up (by omega) s A B row hs.1 hgr hr, hs.2.1.grow hgr (fun r e => (hr r e).2) (fun e => by have := (hr _ e).1; omega), hs.2.2.grow hgr (fun r e => (hr r e).2) (fun e => by have := (hr _ e).1; omega)⟩)
      (fun s A B row hs hgr hr => by obtain ⟨c, hc, hl, hk⟩ := hs; exact ⟨c, (hIx c).up (by omega) s A B row hc hgr hr, hturn hr hgr (by omega) hl, hturn hr hgr (by omega) hk⟩) hkV (fun k e => hown k (by rw [hoV] at e; exact e)) ?_ ⟨hIV, hRY, hDY⟩).mono ?_
    · rintro m' pre x W ⟨hi, hl, hk⟩ hvx hlen hW hokW
      have hy := run_yield (P := P) (args := encs x) hl.at_ (by rw [hrec]; exact hps x)
      rw [hrec] at hy
      refine ⟨fn, _, assign, body, hy, roundIn_of_wpIn hfn (hassign _ _ pre x W _ hi hokW hvx ?_)⟩
      clear hy
      intro a' X hkX hiX hax
      have hlXY := hkX.keep hl (.inl (Nat.zero_le _))
      have hdXY := hkX.keep hk (.inl (Nat.zero_le _))
      have hlX := hlXY.at_
      have hdX := hdXY.at_
      have hltX : w.heap.size + 1 < X.heap.size := (Array.getElem?_eq_some_iff.1 hlX).1
      refine ⟨_, run_beginRound hlX (by rw [hrec]), ?_⟩
      obtain ⟨Y, hY⟩ : ∃ Y, X.putObj (w.heap.size + 1) (.loop { rec .ready none with state := .busy }) = Y := ⟨_, rfl⟩
      have hnk : ¬ kept (w.heap.size + 1) := fun h => by have := hkept _ h; omega
      have hXY : KeptY (w.heap.size + 2) kept ob X Y := by rw [← hY]; exact KeptY.putObj hlXY.ok hlX rfl _ (by omega) hnk
      have hlY : AtY ob Y (w.heap.size + 1) (.loop { rec .ready none with state := .busy }) := by rw [← hY]; exact hlXY.put_same rfl _
      have hdY : AtY ob Y w.heap.size (.deferred (some [])) := by rw [← hY]; exact hdXY.put_other hlX rfl (by omega) _
      have hiY : I pre Y := by rw [← hY]; exact hI.putObj _ hiX (by omega) hlX rfl
      have haY : Ax pre x a' Y := by rw [← hY]; exact (hAx pre x a').putObj (s := ()) _ hax (by omega) hlX rfl
      rw [hY]
      refine wpIn_mono (hbody _ _ pre x a' Y (by omega) hiY hlY.ok haY hlen) ?_
      have fin : ∀ (jump : Option Code) (Z : World), KeptY w.heap.size kept ob Y Z →
          (Instr.endRound (w.heap.size + 1) jump).run P Z = .ok (.bool jump.isNone) (Z.putObj (w.heap.size + 1) (.loop (rec (if jump.isNone then .ready else .done) jump))) ∧
          Z.heap[w.heap.size + 1]? = some (.loop { rec .ready none with state := .busy }) ∧
          AtY ob (Z.putObj (w.heap.size + 1) (.loop (rec (if jump.isNone then .ready else .done) jump))) (w.heap.size + 1) (.loop (rec (if jump.isNone then .ready else .done) jump)) ∧
          AtY ob (Z.putObj (w.heap.size + 1) (.loop (rec (if jump.isNone then .ready else .done) jump))) w.heap.size (.deferred (some [])) ∧
          KeptY V.heap.size kept ob W (Z.putObj (w.heap.size + 1) (.loop (rec (if jump.isNone then .ready else .done) jump))) := fun jump Z hkZ => by
        have hlZ := hkZ.keep hlY (.inl (by omega))
        have hdZ := hkZ.keep hdY (.inl (by omega))
        have hE := run_endRound (P := P) jump hlZ.at_
        rw [hrec] at hE ⊢
        refine ⟨hE, by have h := hlZ.at_; rw [hrec] at h; exact h, hlZ.put_same rfl _, hdZ.put_other hlZ.at_ rfl (by omega) _, ?_⟩
        rw [hsz]
        exact (hkX.mono (Nat.zero_le _)).trans (hXY.trans ((hkZ.mono (by omega)).trans (KeptY.putObj hlZ.ok hlZ.at_ rfl _ (by omega) hnk)))
      rintro e a3 Z hp
      cases e with
      | normal =>
        obtain ⟨hkZ, hiZ⟩ := hp
        obtain ⟨hE, hlZ, hl4, hk4, hkk⟩ := fin none Z hkZ
        exact ⟨_, _, hE, .inl ⟨rfl, ⟨hI.putObj _ hiZ (by omega) hlZ rfl, hl4, hk4⟩, hkk⟩⟩
      | ret =>
        obtain ⟨hkZ, hiZ⟩ := hp
        obtain ⟨hE, hlZ, hl4, hk4, hkk⟩ := fin (some .ret) Z hkZ
        exact ⟨_, _, hE, .inr ⟨rfl, ⟨.ret, (hIx _).putObj _ hiZ (by omega) hlZ rfl, hl4.at_, hk4.at_⟩, hkk⟩⟩
      | exit id =>
        obtain ⟨hkZ, hiZ⟩ := hp
        obtain ⟨hE, hlZ, hl4, hk4, hkk⟩ := fin (some (.exit id)) Z hkZ
        exact ⟨_, _, hE, .inr ⟨rfl, ⟨.exit id, (hIx _).putObj _ hiZ (by omega) hlZ rfl, hl4.at_, hk4.at_⟩, hkk⟩⟩
      | goto t =>
        obtain ⟨hkZ, hiZ⟩ := hp
        obtain ⟨hE, hlZ, hl4, hk4, hkk⟩ := fin (some (.goto t)) Z hkZ
        exact ⟨_, _, hE, .inr ⟨rfl, ⟨.goto t, (hIx _).putObj _ hiZ (by omega) hlZ rfl, hl4.at_, hk4.at_⟩, hkk⟩⟩
      | panic ch => exact hp.elim
      | outgrown => exact hp.elim
    · rintro e W2 ⟨⟨v, rfl⟩, (⟨xs, hS, hi, hl, hk⟩ | ⟨pre, hSp, c, hi, hl, hk⟩)⟩
      · refine ⟨none, _, by have := run_endLoop (P := P) hl.at_ (by rw [hrec]; simp); rw [hrec] at this; exact this, hdone _ xs _ (Nat.le_refl _) hS (hI.putObj _ hi (by omega) hl.at_ rfl) ((World.putObj_heap_other (by omega)).trans hk.at_)⟩
      · exact ⟨some c, _, by have := run_endLoop (P := P) hl (by rw [hrec]; simp); rw [hrec] at this; exact this, hstop _ c pre _ (Nat.le_refl _) hSp ((hIx c).putObj _ hi (by omega) hl rfl) ((World.putObj_heap_other (by omega)).trans hk)⟩
end Go
