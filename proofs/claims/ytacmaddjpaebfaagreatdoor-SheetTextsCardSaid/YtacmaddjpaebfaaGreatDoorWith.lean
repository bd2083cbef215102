/- The statements' function with: a sheet with a further note. -/
import Derived.Test.YtacmaddjpaebfaaGreatDoorLaws
import Derived.Maps.AppendAt
import Derived.Deep.AppendLies
import Derived.Deep.RegionHeld3
set_option linter.unusedSimpArgs false
set_option linter.unusedVariables false
namespace Go.Proofs.YtacmaddjpaebfaaGreatDoor
open Go Go.RowKit Hs

theorem notesC_app (l m : List Note) : notesC (l ++ m) = notesC l ++ notesC m := by simp [notesC]
theorem notesC_length (l : List Note) : (notesC l).length = l.length * 5 := by
  unfold notesC
  induction l with
  | nil => rfl
  | cons x l ih => rw [List.flatMap_cons, List.length_append, ih]; simp [noteC]; omega
theorem notesC_one (l : List Note) : ∀ u ∈ notesC l, u.oneCell' = true := by
  intro u hu
  unfold notesC at hu
  obtain ⟨x, _, hx⟩ := List.mem_flatMap.1 hu
  simp [noteC] at hx
  rcases hx with rfl | rfl | rfl | rfl | rfl <;> rfl

set_option maxRecDepth 100000 in
/-- Notes that came from anywhere are appended to a row of the call's own. -/
theorem run_notes (w : World) (ty : TypeId) (base : Nat) (v sv : Value) (xs l : List Note) (hown : w.ownsRow base 67 5 v xs.length (notesC xs)) (hl : NotesAt w.heap.size w sv l) (hb : base ≤ w.heap.size)
    (hlen : (xs.length + l.length) * 40 ≤ 140737488355328) :
    ∃ v' w', (Builtin.append_ #[23, 23] ty #[v, sv]).run Tryz.prog w = .ok v' w' ∧ w'.ownsRow base 67 5 v' (xs ++ l).length (notesC (xs ++ l)) ∧ w.grownBy w' v.ownBlock ∧ (v'.ownBlock = v.ownBlock ∨ v'.ownBlock = some w.heap.size) := by
  obtain ⟨i0, hi⟩ := info_of_underlying Tryz.underlying67
  have HI : i0.zero = some (.agg #[.int .i64 0, .int .i64 0, .int .i64 0, .int .i64 0, .int .i64 0]) ∧ i0.size = 5 ∧ i0.bytes = 40 := by
    have h := noteInfo
    rw [hi] at h
    simp at h
    exact h
  obtain ⟨_, A, c, rfl, hc⟩ := hl
  cases A with
  | none =>
    have hn : l = [] := by
      cases l with
      | nil => rfl
      | cons x l => obtain ⟨_, _, h, _⟩ := hc (by simp); cases h
    subst hn
    have hrun : (Builtin.append_ #[23, 23] ty #[v, .slice none 0 c]).run Tryz.prog w = .ok v w := by
      rcases hown.2 with ⟨rfl, h0⟩ | ⟨g, cap, cur, rfl, _, _, h1, _⟩
      · simp [Builtin.append_, run_underlying Tryz.underlying23, sizeOf, typeInfo, hi, Builtin.lenOf, Builtin.firstCells]
      · simp [Builtin.append_, run_underlying Tryz.underlying23, sizeOf, typeInfo, hi, Builtin.lenOf, Builtin.firstCells, h1, storeCells]
    exact ⟨v, w, hrun, by rw [List.append_nil]; exact hown, grown_refl w _, .inl rfl⟩
  | some ad =>
    have hcells : ∀ j u, (notesC l)[j]? = some u → w.cell? (ad.add j) = some u := by
      intro j u hu
      have hj : j < (notesC l).length := (List.getElem?_eq_some_iff.1 hu).1
      rw [notesC_length] at hj
      have hne : l ≠ [] := by rintro rfl; simp at hj
      obtain ⟨b, o, e, _, hk⟩ := hc hne
      injection e with e
      subst e
      obtain ⟨k0, k1, k2, k3, k4⟩ := hk (j / 5) (by omega)
      rw [Go.WideShapes.add_plain]
      have hg := notesC_get l (j / 5) (by omega) (j % 5) (Nat.mod_lt _ (by omega))
      rw [show j / 5 * 5 + j % 5 = j by omega, hu] at hg
      have hm : j % 5 = 0 ∨ j % 5 = 1 ∨ j % 5 = 2 ∨ j % 5 = 3 ∨ j % 5 = 4 := by omega
      rcases hm with m | m | m | m | m <;> rw [m] at hg <;> simp [noteC] at hg <;> subst hg
      · rw [show o + j = o + j / 5 * 5 by omega]; exact k0
      · rw [show o + j = o + j / 5 * 5 + 1 by omega]; exact k1
      · rw [show o + j = o + j / 5 * 5 + 2 by omega]; exact k2
      · rw [show o + j = o + j / 5 * 5 + 3 by omega]; exact k3
      · rw [show o + j = o + j / 5 * 5 + 4 by omega]; exact k4
    obtain ⟨v', w', h1, h2, h3, _, h5⟩ := run_append_own_at (P := Tryz.prog) w base 23 ty 67 i0 _ 5 40 Tryz.underlying23 hi HI.1 HI.2.1 HI.2.2 rfl (by decide) v xs.length (notesC xs) hown ad l.length c (notesC l) (notesC_length l) hcells (notesC_one l)
      (by unfold maxLen; omega) hlen hb
    exact ⟨v', w', h1, by rw [notesC_app, List.length_append]; exact h2, h3, h5⟩

/-- ... at the step of a region that draws its order. -/
theorem step_notes {ops : Array Oper} {o : Oper} {a : Act} {K : Act → World → Prop} {Q : Exit → Act → World → Prop} {E : Prop} {w : World} (hgd : o.guard = none) (s x : Operand)
    (ho : o.op = .call { callee := .builtin .append, args := #[s, x], argTypes := #[23, 23] })
    (base : Nat) (v sv : Value) (xs l : List Note) (hs : a.eval s = v) (hx : a.eval x = sv) (hown : w.ownsRow base 67 5 v xs.length (notesC xs)) (hl : NotesAt w.heap.size w sv l) (hb : base ≤ w.heap.size)
    (hlen : (xs.length + l.length) * 40 ≤ 140737488355328)
    (h : ∀ v' w', w'.ownsRow base 67 5 v' (xs ++ l).length (notesC (xs ++ l)) → w.grownBy w' v.ownBlock → (∀ k, v.ownBlock = some k → base ≤ k) → K (a.put o.dst v') w') :
    if Region.wanted o (yielded ops a.tmps) = true then Oper.wp Tryz.prog o a w K Q else E := by
  rw [if_pos (by simp [Region.wanted, hgd])]
  obtain ⟨v', w', hrun, h2, h3, h4⟩ := run_notes w o.type base v sv xs l hown hl hb hlen
  unfold Oper.wp execOp
  simp only [ho, resolve, invoke, builtin, Sem.run_bind, Sem.run_pure, Result.andThen_ok, List.map_toArray, List.map_cons, List.map_nil, hs, hx, hrun]
  exact h v' w' h2 h3 (fun k hk => (hown.lt k hk).1)

theorem keep7 {W w w' : World} {b1 b2 : Nat} {v1 v2 v3 v4 v5 v6 : Value} (h : w.cell? ⟨b1, 2, none⟩ = some v1 ∧ w.cell? ⟨b2, 0, none⟩ = some v2 ∧ w.cell? ⟨b2, 1, none⟩ = some v3 ∧ w.cell? ⟨b2, 2, none⟩ = some v4 ∧ w.cell? ⟨b2, 3, none⟩ = some v5 ∧ w.cell? ⟨b2, 4, none⟩ = some v6 ∧ w.frozen? ⟨b1, 2, none⟩ = false ∧ Hid (Below W.heap.size W w)) (h1 : b1 < W.heap.size) (h2 : b2 < W.heap.size) (hb : Below W.heap.size w w') :
    w'.cell? ⟨b1, 2, none⟩ = some v1 ∧ w'.cell? ⟨b2, 0, none⟩ = some v2 ∧ w'.cell? ⟨b2, 1, none⟩ = some v3 ∧ w'.cell? ⟨b2, 2, none⟩ = some v4 ∧ w'.cell? ⟨b2, 3, none⟩ = some v5 ∧ w'.cell? ⟨b2, 4, none⟩ = some v6 ∧ w'.frozen? ⟨b1, 2, none⟩ = false ∧ Hid (Below W.heap.size W w') := by
  obtain ⟨c1, c2, c3, c4, c5, c6, cf, c7⟩ := h
  exact ⟨(hb.cell (p := ⟨b1, 2, none⟩) h1).trans c1, (hb.cell (p := ⟨b2, 0, none⟩) h2).trans c2, (hb.cell (p := ⟨b2, 1, none⟩) h2).trans c3, (hb.cell (p := ⟨b2, 2, none⟩) h2).trans c4, (hb.cell (p := ⟨b2, 3, none⟩) h2).trans c5, (hb.cell (p := ⟨b2, 4, none⟩) h2).trans c6, (hb.frozen (p := ⟨b1, 2, none⟩) h1).trans cf, c7.out.trans hb⟩
theorem s7 {p1 p2 p3 p4 p5 p6 pf p7 : Prop} (h : p1 ∧ p2 ∧ p3 ∧ p4 ∧ p5 ∧ p6 ∧ pf ∧ Hid p7) : p7 := h.2.2.2.2.2.2.2
theorem nts7 {p1 p2 p3 p4 p5 p6 pf : Prop} {W w' : World} {nv : Value} {l : List Note} (HN : Hid (NotesAt W.heap.size W nv l)) (h : p1 ∧ p2 ∧ p3 ∧ p4 ∧ p5 ∧ p6 ∧ pf ∧ Hid (Below W.heap.size W w')) : NotesAt w'.heap.size w' nv l := (HN.out.below (s7 h)).mono (s7 h).size
theorem made_at (w : World) (n base : Nat) (hn : n = w.heap.size) (hb : base ≤ w.heap.size) : (w.alloc (.cells #[] 67)).ownsRow base 67 5 (.slice (some ⟨n, 0, none⟩) 0 0) 0 [] := by
  subst hn
  exact World.ownsRow_made w #[] 0 hb (by decide) rfl
theorem ntsB {W w' : World} {nv : Value} {l : List Note} (HN : Hid (NotesAt W.heap.size W nv l)) (h : Below W.heap.size W w') : NotesAt w'.heap.size w' nv l := (HN.out.below h).mono h.size
theorem siz7 {p1 p2 p3 p4 p5 p6 pf : Prop} {W w' : World} (h : p1 ∧ p2 ∧ p3 ∧ p4 ∧ p5 ∧ p6 ∧ pf ∧ Hid (Below W.heap.size W w')) : W.heap.size ≤ w'.heap.size := (s7 h).size
theorem keep7a {W w : World} {b1 b2 : Nat} {v1 v2 v3 v4 v5 v6 : Value} (h : w.cell? ⟨b1, 2, none⟩ = some v1 ∧ w.cell? ⟨b2, 0, none⟩ = some v2 ∧ w.cell? ⟨b2, 1, none⟩ = some v3 ∧ w.cell? ⟨b2, 2, none⟩ = some v4 ∧ w.cell? ⟨b2, 3, none⟩ = some v5 ∧ w.cell? ⟨b2, 4, none⟩ = some v6 ∧ w.frozen? ⟨b1, 2, none⟩ = false ∧ Hid (Below W.heap.size W w)) (h1 : b1 < W.heap.size) (h2 : b2 < W.heap.size) (o : Obj) :
    (w.alloc o).cell? ⟨b1, 2, none⟩ = some v1 ∧ (w.alloc o).cell? ⟨b2, 0, none⟩ = some v2 ∧ (w.alloc o).cell? ⟨b2, 1, none⟩ = some v3 ∧ (w.alloc o).cell? ⟨b2, 2, none⟩ = some v4 ∧ (w.alloc o).cell? ⟨b2, 3, none⟩ = some v5 ∧ (w.alloc o).cell? ⟨b2, 4, none⟩ = some v6 ∧ (w.alloc o).frozen? ⟨b1, 2, none⟩ = false ∧ Hid (Below W.heap.size W (w.alloc o)) := keep7 h h1 h2 ((Below.refl _ _).alloc h.2.2.2.2.2.2.2.out.size o)
theorem keep7g {W w w' : World} {b1 b2 : Nat} {v1 v2 v3 v4 v5 v6 : Value} (h : w.cell? ⟨b1, 2, none⟩ = some v1 ∧ w.cell? ⟨b2, 0, none⟩ = some v2 ∧ w.cell? ⟨b2, 1, none⟩ = some v3 ∧ w.cell? ⟨b2, 2, none⟩ = some v4 ∧ w.cell? ⟨b2, 3, none⟩ = some v5 ∧ w.cell? ⟨b2, 4, none⟩ = some v6 ∧ w.frozen? ⟨b1, 2, none⟩ = false ∧ Hid (Below W.heap.size W w)) (h1 : b1 < W.heap.size) (h2 : b2 < W.heap.size) {row : Option Nat} (hg : w.grownBy w' row) (hrow : ∀ k, row = some k → W.heap.size ≤ k) :
    w'.cell? ⟨b1, 2, none⟩ = some v1 ∧ w'.cell? ⟨b2, 0, none⟩ = some v2 ∧ w'.cell? ⟨b2, 1, none⟩ = some v3 ∧ w'.cell? ⟨b2, 2, none⟩ = some v4 ∧ w'.cell? ⟨b2, 3, none⟩ = some v5 ∧ w'.cell? ⟨b2, 4, none⟩ = some v6 ∧ w'.frozen? ⟨b1, 2, none⟩ = false ∧ Hid (Below W.heap.size W w') := keep7 h h1 h2 ((Below.refl _ _).grown hg h.2.2.2.2.2.2.2.out.size hrow)

theorem one_notes {w : World} {g : Nat} {k a b lo hi : Int} (h : w.heap[g]? = some (.cells #[.int .i64 k, .int .i64 a, .int .i64 b, .int .i64 lo, .int .i64 hi] 67 (0, 0))) : NotesAt w.heap.size w (.slice (some ⟨g, 0, none⟩) 1 1) [⟨k, a, b, lo, hi⟩] := by
  refine ⟨by simp, some ⟨g, 0, none⟩, 1, rfl, fun _ => ⟨g, 0, rfl, lt_of_block h, fun j hj => ?_⟩⟩
  obtain rfl : j = 0 := by simpa using hj
  exact ⟨cellOf h 0 _ rfl, cellOf h 1 _ rfl, cellOf h 2 _ rfl, cellOf h 3 _ rfl, cellOf h 4 _ rfl⟩
theorem below_ad {B : Nat} (w : World) (o : Obj) (h : B ≤ w.heap.size) : Below B w.drew (w.alloc o).drew :=
  have b := (Below.refl B w).alloc h o
  ⟨b.os, b.tape, b.output, b.size, b.block⟩
theorem keep7ad {W w : World} {b1 b2 : Nat} {v1 v2 v3 v4 v5 v6 : Value} (h : w.drew.cell? ⟨b1, 2, none⟩ = some v1 ∧ w.drew.cell? ⟨b2, 0, none⟩ = some v2 ∧ w.drew.cell? ⟨b2, 1, none⟩ = some v3 ∧ w.drew.cell? ⟨b2, 2, none⟩ = some v4 ∧ w.drew.cell? ⟨b2, 3, none⟩ = some v5 ∧ w.drew.cell? ⟨b2, 4, none⟩ = some v6 ∧ w.drew.frozen? ⟨b1, 2, none⟩ = false ∧ Hid (Below W.heap.size W w.drew)) (h1 : b1 < W.heap.size) (h2 : b2 < W.heap.size) (o : Obj) :
    (w.alloc o).drew.cell? ⟨b1, 2, none⟩ = some v1 ∧ (w.alloc o).drew.cell? ⟨b2, 0, none⟩ = some v2 ∧ (w.alloc o).drew.cell? ⟨b2, 1, none⟩ = some v3 ∧ (w.alloc o).drew.cell? ⟨b2, 2, none⟩ = some v4 ∧ (w.alloc o).drew.cell? ⟨b2, 3, none⟩ = some v5 ∧ (w.alloc o).drew.cell? ⟨b2, 4, none⟩ = some v6 ∧ (w.alloc o).drew.frozen? ⟨b1, 2, none⟩ = false ∧ Hid (Below W.heap.size W (w.alloc o).drew) := keep7 h h1 h2 (below_ad w o h.2.2.2.2.2.2.2.out.size)
theorem below_gd {B : Nat} {w w' : World} {row : Option Nat} (hg : w.grownBy w' row) (h : B ≤ w.heap.size) (hrow : ∀ k, row = some k → B ≤ k) : Below B w w'.drew :=
  ((Below.refl B w).grown hg h hrow).drew
theorem keep7gd {W w w' : World} {b1 b2 : Nat} {v1 v2 v3 v4 v5 v6 : Value} (h : w.cell? ⟨b1, 2, none⟩ = some v1 ∧ w.cell? ⟨b2, 0, none⟩ = some v2 ∧ w.cell? ⟨b2, 1, none⟩ = some v3 ∧ w.cell? ⟨b2, 2, none⟩ = some v4 ∧ w.cell? ⟨b2, 3, none⟩ = some v5 ∧ w.cell? ⟨b2, 4, none⟩ = some v6 ∧ w.frozen? ⟨b1, 2, none⟩ = false ∧ Hid (Below W.heap.size W w)) (h1 : b1 < W.heap.size) (h2 : b2 < W.heap.size) {row : Option Nat} (hg : w.grownBy w' row) (hrow : ∀ k, row = some k → W.heap.size ≤ k) :
    w'.drew.cell? ⟨b1, 2, none⟩ = some v1 ∧ w'.drew.cell? ⟨b2, 0, none⟩ = some v2 ∧ w'.drew.cell? ⟨b2, 1, none⟩ = some v3 ∧ w'.drew.cell? ⟨b2, 2, none⟩ = some v4 ∧ w'.drew.cell? ⟨b2, 3, none⟩ = some v5 ∧ w'.drew.cell? ⟨b2, 4, none⟩ = some v6 ∧ w'.drew.frozen? ⟨b1, 2, none⟩ = false ∧ Hid (Below W.heap.size W w'.drew) := keep7 h h1 h2 (below_gd hg h.2.2.2.2.2.2.2.out.size hrow)

set_option maxRecDepth 100000 in
set_option maxHeartbeats 2000000 in
theorem lwith_any (s : Sheet) (pv nv : Value) (x : Note) (w : World) (hS : SheetAt w.heap.size w pv nv s) (hlen : s.notes.length * 40 ≤ 140737488351232) :
    Calls Tryz.prog 46 #[.agg #[.int .i64 s.iv, pv, nv], noteV x] w fun e w' => ∃ nv', e = .returned (.agg #[.int .i64 s.iv, pv, nv']) ∧ SheetAt w'.heap.size w' pv nv' ⟨s.iv, s.pts, s.notes ++ [x]⟩ ∧ Below w.heap.size w w' := by
  obtain ⟨iv, pts, notes⟩ := s
  obtain ⟨k, a, b, lo, hi⟩ := x
  simp only at hS hlen ⊢
  go_enter Tryz.func46, Tryz.ntmps46
  go_wp2_with fail
  have hN := hS.notes
  obtain ⟨ln, na, nc, rfl, _⟩ := id hN
  obtain ⟨lp, pa, pc, rfl, _⟩ := id hS.pts
  simp only at *
  have hBW : Below w.heap.size w (((w.alloc (Obj.cells #[.int .i64 iv, .slice pa pts.length pc, .slice na notes.length nc] 25)).alloc (Obj.cells #[.int .i64 k, .int .i64 a, .int .i64 b, .int .i64 lo, .int .i64 hi] 67)).alloc (Obj.cells #[.int .i64 0, .slice none 0 0, .slice none 0 0] 25)) := by go_grown
  have hA : (((w.alloc (Obj.cells #[.int .i64 iv, .slice pa pts.length pc, .slice na notes.length nc] 25)).alloc (Obj.cells #[.int .i64 k, .int .i64 a, .int .i64 b, .int .i64 lo, .int .i64 hi] 67)).alloc (Obj.cells #[.int .i64 0, .slice none 0 0, .slice none 0 0] 25)).heap[w.heap.size]? = some (.cells #[.int .i64 iv, .slice pa pts.length pc, .slice na notes.length nc] 25 (0, 0)) :=
    (Below.heap_alloc _ _ _ (by simp; omega)).trans (heap_alloc2_old w _ _)
  have hX : (((w.alloc (Obj.cells #[.int .i64 iv, .slice pa pts.length pc, .slice na notes.length nc] 25)).alloc (Obj.cells #[.int .i64 k, .int .i64 a, .int .i64 b, .int .i64 lo, .int .i64 hi] 67)).alloc (Obj.cells #[.int .i64 0, .slice none 0 0, .slice none 0 0] 25)).heap[w.heap.size + 1]? = some (.cells #[.int .i64 k, .int .i64 a, .int .i64 b, .int .i64 lo, .int .i64 hi] 67 (0, 0)) :=
    (Below.heap_alloc _ _ _ (by simp)).trans (heap_alloc2_new w _ _)
  have hR : (((w.alloc (Obj.cells #[.int .i64 iv, .slice pa pts.length pc, .slice na notes.length nc] 25)).alloc (Obj.cells #[.int .i64 k, .int .i64 a, .int .i64 b, .int .i64 lo, .int .i64 hi] 67)).alloc (Obj.cells #[.int .i64 0, .slice none 0 0, .slice none 0 0] 25)).heap[w.heap.size + 1 + 1]? = some (.cells #[.int .i64 0, .slice none 0 0, .slice none 0 0] 25 (0, 0)) := by
    have := heap_alloc_new ((w.alloc (Obj.cells #[.int .i64 iv, .slice pa pts.length pc, .slice na notes.length nc] 25)).alloc (Obj.cells #[.int .i64 k, .int .i64 a, .int .i64 b, .int .i64 lo, .int .i64 hi] 67)) (Obj.cells #[.int .i64 0, .slice none 0 0, .slice none 0 0] 25)
    simpa using this
  generalize (((w.alloc (Obj.cells #[.int .i64 iv, .slice pa pts.length pc, .slice na notes.length nc] 25)).alloc (Obj.cells #[.int .i64 k, .int .i64 a, .int .i64 b, .int .i64 lo, .int .i64 hi] 67)).alloc (Obj.cells #[.int .i64 0, .slice none 0 0, .slice none 0 0] 25)) = W at *
  have c2 := cellOf hA 2 _ rfl
  have f2 := frozen_of_row _ _ 2 _ _ hA
  have x0 := cellOf hX 0 _ rfl
  have x1 := cellOf hX 1 _ rfl
  have x2 := cellOf hX 2 _ rfl
  have x3 := cellOf hX 3 _ rfl
  have x4 := cellOf hX 4 _ rfl
  have HA := Lib.hid hA
  have HX := Lib.hid hX
  have HR := Lib.hid hR
  have HB := Lib.hid hBW
  have HN := Lib.hid ((hN.below hBW).mono hBW.size)
  have HS := Lib.hid hS
  have hRlt := lt_of_block hR
  have hAlt := lt_of_block hA
  have hXlt := lt_of_block hX
  clear hA hX hR hBW hN hS
  clear c2 x0 x1 x2 x3 x4 f2
  have c2 := cellOf HA.out 2 _ rfl
  have f2 := frozen_of_row _ _ 2 _ _ HA.out
  have x0 := cellOf HX.out 0 _ rfl
  have x1 := cellOf HX.out 1 _ rfl
  have x2 := cellOf HX.out 2 _ rfl
  have x3 := cellOf HX.out 3 _ rfl
  have x4 := cellOf HX.out 4 _ rfl
  go_region_law (first
      | (refine step_notes (o := ⟨some 8, _, _, _, _, _⟩) (by rfl) _ _ (by rfl) W.heap.size (.slice (some ⟨_, 0, none⟩) 0 0) _ [] notes (by rfl) (by rfl) (by first | exact made_at _ _ _ (by simp) (by simp) | exact (made_at _ _ _ (by simp) (by simp)).alloc _) (ntsB HN (by go_grown)) (by first | (simp; done) | (simp; omega)) (by simp; omega) ?_; intro v1 w1 ho1 hg1 hl1; have HB1 : Hid (Below W.heap.size W w1) := Below.grown (by go_grown) hg1 (by first | (simp; done) | (simp; omega)) hl1; have HX1 := Lib.hid ((HB1.out.block _ hXlt).trans HX.out); have y0 := cellOf HX1.out 0 _ rfl; have y1 := cellOf HX1.out 1 _ rfl; have y2 := cellOf HX1.out 2 _ rfl; have y3 := cellOf HX1.out 3 _ rfl; have y4 := cellOf HX1.out 4 _ rfl)
      | (refine step_notes (o := ⟨some 11, _, _, _, _, _⟩) (by rfl) _ _ (by rfl) W.heap.size _ _ notes [⟨k, a, b, lo, hi⟩] (by rfl) (by rfl) (by first | exact ho1 | exact ho1.alloc _) (by first | exact one_notes (heap_alloc_new _ _) | exact one_notes ((hg1.block _ (by first | (simp; done) | (simp; omega)) (by simp [Value.ownBlock])).trans (heap_alloc2_new _ _ _)) | exact one_notes ((hg1.block _ (by first | (simp; done) | (simp; omega)) (by simp [Value.ownBlock])).trans (heap_alloc2_old _ _ _))) (by have := HB1.out.size; first | (simp; done) | (simp; omega) | omega) (by simp; omega) ?_; intro v2 w2 ho2 hg2 hl2; obtain ⟨sa, sc, rfl⟩ := own_slice ho2; have HB2 : Hid (Below W.heap.size W w2) := (by first | exact (HB1.out).grown hg2 HB1.out.size hl2 | exact (HB1.out.alloc HB1.out.size _).grown hg2 (by have := HB1.out.size; simp; omega) hl2); have HA2 := Lib.hid ((HB2.out.block _ hAlt).trans HA.out); have c22 := cellOf HA2.out 2 _ rfl; have f22 := frozen_of_row _ _ 2 _ _ HA2.out))
  all_goals
    have hl : (notes ++ [(⟨k, a, b, lo, hi⟩ : Note)]).length = notes.length + 1 := by simp
    rw [hl] at ho2
    have hA3 := heap_setCell_same w2 w.heap.size 2 _ _ (.slice sa (notes.length + 1) sc) HA2.out
    have hR3 := (heap_setCell_other w2 ⟨w.heap.size, 2, none⟩ (w.heap.size + 1 + 1) (.slice sa (notes.length + 1) sc) (by simp; omega)).trans ((HB2.out.block _ hRlt).trans HR.out)
    have ho3 := own_other ho2 ⟨w.heap.size, 2, none⟩ hAlt (.slice sa (notes.length + 1) sc)
    have hB3 := (HB.out.trans (HB2.out.mono HB.out.size)).setCell (p := ⟨w.heap.size, 2, none⟩) (Nat.le_refl _) (.slice sa (notes.length + 1) sc)
    clear ho1 hg1 hl1 ho2 hg2 hl2 y0 y1 y2 y3 y4 x0 x1 x2 x3 x4 c2 f2 c22 f22 HA2 HX1
    generalize w2.setCell ⟨w.heap.size, 2, none⟩ (.slice sa (notes.length + 1) sc) = w3 at *
    have a0 := cellOf hA3 0 _ rfl
    have a1 := cellOf hA3 1 _ rfl
    have a2 := cellOf hA3 2 _ rfl
    have r0 := cellOf hR3 0 _ rfl
    have r1 := cellOf hR3 1 _ rfl
    have r2 := cellOf hR3 2 _ rfl
    have f0 := frozen_of_row _ _ 0 _ _ hR3
    have f1 := frozen_of_row _ _ 1 _ _ hR3
    have f2 := frozen_of_row _ _ 2 _ _ hR3
    have HR3 := Lib.hid hR3
    have HB3 := Lib.hid hB3
    have HO3 := Lib.hid ho3
    have HLE := Lib.hid hl
    clear hA3 hR3 hB3 ho3 hl
    go_wp2_with fail
    have hC := heap_setCell_same _ (w.heap.size + 1 + 1) 2 _ _ (.slice sa (notes.length + 1) sc) (heap_setCell_same _ (w.heap.size + 1 + 1) 1 _ _ (.slice pa pts.length pc) (heap_setCell_same _ (w.heap.size + 1 + 1) 0 _ _ (.int .i64 iv) HR3.out))
    have hO := own_other (own_other (own_other HO3.out ⟨w.heap.size + 1 + 1, 0, none⟩ hRlt (.int .i64 iv)) ⟨w.heap.size + 1 + 1, 1, none⟩ hRlt (.slice pa pts.length pc)) ⟨w.heap.size + 1 + 1, 2, none⟩ hRlt (.slice sa (notes.length + 1) sc)
    have hBB := ((HB3.out.setCell (p := ⟨w.heap.size + 1 + 1, 0, none⟩) (by simp; omega) (.int .i64 iv)).setCell (p := ⟨w.heap.size + 1 + 1, 1, none⟩) (by simp; omega) (.slice pa pts.length pc)).setCell (p := ⟨w.heap.size + 1 + 1, 2, none⟩) (by simp; omega) (.slice sa (notes.length + 1) sc)
    refine bodyPost_ret (results_cell_row rfl _ _ (w.heap.size + 1 + 1) 25 _ (0, 0) _ rfl hC Tryz.underlying25 rfl (by kernel_rfl)) rfl ⟨_, rfl, ?_, hBB⟩
    exact ⟨(HS.out.pts.below hBB).mono hBB.size, notesAt_own (l := notes ++ [⟨k, a, b, lo, hi⟩]) (by rw [HLE.out]; exact hO) (by simp; omega), HS.out.sz⟩
end Go.Proofs.YtacmaddjpaebfaaGreatDoor
