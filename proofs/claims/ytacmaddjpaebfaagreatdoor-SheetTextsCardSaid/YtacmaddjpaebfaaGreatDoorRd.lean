/- The reader of package sheet: its state; words and numbers. -/
import Derived.Test.YtacmaddjpaebfaaGreatDoorTxt
import Derived.Test.YtacmaddjpaebfaaGreatDoorFew
import Derived.Deep.RegionWith
import Derived.RegionTactic
import Derived.BigRegion
set_option linter.unusedSimpArgs false
set_option linter.unusedVariables false
namespace Go.Proofs.YtacmaddjpaebfaaGreatDoor
open Go Go.RowKit Go.Maps Go.WideMaps Hs

/-- What was read so far. -/
structure Rd where
  iv : Int
  pts : List ByteArray
  notes : List Note
/-- The last index of a name, behind a number of others. -/
def idxK (key : List UInt8) : List ByteArray → Nat → Option Nat
  | [], _ => none
  | p :: r, k => match idxK key r (k + 1) with
    | some i => some i
    | none => if p.data.toList = key then some k else none
def idxOf (pts : List ByteArray) (key : List UInt8) : Option Nat := idxK key pts 0
theorem idxK_snoc (key : List UInt8) (p : ByteArray) : ∀ (l : List ByteArray) (k : Nat), idxK key (l ++ [p]) k = if p.data.toList = key then some (k + l.length) else idxK key l k
  | [], k => by simp [idxK]
  | q :: l, k => by
    have ih := idxK_snoc key p l (k + 1)
    show (match idxK key (l ++ [p]) (k + 1) with | some i => some i | none => if q.data.toList = key then some k else none) = _
    rw [ih]
    by_cases h : p.data.toList = key
    · rw [if_pos h, if_pos h]; simp; omega
    · rw [if_neg h, if_neg h]; rfl
theorem idxOf_snoc (pts : List ByteArray) (p : ByteArray) (key : List UInt8) : idxOf (pts ++ [p]) key = if p.data.toList = key then some pts.length else idxOf pts key := by
  unfold idxOf
  rw [idxK_snoc]
  simp

/-- A block is a map of names to their indices. -/
def IdxAt (w : World) (b : Nat) (pts : List ByteArray) : Prop :=
  ∃ D : DataW Unit, w.ownsMap Tryz.prog 9 (plainElem Tryz.prog 3) b pts.length D ∧ IsMap D ∧ ∀ key : List UInt8,
    D.atKey (.string key) (.lit (.int .i64 0)) = .lit (.int .i64 (((idxOf pts key).getD 0 : Nat) : Int)) ∧ Maps.has D (.string key) = (idxOf pts key).isSome
theorem IdxAt.lt {w : World} {b : Nat} {l : List ByteArray} (h : IdxAt w b l) : b < w.heap.size := by obtain ⟨D, h1, _⟩ := h; exact h1.lt
theorem IdxAt.kept {w w' : World} {b : Nat} {l : List ByteArray} (h : IdxAt w b l) {row : Option Nat} (hg : w.grownBy w' row) (hne : some b ≠ row) : IdxAt w' b l := by
  obtain ⟨D, h1, h2, h3⟩ := h
  exact ⟨D, h1.kept hg hne, h2, h3⟩
theorem IdxAt.made (w : World) : IdxAt (w.alloc (.map #[] 0)) w.heap.size [] := by
  refine ⟨.map [], World.ownsMap_made _ _ _ _, ⟨_, rfl⟩, fun key => ?_⟩
  simp [DataW.atKey, idxOf, idxK, Maps.has]

/-- A slice reads as a list of words. -/
def WordsAt (B1 B2 : Nat) (w : World) (a : Option Addr) (c : Nat) (ws : List ByteArray) : Prop :=
  ws.length ≤ c ∧ c ≤ 4000000 ∧ (ws ≠ [] → ∃ b o, a = some ⟨b, o, none⟩ ∧ B1 ≤ b ∧ b < B2 ∧ ∀ (j : Nat) x, ws[j]? = some x → w.cell? ⟨b, o + j, none⟩ = some (.string x))
theorem WordsAt.cells {B1 B2 : Nat} {w w' : World} {a : Option Addr} {c : Nat} {ws : List ByteArray} (h : WordsAt B1 B2 w a c ws) (hk : ∀ b o v, B1 ≤ b → b < B2 → w.cell? ⟨b, o, none⟩ = some v → w'.cell? ⟨b, o, none⟩ = some v) : WordsAt B1 B2 w' a c ws := by
  refine ⟨h.1, h.2.1, fun hne => ?_⟩
  obtain ⟨b, o, e, hb, hl, hc⟩ := h.2.2 hne
  exact ⟨b, o, e, hb, hl, fun j x hj => hk _ _ _ hb hl (hc j x hj)⟩

/-- The state of the reader in memory. -/
structure RdSt (B0 B1 B2 Br Bm : Nat) (r : Rd) (ws : List ByteArray) (w : World) : Prop where
  row : ∃ pa pc na nc wa wc, w.heap[Br]? = some (.cells #[.int .i64 r.iv, .slice pa r.pts.length pc, .slice na r.notes.length nc, .map (some Bm), .slice wa ws.length wc] 119 (0, 0)) ∧
    w.ownsRow B1 9 1 (.slice pa r.pts.length pc) r.pts.length (r.pts.map Value.string) ∧ w.ownsRow B1 67 5 (.slice na r.notes.length nc) r.notes.length (notesC r.notes) ∧ WordsAt B1 B2 w wa wc ws ∧
    (∀ k, (Value.slice pa r.pts.length pc).ownBlock = some k → k < B2) ∧ (∀ k, (Value.slice na r.notes.length nc).ownBlock = some k → k < B2)
  map : IdxAt w Bm r.pts
  b0r : B0 ≤ Br
  b0m : B0 ≤ Bm
  r1 : Br < B1
  m1 : Bm < B1
  ne : Br ≠ Bm
  b1 : B1 ≤ w.heap.size
  small : r.pts.length ≤ 2000 ∧ r.notes.length ≤ 2000
  b2 : B2 ≤ w.heap.size
  b12 : B1 ≤ B2

theorem cell_grown_row {w w' : World} {row : Option Nat} (hg : w.grownBy w' row) {b o : Nat} {v : Value} (hb : row ≠ some b) (hc : w.cell? ⟨b, o, none⟩ = some v) : w'.cell? ⟨b, o, none⟩ = some v :=
  (World.cell?_of_block (w := w) (hg.block b (World.block_lt_of_cell? w ⟨b, o, none⟩ hc) (fun e => hb e.symm))).trans hc
theorem RdSt.below {B0 B1 B2 Br Bm : Nat} {r : Rd} {ws : List ByteArray} {w w' : World} (h : RdSt B0 B1 B2 Br Bm r ws w) (hb : Below w.heap.size w w') : RdSt B0 B1 B2 Br Bm r ws w' := by
  obtain ⟨pa, pc, na, nc, wa, wc, h1, h2, h3, h4, h5, h6⟩ := h.row
  have hg := below_grownBy hb
  exact ⟨⟨pa, pc, na, nc, wa, wc, (hb.block _ (lt_of_block h1)).trans h1, own_below h2 hb, own_below h3 hb, h4.cells (fun b o v _ _ hc => cell_grown_row hg (by simp) hc), h5, h6⟩, h.map.kept hg (by simp), h.b0r, h.b0m, h.r1, h.m1, h.ne, Nat.le_trans h.b1 hb.size, h.small, Nat.le_trans h.b2 hb.size, h.b12⟩
theorem set_cell_other (w : World) (a : Addr) (u : Value) {b o : Nat} {v : Value} (hb : b ≠ a.block) (hc : w.cell? ⟨b, o, none⟩ = some v) : (w.setCell a u).cell? ⟨b, o, none⟩ = some v := by
  rw [World.cell?_of_block (w := w) (Below.heap_setCell _ _ _ _ hb)]; exact hc
theorem own_set {w : World} {B1 e s n : Nat} {v : Value} {xs : List Value} (h : w.ownsRow B1 e s v n xs) (a : Addr) (u : Value) (hne : ∀ k, v.ownBlock = some k → k ≠ a.block) : (w.setCell a u).ownsRow B1 e s v n xs :=
  h.kept (row := some a.block) ⟨rfl, rfl, rfl, by simp, fun i hi hn => Below.heap_setCell _ _ _ _ (by simpa using hn)⟩ (by
    rcases hv : v.ownBlock with _ | k
    · exact .inl rfl
    · right; intro e; simp at e; exact hne k hv e)
/-- The words that are left are others. -/
theorem RdSt.setWords {B0 B1 B2 Br Bm : Nat} {r : Rd} {ws ws' : List ByteArray} {w : World} (h : RdSt B0 B1 B2 Br Bm r ws w) (a : Option Addr) (n c : Nat) (hn : n = ws'.length) (hw : WordsAt B1 B2 w a c ws') : RdSt B0 B1 B2 Br Bm r ws' (w.setCell ⟨Br, 4, none⟩ (.slice a n c)) := by
  subst hn
  obtain ⟨pa, pc, na, nc, wa, wc, h1, h2, h3, h4, h5, h6⟩ := h.row
  have hr1 := h.r1
  refine ⟨⟨pa, pc, na, nc, a, c, heap_setCell_same w Br 4 _ _ _ h1, own_other h2 _ h.r1 _, own_other h3 _ h.r1 _, hw.cells (fun b o v hb _ hc => set_cell_other w _ _ (by simp; omega) hc), h5, h6⟩, ?_, h.b0r, h.b0m, h.r1, h.m1, h.ne, by simpa using h.b1, h.small, by simpa using h.b2, h.b12⟩
  exact h.map.kept (row := some Br) ⟨rfl, rfl, rfl, by simp, fun i hi hne => Below.heap_setCell _ _ _ _ (by simpa using hne)⟩ (by have := h.ne; simpa using fun e => this e.symm)
/-- A cell beyond is written. -/
theorem RdSt.setOther {B0 B1 B2 Br Bm : Nat} {r : Rd} {ws : List ByteArray} {w : World} (h : RdSt B0 B1 B2 Br Bm r ws w) (b i : Nat) (u : Value) (hb : B2 ≤ b) : RdSt B0 B1 B2 Br Bm r ws (w.setCell ⟨b, i, none⟩ u) := by
  obtain ⟨pa, pc, na, nc, wa, wc, h1, h2, h3, h4, h5, h6⟩ := h.row
  have hr1 := h.r1
  have hm1 := h.m1
  have h12 := h.b12
  refine ⟨⟨pa, pc, na, nc, wa, wc, (heap_setCell_other w _ _ _ (by simp; omega)).trans h1, own_set h2 _ _ (fun k hk => by have := h5 k hk; simp; omega), own_set h3 _ _ (fun k hk => by have := h6 k hk; simp; omega), h4.cells (fun b' o v _ hl hc => set_cell_other w _ _ (by simp; omega) hc), h5, h6⟩, ?_, h.b0r, h.b0m, h.r1, h.m1, h.ne, by simpa using h.b1, h.small, by simpa using h.b2, h.b12⟩
  exact h.map.kept (row := some b) ⟨rfl, rfl, rfl, by simp, fun j hj hne => Below.heap_setCell _ _ _ _ (by simpa using hne)⟩ (by simp; omega)

/-- Below B1 nothing has turned but two blocks. -/
structure Kb (B1 Br Bm : Nat) (w w' : World) : Prop where
  os : w'.os = w.os
  tape : w'.tape = w.tape
  output : w'.output = w.output
  size : w.heap.size ≤ w'.heap.size
  block : ∀ k, k < B1 → k ≠ Br → k ≠ Bm → w'.heap[k]? = w.heap[k]?
theorem Kb.refl {B1 Br Bm : Nat} (w : World) : Kb B1 Br Bm w w := ⟨rfl, rfl, rfl, Nat.le_refl _, fun _ _ _ _ => rfl⟩
theorem Kb.trans {B1 Br Bm : Nat} {a b c : World} (h : Kb B1 Br Bm a b) (k : Kb B1 Br Bm b c) : Kb B1 Br Bm a c :=
  ⟨k.os.trans h.os, k.tape.trans h.tape, k.output.trans h.output, Nat.le_trans h.size k.size, fun i hi h1 h2 => (k.block i hi h1 h2).trans (h.block i hi h1 h2)⟩
theorem Kb.of_below {B1 Br Bm n : Nat} {w w' : World} (h : Below n w w') (hn : B1 ≤ n) : Kb B1 Br Bm w w' := ⟨h.os, h.tape, h.output, h.size, fun k hk _ _ => h.block k (Nat.lt_of_lt_of_le hk hn)⟩
theorem Kb.grown {B1 Br Bm : Nat} {a w w' : World} {row : Option Nat} (h : Kb B1 Br Bm a w) (hg : w.grownBy w' row) (hB : B1 ≤ w.heap.size) (hr : ∀ k, row = some k → B1 ≤ k ∨ k = Br ∨ k = Bm) : Kb B1 Br Bm a w' :=
  h.trans ⟨hg.os, hg.tape, hg.output, hg.size, fun k hk h1 h2 => hg.block k (by omega) (fun e => by have := hr k e.symm; omega)⟩
theorem Kb.alloc {B1 Br Bm : Nat} {a w : World} (h : Kb B1 Br Bm a w) (hB : B1 ≤ w.heap.size) (o : Obj) : Kb B1 Br Bm a (w.alloc o) := h.trans (Kb.of_below ((Below.refl _ _).alloc (Nat.le_refl _) o) hB)
theorem Kb.setCell {B1 Br Bm : Nat} {a w : World} (h : Kb B1 Br Bm a w) {p : Addr} (hp : B1 ≤ p.block ∨ p.block = Br ∨ p.block = Bm) (u : Value) : Kb B1 Br Bm a (w.setCell p u) :=
  h.trans ⟨rfl, rfl, rfl, by simp, fun k hk h1 h2 => Below.heap_setCell _ _ _ _ (by omega)⟩

/-- The state, whatever words are left. -/
structure RdB (B0 B1 Br Bm : Nat) (r : Rd) (w : World) : Prop where
  row : ∃ pa pc na nc wv, w.heap[Br]? = some (.cells #[.int .i64 r.iv, .slice pa r.pts.length pc, .slice na r.notes.length nc, .map (some Bm), wv] 119 (0, 0)) ∧
    w.ownsRow B1 9 1 (.slice pa r.pts.length pc) r.pts.length (r.pts.map Value.string) ∧ w.ownsRow B1 67 5 (.slice na r.notes.length nc) r.notes.length (notesC r.notes)
  map : IdxAt w Bm r.pts
  b0r : B0 ≤ Br
  b0m : B0 ≤ Bm
  r1 : Br < B1
  m1 : Bm < B1
  ne : Br ≠ Bm
  b1 : B1 ≤ w.heap.size
  small : r.pts.length ≤ 2000 ∧ r.notes.length ≤ 2000
theorem RdSt.toB {B0 B1 B2 Br Bm : Nat} {r : Rd} {ws : List ByteArray} {w : World} (h : RdSt B0 B1 B2 Br Bm r ws w) : RdB B0 B1 Br Bm r w := by
  obtain ⟨pa, pc, na, nc, wa, wc, h1, h2, h3, h4, h5, h6⟩ := h.row
  exact ⟨⟨pa, pc, na, nc, _, h1, h2, h3⟩, h.map, h.b0r, h.b0m, h.r1, h.m1, h.ne, h.b1, h.small⟩
theorem RdB.below {B0 B1 Br Bm : Nat} {r : Rd} {w w' : World} (h : RdB B0 B1 Br Bm r w) (hb : Below w.heap.size w w') : RdB B0 B1 Br Bm r w' := by
  obtain ⟨pa, pc, na, nc, wv, h1, h2, h3⟩ := h.row
  have hg := below_grownBy hb
  exact ⟨⟨pa, pc, na, nc, wv, (hb.block _ (lt_of_block h1)).trans h1, own_below h2 hb, own_below h3 hb⟩, h.map.kept hg (by simp), h.b0r, h.b0m, h.r1, h.m1, h.ne, Nat.le_trans h.b1 hb.size, h.small⟩
theorem RdB.setWords {B0 B1 Br Bm : Nat} {r : Rd} {ws' : List ByteArray} {w : World} (h : RdB B0 B1 Br Bm r w) (a : Option Addr) (n c : Nat) (hn : n = ws'.length) (hw : WordsAt B1 w.heap.size w a c ws') : RdSt B0 B1 w.heap.size Br Bm r ws' (w.setCell ⟨Br, 4, none⟩ (.slice a n c)) := by
  subst hn
  obtain ⟨pa, pc, na, nc, wv, h1, h2, h3⟩ := h.row
  have hr1 := h.r1
  refine ⟨⟨pa, pc, na, nc, a, c, heap_setCell_same w Br 4 _ _ _ h1, own_other h2 _ h.r1 _, own_other h3 _ h.r1 _, hw.cells (fun b o v hb _ hc => set_cell_other w _ _ (by simp; omega) hc), fun k hk => (h2.lt k hk).2, fun k hk => (h3.lt k hk).2⟩, ?_, h.b0r, h.b0m, h.r1, h.m1, h.ne, by simpa using h.b1, h.small, by simp, h.b1⟩
  exact h.map.kept (row := some Br) ⟨rfl, rfl, rfl, by simp, fun i hi hne => Below.heap_setCell _ _ _ _ (by simpa using hne)⟩ (by have := h.ne; simpa using fun e => this e.symm)
/-- Rows of other types lie apart. -/
theorem own_apart {w : World} {B1 e e' s s' n n' : Nat} {v v' : Value} {xs xs' : List Value} (h : w.ownsRow B1 e s v n xs) (h' : w.ownsRow B1 e' s' v' n' xs') (hne : e ≠ e') : v.ownBlock = none ∨ v.ownBlock ≠ v'.ownBlock := by
  rcases h.2 with ⟨rfl, _⟩ | ⟨g, cap, cur, rfl, hb, hg, _⟩
  · exact .inl rfl
  · right
    rcases h'.2 with ⟨rfl, _⟩ | ⟨g', cap', cur', rfl, hb', hg', _⟩
    · simp [Value.ownBlock]
    · simp only [Value.ownBlock]
      intro e
      simp only [Option.some.injEq] at e
      subst e
      rw [hg] at hg'
      simp at hg'
      exact hne hg'.2

theorem grown_setAt (w : World) (b i : Nat) (u : Value) : w.grownBy (w.setCell ⟨b, i, none⟩ u) (some b) :=
  ⟨rfl, rfl, rfl, by simp, fun i hi hne => Below.heap_setCell _ _ _ _ (by simpa using hne)⟩

set_option maxRecDepth 100000 in
set_option maxHeartbeats 1000000 in
theorem word_any (B0 B1 B2 Br Bm : Nat) (r : Rd) (s : ByteArray) (ws : List ByteArray) (w : World) (h : RdSt B0 B1 B2 Br Bm r (s :: ws) w) :
    Calls Tryz.prog 110 #[.pointer (some ⟨Br, 0, none⟩)] w fun e w' => e = .returned (.string s) ∧ RdSt B0 B1 B2 Br Bm r ws w' ∧ w.grownBy w' (some Br) := by
  obtain ⟨pa, pc, na, nc, wa, wc, h1, h2, h3, h4, _, _⟩ := h.row
  obtain ⟨b, o, rfl, hb, hbl, hc⟩ := h4.2.2 (by simp)
  have c0 : w.cell? ⟨b, o, none⟩ = some (.string s) := hc 0 s rfl
  have c4 := cellOf h1 4 _ rfl
  have f4 := frozen_of_row _ Br 4 _ _ h1
  have hlen : ws.length + 1 ≤ wc := by have := h4.1; simpa using this
  have hwc := h4.2.1
  have hI : (ws.length : Int) + 1 ≤ (wc : Int) := by omega
  have HH := Lib.hid h
  have HC := Lib.hid hc
  have HB := Lib.hid hb
  have HBL := Lib.hid hbl
  clear h h1 h2 h3 h4 hc hb hbl
  go_enter Tryz.func110, Tryz.ntmps110
  by_cases hcap : wc = 1
  · subst hcap
    have hw0 : ws.length = 0 := by omega
    obtain rfl : ws = [] := List.eq_nil_of_length_eq_zero hw0
    go_wp2
    go_ret
    exact ⟨rfl, HH.out.setWords _ 0 0 rfl ⟨by simp, by omega, fun h => absurd rfl h⟩, grown_setAt w Br 4 _⟩
  · have hcap' : 1 < wc := by omega
    have hz : (((ws.length : Int) + 1) == 0) = false := by simp; omega
    go_wp2
    go_ret
    refine ⟨rfl, HH.out.setWords _ _ _ rfl ⟨by omega, by omega, fun hne => ⟨b, o + 1, rfl, HB.out, HBL.out, fun j x hj => ?_⟩⟩, grown_setAt w Br 4 _⟩
    rw [show o + 1 + j = o + (j + 1) by omega]
    exact HC.out (j + 1) x (by simpa using hj)

theorem below_bytes (w : World) (e : TypeId) (t : ByteArray) : Below w.heap.size w (Lib.bytesWorld w e t) := Go.Joins.below_bytesWorld _ w e t (Nat.le_refl _)

set_option maxRecDepth 100000 in
set_option maxHeartbeats 1000000 in
theorem number_any (B0 B1 B2 Br Bm : Nat) (r : Rd) (s : ByteArray) (ws : List ByteArray) (n : Int) (w : World) (h : RdSt B0 B1 B2 Br Bm r (s :: ws) w) (hs : s.size ≤ 2000) (hn : Lib.atoiAll s.data.toList = .ok n) :
    Calls Tryz.prog 111 #[.pointer (some ⟨Br, 0, none⟩)] w fun e w' => e = .returned (.int .i64 n) ∧ RdSt B0 B1 B2 Br Bm r ws w' ∧ w.grownBy w' (some Br) := by
  have hw := word_any B0 B1 B2 Br Bm r s ws w h
  have HW := Lib.hid hw
  have HN := Lib.hid hn
  clear h hw hn
  go_enter Tryz.func111, Tryz.ntmps111
  go_wp2_with fail
  refine HW.out.mono ?_
  rintro e w1 ⟨rfl, hst, hg⟩
  have ha := Tryz.strconv_Atoi_ok s (by omega) n HN.out w1
  have HA := Lib.hid ha
  have ST := Lib.hid hst
  have HG := Lib.hid hg
  clear ha hst hg
  go_wp2_with fail
  refine HA.out.mono ?_
  rintro e w2 ⟨rfl, hb⟩
  have HB : Hid (Below w1.heap.size w1 w2) := by
    rcases hb with rfl | ⟨t, rfl⟩
    · exact Below.refl _ _
    · exact below_bytes _ _ _
  clear hb
  go_wp2
  go_ret
  exact ⟨rfl, ST.out.below HB.out, grown_trans HG.out (below_grown_row HB.out _)⟩
end Go.Proofs.YtacmaddjpaebfaaGreatDoor
/- The reader of package sheet: names and points. -/
namespace Go.Proofs.YtacmaddjpaebfaaGreatDoor
open Go Go.RowKit Go.Maps Go.WideMaps Hs

theorem zeroInt (w : World) : (zeroValue 3).run Tryz.prog w = .ok (.int .i64 0) w := by kernel_rfl

/-- What a look-up of a name runs to. -/
theorem IdxAt.look {w : World} {b : Nat} {pts : List ByteArray} (h : IdxAt w b pts) (s : ByteArray) (hs : s.size ≤ 2000) :
    (Instr.lookup 117 (.map (some b)) (.string s) true).run Tryz.prog w = .ok (.tuple #[.int .i64 (((idxOf pts s.data.toList).getD 0 : Nat) : Int), .bool (idxOf pts s.data.toList).isSome]) w := by
  obtain ⟨D, h1, h2, h3⟩ := h
  have hkey : keyOf Tryz.prog 9 (.string s) = some (.string s.data.toList) := keyOf_string_mk Tryz.underlying9 (by unfold maxLen; omega)
  obtain ⟨v, ps, hrun, hv⟩ := h1.look_ok keyB Tryz.underlying117 (zeroInt w) (plainElem_int Tryz.underlying3 (by decide)) hkey
  obtain ⟨c, rfl, hc, hwc⟩ := plainElem_int_inv Tryz.underlying3 hv
  simp only [Prod.mk.injEq] at hc
  have e := (h3 s.data.toList).1
  rw [hc.1] at e
  rw [hrun, (h3 s.data.toList).2]
  simp at e
  rw [e]

set_option maxRecDepth 100000 in
set_option maxHeartbeats 2000000 in
theorem point_any (B0 B1 B2 Br Bm : Nat) (r : Rd) (s : ByteArray) (ws : List ByteArray) (i : Nat) (w : World) (h : RdSt B0 B1 B2 Br Bm r (s :: ws) w) (hs : s.size ≤ 2000) (hi : idxOf r.pts s.data.toList = some i) :
    Calls Tryz.prog 130 #[.pointer (some ⟨Br, 0, none⟩)] w fun e w' => e = .returned (.int .i64 i) ∧ RdSt B0 B1 B2 Br Bm r ws w' ∧ w.grownBy w' (some Br) := by
  have hw := word_any B0 B1 B2 Br Bm r s ws w.drew (h.below ((Below.refl _ _).drew))
  have hw0 := word_any B0 B1 B2 Br Bm r s ws w h
  obtain ⟨pa, pc, na, nc, wa, wc, h1, h2, h3, h4, _, _⟩ := h.row
  have c3 := cellOf h1 3 _ rfl
  have HW := Lib.hid hw
  have HI := Lib.hid hi
  clear h hw hw0 hi h1 h2 h3 h4
  go_enter Tryz.func130, Tryz.ntmps130
  go_wp2_with fail
  go_region_with (first
    | (go_at_call 110; refine HW.out.mono ?_; rintro e w1 ⟨rfl, hst, hg⟩
       have lk := hst.map.look s hs
       rw [HI.out] at lk
       obtain ⟨pa', pc', na', nc', wa', wc', g1, _⟩ := hst.row
       have c3' := cellOf g1 3 _ rfl
       have ST := Lib.hid hst
       have HG := Lib.hid hg
       clear hst hg g1))
  all_goals
    go_wp2
    go_ret
    exact ⟨rfl, ST.out, grown_trans (below_grown_row ((Below.refl _ _).drew) _) HG.out⟩

set_option maxHeartbeats 400000 in
theorem cloneS_any (s : ByteArray) (w : World) (hs : s.size ≤ 2000) : Calls Tryz.prog 129 #[.string s] w fun e w' => e = .returned (.string s) ∧ Below w.heap.size w w' := by
  have hc := Tryz.stringslite_Clone s w (by omega)
  have HC := Lib.hid hc
  clear hc
  go_enter Tryz.func129, Tryz.ntmps129
  go_wp2_with fail
  refine HC.out.mono ?_
  rintro e w1 ⟨rfl, hb⟩
  go_wp2
  go_ret
  exact ⟨rfl, hb⟩

theorem strInfo : (Tryz.prog.info? 9).map (fun i => (i.zero, i.size, i.bytes)) = some (some (.string ⟨#[]⟩), 1, 16) := by kernel_rfl

/-- One more name. -/
theorem IdxAt.put {w : World} {b : Nat} {pts : List ByteArray} (h : IdxAt w b pts) (s : ByteArray) (hs : s.size ≤ 2000) (hl : pts.length ≤ 2000) :
    ∃ w', (Instr.mapUpdate 117 (.map (some b)) (.string s) (.int .i64 pts.length)).run Tryz.prog w = .ok () w' ∧ IdxAt w' b (pts ++ [s]) ∧ w.grownBy w' (some b) := by
  obtain ⟨D, h1, h2, h3⟩ := h
  have hkey : keyOf Tryz.prog 9 (.string s) = some (.string s.data.toList) := keyOf_string_mk Tryz.underlying9 (by unfold maxLen; omega)
  obtain ⟨w', hrun, hown, hg⟩ := h1.update keyB Tryz.underlying117 (by unfold maxLen; omega) hkey (plainElem_int (q := .i64) (a := (pts.length : Int)) Tryz.underlying3 (by exact WalkArith.wf_i64 (by omega)))
  refine ⟨w', hrun, ⟨_, by simpa using hown, h2.put _ _, fun key => ?_⟩, hg⟩
  rw [idxOf_snoc]
  by_cases e : s.data.toList = key
  · subst e
    rw [if_pos rfl, atKey_put_same h2 (by simp [WideAt.IsKeyLit]), has_put_same h2 (by simp [WideAt.IsKeyLit])]
    simp
  · rw [if_neg e, atKey_put_other (by simpa using fun h => e h.symm), has_put_other (by simpa using fun h => e h.symm)]
    exact h3 key
end Go.Proofs.YtacmaddjpaebfaaGreatDoor
/- The reader of package sheet: a further name. -/
namespace Go.Proofs.YtacmaddjpaebfaaGreatDoor
open Go Go.RowKit Go.Maps Go.WideMaps Hs

theorem some_ne_own {v : Value} {b : Nat} (h : v.ownBlock = none ∨ v.ownBlock ≠ some b) : some b ≠ v.ownBlock := by
  rcases h with h | h
  · rw [h]; simp
  · exact fun e => h e.symm

set_option maxRecDepth 100000 in
set_option maxHeartbeats 2000000 in
theorem rname_any (B0 B1 B2 Br Bm : Nat) (r : Rd) (s : ByteArray) (ws : List ByteArray) (w : World) (h : RdSt B0 B1 B2 Br Bm r (s :: ws) w) (hs : s.size ≤ 2000) (hl : r.pts.length < 2000) :
    Calls Tryz.prog 112 #[.pointer (some ⟨Br, 0, none⟩)] w fun e w' => e = .returned (.tuple #[]) ∧ RdB B0 B1 Br Bm ⟨r.iv, r.pts ++ [s], r.notes⟩ w' ∧ Kb B1 Br Bm w w' := by
  obtain ⟨i0, hi⟩ := info_of_underlying Tryz.underlying9
  have HI : Hid (i0.zero = some (.string ⟨#[]⟩) ∧ i0.size = 1 ∧ i0.bytes = 16) := by
    have h := strInfo
    rw [hi] at h
    simp at h
    exact h
  have hw := word_any B0 B1 B2 Br Bm r s ws w h
  have HW := Lib.hid hw
  have HH := Lib.hid h
  clear h hw
  go_enter Tryz.func112, Tryz.ntmps112
  go_wp2_with fail
  refine HW.out.mono ?_
  rintro e w1 ⟨rfl, hst, hg⟩
  have hc := cloneS_any s w1 hs
  have HC := Lib.hid hc
  have ST := Lib.hid hst
  have HG := Lib.hid hg
  clear hc hst hg HW
  go_wp2_with fail
  refine HC.out.mono ?_
  rintro e w2 ⟨rfl, hb⟩
  have hst2 := ST.out.below hb
  have hB2 : Hid (Kb B1 Br Bm w w2) := ((Kb.refl w).grown HG.out HH.out.b1 (fun k hk => by simp at hk; omega)).trans (Kb.of_below hb ST.out.b1)
  obtain ⟨pa, pc, na, nc, wa, wc, h1, h2, h3, h4, _, _⟩ := hst2.row
  have c1 := cellOf h1 1 _ rfl
  have c3 := cellOf h1 3 _ rfl
  have hplt : (r.pts.length : Int) < 2000 := by omega
  obtain ⟨w3, hrun, hix, hg3⟩ := (hst2.map.kept (w' := w2.drew) (below_grownBy ((Below.refl _ _).drew)) (by simp)).put s hs (by omega)
  have HIX := Lib.hid hix
  have HG3 := Lib.hid hg3
  have ST2 := Lib.hid hst2
  have H1 := Lib.hid h1
  have H2 := Lib.hid h2
  have H3 := Lib.hid h3
  have H4 := Lib.hid h4
  clear hix hg3 hst2 hb h1 h2 h3 h4 HC
  go_wp2_with fail
  go_region
  have hx1 : Br ≠ Bm := ST2.out.ne
  have hBr1 := ST2.out.r1
  have hBm1 := ST2.out.m1
  have d1 : w3.heap[Br]? = _ := (HG3.out.block Br (lt_of_block H1.out) (by simpa using hx1)).trans H1.out
  have hd : Below w2.heap.size w2 w2.drew := (Below.refl _ _).drew
  have o1 := (own_below H2.out hd).kept HG3.out (ownBlock_ne (own_below H2.out hd) hBm1)
  have o2 := (own_below H3.out hd).kept HG3.out (ownBlock_ne (own_below H3.out hd) hBm1)
  have hs3 := HG3.out.size
  have hb1 : B1 ≤ w2.heap.size := ST2.out.b1
  have hs3' : w2.heap.size ≤ w3.heap.size := hs3
  have e1 := cellOf d1 1 _ rfl
  have f1 := frozen_of_row _ Br 1 _ _ d1
  have D1 := Lib.hid d1
  have O2 := Lib.hid o2
  have hownA := o1.alloc (Obj.cells #[.string s] 9)
  have HB3 : Hid (Kb B1 Br Bm w w3) := hB2.out.trans ((Kb.of_below hd hb1).grown HG3.out hb1 (fun k hk => by simp at hk; omega))
  have hb0 : B0 ≤ B1 := by have := ST2.out.b0r; omega
  clear c1 c3 d1 o1 o2 hd hrun hs3
  go_wp2_with (first
    | (at_builtin; refine wpList_append_own _ rfl _ _ 22 rfl B1 9 i0 (.string ⟨#[]⟩) 1 16 Tryz.underlying22 hi HI.out.1 HI.out.2.1 HI.out.2.2 rfl (by decide) _ _ _ rfl hownA ⟨w3.heap.size, 0, none⟩ 1 1 [.string s] rfl rfl ?c1 ?c2 ?c3 ?c4 ?c5 ?_))
  case c1 =>
    intro i u hj
    match i, hj with
    | 0, hj => simp at hj; subst hj; simp [Addr.add]
  case c2 => intro u hu; simp at hu; subst hu; rfl
  case c3 => unfold maxLen; omega
  case c4 => omega
  case c5 => simp; omega
  intro v' w4 hown4 hgrow _
  obtain ⟨sa, sc, rfl⟩ := own_slice hown4
  have hne := ownBlock_ne hownA hBr1
  have D4 : Hid (w4.heap[Br]? = _) := (hgrow.block Br (by have := lt_of_block D1.out; simp; omega) (some_ne_own hne)).trans ((Below.heap_alloc w3 _ _ (lt_of_block D1.out)).trans D1.out)
  have g1 := cellOf D4.out 1 _ rfl
  have g1f := frozen_of_row _ Br 1 _ _ D4.out
  clear e1 f1
  go_wp2_with fail
  go_end0
  have hlen : (r.pts ++ [s]).length = r.pts.length + 1 := by simp
  have hnm := ownBlock_ne hownA hBm1
  have o2 := (O2.out.alloc (Obj.cells #[.string s] 9)).kept hgrow (own_apart (O2.out.alloc _) hownA (by decide))
  have hB4 : Kb B1 Br Bm w w4 := (HB3.out.alloc (by omega) (Obj.cells #[.string s] 9)).grown hgrow (by simp; omega) (fun k hk => .inl (hownA.lt k hk).1)
  have hs4 := hgrow.size
  refine ⟨rfl, ⟨⟨sa, sc, na, nc, .slice wa ws.length wc, by rw [hlen]; exact heap_setCell_same w4 Br 1 _ _ _ D4.out, by rw [hlen]; exact own_other (by simpa using hown4) _ hBr1 _, own_other o2 _ hBr1 _⟩, ?_, ST2.out.b0r, ST2.out.b0m, hBr1, hBm1, hx1, ?_, ?_⟩, hB4.setCell (.inr (.inl rfl)) _⟩
  · exact ((HIX.out.kept (World.grownBy_alloc w3 _ none) (by simp)).kept hgrow (some_ne_own hnm)).kept (grown_setAt w4 Br 1 _) (by simpa using fun e => hx1 e.symm)
  · simp at hs4 ⊢; omega
  · exact ⟨by simp; omega, ST2.out.small.2⟩
end Go.Proofs.YtacmaddjpaebfaaGreatDoor
