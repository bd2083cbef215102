/- The reader of package sheet: its state; words and numbers. -/
import Derived.Test.YtpjfljpkpifhbaaGreatDoorTxt
import Derived.Test.YtpjfljpkpifhbaaGreatDoorFew
set_option linter.unusedSimpArgs false
set_option linter.unusedVariables false
namespace Go.Proofs.YtpjfljpkpifhbaaGreatDoor
open Go Go.RowKit Go.Maps Go.WideMaps Hs

/-- What was read so far. -/
structure Rd where
  iv : Int
  pts : List ByteArray
  notes : List Note
/-- The last index of a name, behind a number of others. -/
def idxK (key : List UInt8) : List ByteArray → Nat → Option Nat
  | [], _ => none
  | p :: r, k => match idxK key r (k + 1) with
    | some i => some i
    | none => if p.data.toList = key then some k else none
def idxOf (pts : List ByteArray) (key : List UInt8) : Option Nat := idxK key pts 0
theorem idxK_snoc (key : List UInt8) (p : ByteArray) : ∀ (l : List ByteArray) (k : Nat), idxK key (l ++ [p]) k = if p.data.toList = key then some (k + l.length) else idxK key l k
  | [], k => by simp [idxK]
  | q :: l, k => by
    have ih := idxK_snoc key p l (k + 1)
    show (match idxK key (l ++ [p]) (k + 1) with | some i => some i | none => if q.data.toList = key then some k else none) = _
    rw [ih]
    by_cases h : p.data.toList = key
    · rw [if_pos h, if_pos h]; simp; omega
    · rw [if_neg h, if_neg h]; rfl
theorem idxOf_snoc (pts : List ByteArray) (p : ByteArray) (key : List UInt8) : idxOf (pts ++ [p]) key = if p.data.toList = key then some pts.length else idxOf pts key := by
  unfold idxOf
  rw [idxK_snoc]
  simp

/-- A block is a map of names to their indices. -/
def IdxAt (w : World) (b : Nat) (pts : List ByteArray) : Prop :=
  ∃ D : DataW Unit, w.ownsMap Tryz.prog 9 (plainElem Tryz.prog 3) b pts.length D ∧ IsMap D ∧ ∀ key : List UInt8,
    D.atKey (.string key) (.lit (.int .i64 0)) = .lit (.int .i64 (((idxOf pts key).getD 0 : Nat) : Int)) ∧ Maps.has D (.string key) = (idxOf pts key).isSome
theorem IdxAt.lt {w : World} {b : Nat} {l : List ByteArray} (h : IdxAt w b l) : b < w.heap.size := by obtain ⟨D, h1, _⟩ := h; exact h1.lt
theorem IdxAt.kept {w w' : World} {b : Nat} {l : List ByteArray} (h : IdxAt w b l) {row : Option Nat} (hg : w.grownBy w' row) (hne : some b ≠ row) : IdxAt w' b l := by
  obtain ⟨D, h1, h2, h3⟩ := h
  exact ⟨D, h1.kept hg hne, h2, h3⟩
theorem IdxAt.made (w : World) : IdxAt (w.alloc (.map #[] 0)) w.heap.size [] := by
  refine ⟨.map [], World.ownsMap_made _ _ _ _, ⟨_, rfl⟩, fun key => ?_⟩
  simp [DataW.atKey, idxOf, idxK, Maps.has]

/-- A slice reads as a list of words. -/
def WordsAt (B1 B2 : Nat) (w : World) (a : Option Addr) (c : Nat) (ws : List ByteArray) : Prop :=
  ws.length ≤ c ∧ c ≤ 4000000 ∧ (ws ≠ [] → ∃ b o, a = some ⟨b, o, none⟩ ∧ B1 ≤ b ∧ b < B2 ∧ ∀ (j : Nat) x, ws[j]? = some x → w.cell? ⟨b, o + j, none⟩ = some (.string x))
theorem WordsAt.cells {B1 B2 : Nat} {w w' : World} {a : Option Addr} {c : Nat} {ws : List ByteArray} (h : WordsAt B1 B2 w a c ws) (hk : ∀ b o v, B1 ≤ b → b < B2 → w.cell? ⟨b, o, none⟩ = some v → w'.cell? ⟨b, o, none⟩ = some v) : WordsAt B1 B2 w' a c ws := by
  refine ⟨h.1, h.2.1, fun hne => ?_⟩
  obtain ⟨b, o, e, hb, hl, hc⟩ := h.2.2 hne
  exact ⟨b, o, e, hb, hl, fun j x hj => hk _ _ _ hb hl (hc j x hj)⟩

/-- The state of the reader in memory. -/
structure RdSt (B0 B1 B2 Br Bm : Nat) (r : Rd) (ws : List ByteArray) (w : World) : Prop where
  row : ∃ pa pc na nc wa wc, w.heap[Br]? = some (.cells #[.int .i64 r.iv, .slice pa r.pts.length pc, .slice na r.notes.length nc, .map (some Bm), .slice wa ws.length wc] 90 (0, 0)) ∧
    w.ownsRow B1 9 1 (.slice pa r.pts.length pc) r.pts.length (r.pts.map Value.string) ∧ w.ownsRow B1 45 5 (.slice na r.notes.length nc) r.notes.length (notesC r.notes) ∧ WordsAt B1 B2 w wa wc ws ∧
    (∀ k, (Value.slice pa r.pts.length pc).ownBlock = some k → k < B2) ∧ (∀ k, (Value.slice na r.notes.length nc).ownBlock = some k → k < B2)
  map : IdxAt w Bm r.pts
  b0r : B0 ≤ Br
  b0m : B0 ≤ Bm
  r1 : Br < B1
  m1 : Bm < B1
  ne : Br ≠ Bm
  b1 : B1 ≤ w.heap.size
  small : r.pts.length ≤ 2000 ∧ r.notes.length ≤ 2000
  b2 : B2 ≤ w.heap.size
  b12 : B1 ≤ B2

theorem cell_grown_row {w w' : World} {row : Option Nat} (hg : w.grownBy w' row) {b o : Nat} {v : Value} (hb : row ≠ some b) (hc : w.cell? ⟨b, o, none⟩ = some v) : w'.cell? ⟨b, o, none⟩ = some v :=
  (World.cell?_of_block (w := w) (hg.block b (World.block_lt_of_cell? w ⟨b, o, none⟩ hc) (fun e => hb e.symm))).trans hc
theorem RdSt.below {B0 B1 B2 Br Bm : Nat} {r : Rd} {ws : List ByteArray} {w w' : World} (h : RdSt B0 B1 B2 Br Bm r ws w) (hb : Below w.heap.size w w') : RdSt B0 B1 B2 Br Bm r ws w' := by
  obtain ⟨pa, pc, na, nc, wa, wc, h1, h2, h3, h4, h5, h6⟩ := h.row
  have hg := below_grownBy hb
  exact ⟨⟨pa, pc, na, nc, wa, wc, (hb.block _ (lt_of_block h1)).trans h1, own_below h2 hb, own_below h3 hb, h4.cells (fun b o v _ _ hc => cell_grown_row hg (by simp) hc), h5, h6⟩, h.map.kept hg (by simp), h.b0r, h.b0m, h.r1, h.m1, h.ne, Nat.le_trans h.b1 hb.size, h.small, Nat.le_trans h.b2 hb.size, h.b12⟩
theorem set_cell_other (w : World) (a : Addr) (u : Value) {b o : Nat} {v : Value} (hb : b ≠ a.block) (hc : w.cell? ⟨b, o, none⟩ = some v) : (w.setCell a u).cell? ⟨b, o, none⟩ = some v := by
  rw [World.cell?_of_block (w := w) (Below.heap_setCell _ _ _ _ hb)]; exact hc
theorem own_set {w : World} {B1 e s n : Nat} {v : Value} {xs : List Value} (h : w.ownsRow B1 e s v n xs) (a : Addr) (u : Value) (hne : ∀ k, v.ownBlock = some k → k ≠ a.block) : (w.setCell a u).ownsRow B1 e s v n xs :=
  h.kept (row := some a.block) ⟨rfl, rfl, rfl, by simp, fun i hi hn => Below.heap_setCell _ _ _ _ (by simpa using hn)⟩ (by
    rcases hv : v.ownBlock with _ | k
    · exact .inl rfl
    · right; intro e; simp at e; exact hne k hv e)
/-- The words that are left are others. -/
theorem RdSt.setWords {B0 B1 B2 Br Bm : Nat} {r : Rd} {ws ws' : List ByteArray} {w : World} (h : RdSt B0 B1 B2 Br Bm r ws w) (a : Option Addr) (n c : Nat) (hn : n = ws'.length) (hw : WordsAt B1 B2 w a c ws') : RdSt B0 B1 B2 Br Bm r ws' (w.setCell ⟨Br, 4, none⟩ (.slice a n c)) := by
  subst hn
  obtain ⟨pa, pc, na, nc, wa, wc, h1, h2, h3, h4, h5, h6⟩ := h.row
  have hr1 := h.r1
  refine ⟨⟨pa, pc, na, nc, a, c, heap_setCell_same w Br 4 _ _ _ h1, own_other h2 _ h.r1 _, own_other h3 _ h.r1 _, hw.cells (fun b o v hb _ hc => set_cell_other w _ _ (by simp; omega) hc), h5, h6⟩, ?_, h.b0r, h.b0m, h.r1, h.m1, h.ne, by simpa using h.b1, h.small, by simpa using h.b2, h.b12⟩
  exact h.map.kept (row := some Br) ⟨rfl, rfl, rfl, by simp, fun i hi hne => Below.heap_setCell _ _ _ _ (by simpa using hne)⟩ (by have := h.ne; simpa using fun e => this e.symm)
/-- A cell beyond is written. -/
theorem RdSt.setOther {B0 B1 B2 Br Bm : Nat} {r : Rd} {ws : List ByteArray} {w : World} (h : RdSt B0 B1 B2 Br Bm r ws w) (b i : Nat) (u : Value) (hb : B2 ≤ b) : RdSt B0 B1 B2 Br Bm r ws (w.setCell ⟨b, i, none⟩ u) := by
  obtain ⟨pa, pc, na, nc, wa, wc, h1, h2, h3, h4, h5, h6⟩ := h.row
  have hr1 := h.r1
  have hm1 := h.m1
  have h12 := h.b12
  refine ⟨⟨pa, pc, na, nc, wa, wc, (heap_setCell_other w _ _ _ (by simp; omega)).trans h1, own_set h2 _ _ (fun k hk => by have := h5 k hk; simp; omega), own_set h3 _ _ (fun k hk => by have := h6 k hk; simp; omega), h4.cells (fun b' o v _ hl hc => set_cell_other w _ _ (by simp; omega) hc), h5, h6⟩, ?_, h.b0r, h.b0m, h.r1, h.m1, h.ne, by simpa using h.b1, h.small, by simpa using h.b2, h.b12⟩
  exact h.map.kept (row := some b) ⟨rfl, rfl, rfl, by simp, fun j hj hne => Below.heap_setCell _ _ _ _ (by simpa using hne)⟩ (by simp; omega)

/-- Below B1 nothing has turned but two blocks. -/
structure Kb (B1 Br Bm : Nat) (w w' : World) : Prop where
  os : w'.os = w.os
  tape : w'.tape = w.tape
  output : w'.output = w.output
  size : w.heap.size ≤ w'.heap.size
  block : ∀ k, k < B1 → k ≠ Br → k ≠ Bm → w'.heap[k]? = w.heap[k]?
theorem Kb.refl {B1 Br Bm : Nat} (w : World) : Kb B1 Br Bm w w := ⟨rfl, rfl, rfl, Nat.le_refl _, fun _ _ _ _ => rfl⟩
theorem Kb.trans {B1 Br Bm : Nat} {a b c : World} (h : Kb B1 Br Bm a b) (k : Kb B1 Br Bm b c) : Kb B1 Br Bm a c :=
  ⟨k.os.trans h.os, k.tape.trans h.tape, k.output.trans h.output, Nat.le_trans h.size k.size, fun i hi h1 h2 => (k.block i hi h1 h2).trans (h.block i hi h1 h2)⟩
theorem Kb.of_below {B1 Br Bm n : Nat} {w w' : World} (h : Below n w w') (hn : B1 ≤ n) : Kb B1 Br Bm w w' := ⟨h.os, h.tape, h.output, h.size, fun k hk _ _ => h.block k (Nat.lt_of_lt_of_le hk hn)⟩
theorem Kb.grown {B1 Br Bm : Nat} {a w w' : World} {row : Option Nat} (h : Kb B1 Br Bm a w) (hg : w.grownBy w' row) (hB : B1 ≤ w.heap.size) (hr : ∀ k, row = some k → B1 ≤ k ∨ k = Br ∨ k = Bm) : Kb B1 Br Bm a w' :=
  h.trans ⟨hg.os, hg.tape, hg.output, hg.size, fun k hk h1 h2 => hg.block k (by omega) (fun e => by have := hr k e.symm; omega)⟩
theorem Kb.alloc {B1 Br Bm : Nat} {a w : World} (h : Kb B1 Br Bm a w) (hB : B1 ≤ w.heap.size) (o : Obj) : Kb B1 Br Bm a (w.alloc o) := h.trans (Kb.of_below ((Below.refl _ _).alloc (Nat.le_refl _) o) hB)
theorem Kb.setCell {B1 Br Bm : Nat} {a w : World} (h : Kb B1 Br Bm a w) {p : Addr} (hp : B1 ≤ p.block ∨ p.block = Br ∨ p.block = Bm) (u : Value) : Kb B1 Br Bm a (w.setCell p u) :=
  h.trans ⟨rfl, rfl, rfl, by simp, fun k hk h1 h2 => Below.heap_setCell _ _ _ _ (by omega)⟩

/-- The state, whatever words are left. -/
structure RdB (B0 B1 Br Bm : Nat) (r : Rd) (w : World) : Prop where
  row : ∃ pa pc na nc wv, w.heap[Br]? = some (.cells #[.int .i64 r.iv, .slice pa r.pts.length pc, .slice na r.notes.length nc, .map (some Bm), wv] 90 (0, 0)) ∧
    w.ownsRow B1 9 1 (.slice pa r.pts.length pc) r.pts.length (r.pts.map Value.string) ∧ w.ownsRow B1 45 5 (.slice na r.notes.length nc) r.notes.length (notesC r.notes)
  map : IdxAt w Bm r.pts
  b0r : B0 ≤ Br
  b0m : B0 ≤ Bm
  r1 : Br < B1
  m1 : Bm < B1
  ne : Br ≠ Bm
  b1 : B1 ≤ w.heap.size
  small : r.pts.length ≤ 2000 ∧ r.notes.length ≤ 2000
theorem RdSt.toB {B0 B1 B2 Br Bm : Nat} {r : Rd} {ws : List ByteArray} {w : World} (h : RdSt B0 B1 B2 Br Bm r ws w) : RdB B0 B1 Br Bm r w := by
  obtain ⟨pa, pc, na, nc, wa, wc, h1, h2, h3, h4, h5, h6⟩ := h.row
  exact ⟨⟨pa, pc, na, nc, _, h1, h2, h3⟩, h.map, h.b0r, h.b0m, h.r1, h.m1, h.ne, h.b1, h.small⟩
theorem RdB.below {B0 B1 Br Bm : Nat} {r : Rd} {w w' : World} (h : RdB B0 B1 Br Bm r w) (hb : Below w.heap.size w w') : RdB B0 B1 Br Bm r w' := by
  obtain ⟨pa, pc, na, nc, wv, h1, h2, h3⟩ := h.row
  have hg := below_grownBy hb
  exact ⟨⟨pa, pc, na, nc, wv, (hb.block _ (lt_of_block h1)).trans h1, own_below h2 hb, own_below h3 hb⟩, h.map.kept hg (by simp), h.b0r, h.b0m, h.r1, h.m1, h.ne, Nat.le_trans h.b1 hb.size, h.small⟩
theorem RdB.setWords {B0 B1 Br Bm : Nat} {r : Rd} {ws' : List ByteArray} {w : World} (h : RdB B0 B1 Br Bm r w) (a : Option Addr) (n c : Nat) (hn : n = ws'.length) (hw : WordsAt B1 w.heap.size w a c ws') : RdSt B0 B1 w.heap.size Br Bm r ws' (w.setCell ⟨Br, 4, none⟩ (.slice a n c)) := by
  subst hn
  obtain ⟨pa, pc, na, nc, wv, h1, h2, h3⟩ := h.row
  have hr1 := h.r1
  refine ⟨⟨pa, pc, na, nc, a, c, heap_setCell_same w Br 4 _ _ _ h1, own_other h2 _ h.r1 _, own_other h3 _ h.r1 _, hw.cells (fun b o v hb _ hc => set_cell_other w _ _ (by simp; omega) hc), fun k hk => (h2.lt k hk).2, fun k hk => (h3.lt k hk).2⟩, ?_, h.b0r, h.b0m, h.r1, h.m1, h.ne, by simpa using h.b1, h.small, by simp, h.b1⟩
  exact h.map.kept (row := some Br) ⟨rfl, rfl, rfl, by simp, fun i hi hne => Below.heap_setCell _ _ _ _ (by simpa using hne)⟩ (by have := h.ne; simpa using fun e => this e.symm)
/-- Rows of other types lie apart. -/
theorem own_apart {w : World} {B1 e e' s s' n n' : Nat} {v v' : Value} {xs xs' : List Value} (h : w.ownsRow B1 e s v n xs) (h' : w.ownsRow B1 e' s' v' n' xs') (hne : e ≠ e') : v.ownBlock = none ∨ v.ownBlock ≠ v'.ownBlock := by
  rcases h.2 with ⟨rfl, _⟩ | ⟨g, cap, cur, rfl, hb, hg, _⟩
  · exact .inl rfl
  · right
    rcases h'.2 with ⟨rfl, _⟩ | ⟨g', cap', cur', rfl, hb', hg', _⟩
    · simp [Value.ownBlock]
    · simp only [Value.ownBlock]
      intro e
      simp only [Option.some.injEq] at e
      subst e
      rw [hg] at hg'
      simp at hg'
      exact hne hg'.2

theorem grown_setAt (w : World) (b i : Nat) (u : Value) : w.grownBy (w.setCell ⟨b, i, none⟩ u) (some b) :=
  ⟨rfl, rfl, rfl, by simp, fun i hi hne => Below.heap_setCell _ _ _ _ (by simpa using hne)⟩

set_option maxRecDepth 100000 in
set_option maxHeartbeats 1000000 in
theorem word_any (B0 B1 B2 Br Bm : Nat) (r : Rd) (s : ByteArray) (ws : List ByteArray) (w : World) (h : RdSt B0 B1 B2 Br Bm r (s :: ws) w) :
    Calls Tryz.prog 63 #[.pointer (some ⟨Br, 0, none⟩)] w fun e w' => e = .returned (.string s) ∧ RdSt B0 B1 B2 Br Bm r ws w' ∧ w.grownBy w' (some Br) := by
  obtain ⟨pa, pc, na, nc, wa, wc, h1, h2, h3, h4, _, _⟩ := h.row
  obtain ⟨b, o, rfl, hb, hbl, hc⟩ := h4.2.2 (by simp)
  have c0 : w.cell? ⟨b, o, none⟩ = some (.string s) := hc 0 s rfl
  have c4 := cellOf h1 4 _ rfl
  have f4 := frozen_of_row _ Br 4 _ _ h1
  have hlen : ws.length + 1 ≤ wc := by have := h4.1; simpa using this
  have hwc := h4.2.1
  have hI : (ws.length : Int) + 1 ≤ (wc : Int) := by omega
  have HH := Lib.hid h
  have HC := Lib.hid hc
  have HB := Lib.hid hb
  have HBL := Lib.hid hbl
  clear h h1 h2 h3 h4 hc hb hbl
  go_enter Tryz.func63, Tryz.ntmps63
  by_cases hcap : wc = 1
  · subst hcap
    have hw0 : ws.length = 0 := by omega
    obtain rfl : ws = [] := List.eq_nil_of_length_eq_zero hw0
    go_wp2
    go_ret
    exact ⟨rfl, HH.out.setWords _ 0 0 rfl ⟨by simp, by omega, fun h => absurd rfl h⟩, grown_setAt w Br 4 _⟩
  · have hcap' : 1 < wc := by omega
    have hz : (((ws.length : Int) + 1) == 0) = false := by simp; omega
    go_wp2
    go_ret
    refine ⟨rfl, HH.out.setWords _ _ _ rfl ⟨by omega, by omega, fun hne => ⟨b, o + 1, rfl, HB.out, HBL.out, fun j x hj => ?_⟩⟩, grown_setAt w Br 4 _⟩
    rw [show o + 1 + j = o + (j + 1) by omega]
    exact HC.out (j + 1) x (by simpa using hj)

theorem below_bytes (w : World) (e : TypeId) (t : ByteArray) : Below w.heap.size w (Lib.bytesWorld w e t) := Go.Joins.below_bytesWorld _ w e t (Nat.le_refl _)

set_option maxRecDepth 100000 in
set_option maxHeartbeats 1000000 in
theorem number_any (B0 B1 B2 Br Bm : Nat) (r : Rd) (s : ByteArray) (ws : List ByteArray) (n : Int) (w : World) (h : RdSt B0 B1 B2 Br Bm r (s :: ws) w) (hs : s.size ≤ 2000) (hn : Lib.atoiAll s.data.toList = .ok n) :
    Calls Tryz.prog 64 #[.pointer (some ⟨Br, 0, none⟩)] w fun e w' => e = .returned (.int .i64 n) ∧ RdSt B0 B1 B2 Br Bm r ws w' ∧ w.grownBy w' (some Br) := by
  have hw := word_any B0 B1 B2 Br Bm r s ws w h
  have HW := Lib.hid hw
  have HN := Lib.hid hn
  clear h hw hn
  go_enter Tryz.func64, Tryz.ntmps64
  go_wp2_with fail
  refine HW.out.mono ?_
  rintro e w1 ⟨rfl, hst, hg⟩
  have ha := Tryz.strconv_Atoi_ok s (by omega) n HN.out w1
  have HA := Lib.hid ha
  have ST := Lib.hid hst
  have HG := Lib.hid hg
  clear ha hst hg
  go_wp2_with fail
  refine HA.out.mono ?_
  rintro e w2 ⟨rfl, hb⟩
  have HB : Hid (Below w1.heap.size w1 w2) := by
    rcases hb with rfl | ⟨t, rfl⟩
    · exact Below.refl _ _
    · exact below_bytes _ _ _
  clear hb
  go_wp2
  go_ret
  exact ⟨rfl, ST.out.below HB.out, grown_trans HG.out (below_grown_row HB.out _)⟩
end Go.Proofs.YtpjfljpkpifhbaaGreatDoor
