/- SheetRound: the call returns true. Condition: the tables of Go's library are laid, and its two errors of numbers. -/
import Derived.Test.YtacmaddjpaebfaaGreatDoorRs
import Derived.WalkLawsBesides
import Derived.Test.YtacmaddjpaebfaaGreatDoorRef
import Derived.Test.YtacmaddjpaebfaaGreatDoorRead
import Derived.Test.YtacmaddjpaebfaaGreatDoorLaws
import Derived.Test.YtacmaddjpaebfaaGreatDoorCmp
import Derived.Test.YtacmaddjpaebfaaGreatDoorAwake
set_option linter.unusedSimpArgs false
set_option linter.unusedVariables false
namespace Go.Proofs.YtacmaddjpaebfaaGreatDoor
open Go Go.RowKit Hs

/-- The panic of the reader. -/
def P6 : List PanicEntry := [{ v := .iface 26 (.int .i64 6), recovered := false }]
/-- It panics, and keeps what is not its own. -/
def PanP (B1 Br Bm : Nat) (w : World) (e : Ending) (w' : World) : Prop := e = .panicked P6 ∧ Kb B1 Br Bm w w'
/-- The two errors that the library's variables hold. -/
structure Errs (w : World) : Prop where
  r : ∃ ev, w.cell? ⟨5, 0, none⟩ = some ev ∧ (ev = .nilIface ∨ ∃ te pe, ev = .iface te pe)
  s : ∃ ev, w.cell? ⟨4, 0, none⟩ = some ev ∧ (ev = .nilIface ∨ ∃ te pe, ev = .iface te pe)
theorem Errs.below {w w' : World} (h : Errs w) (hb : Below w.heap.size w w') : Errs w' := by
  obtain ⟨⟨a, ha, ha2⟩, b, hb1, hb2⟩ := h
  exact ⟨⟨a, (hb.cell (World.block_lt_of_cell? w _ ha)).trans ha, ha2⟩, b, (hb.cell (World.block_lt_of_cell? w _ hb1)).trans hb1, hb2⟩

/-- A string that is no number is told with an error. -/
theorem atoi_bad (s : ByteArray) (hs : s.size ≤ 2000) (h : ∀ n, Lib.atoiAll s.data.toList ≠ .ok n) (w : World) (hE : Errs w) :
    Calls Tryz.prog 128 #[.string s] w fun e w' => ∃ n t p, e = .returned (.tuple #[.int .i64 n, .iface t p]) ∧ Below w.heap.size w w' := by
  obtain ⟨⟨a, ha, ha2⟩, b, hb1, hb2⟩ := hE
  cases e : Lib.atoiAll s.data.toList with
  | ok n => exact absurd e (h n)
  | range =>
    refine (Tryz.strconv_Atoi_range s (by omega) e a w ha ha2).mono ?_
    rintro e w' ⟨N, rfl, _, _, hb⟩
    exact ⟨_, _, _, rfl, hb⟩
  | _ =>
    refine (Any.strconv_Atoi_syntax Tryz.laysC172 s (by omega) e b w hb1 hb2).mono ?_
    rintro e w' ⟨N, rfl, _, _, hb⟩
    exact ⟨_, _, _, rfl, hb⟩

set_option maxRecDepth 100000 in
set_option maxHeartbeats 1000000 in
theorem word_none (B0 B1 B2 Br Bm : Nat) (r : Rd) (w : World) (h : RdSt B0 B1 B2 Br Bm r [] w) :
    Calls Tryz.prog 110 #[.pointer (some ⟨Br, 0, none⟩)] w (PanP B1 Br Bm w) := by
  obtain ⟨pa, pc, na, nc, wa, wc, h1, h2, h3, h4, _, _⟩ := h.row
  have c4 := cellOf h1 4 _ rfl
  clear h h1 h2 h3 h4
  go_enter Tryz.func110, Tryz.ntmps110
  go_wp2
  exact ⟨rfl, rfl, Kb.refl _⟩
theorem kb_grown {B0 B1 B2 Br Bm : Nat} {r : Rd} {ws : List ByteArray} {w w' : World} (h : RdSt B0 B1 B2 Br Bm r ws w) (hg : w.grownBy w' (some Br)) : Kb B1 Br Bm w w' :=
  (Kb.refl w).grown hg (by have := h.toB.b1; omega) (fun k hk => by injection hk with hk; exact .inr (.inl hk.symm))

/-- The two errors lie below the call's own memory. -/
structure Errs0 (B0 : Nat) (w : World) : Prop where
  e : Errs w
  r0 : 5 < B0
  s0 : 4 < B0
theorem Errs0.kb {B0 B1 Br Bm : Nat} {w w' : World} (h : Errs0 B0 w) (k : Kb B1 Br Bm w w') (h1 : B0 ≤ B1) (h2 : B0 ≤ Br) (h3 : B0 ≤ Bm) : Errs0 B0 w' := by
  obtain ⟨⟨⟨a, ha, ha2⟩, b, hb1, hb2⟩, r0, s0⟩ := h
  have g : ∀ (i : Nat) (v : Value), i < B0 → w.cell? ⟨i, 0, none⟩ = some v → w'.cell? ⟨i, 0, none⟩ = some v := fun i v hi hc => by
    rw [World.cell?_of_block (w := w) (k.block i (by omega) (by omega) (by omega))]
    exact hc
  exact ⟨⟨⟨a, g _ _ r0 ha, ha2⟩, b, g _ _ s0 hb1, hb2⟩, r0, s0⟩
theorem RdSt.errs {B0 B1 B2 Br Bm : Nat} {r : Rd} {ws : List ByteArray} {w w' : World} (h : RdSt B0 B1 B2 Br Bm r ws w) (hE : Errs0 B0 w) (k : Kb B1 Br Bm w w') : Errs0 B0 w' := hE.kb k (by have := h.b0r; have := h.r1; omega) h.b0r h.b0m

/-- The words of a number that is none. -/
def NoNum (ws : List ByteArray) : Prop := ws = [] ∨ ∃ s l, ws = s :: l ∧ s.size ≤ 2000 ∧ ∀ n, Lib.atoiAll s.data.toList ≠ .ok n
set_option maxRecDepth 100000 in
set_option maxHeartbeats 1000000 in
theorem number_bad (B0 B1 B2 Br Bm : Nat) (r : Rd) (ws : List ByteArray) (w : World) (h : RdSt B0 B1 B2 Br Bm r ws w) (hn : NoNum ws) (hE : Errs0 B0 w) :
    Calls Tryz.prog 111 #[.pointer (some ⟨Br, 0, none⟩)] w (PanP B1 Br Bm w) := by
  rcases hn with rfl | ⟨s, l, rfl, hs, hn⟩
  · have HW := Lib.hid (word_none B0 B1 B2 Br Bm r w h)
    clear h hE
    go_enter Tryz.func111, Tryz.ntmps111
    go_wp2_with fail
    refine HW.out.mono ?_
    rintro e w1 ⟨rfl, hk⟩
    go_wp2
    exact ⟨rfl, rfl, hk⟩
  · have HW := Lib.hid (word_any B0 B1 B2 Br Bm r s l w h)
    have HK := Lib.hid (fun w' (hg : w.grownBy w' (some Br)) => kb_grown h hg)
    have HN := Lib.hid hn
    have HE := Lib.hid (fun w' (k : Kb B1 Br Bm w w') => h.errs hE k)
    have hb1 := h.toB.b1
    clear h hn hE
    go_enter Tryz.func111, Tryz.ntmps111
    go_wp2_with fail
    refine HW.out.mono ?_
    rintro e w1 ⟨rfl, hst, hg⟩
    have hk1 := HK.out w1 hg
    have hb2 := hst.toB.b1
    have HA := Lib.hid (atoi_bad s hs HN.out w1 (HE.out w1 hk1).e)
    have HK1 := Lib.hid hk1
    clear hst hg hk1
    go_wp2_with fail
    refine HA.out.mono ?_
    rintro e w2 ⟨n, t, p, rfl, hb⟩
    have HK2 := Lib.hid (HK1.out.trans (Kb.of_below hb hb2))
    clear hb HA
    go_wp2
    exact ⟨rfl, rfl, HK2.out⟩

/-- The words of a point that is not known. -/
def NoPt (r : Rd) (ws : List ByteArray) : Prop := ws = [] ∨ ∃ s l, ws = s :: l ∧ s.size ≤ 2000 ∧ idxOf r.pts s.data.toList = none
set_option maxRecDepth 100000 in
set_option maxHeartbeats 1000000 in
theorem point_bad (B0 B1 B2 Br Bm : Nat) (r : Rd) (ws : List ByteArray) (w : World) (h : RdSt B0 B1 B2 Br Bm r ws w) (hn : NoPt r ws) :
    Calls Tryz.prog 130 #[.pointer (some ⟨Br, 0, none⟩)] w (PanP B1 Br Bm w) := by
  obtain ⟨pa, pc, na, nc, wa, wc, h1, h2, h3, h4, _, _⟩ := id h.row
  have c3 := cellOf h1 3 _ rfl
  have hb1 := h.toB.b1
  rcases hn with rfl | ⟨s, l, rfl, hs, hn⟩
  · have HW := Lib.hid (word_none B0 B1 B2 Br Bm r w.drew (h.below ((Below.refl _ _).drew)))
    clear h h1 h2 h3 h4
    go_enter Tryz.func130, Tryz.ntmps130
    go_wp2_with fail
    refine wp_region_any (by kernel_rfl) ?_
    change wpAny _ _ _ _ _ _ _ (World.drew _)
    refine wpAny_take (i := 0) (v := ?_) rfl (by kernel_rfl) (by kernel_rfl) (by kernel_rfl) (fun _ _ _ h => h) (Or.inl ⟨by rfl, fun w => by go_simp; first | done | with_reducible rfl⟩) ?_
    refine wpAny_take (i := 4) (v := ?_) rfl (by kernel_rfl) (by kernel_rfl) (by kernel_rfl) (fun _ _ _ h => h) (Or.inl ⟨by rfl, fun w => by go_simp; first | done | with_reducible rfl⟩) ?_
    refine wpAny_ready (rs := [1, 5]) (by kernel_rfl) (by simp) ?_
    refine AllReady.cons rfl (fun K hK => ?_) (AllReady.cons rfl (fun K hK => ?_) AllReady.nil)
    · go_simp
      refine hK _ _ ?_
      clear hK K
      refine wpAny_take (i := 2) (v := ?_) rfl (by kernel_rfl) (by kernel_rfl) (by kernel_rfl) (fun _ _ _ h => h) (Or.inl ⟨by rfl, fun w => by go_simp; first | done | with_reducible rfl⟩) ?_
      refine wpAny_ready (rs := [3, 5]) (by kernel_rfl) (by simp) ?_
      refine AllReady.cons rfl (fun K hK => ?_) (AllReady.cons rfl (fun K hK => ?_) AllReady.nil)
      · go_simp
        refine hK _ _ ?_
        clear hK K
        refine wpAny_ready (rs := [5]) (by kernel_rfl) (by simp) ?_
        refine AllReady.cons rfl (fun K hK => ?_) AllReady.nil
        (go_simp; refine HW.out.mono ?_; rintro e w1 ⟨rfl, hk⟩; exact ⟨rfl, rfl, (Kb.of_below (Below.refl _ w).drew hb1).trans hk⟩)
      · (go_simp; refine HW.out.mono ?_; rintro e w1 ⟨rfl, hk⟩; exact ⟨rfl, rfl, (Kb.of_below (Below.refl _ w).drew hb1).trans hk⟩)
    · (go_simp; refine HW.out.mono ?_; rintro e w1 ⟨rfl, hk⟩; exact ⟨rfl, rfl, (Kb.of_below (Below.refl _ w).drew hb1).trans hk⟩)
  · have HW := Lib.hid (word_any B0 B1 B2 Br Bm r s l w.drew (h.below ((Below.refl _ _).drew)))
    have HKG := Lib.hid (fun w' (hg : w.drew.grownBy w' (some Br)) => kb_grown (h.below ((Below.refl _ w).drew)) hg)
    have HI := Lib.hid hn
    clear h hn h1 h2 h3 h4
    go_enter Tryz.func130, Tryz.ntmps130
    go_wp2_with fail
    go_region_with (first
      | (go_at_call 110; refine HW.out.mono ?_; rintro e w1 ⟨rfl, hst, hg⟩
         have lk := hst.map.look s hs
         rw [HI.out] at lk
         obtain ⟨pa', pc', na', nc', wa', wc', g1, _⟩ := hst.row
         have c3' := cellOf g1 3 _ rfl
         have HK := Lib.hid ((Kb.of_below (Below.refl _ w).drew hb1).trans (HKG.out _ hg))
         clear hst hg g1))
    all_goals
      go_wp2
      exact ⟨rfl, rfl, HK.out⟩

set_option maxRecDepth 100000 in
set_option maxHeartbeats 1000000 in
theorem rname_none (B0 B1 B2 Br Bm : Nat) (r : Rd) (w : World) (h : RdSt B0 B1 B2 Br Bm r [] w) :
    Calls Tryz.prog 112 #[.pointer (some ⟨Br, 0, none⟩)] w (PanP B1 Br Bm w) := by
  have HW := Lib.hid (word_none B0 B1 B2 Br Bm r w h)
  clear h
  go_enter Tryz.func112, Tryz.ntmps112
  go_wp2_with fail
  refine HW.out.mono ?_
  rintro e w1 ⟨rfl, hk⟩
  go_wp2
  exact ⟨rfl, rfl, hk⟩
end Go.Proofs.YtacmaddjpaebfaaGreatDoor
namespace Go.Proofs.YtacmaddjpaebfaaGreatDoor
open Go Go.RowKit Hs

set_option maxRecDepth 100000 in
set_option maxHeartbeats 1000000 in
theorem rnote_p (B0 B1 B2 Br Bm : Nat) (r : Rd) (k : Int) (ws : List ByteArray) (w : World) (h : RdSt B0 B1 B2 Br Bm r ws w) (hb : NoPt r ws) :
    Calls Tryz.prog 113 #[.pointer (some ⟨Br, 0, none⟩), .int .i64 k] w (PanP B1 Br Bm w) := by
  have HP := Lib.hid (point_bad B0 B1 B2 Br Bm r ws w h hb)
  clear h hb
  go_enter Tryz.func113, Tryz.ntmps113
  go_wp2_with fail
  refine HP.out.mono ?_
  rintro e w1 ⟨rfl, hk⟩
  go_wp2
  exact ⟨rfl, rfl, hk⟩

set_option maxRecDepth 100000 in
set_option maxHeartbeats 2000000 in
theorem rnote_1_0 (B0 B1 B2 Br Bm : Nat) (r : Rd) (sa : ByteArray) (ia : Nat) (ws : List ByteArray) (w : World) (h : RdSt B0 B1 B2 Br Bm r (sa :: ws) w) (hsa : sa.size ≤ 2000) (ha : idxOf r.pts sa.data.toList = some ia) (hbad : NoNum ws) (hE : Errs0 B0 w) :
    Calls Tryz.prog 113 #[.pointer (some ⟨Br, 0, none⟩), .int .i64 1] w (PanP B1 Br Bm w) := by
  have h0 : B0 ≤ Br := h.b0r
  have h01 : Br < B1 := h.r1
  have HP := Lib.hid (point_any B0 B1 B2 Br Bm r sa (ws) ia w h hsa ha)
  have H := Lib.hid h
  have HBAD := Lib.hid hbad
  have HER := Lib.hid (fun w' (k : Kb B1 Br Bm w w') => h.errs hE k)
  clear h ha hbad hE
  go_enter Tryz.func113, Tryz.ntmps113
  go_wp2_with fail
  refine HP.out.mono ?_
  rintro e w1 ⟨rfl, st1, gr1⟩
  have hb1 := st1.b1
  have k1 : Below w1.heap.size w1 (w1.alloc (Obj.cells #[.int .i64 1, .int .i64 ia, .int .i64 0, .int .i64 0, .int .i64 0] 67)) := by go_grown
  have S1 := Lib.hid (st1.below k1)
  have hb0 : B0 ≤ w.heap.size := by have := H.out.b1; omega
  have g1 : Kb B1 Br Bm w w1 := (Kb.refl w).grown gr1 H.out.b1 (fun k hk => by simp at hk; omega)
  have hw1 := g1.size
  have G1 : Hid (Kb B1 Br Bm w (w1.alloc (Obj.cells #[.int .i64 1, .int .i64 ia, .int .i64 0, .int .i64 0, .int .i64 0] 67))) := g1.trans (Kb.of_below k1 hb1)
  have hB2 := st1.b2
  have N1 : Hid (NoteBlk (w1.alloc (Obj.cells #[.int .i64 1, .int .i64 ia, .int .i64 0, .int .i64 0, .int .i64 0] 67)) w1.heap.size 1 ia 0 0 0) := heap_alloc_new _ _
  have hbn : Br ≠ w1.heap.size := by omega
  have HZ := Lib.hid (number_bad B0 B1 B2 Br Bm r ws (w1.alloc (Obj.cells #[.int .i64 1, .int .i64 ia, .int .i64 0, .int .i64 0, .int .i64 0] 67)) S1.out HBAD.out (HER.out _ G1.out))
  clear st1 gr1 k1
  go_wp2_with fail
  refine HZ.out.mono ?_
  rintro e wz ⟨rfl, hk⟩
  have HK := Lib.hid (G1.out.trans hk)
  clear hk HZ
  go_wp2
  exact ⟨rfl, rfl, HK.out⟩

set_option maxRecDepth 100000 in
set_option maxHeartbeats 2000000 in
theorem rnote_1_1 (B0 B1 B2 Br Bm : Nat) (r : Rd) (sa : ByteArray) (ia : Nat) (sl : ByteArray) (lo : Int) (ws : List ByteArray) (w : World) (h : RdSt B0 B1 B2 Br Bm r (sa :: sl :: ws) w) (hsa : sa.size ≤ 2000) (ha : idxOf r.pts sa.data.toList = some ia) (hsl : sl.size ≤ 2000) (hl : Lib.atoiAll sl.data.toList = .ok lo) (hbad : NoNum ws) (hE : Errs0 B0 w) :
    Calls Tryz.prog 113 #[.pointer (some ⟨Br, 0, none⟩), .int .i64 1] w (PanP B1 Br Bm w) := by
  have h0 : B0 ≤ Br := h.b0r
  have h01 : Br < B1 := h.r1
  have HP := Lib.hid (point_any B0 B1 B2 Br Bm r sa (sl :: ws) ia w h hsa ha)
  have H := Lib.hid h
  have HBAD := Lib.hid hbad
  have HLO := Lib.hid hl
  have HER := Lib.hid (fun w' (k : Kb B1 Br Bm w w') => h.errs hE k)
  clear h ha hl hbad hE
  go_enter Tryz.func113, Tryz.ntmps113
  go_wp2_with fail
  refine HP.out.mono ?_
  rintro e w1 ⟨rfl, st1, gr1⟩
  have hb1 := st1.b1
  have k1 : Below w1.heap.size w1 (w1.alloc (Obj.cells #[.int .i64 1, .int .i64 ia, .int .i64 0, .int .i64 0, .int .i64 0] 67)) := by go_grown
  have S1 := Lib.hid (st1.below k1)
  have hb0 : B0 ≤ w.heap.size := by have := H.out.b1; omega
  have g1 : Kb B1 Br Bm w w1 := (Kb.refl w).grown gr1 H.out.b1 (fun k hk => by simp at hk; omega)
  have hw1 := g1.size
  have G1 : Hid (Kb B1 Br Bm w (w1.alloc (Obj.cells #[.int .i64 1, .int .i64 ia, .int .i64 0, .int .i64 0, .int .i64 0] 67))) := g1.trans (Kb.of_below k1 hb1)
  have hB2 := st1.b2
  have N1 : Hid (NoteBlk (w1.alloc (Obj.cells #[.int .i64 1, .int .i64 ia, .int .i64 0, .int .i64 0, .int .i64 0] 67)) w1.heap.size 1 ia 0 0 0) := heap_alloc_new _ _
  have hbn : Br ≠ w1.heap.size := by omega
  have hrest := number_any B0 B1 B2 Br Bm r sl (ws) lo (w1.alloc (Obj.cells #[.int .i64 1, .int .i64 ia, .int .i64 0, .int .i64 0, .int .i64 0] 67)) S1.out hsl HLO.out
  have HC1 := Lib.hid hrest
  clear hrest st1 gr1 k1
  go_wp2_with fail
  refine HC1.out.mono ?_
  rintro e w2 ⟨rfl, st2, gr2⟩
  have nb2 := N1.out.grown gr2 (by simpa using fun e => hbn e.symm)
  have cc2 := cellOf nb2 3 _ rfl
  have ff2 := frozen_of_row _ w1.heap.size 3 _ _ nb2
  have N2 : Hid (NoteBlk (w2.setCell ⟨w1.heap.size, 3, none⟩ (.int .i64 lo)) w1.heap.size 1 ia 0 lo 0) := heap_setCell_same _ w1.heap.size 3 _ _ _ nb2
  have S2 := Lib.hid (st2.setOther w1.heap.size 3 (.int .i64 lo) hB2)
  have G2 : Hid (Kb B1 Br Bm w (w2.setCell ⟨w1.heap.size, 3, none⟩ (.int .i64 lo))) := (G1.out.grown gr2 (Nat.le_trans H.out.b1 G1.out.size) (fun k hk => by simp at hk; omega)).setCell (.inl (by simp; omega)) _
  have HZ := Lib.hid (number_bad B0 B1 B2 Br Bm r ws (w2.setCell ⟨w1.heap.size, 3, none⟩ (.int .i64 lo)) S2.out HBAD.out (HER.out _ G2.out))
  clear st2 gr2 nb2 HC1
  go_wp2_with fail
  refine HZ.out.mono ?_
  rintro e wz ⟨rfl, hk⟩
  have HK := Lib.hid (G2.out.trans hk)
  clear hk HZ
  go_wp2
  exact ⟨rfl, rfl, HK.out⟩

set_option maxRecDepth 100000 in
set_option maxHeartbeats 2000000 in
theorem rnote_2_0 (B0 B1 B2 Br Bm : Nat) (r : Rd) (sa : ByteArray) (ia : Nat) (ws : List ByteArray) (w : World) (h : RdSt B0 B1 B2 Br Bm r (sa :: ws) w) (hsa : sa.size ≤ 2000) (ha : idxOf r.pts sa.data.toList = some ia) (hbad : NoNum ws) (hE : Errs0 B0 w) :
    Calls Tryz.prog 113 #[.pointer (some ⟨Br, 0, none⟩), .int .i64 2] w (PanP B1 Br Bm w) := by
  have h0 : B0 ≤ Br := h.b0r
  have h01 : Br < B1 := h.r1
  have HP := Lib.hid (point_any B0 B1 B2 Br Bm r sa (ws) ia w h hsa ha)
  have H := Lib.hid h
  have HBAD := Lib.hid hbad
  have HER := Lib.hid (fun w' (k : Kb B1 Br Bm w w') => h.errs hE k)
  clear h ha hbad hE
  go_enter Tryz.func113, Tryz.ntmps113
  go_wp2_with fail
  refine HP.out.mono ?_
  rintro e w1 ⟨rfl, st1, gr1⟩
  have hb1 := st1.b1
  have k1 : Below w1.heap.size w1 (w1.alloc (Obj.cells #[.int .i64 2, .int .i64 ia, .int .i64 0, .int .i64 0, .int .i64 0] 67)) := by go_grown
  have S1 := Lib.hid (st1.below k1)
  have hb0 : B0 ≤ w.heap.size := by have := H.out.b1; omega
  have g1 : Kb B1 Br Bm w w1 := (Kb.refl w).grown gr1 H.out.b1 (fun k hk => by simp at hk; omega)
  have hw1 := g1.size
  have G1 : Hid (Kb B1 Br Bm w (w1.alloc (Obj.cells #[.int .i64 2, .int .i64 ia, .int .i64 0, .int .i64 0, .int .i64 0] 67))) := g1.trans (Kb.of_below k1 hb1)
  have hB2 := st1.b2
  have N1 : Hid (NoteBlk (w1.alloc (Obj.cells #[.int .i64 2, .int .i64 ia, .int .i64 0, .int .i64 0, .int .i64 0] 67)) w1.heap.size 2 ia 0 0 0) := heap_alloc_new _ _
  have hbn : Br ≠ w1.heap.size := by omega
  have HZ := Lib.hid (number_bad B0 B1 B2 Br Bm r ws (w1.alloc (Obj.cells #[.int .i64 2, .int .i64 ia, .int .i64 0, .int .i64 0, .int .i64 0] 67)) S1.out HBAD.out (HER.out _ G1.out))
  clear st1 gr1 k1
  go_wp2_with fail
  refine HZ.out.mono ?_
  rintro e wz ⟨rfl, hk⟩
  have HK := Lib.hid (G1.out.trans hk)
  clear hk HZ
  go_wp2
  exact ⟨rfl, rfl, HK.out⟩

set_option maxRecDepth 100000 in
set_option maxHeartbeats 2000000 in
theorem rnote_2_1 (B0 B1 B2 Br Bm : Nat) (r : Rd) (sa : ByteArray) (ia : Nat) (sl : ByteArray) (lo : Int) (ws : List ByteArray) (w : World) (h : RdSt B0 B1 B2 Br Bm r (sa :: sl :: ws) w) (hsa : sa.size ≤ 2000) (ha : idxOf r.pts sa.data.toList = some ia) (hsl : sl.size ≤ 2000) (hl : Lib.atoiAll sl.data.toList = .ok lo) (hbad : NoNum ws) (hE : Errs0 B0 w) :
    Calls Tryz.prog 113 #[.pointer (some ⟨Br, 0, none⟩), .int .i64 2] w (PanP B1 Br Bm w) := by
  have h0 : B0 ≤ Br := h.b0r
  have h01 : Br < B1 := h.r1
  have HP := Lib.hid (point_any B0 B1 B2 Br Bm r sa (sl :: ws) ia w h hsa ha)
  have H := Lib.hid h
  have HBAD := Lib.hid hbad
  have HLO := Lib.hid hl
  have HER := Lib.hid (fun w' (k : Kb B1 Br Bm w w') => h.errs hE k)
  clear h ha hl hbad hE
  go_enter Tryz.func113, Tryz.ntmps113
  go_wp2_with fail
  refine HP.out.mono ?_
  rintro e w1 ⟨rfl, st1, gr1⟩
  have hb1 := st1.b1
  have k1 : Below w1.heap.size w1 (w1.alloc (Obj.cells #[.int .i64 2, .int .i64 ia, .int .i64 0, .int .i64 0, .int .i64 0] 67)) := by go_grown
  have S1 := Lib.hid (st1.below k1)
  have hb0 : B0 ≤ w.heap.size := by have := H.out.b1; omega
  have g1 : Kb B1 Br Bm w w1 := (Kb.refl w).grown gr1 H.out.b1 (fun k hk => by simp at hk; omega)
  have hw1 := g1.size
  have G1 : Hid (Kb B1 Br Bm w (w1.alloc (Obj.cells #[.int .i64 2, .int .i64 ia, .int .i64 0, .int .i64 0, .int .i64 0] 67))) := g1.trans (Kb.of_below k1 hb1)
  have hB2 := st1.b2
  have N1 : Hid (NoteBlk (w1.alloc (Obj.cells #[.int .i64 2, .int .i64 ia, .int .i64 0, .int .i64 0, .int .i64 0] 67)) w1.heap.size 2 ia 0 0 0) := heap_alloc_new _ _
  have hbn : Br ≠ w1.heap.size := by omega
  have hrest := number_any B0 B1 B2 Br Bm r sl (ws) lo (w1.alloc (Obj.cells #[.int .i64 2, .int .i64 ia, .int .i64 0, .int .i64 0, .int .i64 0] 67)) S1.out hsl HLO.out
  have HC1 := Lib.hid hrest
  clear hrest st1 gr1 k1
  go_wp2_with fail
  refine HC1.out.mono ?_
  rintro e w2 ⟨rfl, st2, gr2⟩
  have nb2 := N1.out.grown gr2 (by simpa using fun e => hbn e.symm)
  have cc2 := cellOf nb2 3 _ rfl
  have ff2 := frozen_of_row _ w1.heap.size 3 _ _ nb2
  have N2 : Hid (NoteBlk (w2.setCell ⟨w1.heap.size, 3, none⟩ (.int .i64 lo)) w1.heap.size 2 ia 0 lo 0) := heap_setCell_same _ w1.heap.size 3 _ _ _ nb2
  have S2 := Lib.hid (st2.setOther w1.heap.size 3 (.int .i64 lo) hB2)
  have G2 : Hid (Kb B1 Br Bm w (w2.setCell ⟨w1.heap.size, 3, none⟩ (.int .i64 lo))) := (G1.out.grown gr2 (Nat.le_trans H.out.b1 G1.out.size) (fun k hk => by simp at hk; omega)).setCell (.inl (by simp; omega)) _
  have HZ := Lib.hid (number_bad B0 B1 B2 Br Bm r ws (w2.setCell ⟨w1.heap.size, 3, none⟩ (.int .i64 lo)) S2.out HBAD.out (HER.out _ G2.out))
  clear st2 gr2 nb2 HC1
  go_wp2_with fail
  refine HZ.out.mono ?_
  rintro e wz ⟨rfl, hk⟩
  have HK := Lib.hid (G2.out.trans hk)
  clear hk HZ
  go_wp2
  exact ⟨rfl, rfl, HK.out⟩

set_option maxRecDepth 100000 in
set_option maxHeartbeats 2000000 in
theorem rnote_3_0 (B0 B1 B2 Br Bm : Nat) (r : Rd) (sa : ByteArray) (ia : Nat) (ws : List ByteArray) (w : World) (h : RdSt B0 B1 B2 Br Bm r (sa :: ws) w) (hsa : sa.size ≤ 2000) (ha : idxOf r.pts sa.data.toList = some ia) (hbad : NoPt r ws) :
    Calls Tryz.prog 113 #[.pointer (some ⟨Br, 0, none⟩), .int .i64 3] w (PanP B1 Br Bm w) := by
  have h0 : B0 ≤ Br := h.b0r
  have h01 : Br < B1 := h.r1
  have HP := Lib.hid (point_any B0 B1 B2 Br Bm r sa (ws) ia w h hsa ha)
  have H := Lib.hid h
  have HBAD := Lib.hid hbad
  clear h ha hbad
  go_enter Tryz.func113, Tryz.ntmps113
  go_wp2_with fail
  refine HP.out.mono ?_
  rintro e w1 ⟨rfl, st1, gr1⟩
  have hb1 := st1.b1
  have k1 : Below w1.heap.size w1 (w1.alloc (Obj.cells #[.int .i64 3, .int .i64 ia, .int .i64 0, .int .i64 0, .int .i64 0] 67)) := by go_grown
  have S1 := Lib.hid (st1.below k1)
  have hb0 : B0 ≤ w.heap.size := by have := H.out.b1; omega
  have g1 : Kb B1 Br Bm w w1 := (Kb.refl w).grown gr1 H.out.b1 (fun k hk => by simp at hk; omega)
  have hw1 := g1.size
  have G1 : Hid (Kb B1 Br Bm w (w1.alloc (Obj.cells #[.int .i64 3, .int .i64 ia, .int .i64 0, .int .i64 0, .int .i64 0] 67))) := g1.trans (Kb.of_below k1 hb1)
  have hB2 := st1.b2
  have N1 : Hid (NoteBlk (w1.alloc (Obj.cells #[.int .i64 3, .int .i64 ia, .int .i64 0, .int .i64 0, .int .i64 0] 67)) w1.heap.size 3 ia 0 0 0) := heap_alloc_new _ _
  have hbn : Br ≠ w1.heap.size := by omega
  have HZ := Lib.hid (point_bad B0 B1 B2 Br Bm r ws (w1.alloc (Obj.cells #[.int .i64 3, .int .i64 ia, .int .i64 0, .int .i64 0, .int .i64 0] 67)) S1.out HBAD.out)
  clear st1 gr1 k1
  go_wp2_with fail
  refine HZ.out.mono ?_
  rintro e wz ⟨rfl, hk⟩
  have HK := Lib.hid (G1.out.trans hk)
  clear hk HZ
  go_wp2
  exact ⟨rfl, rfl, HK.out⟩

set_option maxRecDepth 100000 in
set_option maxHeartbeats 2000000 in
theorem rnote_4_0 (B0 B1 B2 Br Bm : Nat) (r : Rd) (sa : ByteArray) (ia : Nat) (ws : List ByteArray) (w : World) (h : RdSt B0 B1 B2 Br Bm r (sa :: ws) w) (hsa : sa.size ≤ 2000) (ha : idxOf r.pts sa.data.toList = some ia) (hbad : NoPt r ws) :
    Calls Tryz.prog 113 #[.pointer (some ⟨Br, 0, none⟩), .int .i64 4] w (PanP B1 Br Bm w) := by
  have h0 : B0 ≤ Br := h.b0r
  have h01 : Br < B1 := h.r1
  have HP := Lib.hid (point_any B0 B1 B2 Br Bm r sa (ws) ia w h hsa ha)
  have H := Lib.hid h
  have HBAD := Lib.hid hbad
  clear h ha hbad
  go_enter Tryz.func113, Tryz.ntmps113
  go_wp2_with fail
  refine HP.out.mono ?_
  rintro e w1 ⟨rfl, st1, gr1⟩
  have hb1 := st1.b1
  have k1 : Below w1.heap.size w1 (w1.alloc (Obj.cells #[.int .i64 4, .int .i64 ia, .int .i64 0, .int .i64 0, .int .i64 0] 67)) := by go_grown
  have S1 := Lib.hid (st1.below k1)
  have hb0 : B0 ≤ w.heap.size := by have := H.out.b1; omega
  have g1 : Kb B1 Br Bm w w1 := (Kb.refl w).grown gr1 H.out.b1 (fun k hk => by simp at hk; omega)
  have hw1 := g1.size
  have G1 : Hid (Kb B1 Br Bm w (w1.alloc (Obj.cells #[.int .i64 4, .int .i64 ia, .int .i64 0, .int .i64 0, .int .i64 0] 67))) := g1.trans (Kb.of_below k1 hb1)
  have hB2 := st1.b2
  have N1 : Hid (NoteBlk (w1.alloc (Obj.cells #[.int .i64 4, .int .i64 ia, .int .i64 0, .int .i64 0, .int .i64 0] 67)) w1.heap.size 4 ia 0 0 0) := heap_alloc_new _ _
  have hbn : Br ≠ w1.heap.size := by omega
  have HZ := Lib.hid (point_bad B0 B1 B2 Br Bm r ws (w1.alloc (Obj.cells #[.int .i64 4, .int .i64 ia, .int .i64 0, .int .i64 0, .int .i64 0] 67)) S1.out HBAD.out)
  clear st1 gr1 k1
  go_wp2_with fail
  refine HZ.out.mono ?_
  rintro e wz ⟨rfl, hk⟩
  have HK := Lib.hid (G1.out.trans hk)
  clear hk HZ
  go_wp2
  exact ⟨rfl, rfl, HK.out⟩

set_option maxRecDepth 100000 in
set_option maxHeartbeats 2000000 in
theorem rnote_4_1 (B0 B1 B2 Br Bm : Nat) (r : Rd) (sa : ByteArray) (ia : Nat) (sb : ByteArray) (ib : Nat) (ws : List ByteArray) (w : World) (h : RdSt B0 B1 B2 Br Bm r (sa :: sb :: ws) w) (hsa : sa.size ≤ 2000) (ha : idxOf r.pts sa.data.toList = some ia) (hsb : sb.size ≤ 2000) (hb : idxOf r.pts sb.data.toList = some ib) (hbad : NoNum ws) (hE : Errs0 B0 w) :
    Calls Tryz.prog 113 #[.pointer (some ⟨Br, 0, none⟩), .int .i64 4] w (PanP B1 Br Bm w) := by
  have h0 : B0 ≤ Br := h.b0r
  have h01 : Br < B1 := h.r1
  have HP := Lib.hid (point_any B0 B1 B2 Br Bm r sa (sb :: ws) ia w h hsa ha)
  have H := Lib.hid h
  have HBAD := Lib.hid hbad
  have HB := Lib.hid hb
  have HER := Lib.hid (fun w' (k : Kb B1 Br Bm w w') => h.errs hE k)
  clear h ha hb hbad hE
  go_enter Tryz.func113, Tryz.ntmps113
  go_wp2_with fail
  refine HP.out.mono ?_
  rintro e w1 ⟨rfl, st1, gr1⟩
  have hb1 := st1.b1
  have k1 : Below w1.heap.size w1 (w1.alloc (Obj.cells #[.int .i64 4, .int .i64 ia, .int .i64 0, .int .i64 0, .int .i64 0] 67)) := by go_grown
  have S1 := Lib.hid (st1.below k1)
  have hb0 : B0 ≤ w.heap.size := by have := H.out.b1; omega
  have g1 : Kb B1 Br Bm w w1 := (Kb.refl w).grown gr1 H.out.b1 (fun k hk => by simp at hk; omega)
  have hw1 := g1.size
  have G1 : Hid (Kb B1 Br Bm w (w1.alloc (Obj.cells #[.int .i64 4, .int .i64 ia, .int .i64 0, .int .i64 0, .int .i64 0] 67))) := g1.trans (Kb.of_below k1 hb1)
  have hB2 := st1.b2
  have N1 : Hid (NoteBlk (w1.alloc (Obj.cells #[.int .i64 4, .int .i64 ia, .int .i64 0, .int .i64 0, .int .i64 0] 67)) w1.heap.size 4 ia 0 0 0) := heap_alloc_new _ _
  have hbn : Br ≠ w1.heap.size := by omega
  have hrest := point_any B0 B1 B2 Br Bm r sb (ws) ib (w1.alloc (Obj.cells #[.int .i64 4, .int .i64 ia, .int .i64 0, .int .i64 0, .int .i64 0] 67)) S1.out hsb HB.out
  have HC1 := Lib.hid hrest
  clear hrest st1 gr1 k1
  go_wp2_with fail
  refine HC1.out.mono ?_
  rintro e w2 ⟨rfl, st2, gr2⟩
  have nb2 := N1.out.grown gr2 (by simpa using fun e => hbn e.symm)
  have cc2 := cellOf nb2 2 _ rfl
  have ff2 := frozen_of_row _ w1.heap.size 2 _ _ nb2
  have N2 : Hid (NoteBlk (w2.setCell ⟨w1.heap.size, 2, none⟩ (.int .i64 ib)) w1.heap.size 4 ia ib 0 0) := heap_setCell_same _ w1.heap.size 2 _ _ _ nb2
  have S2 := Lib.hid (st2.setOther w1.heap.size 2 (.int .i64 ib) hB2)
  have G2 : Hid (Kb B1 Br Bm w (w2.setCell ⟨w1.heap.size, 2, none⟩ (.int .i64 ib))) := (G1.out.grown gr2 (Nat.le_trans H.out.b1 G1.out.size) (fun k hk => by simp at hk; omega)).setCell (.inl (by simp; omega)) _
  have HZ := Lib.hid (number_bad B0 B1 B2 Br Bm r ws (w2.setCell ⟨w1.heap.size, 2, none⟩ (.int .i64 ib)) S2.out HBAD.out (HER.out _ G2.out))
  clear st2 gr2 nb2 HC1
  go_wp2_with fail
  refine HZ.out.mono ?_
  rintro e wz ⟨rfl, hk⟩
  have HK := Lib.hid (G2.out.trans hk)
  clear hk HZ
  go_wp2
  exact ⟨rfl, rfl, HK.out⟩

set_option maxRecDepth 100000 in
set_option maxHeartbeats 2000000 in
theorem rnote_4_2 (B0 B1 B2 Br Bm : Nat) (r : Rd) (sa : ByteArray) (ia : Nat) (sb : ByteArray) (ib : Nat) (sl : ByteArray) (lo : Int) (ws : List ByteArray) (w : World) (h : RdSt B0 B1 B2 Br Bm r (sa :: sb :: sl :: ws) w) (hsa : sa.size ≤ 2000) (ha : idxOf r.pts sa.data.toList = some ia) (hsb : sb.size ≤ 2000) (hb : idxOf r.pts sb.data.toList = some ib) (hsl : sl.size ≤ 2000) (hl : Lib.atoiAll sl.data.toList = .ok lo) (hbad : NoNum ws) (hE : Errs0 B0 w) :
    Calls Tryz.prog 113 #[.pointer (some ⟨Br, 0, none⟩), .int .i64 4] w (PanP B1 Br Bm w) := by
  have h0 : B0 ≤ Br := h.b0r
  have h01 : Br < B1 := h.r1
  have HP := Lib.hid (point_any B0 B1 B2 Br Bm r sa (sb :: sl :: ws) ia w h hsa ha)
  have H := Lib.hid h
  have HBAD := Lib.hid hbad
  have HB := Lib.hid hb
  have HLO := Lib.hid hl
  have HER := Lib.hid (fun w' (k : Kb B1 Br Bm w w') => h.errs hE k)
  clear h ha hb hl hbad hE
  go_enter Tryz.func113, Tryz.ntmps113
  go_wp2_with fail
  refine HP.out.mono ?_
  rintro e w1 ⟨rfl, st1, gr1⟩
  have hb1 := st1.b1
  have k1 : Below w1.heap.size w1 (w1.alloc (Obj.cells #[.int .i64 4, .int .i64 ia, .int .i64 0, .int .i64 0, .int .i64 0] 67)) := by go_grown
  have S1 := Lib.hid (st1.below k1)
  have hb0 : B0 ≤ w.heap.size := by have := H.out.b1; omega
  have g1 : Kb B1 Br Bm w w1 := (Kb.refl w).grown gr1 H.out.b1 (fun k hk => by simp at hk; omega)
  have hw1 := g1.size
  have G1 : Hid (Kb B1 Br Bm w (w1.alloc (Obj.cells #[.int .i64 4, .int .i64 ia, .int .i64 0, .int .i64 0, .int .i64 0] 67))) := g1.trans (Kb.of_below k1 hb1)
  have hB2 := st1.b2
  have N1 : Hid (NoteBlk (w1.alloc (Obj.cells #[.int .i64 4, .int .i64 ia, .int .i64 0, .int .i64 0, .int .i64 0] 67)) w1.heap.size 4 ia 0 0 0) := heap_alloc_new _ _
  have hbn : Br ≠ w1.heap.size := by omega
  have hrest := point_any B0 B1 B2 Br Bm r sb (sl :: ws) ib (w1.alloc (Obj.cells #[.int .i64 4, .int .i64 ia, .int .i64 0, .int .i64 0, .int .i64 0] 67)) S1.out hsb HB.out
  have HC1 := Lib.hid hrest
  clear hrest st1 gr1 k1
  go_wp2_with fail
  refine HC1.out.mono ?_
  rintro e w2 ⟨rfl, st2, gr2⟩
  have nb2 := N1.out.grown gr2 (by simpa using fun e => hbn e.symm)
  have cc2 := cellOf nb2 2 _ rfl
  have ff2 := frozen_of_row _ w1.heap.size 2 _ _ nb2
  have N2 : Hid (NoteBlk (w2.setCell ⟨w1.heap.size, 2, none⟩ (.int .i64 ib)) w1.heap.size 4 ia ib 0 0) := heap_setCell_same _ w1.heap.size 2 _ _ _ nb2
  have S2 := Lib.hid (st2.setOther w1.heap.size 2 (.int .i64 ib) hB2)
  have G2 : Hid (Kb B1 Br Bm w (w2.setCell ⟨w1.heap.size, 2, none⟩ (.int .i64 ib))) := (G1.out.grown gr2 (Nat.le_trans H.out.b1 G1.out.size) (fun k hk => by simp at hk; omega)).setCell (.inl (by simp; omega)) _
  have hrest := number_any B0 B1 B2 Br Bm r sl (ws) lo (w2.setCell ⟨w1.heap.size, 2, none⟩ (.int .i64 ib)) S2.out hsl HLO.out
  have HC2 := Lib.hid hrest
  clear hrest st2 gr2 nb2 HC1
  go_wp2_with fail
  refine HC2.out.mono ?_
  rintro e w3 ⟨rfl, st3, gr3⟩
  have nb3 := N2.out.grown gr3 (by simpa using fun e => hbn e.symm)
  have cc3 := cellOf nb3 3 _ rfl
  have ff3 := frozen_of_row _ w1.heap.size 3 _ _ nb3
  have N3 : Hid (NoteBlk (w3.setCell ⟨w1.heap.size, 3, none⟩ (.int .i64 lo)) w1.heap.size 4 ia ib lo 0) := heap_setCell_same _ w1.heap.size 3 _ _ _ nb3
  have S3 := Lib.hid (st3.setOther w1.heap.size 3 (.int .i64 lo) hB2)
  have G3 : Hid (Kb B1 Br Bm w (w3.setCell ⟨w1.heap.size, 3, none⟩ (.int .i64 lo))) := (G2.out.grown gr3 (Nat.le_trans H.out.b1 G2.out.size) (fun k hk => by simp at hk; omega)).setCell (.inl (by simp; omega)) _
  have HZ := Lib.hid (number_bad B0 B1 B2 Br Bm r ws (w3.setCell ⟨w1.heap.size, 3, none⟩ (.int .i64 lo)) S3.out HBAD.out (HER.out _ G3.out))
  clear st3 gr3 nb3 HC2
  go_wp2_with fail
  refine HZ.out.mono ?_
  rintro e wz ⟨rfl, hk⟩
  have HK := Lib.hid (G3.out.trans hk)
  clear hk HZ
  go_wp2
  exact ⟨rfl, rfl, HK.out⟩
end Go.Proofs.YtacmaddjpaebfaaGreatDoor
namespace Go.Proofs.YtacmaddjpaebfaaGreatDoor
open Go Go.RowKit Hs

set_option maxRecDepth 100000 in
set_option maxHeartbeats 1000000 in
theorem pline_e (B0 B1 B2 Br Bm : Nat) (r : Rd) (w : World) (h : RdSt B0 B1 B2 Br Bm r [] w) :
    Calls Tryz.prog 89 #[.pointer (some ⟨Br, 0, none⟩)] w (PanP B1 Br Bm w) := by
  have HW := Lib.hid (word_none B0 B1 B2 Br Bm r w h)
  clear h
  go_enter Tryz.func89, Tryz.ntmps89
  go_wp2_with fail
  refine HW.out.mono ?_
  rintro e w1 ⟨rfl, hk⟩
  go_wp2
  exact ⟨rfl, rfl, hk⟩

set_option maxRecDepth 100000 in
set_option maxHeartbeats 1000000 in
theorem pline_sheet (B0 B1 B2 Br Bm : Nat) (r : Rd) (ws : List ByteArray) (w : World) (h : RdSt B0 B1 B2 Br Bm r ((⟨#[115, 104, 101, 101, 116]⟩ : ByteArray) :: ws) w)
    (hc : ∀ w1, RdSt B0 B1 B2 Br Bm r ws w1 → Kb B1 Br Bm w w1 → Calls Tryz.prog 111 #[.pointer (some ⟨Br, 0, none⟩)] w1 (PanP B1 Br Bm w1)) :
    Calls Tryz.prog 89 #[.pointer (some ⟨Br, 0, none⟩)] w (PanP B1 Br Bm w) := by
  have HW := Lib.hid (word_any B0 B1 B2 Br Bm r (⟨#[115, 104, 101, 101, 116]⟩ : ByteArray) ws w h)
  have HKG := Lib.hid (fun w' (hg : w.grownBy w' (some Br)) => kb_grown h hg)
  have HC := Lib.hid hc
  clear h hc
  go_enter Tryz.func89, Tryz.ntmps89
  go_wp2_with fail
  refine HW.out.mono ?_
  rintro e w1 ⟨rfl, st1, gr1⟩
  have HZ := Lib.hid (HC.out w1 st1 (HKG.out w1 gr1))
  have HK := Lib.hid (HKG.out w1 gr1)
  clear st1 gr1 HW HC HKG
  go_wp2_with fail
  refine HZ.out.mono ?_
  rintro e w2 ⟨rfl, hk⟩
  have HK2 := Lib.hid (HK.out.trans hk)
  clear hk HZ HK
  go_wp2
  exact ⟨rfl, rfl, HK2.out⟩

set_option maxRecDepth 100000 in
set_option maxHeartbeats 1000000 in
theorem pline_point (B0 B1 B2 Br Bm : Nat) (r : Rd) (ws : List ByteArray) (w : World) (h : RdSt B0 B1 B2 Br Bm r ((⟨#[112, 111, 105, 110, 116]⟩ : ByteArray) :: ws) w)
    (hc : ∀ w1, RdSt B0 B1 B2 Br Bm r ws w1 → Kb B1 Br Bm w w1 → Calls Tryz.prog 112 #[.pointer (some ⟨Br, 0, none⟩)] w1 (PanP B1 Br Bm w1)) :
    Calls Tryz.prog 89 #[.pointer (some ⟨Br, 0, none⟩)] w (PanP B1 Br Bm w) := by
  have HW := Lib.hid (word_any B0 B1 B2 Br Bm r (⟨#[112, 111, 105, 110, 116]⟩ : ByteArray) ws w h)
  have HKG := Lib.hid (fun w' (hg : w.grownBy w' (some Br)) => kb_grown h hg)
  have HC := Lib.hid hc
  clear h hc
  go_enter Tryz.func89, Tryz.ntmps89
  go_wp2_with fail
  refine HW.out.mono ?_
  rintro e w1 ⟨rfl, st1, gr1⟩
  have HZ := Lib.hid (HC.out w1 st1 (HKG.out w1 gr1))
  have HK := Lib.hid (HKG.out w1 gr1)
  clear st1 gr1 HW HC HKG
  go_wp2_with fail
  refine HZ.out.mono ?_
  rintro e w2 ⟨rfl, hk⟩
  have HK2 := Lib.hid (HK.out.trans hk)
  clear hk HZ HK
  go_wp2
  exact ⟨rfl, rfl, HK2.out⟩

set_option maxRecDepth 100000 in
set_option maxHeartbeats 1000000 in
theorem pline_spot (B0 B1 B2 Br Bm : Nat) (r : Rd) (ws : List ByteArray) (w : World) (h : RdSt B0 B1 B2 Br Bm r ((⟨#[115, 112, 111, 116]⟩ : ByteArray) :: ws) w)
    (hc : ∀ w1, RdSt B0 B1 B2 Br Bm r ws w1 → Kb B1 Br Bm w w1 → Calls Tryz.prog 113 #[.pointer (some ⟨Br, 0, none⟩), .int .i64 1] w1 (PanP B1 Br Bm w1)) :
    Calls Tryz.prog 89 #[.pointer (some ⟨Br, 0, none⟩)] w (PanP B1 Br Bm w) := by
  have HW := Lib.hid (word_any B0 B1 B2 Br Bm r (⟨#[115, 112, 111, 116]⟩ : ByteArray) ws w h)
  have HKG := Lib.hid (fun w' (hg : w.grownBy w' (some Br)) => kb_grown h hg)
  have HC := Lib.hid hc
  clear h hc
  go_enter Tryz.func89, Tryz.ntmps89
  go_wp2_with fail
  refine HW.out.mono ?_
  rintro e w1 ⟨rfl, st1, gr1⟩
  have HZ := Lib.hid (HC.out w1 st1 (HKG.out w1 gr1))
  have HK := Lib.hid (HKG.out w1 gr1)
  clear st1 gr1 HW HC HKG
  go_wp2_with fail
  refine HZ.out.mono ?_
  rintro e w2 ⟨rfl, hk⟩
  have HK2 := Lib.hid (HK.out.trans hk)
  clear hk HZ HK
  go_wp2
  exact ⟨rfl, rfl, HK2.out⟩

set_option maxRecDepth 100000 in
set_option maxHeartbeats 1000000 in
theorem pline_contour (B0 B1 B2 Br Bm : Nat) (r : Rd) (ws : List ByteArray) (w : World) (h : RdSt B0 B1 B2 Br Bm r ((⟨#[99, 111, 110, 116, 111, 117, 114]⟩ : ByteArray) :: ws) w)
    (hc : ∀ w1, RdSt B0 B1 B2 Br Bm r ws w1 → Kb B1 Br Bm w w1 → Calls Tryz.prog 113 #[.pointer (some ⟨Br, 0, none⟩), .int .i64 2] w1 (PanP B1 Br Bm w1)) :
    Calls Tryz.prog 89 #[.pointer (some ⟨Br, 0, none⟩)] w (PanP B1 Br Bm w) := by
  have HW := Lib.hid (word_any B0 B1 B2 Br Bm r (⟨#[99, 111, 110, 116, 111, 117, 114]⟩ : ByteArray) ws w h)
  have HKG := Lib.hid (fun w' (hg : w.grownBy w' (some Br)) => kb_grown h hg)
  have HC := Lib.hid hc
  clear h hc
  go_enter Tryz.func89, Tryz.ntmps89
  go_wp2_with fail
  refine HW.out.mono ?_
  rintro e w1 ⟨rfl, st1, gr1⟩
  have HZ := Lib.hid (HC.out w1 st1 (HKG.out w1 gr1))
  have HK := Lib.hid (HKG.out w1 gr1)
  clear st1 gr1 HW HC HKG
  go_wp2_with fail
  refine HZ.out.mono ?_
  rintro e w2 ⟨rfl, hk⟩
  have HK2 := Lib.hid (HK.out.trans hk)
  clear hk HZ HK
  go_wp2
  exact ⟨rfl, rfl, HK2.out⟩

set_option maxRecDepth 100000 in
set_option maxHeartbeats 1000000 in
theorem pline_lake (B0 B1 B2 Br Bm : Nat) (r : Rd) (ws : List ByteArray) (w : World) (h : RdSt B0 B1 B2 Br Bm r ((⟨#[108, 97, 107, 101]⟩ : ByteArray) :: ws) w)
    (hc : ∀ w1, RdSt B0 B1 B2 Br Bm r ws w1 → Kb B1 Br Bm w w1 → Calls Tryz.prog 113 #[.pointer (some ⟨Br, 0, none⟩), .int .i64 3] w1 (PanP B1 Br Bm w1)) :
    Calls Tryz.prog 89 #[.pointer (some ⟨Br, 0, none⟩)] w (PanP B1 Br Bm w) := by
  have HW := Lib.hid (word_any B0 B1 B2 Br Bm r (⟨#[108, 97, 107, 101]⟩ : ByteArray) ws w h)
  have HKG := Lib.hid (fun w' (hg : w.grownBy w' (some Br)) => kb_grown h hg)
  have HC := Lib.hid hc
  clear h hc
  go_enter Tryz.func89, Tryz.ntmps89
  go_wp2_with fail
  refine HW.out.mono ?_
  rintro e w1 ⟨rfl, st1, gr1⟩
  have HZ := Lib.hid (HC.out w1 st1 (HKG.out w1 gr1))
  have HK := Lib.hid (HKG.out w1 gr1)
  clear st1 gr1 HW HC HKG
  go_wp2_with fail
  refine HZ.out.mono ?_
  rintro e w2 ⟨rfl, hk⟩
  have HK2 := Lib.hid (HK.out.trans hk)
  clear hk HZ HK
  go_wp2
  exact ⟨rfl, rfl, HK2.out⟩

set_option maxRecDepth 100000 in
set_option maxHeartbeats 1000000 in
theorem pline_slope (B0 B1 B2 Br Bm : Nat) (r : Rd) (ws : List ByteArray) (w : World) (h : RdSt B0 B1 B2 Br Bm r ((⟨#[115, 108, 111, 112, 101]⟩ : ByteArray) :: ws) w)
    (hc : ∀ w1, RdSt B0 B1 B2 Br Bm r ws w1 → Kb B1 Br Bm w w1 → Calls Tryz.prog 113 #[.pointer (some ⟨Br, 0, none⟩), .int .i64 4] w1 (PanP B1 Br Bm w1)) :
    Calls Tryz.prog 89 #[.pointer (some ⟨Br, 0, none⟩)] w (PanP B1 Br Bm w) := by
  have HW := Lib.hid (word_any B0 B1 B2 Br Bm r (⟨#[115, 108, 111, 112, 101]⟩ : ByteArray) ws w h)
  have HKG := Lib.hid (fun w' (hg : w.grownBy w' (some Br)) => kb_grown h hg)
  have HC := Lib.hid hc
  clear h hc
  go_enter Tryz.func89, Tryz.ntmps89
  go_wp2_with fail
  refine HW.out.mono ?_
  rintro e w1 ⟨rfl, st1, gr1⟩
  have HZ := Lib.hid (HC.out w1 st1 (HKG.out w1 gr1))
  have HK := Lib.hid (HKG.out w1 gr1)
  clear st1 gr1 HW HC HKG
  go_wp2_with fail
  refine HZ.out.mono ?_
  rintro e w2 ⟨rfl, hk⟩
  have HK2 := Lib.hid (HK.out.trans hk)
  clear hk HZ HK
  go_wp2
  exact ⟨rfl, rfl, HK2.out⟩

theorem str_no {k : ByteArray} {l : List UInt8} (h : k.data.toList ≠ l) : (k.toList == l) = false := by
  rw [beq_eq_false_iff_ne, Lib.toList_data]
  exact h

set_option maxRecDepth 100000 in
set_option maxHeartbeats 1000000 in
theorem pline_o (B0 B1 B2 Br Bm : Nat) (r : Rd) (k : ByteArray) (ws : List ByteArray) (w : World) (h : RdSt B0 B1 B2 Br Bm r (k :: ws) w) (h0 : k.data.toList ≠ wSheet) (h1 : k.data.toList ≠ wPoint) (h2 : k.data.toList ≠ wSpot) (h3 : k.data.toList ≠ wContour) (h4 : k.data.toList ≠ wLake) (h5 : k.data.toList ≠ wSlope) :
    Calls Tryz.prog 89 #[.pointer (some ⟨Br, 0, none⟩)] w (PanP B1 Br Bm w) := by
  have HW := Lib.hid (word_any B0 B1 B2 Br Bm r k ws w h)
  have HKG := Lib.hid (fun w' (hg : w.grownBy w' (some Br)) => kb_grown h hg)
  have f0 : (k.toList == [115, 104, 101, 101, 116]) = false := str_no h0
  have f1 : (k.toList == [112, 111, 105, 110, 116]) = false := str_no h1
  have f2 : (k.toList == [115, 112, 111, 116]) = false := str_no h2
  have f3 : (k.toList == [99, 111, 110, 116, 111, 117, 114]) = false := str_no h3
  have f4 : (k.toList == [108, 97, 107, 101]) = false := str_no h4
  have f5 : (k.toList == [115, 108, 111, 112, 101]) = false := str_no h5
  clear h h0 h1 h2 h3 h4 h5
  go_enter Tryz.func89, Tryz.ntmps89
  go_wp2_with fail
  refine HW.out.mono ?_
  rintro e w1 ⟨rfl, st1, gr1⟩
  have HK := Lib.hid (HKG.out w1 gr1)
  clear st1 gr1 HW HKG
  go_wp2
  exact ⟨rfl, rfl, HK.out⟩

theorem noNum_of {s : ByteArray} {l : List ByteArray} (hs : s.size ≤ 2000) (h : rdNum s = none) : NoNum (s :: l) := .inr ⟨s, l, rfl, hs, fun n e => by
  unfold rdNum at h
  rw [e] at h
  cases h⟩
theorem noPt_of {r : Rd} {s : ByteArray} {l : List ByteArray} (hs : s.size ≤ 2000) (h : idxOf r.pts s.data.toList = none) : NoPt r (s :: l) := .inr ⟨s, l, rfl, hs, h⟩
theorem rdNum_cases (s : ByteArray) : rdNum s = none ∨ ∃ n, Lib.atoiAll s.data.toList = .ok n := by
  rcases e : rdNum s with _ | n
  · exact .inl rfl
  · exact .inr ⟨n, rdNum_ok e⟩
theorem rdNum_some {s : ByteArray} {n : Int} (h : Lib.atoiAll s.data.toList = .ok n) : rdNum s = some n := by unfold rdNum; rw [h]
theorem idx_cases (r : Rd) (s : ByteArray) : idxOf r.pts s.data.toList = none ∨ ∃ i, idxOf r.pts s.data.toList = some i := by
  rcases e : idxOf r.pts s.data.toList with _ | i
  · exact .inl rfl
  · exact .inr ⟨i, rfl⟩
/-- A note that is none panics. -/
theorem rnote_none (B0 B1 B2 Br Bm : Nat) (r : Rd) (k : Int) (ws : List ByteArray) (w : World) (hk : k = 1 ∨ k = 2 ∨ k = 3 ∨ k = 4) (h : RdSt B0 B1 B2 Br Bm r ws w) (hz : ∀ x, x ∈ ws → x.size ≤ 2000) (hn : rdNote r k ws = none) (hE : Errs0 B0 w) :
    Calls Tryz.prog 113 #[.pointer (some ⟨Br, 0, none⟩), .int .i64 k] w (PanP B1 Br Bm w) := by
  cases ws with
  | nil => exact rnote_p B0 B1 B2 Br Bm r k [] w h (.inl rfl)
  | cons sa ws =>
    have hsa := hz sa (by simp)
    rcases idx_cases r sa with ha | ⟨ia, ha⟩
    · exact rnote_p B0 B1 B2 Br Bm r k _ w h (noPt_of hsa ha)
    · rcases hk with rfl | rfl | rfl | rfl
      · cases ws with
        | nil => exact rnote_1_0 B0 B1 B2 Br Bm r sa ia [] w h hsa ha (.inl rfl) hE
        | cons sl ws =>
          have hsl := hz sl (by simp)
          rcases rdNum_cases sl with hl | ⟨lo, hl⟩
          · exact rnote_1_0 B0 B1 B2 Br Bm r sa ia _ w h hsa ha (noNum_of hsl hl) hE
          · cases ws with
            | nil => exact rnote_1_1 B0 B1 B2 Br Bm r sa ia sl lo [] w h hsa ha hsl hl (.inl rfl) hE
            | cons sh ws =>
              have hsh := hz sh (by simp)
              rcases rdNum_cases sh with hh | ⟨hi, hh⟩
              · exact rnote_1_1 B0 B1 B2 Br Bm r sa ia sl lo _ w h hsa ha hsl hl (noNum_of hsh hh) hE
              · simp [rdNote, ha, rdNum_some hl, rdNum_some hh] at hn
      · cases ws with
        | nil => exact rnote_2_0 B0 B1 B2 Br Bm r sa ia [] w h hsa ha (.inl rfl) hE
        | cons sl ws =>
          have hsl := hz sl (by simp)
          rcases rdNum_cases sl with hl | ⟨lo, hl⟩
          · exact rnote_2_0 B0 B1 B2 Br Bm r sa ia _ w h hsa ha (noNum_of hsl hl) hE
          · cases ws with
            | nil => exact rnote_2_1 B0 B1 B2 Br Bm r sa ia sl lo [] w h hsa ha hsl hl (.inl rfl) hE
            | cons sh ws =>
              have hsh := hz sh (by simp)
              rcases rdNum_cases sh with hh | ⟨hi, hh⟩
              · exact rnote_2_1 B0 B1 B2 Br Bm r sa ia sl lo _ w h hsa ha hsl hl (noNum_of hsh hh) hE
              · simp [rdNote, ha, rdNum_some hl, rdNum_some hh] at hn
      · cases ws with
        | nil => exact rnote_3_0 B0 B1 B2 Br Bm r sa ia [] w h hsa ha (.inl rfl)
        | cons sb ws =>
          have hsb := hz sb (by simp)
          rcases idx_cases r sb with hb | ⟨ib, hb⟩
          · exact rnote_3_0 B0 B1 B2 Br Bm r sa ia _ w h hsa ha (noPt_of hsb hb)
          · simp [rdNote, ha, hb] at hn
      · cases ws with
        | nil => exact rnote_4_0 B0 B1 B2 Br Bm r sa ia [] w h hsa ha (.inl rfl)
        | cons sb ws =>
          have hsb := hz sb (by simp)
          rcases idx_cases r sb with hb | ⟨ib, hb⟩
          · exact rnote_4_0 B0 B1 B2 Br Bm r sa ia _ w h hsa ha (noPt_of hsb hb)
          · cases ws with
            | nil => exact rnote_4_1 B0 B1 B2 Br Bm r sa ia sb ib [] w h hsa ha hsb hb (.inl rfl) hE
            | cons sl ws =>
              have hsl := hz sl (by simp)
              rcases rdNum_cases sl with hl | ⟨lo, hl⟩
              · exact rnote_4_1 B0 B1 B2 Br Bm r sa ia sb ib _ w h hsa ha hsb hb (noNum_of hsl hl) hE
              · cases ws with
                | nil => exact rnote_4_2 B0 B1 B2 Br Bm r sa ia sb ib sl lo [] w h hsa ha hsb hb hsl hl (.inl rfl) hE
                | cons sh ws =>
                  have hsh := hz sh (by simp)
                  rcases rdNum_cases sh with hh | ⟨hi, hh⟩
                  · exact rnote_4_2 B0 B1 B2 Br Bm r sa ia sb ib sl lo _ w h hsa ha hsb hb hsl hl (noNum_of hsh hh) hE
                  · simp [rdNote, ha, hb, rdNum_some hl, rdNum_some hh] at hn
/-- A line that is none panics. -/
theorem rline_none (B0 B1 B2 Br Bm : Nat) (r : Rd) (ws : List ByteArray) (w : World) (h : RdSt B0 B1 B2 Br Bm r ws w) (hl : rdLine r ws = none) (hz : ∀ x, x ∈ ws → x.size ≤ 2000) (hE : Errs0 B0 w) :
    Calls Tryz.prog 89 #[.pointer (some ⟨Br, 0, none⟩)] w (PanP B1 Br Bm w) := by
  have hEk : ∀ w1, Kb B1 Br Bm w w1 → Errs0 B0 w1 := fun w1 k => h.errs hE k
  cases ws with
  | nil => exact pline_e B0 B1 B2 Br Bm r w h
  | cons k rest =>
    have hzr : ∀ x, x ∈ rest → x.size ≤ 2000 := fun x hx => hz x (by simp [hx])
    unfold rdLine at hl
    simp only at hl
    split at hl
    · rename_i hk
      obtain rfl := word_is hk
      refine pline_sheet B0 B1 B2 Br Bm r rest w h fun w1 st k1 => number_bad B0 B1 B2 Br Bm r rest w1 st ?_ (hEk w1 k1)
      cases rest with
      | nil => exact .inl rfl
      | cons s l =>
        simp only at hl
        rcases e : rdNum s with _ | n
        · exact noNum_of (hzr s (by simp)) e
        · rw [e] at hl; cases hl
    rename_i h0
    split at hl
    · rename_i hk
      obtain rfl := word_is hk
      cases rest with
      | nil => exact pline_point B0 B1 B2 Br Bm r [] w h fun w1 st _ => rname_none B0 B1 B2 Br Bm r w1 st
      | cons s l => cases hl
    rename_i h1
    split at hl
    · rename_i hk
      obtain rfl := word_is hk
      exact pline_spot B0 B1 B2 Br Bm r rest w h fun w1 st k1 => rnote_none B0 B1 B2 Br Bm r 1 rest w1 (by decide) st hzr hl (hEk w1 k1)
    rename_i h2
    split at hl
    · rename_i hk
      obtain rfl := word_is hk
      exact pline_contour B0 B1 B2 Br Bm r rest w h fun w1 st k1 => rnote_none B0 B1 B2 Br Bm r 2 rest w1 (by decide) st hzr hl (hEk w1 k1)
    rename_i h3
    split at hl
    · rename_i hk
      obtain rfl := word_is hk
      exact pline_lake B0 B1 B2 Br Bm r rest w h fun w1 st k1 => rnote_none B0 B1 B2 Br Bm r 3 rest w1 (by decide) st hzr hl (hEk w1 k1)
    rename_i h4
    split at hl
    · rename_i hk
      obtain rfl := word_is hk
      exact pline_slope B0 B1 B2 Br Bm r rest w h fun w1 st k1 => rnote_none B0 B1 B2 Br Bm r 4 rest w1 (by decide) st hzr hl (hEk w1 k1)
    rename_i h5
    exact pline_o B0 B1 B2 Br Bm r k rest w h h0 h1 h2 h3 h4 h5
end Go.Proofs.YtacmaddjpaebfaaGreatDoor
namespace Go.Proofs.YtacmaddjpaebfaaGreatDoor
open Go Go.RowKit Hs

set_option maxRecDepth 100000 in
set_option maxHeartbeats 1000000 in
theorem catch_panic (g k : Nat) (x y z : Value) (u : Int) (w : World) (hg : w.heap[g]? = some (.cells #[x, y, z] 25 (0, 0))) (hk : w.heap[k]? = some (.cells #[.int .i64 u] 26 (0, 0))) (hgk : g ≠ k) :
    CallsD Tryz.prog 86 #[.pointer (some ⟨g, 0, none⟩), .pointer (some ⟨k, 0, none⟩)] (.panicking P6) w fun e u' w' => e = .returned (.tuple #[]) ∧ settle u' = .returning ∧
      w' = (((w.setCell ⟨g, 0, none⟩ (.int .i64 0)).setCell ⟨g, 1, none⟩ (.slice none 0 0)).setCell ⟨g, 2, none⟩ (.slice none 0 0)).setCell ⟨k, 0, none⟩ (.int .i64 6) := by
  have g0 := cellOf hg 0 _ rfl
  have g1 := cellOf hg 1 _ rfl
  have g2 := cellOf hg 2 _ rfl
  have fg0 := frozen_of_row w g 0 _ _ hg
  have fg1 := frozen_of_row w g 1 _ _ hg
  have fg2 := frozen_of_row w g 2 _ _ hg
  have k0 := cellOf hk 0 _ rfl
  have fk0 := frozen_of_row w k 0 _ _ hk
  refine callsD_of_wpS Tryz.func86 rfl fun c₀ cs hu => ?_
  apply wpS_seq
  apply wpS_region
  simp [wpOpsS, go_sem, recoverD, hu, P6, Tryz.ntmps86, Exit.thenS]
  refine wpS_cond (t := true) (by simp [Act.eval, Array.replicate]) ?_
  simp only [if_true]
  refine wpS_of_wp ?_
  go_wp2
  refine ⟨rfl, _, rfl, .tuple #[], ?_, rfl, rfl, rfl⟩
  simp [results, Tryz.results86]
  try rfl

set_option maxRecDepth 100000 in
set_option maxHeartbeats 2000000 in
theorem Read_long (t : ByteArray) (w : World) (hl : 1500 < t.size) (hz : t.size ≤ 140737488351232) :
    Calls Tryz.prog 38 #[.string t] w fun e w' => e = .returned (.tuple #[.agg #[.int .i64 0, .slice none 0 0, .slice none 0 0], .int .i64 3]) ∧ Below w.heap.size w w' := by
  have d1500 : decide ((1500 : Int) < (t.size : Int)) = true := by simp; omega
  have hS := heap_alloc2_old w (Obj.cells #[.int .i64 0, .slice none 0 0, .slice none 0 0] 25) (Obj.cells #[.int .i64 3] 26)
  have hE := heap_alloc2_new w (Obj.cells #[.int .i64 0, .slice none 0 0, .slice none 0 0] 25) (Obj.cells #[.int .i64 3] 26)
  have HS := Lib.hid hS
  have HE := Lib.hid hE
  clear hS hE
  go_enter_defers Tryz.func38, Tryz.ntmps38
  go_wp2
  exact ⟨_, read_result rfl _ _ w.heap.size (w.heap.size + 1) _ _ _ _ rfl HS.out rfl HE.out, rfl, by go_grown⟩

theorem catch_end {w wX : World} {x y z : Value} {u : Int} (hS : wX.heap[w.heap.size]? = some (.cells #[x, y, z] 25 (0, 0))) (hE : wX.heap[w.heap.size + 1]? = some (.cells #[.int .i64 u] 26 (0, 0))) (hB : Below w.heap.size w wX) :
    ((((wX.setCell ⟨w.heap.size, 0, none⟩ (.int .i64 0)).setCell ⟨w.heap.size, 1, none⟩ (.slice none 0 0)).setCell ⟨w.heap.size, 2, none⟩ (.slice none 0 0)).setCell ⟨w.heap.size + 1, 0, none⟩ (.int .i64 6)).heap[w.heap.size]? = some (.cells #[.int .i64 0, .slice none 0 0, .slice none 0 0] 25 (0, 0)) ∧
    ((((wX.setCell ⟨w.heap.size, 0, none⟩ (.int .i64 0)).setCell ⟨w.heap.size, 1, none⟩ (.slice none 0 0)).setCell ⟨w.heap.size, 2, none⟩ (.slice none 0 0)).setCell ⟨w.heap.size + 1, 0, none⟩ (.int .i64 6)).heap[w.heap.size + 1]? = some (.cells #[.int .i64 6] 26 (0, 0)) ∧
    Below w.heap.size w ((((wX.setCell ⟨w.heap.size, 0, none⟩ (.int .i64 0)).setCell ⟨w.heap.size, 1, none⟩ (.slice none 0 0)).setCell ⟨w.heap.size, 2, none⟩ (.slice none 0 0)).setCell ⟨w.heap.size + 1, 0, none⟩ (.int .i64 6)) := by
  refine ⟨?_, ?_, (((hB.setCell (Nat.le_refl _) _).setCell (Nat.le_refl _) _).setCell (Nat.le_refl _) _).setCell (by simp) _⟩
  · refine (heap_setCell_other _ ⟨w.heap.size + 1, 0, none⟩ w.heap.size _ (by simp)).trans ?_
    have := heap_setCell_same _ w.heap.size 2 _ _ (.slice none 0 0) (heap_setCell_same _ w.heap.size 1 _ _ (.slice none 0 0) (heap_setCell_same wX w.heap.size 0 _ _ (.int .i64 0) hS))
    simpa using this
  · have h1 : (((wX.setCell ⟨w.heap.size, 0, none⟩ (.int .i64 0)).setCell ⟨w.heap.size, 1, none⟩ (.slice none 0 0)).setCell ⟨w.heap.size, 2, none⟩ (.slice none 0 0)).heap[w.heap.size + 1]? = some (.cells #[.int .i64 u] 26 (0, 0)) :=
      (heap_setCell_other _ ⟨w.heap.size, 2, none⟩ _ _ (by simp)).trans ((heap_setCell_other _ ⟨w.heap.size, 1, none⟩ _ _ (by simp)).trans ((heap_setCell_other wX ⟨w.heap.size, 0, none⟩ _ _ (by simp)).trans hE))
    have := heap_setCell_same _ (w.heap.size + 1) 0 _ _ (.int .i64 6) h1
    simpa using this
theorem errs0_below {w w1 : World} (h : Errs w) (hb : Below w.heap.size w w1) : Errs0 w.heap.size w1 := by
  obtain ⟨⟨a, ha, _⟩, b, hb1, _⟩ := id h
  exact ⟨h.below hb, World.block_lt_of_cell? w _ ha, World.block_lt_of_cell? w _ hb1⟩
theorem rdNote_pts {r r' : Rd} {k : Int} {ws : List ByteArray} (h : rdNote r k ws = some r') : r'.pts = r.pts := by
  unfold rdNote at h
  repeat' split at h
  all_goals first
    | (cases h; done)
    | (simp only [Option.some.injEq] at h; subst h; rfl)
theorem rdLine_sz {r r' : Rd} {ws : List ByteArray} (h : rdLine r ws = some r') (hw : ∀ x, x ∈ ws → x.size ≤ 2000) (hp : ∀ x, x ∈ r.pts → x.size ≤ 2000) : ∀ x, x ∈ r'.pts → x.size ≤ 2000 := by
  unfold rdLine at h
  repeat' split at h
  all_goals first
    | (cases h; done)
    | (rw [rdNote_pts h]; exact hp)
    | (simp only [Option.some.injEq] at h; subst h; exact hp)
    | (simp only [Option.some.injEq] at h; subst h; intro x hx; rcases List.mem_append.1 hx with q | q; exact hp x q; rw [List.mem_singleton.1 q]; exact hw _ (by simp))
end Go.Proofs.YtacmaddjpaebfaaGreatDoor
namespace Go.Proofs.YtacmaddjpaebfaaGreatDoor
open Go Go.RowKit Hs

set_option maxRecDepth 100000 in
set_option maxHeartbeats 8000000 in
theorem Read_form (t : ByteArray) (w : World) (hs : t.size ≤ 1500) (hbad : ∀ r, rdAll ⟨0, [], []⟩ (linesOf t) = some r → ¬ (errS r.sheet = 0 ∧ writeS r.sheet = t.data.toList)) (hT : Tabs w) (hE : Errs w) :
    Calls Tryz.prog 38 #[.string t] w fun e w' => e = .returned (.tuple #[.agg #[.int .i64 0, .slice none 0 0, .slice none 0 0], .int .i64 6]) ∧ Below w.heap.size w w' := by
  have hmf : ∀ (fn : Fn) (first cap : Array Value) (w : World), (Instr.makeFunc fn first cap).run Tryz.prog w = .ok (.func fn first cap) w := fun _ _ _ _ => rfl
  have hmm := @run_makeMap Tryz.prog
  have hsz : t.size ≤ 1500 := hs
  have d1500 : decide ((1500 : Int) < (t.size : Int)) = false := by simp; omega
  have HR := Lib.hid hbad
  have HER := Lib.hid hE
  have HT := Lib.hid hT
  clear hbad hT hE
  go_enter_defers Tryz.func38, Tryz.ntmps38
  go_wp2_with fail
  obtain ⟨W0, HW0⟩ : ∃ W0, W0 = (((w.alloc (Obj.cells #[.int .i64 0, .slice none 0 0, .slice none 0 0] 25)).alloc (Obj.cells #[.int .i64 0] 26)).alloc (Obj.map #[] 0)).alloc (Obj.cells #[.int .i64 0, .slice none 0 0, .slice none 0 0, .map (some (w.heap.size + 1 + 1)), .slice none 0 0] 119) := ⟨_, rfl⟩
  rw [← HW0]
  have hs0 : W0.heap.size = w.heap.size + 1 + 1 + 1 + 1 := by rw [HW0]; simp
  have hB0 : Below w.heap.size w W0 := by rw [HW0]; go_grown
  have hS0 : W0.heap[w.heap.size]? = some (.cells #[.int .i64 0, .slice none 0 0, .slice none 0 0] 25 (0, 0)) := by
    rw [HW0]
    exact (Below.heap_alloc _ _ _ (by simp; omega)).trans ((Below.heap_alloc _ _ _ (by simp; omega)).trans ((Below.heap_alloc _ _ _ (by simp)).trans (heap_alloc_new _ _)))
  have hE0 : W0.heap[w.heap.size + 1]? = some (.cells #[.int .i64 0] 26 (0, 0)) := by
    rw [HW0]
    exact (Below.heap_alloc _ _ _ (by simp)).trans ((Below.heap_alloc _ _ _ (by simp)).trans (heap_alloc2_new _ _ _))
  have hM0 : IdxAt W0 (w.heap.size + 1 + 1) [] := by
    rw [HW0]
    have h := IdxAt.made ((w.alloc (Obj.cells #[.int .i64 0, .slice none 0 0, .slice none 0 0] 25)).alloc (Obj.cells #[.int .i64 0] 26))
    have e : ((w.alloc (Obj.cells #[.int .i64 0, .slice none 0 0, .slice none 0 0] 25)).alloc (Obj.cells #[.int .i64 0] 26)).heap.size = w.heap.size + 1 + 1 := by simp
    rw [e] at h
    exact h.kept (World.grownBy_alloc _ _ none) (by simp)
  have hR0 : W0.heap[w.heap.size + 1 + 1 + 1]? = some (.cells #[.int .i64 0, .slice none 0 0, .slice none 0 0, .map (some (w.heap.size + 1 + 1)), .slice none 0 0] 119 (0, 0)) := by
    rw [HW0]
    have h := heap_alloc_new (((w.alloc (Obj.cells #[.int .i64 0, .slice none 0 0, .slice none 0 0] 25)).alloc (Obj.cells #[.int .i64 0] 26)).alloc (Obj.map #[] 0)) (Obj.cells #[.int .i64 0, .slice none 0 0, .slice none 0 0, .map (some (w.heap.size + 1 + 1)), .slice none 0 0] 119)
    simpa using h
  clear HW0 hmm
  refine (Tryz.strings_TrimSuffix t ⟨#[10]⟩ W0 (by omega)).mono ?_
  rintro e w' ⟨rfl, rfl⟩
  obtain ⟨T, HT1⟩ : ∃ T, Hid (T = bs (Lib.trimSuffix t.data.toList [10])) := ⟨_, rfl⟩
  have hTs : T.size ≤ 1500 := by
    rw [HT1.out, bs_size]
    have := Lib.trimSuffix_le t.data.toList [10]
    have e : t.data.toList.length = t.size := by simp
    omega
  have hsp := split_any 10 T w' (by omega) (HT.out.below hB0)
  have HSP := Lib.hid hsp
  have HTT : Hid ((⟨(Lib.trimSuffix t.data.toList (⟨#[10]⟩ : ByteArray).data.toList).toArray⟩ : ByteArray) = T) := HT1.out.symm
  rw [HTT.out]
  clear hsp
  go_wp2_with fail
  refine HSP.out.mono ?_
  rintro e w1' ⟨rfl, rfl⟩
  obtain ⟨A, HA⟩ : ∃ A, Hid (rdAll ⟨0, [], []⟩ (linesOf t) = A) := ⟨_, rfl⟩
  have HRL : Hid (rdAll ⟨0, [], []⟩ (pieces 10 T) = A) := by have h := HA.out; unfold linesOf at h; rw [← HT1.out] at h; exact h
  have hLle := pieces_le 10 T
  have hLsz : Hid (∀ x, x ∈ pieces 10 T → x.size ≤ 1500) := fun x hx => Nat.le_trans (pieces_size 10 T x hx) hTs
  generalize pieces 10 T = L at *
  have hLn1 := heap_alloc_new w' (Obj.cells (L.map Value.string).toArray 9)
  have hB1' : Below w'.heap.size w' (w'.alloc (Obj.cells (L.map Value.string).toArray 9)) := by go_grown
  have hs1 : (w'.alloc (Obj.cells (L.map Value.string).toArray 9)).heap.size = w'.heap.size + 1 := by simp
  generalize w'.alloc (Obj.cells (L.map Value.string).toArray 9) = w1 at *
  have hB1 := hB0.trans (hB1'.mono hB0.size)
  have hS1 := (hB1'.block _ (lt_of_block hS0)).trans hS0
  have hE1 := (hB1'.block _ (lt_of_block hE0)).trans hE0
  have hst1 : RdB w.heap.size w1.heap.size (w.heap.size + 1 + 1 + 1) (w.heap.size + 1 + 1) ⟨0, [], []⟩ w1 :=
    ⟨⟨none, 0, none, 0, _, (hB1'.block _ (lt_of_block hR0)).trans hR0, World.ownsRow_nil _ _ _ _, World.ownsRow_nil _ _ _ _⟩, hM0.kept (below_grownBy hB1') (by simp), by omega, by omega, by omega, by omega, by omega, Nat.le_refl _, by simp⟩
  have HS1 := Lib.hid hS1
  have HE1 := Lib.hid hE1
  have HLN := Lib.hid hLn1
  have HST := Lib.hid hst1
  have HB1 := Lib.hid hB1
  have hLI : (L.length : Int) ≤ 1501 := by omega
  clear hS1 hE1 hLn1 hst1 hB1 hB1' hS0 hE0 hM0 hR0 hB0 HTT HSP
  go_wp2_with fail
  go_loopw [20] (fun i wr => ∃ (k : Nat) (rk : Rd), k ≤ L.length ∧ i = .int .i64 k ∧ Hid (RdB w.heap.size w1.heap.size (w.heap.size + 1 + 1 + 1) (w.heap.size + 1 + 1) rk wr ∧ Kb w1.heap.size (w.heap.size + 1 + 1 + 1) (w.heap.size + 1 + 1) w1 wr ∧ rdAll rk (L.drop k) = A ∧ rk.pts.length ≤ k ∧ rk.notes.length ≤ k ∧ ∀ x, x ∈ rk.pts → x.size ≤ 2000)) (fun i _ => L.length - (intOf i).toNat)
  case atStart => exact ⟨0, ⟨0, [], []⟩, Nat.zero_le _, rfl, HST.out, Kb.refl _, HRL.out, by simp, by simp, by simp⟩
  case round =>
    obtain ⟨k, rk, hk, rfl, HH⟩ := hrel
    obtain ⟨q1, q2, q3, q4, q5, q6⟩ := HH.out
    have kI : (k : Int) ≤ 1501 := by omega
    have hBw : Below w.heap.size w wr := HB1.out.trans (q2.below (by omega) (by omega) (by omega))
    have hwr := q2.size
    by_cases hlt : k < L.length
    · have hln : wr.heap[w'.heap.size]? = _ := (q2.block w'.heap.size (by omega) (by omega) (by omega)).trans HLN.out
      have e0 : wr.cell? ⟨w'.heap.size, k, none⟩ = some (.string L[k]) := cellOf hln k _ (by simp [hlt])
      rw [hs0] at e0
      rw [List.drop_eq_getElem_cons hlt] at q3
      have hsl := hLsz.out L[k] (List.getElem_mem hlt)
      generalize L[k] = l at *
      rcases hr0 : rdLine rk (pieces 32 l) with _ | rk1
      · have HERR := Lib.hid (fun w' (k : Kb w1.heap.size (w.heap.size + 1 + 1 + 1) (w.heap.size + 1 + 1) w1 w') => (errs0_below HER.out HB1.out).kb k (by omega) (by omega) (by omega))
        have hr1 := hr0
        clear hr0
        have hsp2 := split_any 32 l wr (by omega) (HT.out.below hBw)
        have HSP2 := Lib.hid hsp2
        have HQ1 := Lib.hid q1
        have HQ2 := Lib.hid q2
        have HR1 := Lib.hid hr1
        have HBW := Lib.hid hBw
        clear hsp2 q1 q2 q3 hr1 HH hln hBw
        go_wp2_with fail
        refine HSP2.out.mono ?_
        rintro e w2' ⟨rfl, rfl⟩
        have hple := pieces_le 32 l
        have hpsz : ∀ x, x ∈ pieces 32 l → x.size ≤ 2000 := fun x hx => Nat.le_trans (pieces_size 32 l x hx) (by omega)
        have HPSZ := Lib.hid hpsz
        generalize pieces 32 l = ws at *
        have hn2 := heap_alloc_new wr (Obj.cells (ws.map Value.string).toArray 9)
        have hb2 : Below wr.heap.size wr (wr.alloc (Obj.cells (ws.map Value.string).toArray 9)) := by go_grown
        have hs2 : (wr.alloc (Obj.cells (ws.map Value.string).toArray 9)).heap.size = wr.heap.size + 1 := by simp
        generalize wr.alloc (Obj.cells (ws.map Value.string).toArray 9) = w2 at *
        have st2 := HQ1.out.below hb2
        obtain ⟨pa, pc, na, nc, wv, g1, _, _⟩ := st2.row
        have c4 := cellOf g1 4 _ rfl
        have f4 := frozen_of_row _ _ 4 _ _ g1
        have st3 := st2.setWords (ws' := ws) (some ⟨wr.heap.size, 0, none⟩) ws.length ws.length rfl ⟨Nat.le_refl _, by omega, fun _ => ⟨wr.heap.size, 0, rfl, by omega, by omega, fun j x hj => cellOf hn2 (0 + j) _ (by rw [Nat.zero_add]; simp [hj])⟩⟩
        have hrl := rline_none _ _ _ _ _ rk ws _ st3 HR1.out hpsz (HERR.out _ (HQ2.out.trans (Kb.of_below hb2 (by omega)) |>.setCell (.inr (.inl rfl)) _))
        have HRLN := Lib.hid hrl
        have HB3 : Hid (Kb w1.heap.size (w.heap.size + 1 + 1 + 1) (w.heap.size + 1 + 1) w1 (w2.setCell ⟨w.heap.size + 1 + 1 + 1, 4, none⟩ (.slice (some ⟨wr.heap.size, 0, none⟩) ws.length ws.length))) := (HQ2.out.trans (Kb.of_below hb2 (by omega))).setCell (.inr (.inl rfl)) _
        clear hn2 hb2 st2 st3 g1 hrl hpsz e0
        go_wp2_with fail
        refine HRLN.out.mono ?_
        rintro e w4 ⟨rfl, k4⟩
        have HK4 := Lib.hid (HB3.out.trans k4)
        have HS4 := Lib.hid ((HK4.out.block w.heap.size (by omega) (by omega) (by omega)).trans HS1.out)
        have HE4 := Lib.hid ((HK4.out.block (w.heap.size + 1) (by omega) (by omega) (by omega)).trans HE1.out)
        have HB4 := Lib.hid (HB1.out.trans (HK4.out.below (by omega) (by omega) (by omega)))
        clear k4 c4 f4 HRLN HB3
        go_wp2
        refine leaves_cons (f := 86) (args := #[.pointer (some ⟨w.heap.size, 0, none⟩), .pointer (some ⟨w.heap.size + 1, 0, none⟩)]) (by simp) (by simp [go_sem]) ?_
        refine (catch_panic w.heap.size (w.heap.size + 1) _ _ _ _ _ HS4.out HE4.out (by omega)).mono ?_
        rintro e u' w'' ⟨rfl, hset, rfl⟩
        obtain ⟨z1, z2, z3⟩ := catch_end HS4.out HE4.out HB4.out
        show Leaves _ _ _ _ [] (settle u') _
        rw [hset]
        exact ⟨_, read_result rfl _ _ w.heap.size (w.heap.size + 1) _ _ _ _ rfl z1 rfl z2, rfl, z3⟩
      · skip
        have hr1 := hr0
        have hr2 : rdAll rk1 (L.drop (k + 1)) = A := by unfold rdAll at q3; rw [hr0] at q3; exact q3
        clear hr0
        have hsp2 := split_any 32 l wr (by omega) (HT.out.below hBw)
        have HSP2 := Lib.hid hsp2
        have HQ1 := Lib.hid q1
        have HQ2 := Lib.hid q2
        have HR1 := Lib.hid hr1
        have HR2 := Lib.hid hr2
        have HBW := Lib.hid hBw
        clear hsp2 q1 q2 q3 hr1 hr2 HH hln hBw
        go_wp2_with fail
        refine HSP2.out.mono ?_
        rintro e w2' ⟨rfl, rfl⟩
        have hple := pieces_le 32 l
        have hpsz : ∀ x, x ∈ pieces 32 l → x.size ≤ 2000 := fun x hx => Nat.le_trans (pieces_size 32 l x hx) (by omega)
        have HPSZ := Lib.hid hpsz
        have HSZ : Hid (∀ x, x ∈ rk1.pts → x.size ≤ 2000) := rdLine_sz HR1.out hpsz q6
        generalize pieces 32 l = ws at *
        have hn2 := heap_alloc_new wr (Obj.cells (ws.map Value.string).toArray 9)
        have hb2 : Below wr.heap.size wr (wr.alloc (Obj.cells (ws.map Value.string).toArray 9)) := by go_grown
        have hs2 : (wr.alloc (Obj.cells (ws.map Value.string).toArray 9)).heap.size = wr.heap.size + 1 := by simp
        generalize wr.alloc (Obj.cells (ws.map Value.string).toArray 9) = w2 at *
        have st2 := HQ1.out.below hb2
        obtain ⟨pa, pc, na, nc, wv, g1, _, _⟩ := st2.row
        have c4 := cellOf g1 4 _ rfl
        have f4 := frozen_of_row _ _ 4 _ _ g1
        have st3 := st2.setWords (ws' := ws) (some ⟨wr.heap.size, 0, none⟩) ws.length ws.length rfl ⟨Nat.le_refl _, by omega, fun _ => ⟨wr.heap.size, 0, rfl, by omega, by omega, fun j x hj => cellOf hn2 (0 + j) _ (by rw [Nat.zero_add]; simp [hj])⟩⟩
        have hrl := rline_any _ _ _ _ _ rk rk1 ws _ st3 HR1.out hpsz (by omega) (by omega)
        have HRLN := Lib.hid hrl
        have HB3 : Hid (Kb w1.heap.size (w.heap.size + 1 + 1 + 1) (w.heap.size + 1 + 1) w1 (w2.setCell ⟨w.heap.size + 1 + 1 + 1, 4, none⟩ (.slice (some ⟨wr.heap.size, 0, none⟩) ws.length ws.length))) := (HQ2.out.trans (Kb.of_below hb2 (by omega))).setCell (.inr (.inl rfl)) _
        clear hn2 hb2 st2 st3 g1 hrl hpsz e0
        go_wp2_with fail
        refine HRLN.out.mono ?_
        rintro e w4 ⟨rfl, st4, k4⟩
        have hlen := rdLine_len HR1.out
        have HF : Hid (RdB w.heap.size w1.heap.size (w.heap.size + 1 + 1 + 1) (w.heap.size + 1 + 1) rk1 w4 ∧ Kb w1.heap.size (w.heap.size + 1 + 1 + 1) (w.heap.size + 1 + 1) w1 w4 ∧ rdAll rk1 (L.drop (k + 1)) = A ∧ rk1.pts.length ≤ k + 1 ∧ rk1.notes.length ≤ k + 1 ∧ ∀ x, x ∈ rk1.pts → x.size ≤ 2000) :=
          ⟨st4, HB3.out.trans k4, HR2.out, by omega, by omega, HSZ.out⟩
        clear st4 k4 c4 f4 hlen
        go_wp2_with fail
        go_roundw
        case rel => exact ⟨k + 1, rk1, by omega, by go_num, HF.out⟩
        case measure => simp [intOf]; omega
    · obtain rfl : k = L.length := by omega
      have hA : A = some rk := by
        rw [List.drop_of_length_le (Nat.le_refl _)] at q3
        unfold rdAll at q3
        exact q3.symm
      have hno := HR.out rk (HA.out.trans hA)
      obtain ⟨pa, pc, na, nc, wv, g1, g2, g3⟩ := q1.row
      have c0 := cellOf g1 0 _ rfl
      have c1 := cellOf g1 1 _ rfl
      have c2 := cellOf g1 2 _ rfl
      have hsm := q1.small
      have hszs : ∀ x, x ∈ rk.pts → x.size ≤ 140737488351232 := fun x hx => Nat.le_trans (q6 x hx) (by omega)
      have hSA : SheetAt wr.heap.size wr (.slice pa rk.pts.length pc) (.slice na rk.notes.length nc) rk.sheet :=
        ⟨strsAt_own g2 (by show rk.pts.length ≤ _; omega), notesAt_own g3 (by show rk.notes.length ≤ _; omega), hszs⟩
      have hwrt := Write_any rk.sheet _ _ wr hSA (HT.out.below hBw)
      have hnb : ¬ (errS rk.sheet = 0 ∧ bs (writeS rk.sheet) = t) := fun ⟨h1, h2⟩ => hno ⟨h1, by rw [← h2]; rfl⟩
      obtain ⟨z, hz⟩ : ∃ z, errS rk.sheet = z := ⟨_, rfl⟩
      obtain ⟨S, hS⟩ : ∃ S, bs (writeS rk.sheet) = S := ⟨_, rfl⟩
      rw [hz, hS] at hwrt hnb
      have HWR := Lib.hid hwrt
      have HNB := Lib.hid hnb
      have HS5 := Lib.hid ((q2.block _ (lt_of_block HS1.out) (by omega) (by omega)).trans HS1.out)
      have HE5 := Lib.hid ((q2.block _ (lt_of_block HE1.out) (by omega) (by omega)).trans HE1.out)
      have HBW := Lib.hid hBw
      have hN1 : w.heap.size < wr.heap.size := lt_of_block HS5.out
      have hN2 : w.heap.size + 1 < wr.heap.size := lt_of_block HE5.out
      clear hSA hwrt g1 g2 g3 q1 q2 q3 q6 HH hBw hno hA hz hS hnb hszs
      go_wp2_with fail
      refine HWR.out.mono ?_
      rintro e w5 ⟨rfl, hb5⟩
      have HS6 := Lib.hid ((hb5.block _ hN1).trans HS5.out)
      have HE6 := Lib.hid ((hb5.block _ hN2).trans HE5.out)
      have HB6 := Lib.hid (HBW.out.trans (hb5.mono HBW.out.size))
      clear hb5 c0 c1 c2 HWR
      by_cases h0 : z = 0
      · have tz : (z != 0) = false := by simp [h0]
        have ts : (S.toList == t.toList) = false := str_ne (fun e => HNB.out ⟨h0, e⟩)
        clear h0
        go_wp2
        refine leaves_cons (f := 86) (args := #[.pointer (some ⟨w.heap.size, 0, none⟩), .pointer (some ⟨w.heap.size + 1, 0, none⟩)]) (by simp) (by simp [go_sem]) ?_
        refine (catch_panic w.heap.size (w.heap.size + 1) _ _ _ _ _ HS6.out HE6.out (by omega)).mono ?_
        rintro e u' w'' ⟨rfl, hset, rfl⟩
        obtain ⟨z1, z2, z3⟩ := catch_end HS6.out HE6.out HB6.out
        show Leaves _ _ _ _ [] (settle u') _
        rw [hset]
        exact ⟨_, read_result rfl _ _ w.heap.size (w.heap.size + 1) _ _ _ _ rfl z1 rfl z2, rfl, z3⟩
      · have tz : (z != 0) = true := by simp [h0]
        clear h0
        go_wp2
        refine leaves_cons (f := 86) (args := #[.pointer (some ⟨w.heap.size, 0, none⟩), .pointer (some ⟨w.heap.size + 1, 0, none⟩)]) (by simp) (by simp [go_sem]) ?_
        refine (catch_panic w.heap.size (w.heap.size + 1) _ _ _ _ _ HS6.out HE6.out (by omega)).mono ?_
        rintro e u' w'' ⟨rfl, hset, rfl⟩
        obtain ⟨z1, z2, z3⟩ := catch_end HS6.out HE6.out HB6.out
        show Leaves _ _ _ _ [] (settle u') _
        rw [hset]
        exact ⟨_, read_result rfl _ _ w.heap.size (w.heap.size + 1) _ _ _ _ rfl z1 rfl z2, rfl, z3⟩
end Go.Proofs.YtacmaddjpaebfaaGreatDoor
namespace Go.Proofs.YtacmaddjpaebfaaGreatDoor
open Go Go.RowKit Hs

theorem idx_pre (c : UInt8) (y : List UInt8) : ∀ x : List UInt8, c ∉ x → Lib.index (x ++ c :: y) [c] = (x.length : Int) := by
  intro x
  induction x with
  | nil => intro _; simp [Lib.index, List.isPrefixOf]
  | cons b x ih =>
    intro h
    have hb : c ≠ b := fun e => h (by simp [e])
    have hx := ih (fun hm => h (by simp [hm]))
    show Lib.index (b :: (x ++ c :: y)) [c] = _
    rw [Lib.index, hx]
    have hp : ([c] : List UInt8).isPrefixOf (b :: (x ++ c :: y)) = false := by simp [List.isPrefixOf, hb]
    rw [hp]
    have hm : ((x.length : Int) == -1) = false := by rw [beq_eq_false_iff_ne]; omega
    rw [hm]
    simp
theorem bs_ext {a b : ByteArray} (h : a.data.toList = b.data.toList) : a = b := Go.WideShapes.bytes_inj h
theorem pieces_one (c : UInt8) (x : List UInt8) (h : c ∉ x) : pieces c (bs x) = [bs x] := by
  unfold pieces
  have hc : Lib.countB (bs x) (bs [c]) = 0 := by
    show Lib.count (bs x).data.toList (bs [c]).data.toList = 0
    rw [bs_toList, bs_toList, Lib.count_one]
    exact List.count_eq_zero.2 h
  rw [hc]
  rfl
theorem pieces_cons (c : UInt8) (x y : List UInt8) (h : c ∉ x) : pieces c (bs (x ++ c :: y)) = bs x :: pieces c (bs y) := by
  have hix : Lib.indexB (bs (x ++ c :: y)) (bs [c]) = (x.length : Int) := by
    show Lib.index (bs (x ++ c :: y)).data.toList (bs [c]).data.toList = _
    rw [bs_toList, bs_toList]
    exact idx_pre c y x h
  have hsz : (bs [c]).size = 1 := rfl
  have hlen : (bs (x ++ c :: y)).size = x.length + (1 + y.length) := by rw [bs_size]; simp; omega
  have e1 : (bs (x ++ c :: y)).extract (x.length + 1) (bs (x ++ c :: y)).size = bs y := by
    apply bs_ext
    rw [← ByteArray.toList_eq, Lib.extract_toList, bs_toList, bs_toList, hlen]
    rw [show x ++ c :: y = (x ++ [c]) ++ y by simp, List.drop_left' (by simp)]
    rw [List.take_of_length_le (by omega)]
  have e2 : (bs (x ++ c :: y)).extract 0 (x.length + 0) = bs x := by
    apply bs_ext
    rw [← ByteArray.toList_eq, Lib.extract_toList, bs_toList, bs_toList]
    simp
  unfold pieces
  have hc := Lib.countB_hit (bs (x ++ c :: y)) (bs [c]) x.length (by rw [hsz]; omega) hix
  rw [hsz, e1] at hc
  rw [hc, Nat.add_comm, Lib.splitB_hit _ _ _ _ _ hix, hsz, e1, e2]
theorem pieces_join (c : UInt8) : ∀ L : List (List UInt8), L ≠ [] → (∀ x, x ∈ L → c ∉ x) → pieces c (bs (Lib.join L [c])) = L.map bs := by
  intro L
  induction L with
  | nil => intro h; exact absurd rfl h
  | cons x L ih =>
    intro _ h
    cases L with
    | nil => rw [Lib.join_one]; exact pieces_one c x (h x (by simp))
    | cons y L =>
      have e : Lib.join (x :: y :: L) [c] = x ++ c :: Lib.join (y :: L) [c] := by
        rw [Lib.join_cons, Lib.join_cons]
        simp [Lib.joinTail]
      rw [e, pieces_cons c _ _ (h x (by simp)), ih (by simp) (fun z hz => h z (by simp [hz]))]
      rfl
theorem flat_join (c : UInt8) : ∀ L : List (List UInt8), L ≠ [] → L.flatMap (· ++ [c]) = Lib.join L [c] ++ [c] := by
  intro L
  induction L with
  | nil => intro h; exact absurd rfl h
  | cons x L ih =>
    intro _
    cases L with
    | nil => simp [Lib.join_one]
    | cons y L =>
      have e : Lib.join (x :: y :: L) [c] = x ++ c :: Lib.join (y :: L) [c] := by
        rw [Lib.join_cons, Lib.join_cons]
        simp [Lib.joinTail]
      rw [List.flatMap_cons, ih (by simp), e]
      simp
theorem trim_last (c : UInt8) (x : List UInt8) : Lib.trimSuffix (x ++ [c]) [c] = x := by
  unfold Lib.trimSuffix
  have h : Lib.hasSuffix (x ++ [c]) [c] = true := by
    unfold Lib.hasSuffix
    rw [List.isSuffixOf_iff_suffix]
    exact List.suffix_append _ _
  rw [if_pos h]
  simp
/-- The lines of a text that ends each with its end. -/
theorem lines_of (L : List (List UInt8)) (hL : L ≠ []) (h : ∀ x, x ∈ L → (10 : UInt8) ∉ x) : linesOf (bs (L.flatMap (· ++ [10]))) = L.map bs := by
  unfold linesOf
  rw [bs_toList, flat_join 10 L hL, trim_last]
  exact pieces_join 10 L hL h

theorem parse_digits : ∀ (u : Nat), u ≤ 100000 → ∀ rest, Lib.parseUint10 0 (Lib.decDigits u ++ rest) = Lib.parseUint10 u rest := by
  intro u
  induction u using Nat.strongRecOn with
  | _ u ih =>
    intro hu rest
    have one : ∀ (acc d : Nat), acc ≤ 100000 → d < 10 → ∀ r, Lib.parseUint10 acc (UInt8.ofNat (48 + d) :: r) = Lib.parseUint10 (acc * 10 + d) r := fun acc d ha hd r => by
      have e : (UInt8.ofNat (48 + d)).toNat = 48 + d := by rw [UInt8.toNat_ofNat']; omega
      rw [Lib.parseUint10, e, if_pos (by omega), if_neg (by omega), if_neg (by omega), show 48 + d - 48 = d by omega]
    rw [Lib.decDigits]
    split
    · rename_i h
      have := one 0 u (by omega) h rest
      simpa using this
    · rename_i h
      rw [List.append_assoc, ih (u / 10) (by omega) (by omega)]
      show Lib.parseUint10 (u / 10) (UInt8.ofNat (48 + u % 10) :: rest) = _
      rw [one (u / 10) (u % 10) (by omega) (by omega) rest]
      rw [show u / 10 * 10 + u % 10 = u by omega]
theorem digits_mem : ∀ (u : Nat), ∀ b, b ∈ Lib.decDigits u → 48 ≤ b.toNat ∧ b.toNat ≤ 57 := by
  intro u
  induction u using Nat.strongRecOn with
  | _ u ih =>
    intro b hb
    have one : ∀ d, d < 10 → 48 ≤ (UInt8.ofNat (48 + d)).toNat ∧ (UInt8.ofNat (48 + d)).toNat ≤ 57 := fun d hd => by
      rw [UInt8.toNat_ofNat']; omega
    rw [Lib.decDigits] at hb
    split at hb
    · rename_i h
      rw [List.mem_singleton.1 hb]
      exact one u h
    · rename_i h
      rcases List.mem_append.1 hb with q | q
      · exact ih (u / 10) (by omega) b q
      · rw [List.mem_singleton.1 q]
        exact one _ (by omega)
theorem digits_ne (u : Nat) : Lib.decDigits u ≠ [] := by
  rw [Lib.decDigits]
  split
  · simp
  · simp
theorem mag_digits (u : Nat) (hu : u ≤ 100000) : Lib.parseMag (Lib.decDigits u) = .ok u := by
  unfold Lib.parseMag
  rw [if_neg (digits_ne u)]
  have := parse_digits u hu []
  rw [List.append_nil] at this
  rw [this]
  rfl
/-- A number that is written is read back. -/
theorem atoi_itoa (n : Int) (h : -100000 ≤ n) (h1 : n ≤ 100000) : Lib.atoiAll (Lib.itoa n) = .ok n := by
  unfold Lib.itoa
  split
  · rename_i hn
    unfold Lib.atoiAll
    have e : (45 : UInt8).toNat = 45 := rfl
    simp only [e]
    rw [if_pos (Or.inr trivial), mag_digits n.natAbs (by omega)]
    simp only [not_true_eq_false, false_and, if_false, true_and, if_true]
    rw [if_neg (by omega)]
    congr 1
    omega
  · rename_i hn
    obtain ⟨c, r, hcr⟩ : ∃ c r, Lib.decDigits n.toNat = c :: r := by
      cases hd : Lib.decDigits n.toNat with
      | nil => exact absurd hd (digits_ne _)
      | cons c r => exact ⟨c, r, rfl⟩
    have hc := digits_mem n.toNat c (by rw [hcr]; simp)
    have hm := mag_digits n.toNat (by omega)
    rw [hcr] at hm ⊢
    unfold Lib.atoiAll
    simp only
    rw [if_neg (by omega), hm]
    have h45 : ¬ c.toNat = 45 := by omega
    simp only [h45, not_false_eq_true, true_and, false_and, if_false]
    rw [if_neg (by omega)]
    congr 1
    omega
theorem itoa_no (n : Int) (c : UInt8) (hc : c.toNat = 10 ∨ c.toNat = 32) : c ∉ Lib.itoa n := by
  intro hm
  unfold Lib.itoa at hm
  split at hm
  · rcases List.mem_cons.1 hm with q | q
    · rw [q] at hc
      rcases hc with q | q <;> exact absurd q (by decide)
    · have := digits_mem _ _ q; omega
  · have := digits_mem _ _ hm; omega
theorem name_no {l : List UInt8} (h : nameB l = true) (c : UInt8) (hc : c.toNat = 10 ∨ c.toNat = 32) : c ∉ l := by
  intro hm
  unfold nameB at h
  rw [Bool.and_eq_true] at h
  obtain ⟨k, hk, e⟩ := List.getElem_of_mem hm
  have := List.all_eq_true.1 h.2 k (List.mem_range.2 hk)
  rw [show l.getD k 0 = c by rw [List.getD_eq_getElem?_getD, List.getElem?_eq_getElem hk, e]; rfl] at this
  unfold chOk at this
  simp at this
  omega
end Go.Proofs.YtacmaddjpaebfaaGreatDoor
namespace Go.Proofs.YtacmaddjpaebfaaGreatDoor
open Go Go.RowKit Hs

/-- The words of all lines. -/
def lw (s : Sheet) : List (List (List UInt8)) := [wSheet, Lib.itoa s.iv] :: ((s.pts.map fun p : ByteArray => [wPoint, p.data.toList]) ++ s.notes.map fun x : Note => (wordsB s.pts x).map (fun y : ByteArray => y.data.toList))
theorem writeT_lw (s : Sheet) : writeT s = ((lw s).map fun ws => Lib.join ws [32]).flatMap (· ++ [10]) := by
  unfold writeT lw ptsT notesT
  simp [lineT, List.flatMap_map, List.flatMap_append, List.flatMap_cons]
theorem join_no (c : UInt8) (hc : c ≠ 32) : ∀ L : List (List UInt8), (∀ x, x ∈ L → c ∉ x) → c ∉ Lib.join L [32] := by
  intro L
  induction L with
  | nil => intro _; simp [Lib.join_nil]
  | cons x L ih =>
    intro h
    cases L with
    | nil => rw [Lib.join_one]; exact h x (by simp)
    | cons y L =>
      have e : Lib.join (x :: y :: L) [32] = x ++ 32 :: Lib.join (y :: L) [32] := by
        rw [Lib.join_cons, Lib.join_cons]
        simp [Lib.joinTail]
      rw [e]
      intro hm
      rcases List.mem_append.1 hm with q | q
      · exact h x (by simp) q
      · rcases List.mem_cons.1 q with q | q
        · exact hc q
        · exact ih (fun z hz => h z (by simp [hz])) q
theorem ValidS.nameAt {s : Sheet} (h : ValidS s) : ∀ p, p ∈ s.pts → nameB p.data.toList = true := by
  intro p hp
  obtain ⟨k, hk, rfl⟩ := List.getElem_of_mem hp
  exact ptErr_name s.pts k hk (h.names k hk)
theorem word_no {s : Sheet} (h : ValidS s) (c : UInt8) (hc : c.toNat = 10 ∨ c.toNat = 32) : ∀ ws, ws ∈ lw s → ∀ x, x ∈ ws → c ∉ x := by
  have key : ∀ l : List UInt8, (∀ b, b ∈ l → 97 ≤ b.toNat) → c ∉ l := fun l hl hm => by have := hl c hm; omega
  intro ws hws x hx
  unfold lw at hws
  rcases List.mem_cons.1 hws with rfl | hws
  · simp at hx
    rcases hx with rfl | rfl
    · exact key _ (by decide)
    · exact itoa_no _ c hc
  · rcases List.mem_append.1 hws with q | q
    · obtain ⟨p, hp, rfl⟩ := List.mem_map.1 q
      simp at hx
      rcases hx with rfl | rfl
      · exact key _ (by decide)
      · exact name_no (h.nameAt p hp) c hc
    · obtain ⟨y, hy, rfl⟩ := List.mem_map.1 q
      obtain ⟨hk, ha0, hb0, ha, hb, hlo, hhi⟩ := h.note y hy
      have hna : ∀ a : Int, 0 ≤ a → a < s.pts.length → c ∉ (s.pts.getD a.toNat default).data.toList := fun a h0 h1 => by
        have hlt : a.toNat < s.pts.length := by omega
        rw [List.getD_eq_getElem?_getD, List.getElem?_eq_getElem hlt]
        exact name_no (h.nameAt _ (List.getElem_mem hlt)) c hc
      obtain ⟨z, hz, rfl⟩ := List.mem_map.1 hx
      have n1 := hna y.a ha0 ha
      have n2 := hna y.b hb0 hb
      unfold wordsB at hz
      rcases hk with e | e | e | e <;> rw [e] at hz <;> simp at hz
      · rcases hz with rfl | rfl | rfl | rfl
        · exact key _ (by rw [bs_toList]; decide)
        · exact n1
        · exact itoa_no _ c hc
        · exact itoa_no _ c hc
      · rcases hz with rfl | rfl | rfl | rfl
        · exact key _ (by rw [bs_toList]; decide)
        · exact n1
        · exact itoa_no _ c hc
        · exact itoa_no _ c hc
      · rcases hz with rfl | rfl | rfl
        · exact key _ (by rw [bs_toList]; decide)
        · exact n1
        · exact n2
      · rcases hz with rfl | rfl | rfl | rfl | rfl
        · exact key _ (by rw [bs_toList]; decide)
        · exact n1
        · exact n2
        · exact itoa_no _ c hc
        · exact itoa_no _ c hc
theorem wordsB_ne (pts : List ByteArray) (x : Note) : wordsB pts x ≠ [] := by unfold wordsB; split; simp; split; simp; split <;> simp
theorem lw_ne (s : Sheet) : ∀ ws, ws ∈ lw s → ws ≠ [] := by
  intro ws hws
  unfold lw at hws
  rcases List.mem_cons.1 hws with rfl | hws
  · simp
  · rcases List.mem_append.1 hws with q | q
    · obtain ⟨p, hp, rfl⟩ := List.mem_map.1 q
      simp
    · obtain ⟨y, hy, rfl⟩ := List.mem_map.1 q
      intro e
      exact wordsB_ne s.pts y (List.map_eq_nil_iff.1 e)
theorem lines_write {s : Sheet} (h : ValidS s) : linesOf (bs (writeT s)) = (lw s).map fun ws => bs (Lib.join ws [32]) := by
  rw [writeT_lw, lines_of _ (by simp [lw]) ?_, List.map_map]
  · rfl
  · intro x hx
    obtain ⟨ws, hws, rfl⟩ := List.mem_map.1 hx
    exact join_no 10 (by decide) ws (word_no h 10 (.inl rfl) ws hws)
/-- All lines, out of their words. -/
def rdW : Rd → List (List (List UInt8)) → Option Rd
  | r, [] => some r
  | r, ws :: l => match rdLine r (ws.map bs) with
    | some r' => rdW r' l
    | none => none
theorem rdAll_W : ∀ (L : List (List (List UInt8))) (r : Rd), (∀ ws, ws ∈ L → ws ≠ [] ∧ ∀ x, x ∈ ws → (32 : UInt8) ∉ x) → rdAll r (L.map fun ws => bs (Lib.join ws [32])) = rdW r L := by
  intro L
  induction L with
  | nil => intro r _; rfl
  | cons ws L ih =>
    intro r h
    obtain ⟨h1, h2⟩ := h ws (by simp)
    show (match rdLine r (pieces 32 (bs (Lib.join ws [32]))) with | some r' => rdAll r' (L.map fun ws => bs (Lib.join ws [32])) | none => none) = _
    rw [pieces_join 32 ws h1 h2]
    show _ = match rdLine r (ws.map bs) with | some r' => rdW r' L | none => none
    cases rdLine r (ws.map bs) with
    | none => rfl
    | some r' => exact ih r' (fun ws hws => h ws (by simp [hws]))
theorem rdW_append (L M : List (List (List UInt8))) : ∀ (r r' : Rd), rdW r L = some r' → rdW r (L ++ M) = rdW r' M := by
  induction L with
  | nil => intro r r' h; simp [rdW] at h; subst h; rfl
  | cons ws L ih =>
    intro r r' h
    show (match rdLine r (ws.map bs) with | some r'' => rdW r'' (L ++ M) | none => none) = _
    have h : (match rdLine r (ws.map bs) with | some r'' => rdW r'' L | none => none) = some r' := h
    cases e : rdLine r (ws.map bs) with
    | none => rw [e] at h; cases h
    | some r'' => rw [e] at h; exact ih r'' r' h
theorem rdNum_itoa (n : Int) (h : -100000 ≤ n) (h1 : n ≤ 100000) : rdNum (bs (Lib.itoa n)) = some n := by
  unfold rdNum
  rw [bs_toList, atoi_itoa n h h1]
theorem rdW_pts (iv : Int) : ∀ (l P : List ByteArray), rdW ⟨iv, P, []⟩ (l.map fun p : ByteArray => [wPoint, p.data.toList]) = some ⟨iv, P ++ l, []⟩ := by
  intro l
  induction l with
  | nil => intro P; simp [rdW]
  | cons p l ih =>
    intro P
    show (match rdLine ⟨iv, P, []⟩ ([wPoint, p.data.toList].map bs) with | some r' => rdW r' (l.map fun p : ByteArray => [wPoint, p.data.toList]) | none => none) = _
    have e : rdLine ⟨iv, P, []⟩ ([wPoint, p.data.toList].map bs) = some ⟨iv, P ++ [p], []⟩ := by
      show rdLine ⟨iv, P, []⟩ [bs wPoint, bs p.data.toList] = _
      unfold rdLine
      simp only [bs_toList]
      rw [if_neg (by decide), if_pos trivial, bs_of]
    rw [e]
    show rdW _ _ = _
    rw [ih]
    simp
theorem idxK_at (key : List UInt8) : ∀ (l : List ByteArray) (k i : Nat) (h : i < l.length), l[i].data.toList = key → (∀ j (hj : j < l.length), l[j].data.toList = key → j = i) → idxK key l k = some (k + i) := by
  intro l
  induction l with
  | nil => intro k i h; simp at h
  | cons p l ih =>
    intro k i h e hu
    have none_of : (∀ j (hj : j < l.length), l[j].data.toList ≠ key) → ∀ k, idxK key l k = none := by
      clear ih e hu h
      induction l with
      | nil => intro _ k; rfl
      | cons q l ih =>
        intro hn k
        show (match idxK key l (k + 1) with | some i => some i | none => if q.data.toList = key then some k else none) = _
        have h0 : q.data.toList ≠ key := hn 0 (by simp)
        rw [ih (fun j hj => hn (j + 1) (by simp; omega)) (k + 1)]
        exact if_neg h0
    show (match idxK key l (k + 1) with | some i => some i | none => if p.data.toList = key then some k else none) = _
    cases i with
    | zero =>
      rw [none_of (fun j hj hk => by have := hu (j + 1) (by simp; omega) hk; omega) (k + 1)]
      simp at e
      rw [if_pos e]
      rfl
    | succ i =>
      rw [ih (k + 1) i (by simpa using h) (by simpa using e) (fun j hj hk => by have := hu (j + 1) (by simp; omega) hk; omega)]
      simp; omega
theorem ValidS.apart {s : Sheet} (h : ValidS s) : ∀ i j (hi : i < s.pts.length) (hj : j < s.pts.length), s.pts[i].data.toList = s.pts[j].data.toList → i = j := by
  have lt : ∀ i j (hi : i < s.pts.length) (hj : j < s.pts.length), i < j → s.pts[i].data.toList ≠ s.pts[j].data.toList := by
    intro i j hi hj hij e
    have hn := h.names j hj
    have hget : (byts s.pts).getD j [] = s.pts[j].data.toList := by simp [byts, List.getD_eq_getElem?_getD, hj]
    unfold ptErr nameErr at hn
    rw [hget] at hn
    split at hn
    · cases hn
    · split at hn
      · cases hn
      · rename_i hm
        apply hm
        rw [← e]
        refine List.mem_take_iff_getElem.2 ⟨i, by simp [byts]; omega, by simp [byts]⟩
  intro i j hi hj e
  rcases Nat.lt_trichotomy i j with q | q | q
  · exact absurd e (lt i j hi hj q)
  · exact q
  · exact absurd e.symm (lt j i hj hi q)
theorem idx_pt {s : Sheet} (h : ValidS s) {a : Int} (h0 : 0 ≤ a) (h1 : a < s.pts.length) : idxOf s.pts (s.pts.getD a.toNat default).data.toList = some a.toNat := by
  have hlt : a.toNat < s.pts.length := by omega
  rw [List.getD_eq_getElem?_getD, List.getElem?_eq_getElem hlt]
  have := idxK_at s.pts[a.toNat].data.toList s.pts 0 a.toNat hlt rfl (fun j hj e => h.apart j a.toNat hj hlt e)
  unfold idxOf
  simpa using this
theorem rd_note {s : Sheet} (h : ValidS s) (x : Note) (hx : x ∈ s.notes) (N : List Note) : rdLine ⟨s.iv, s.pts, N⟩ (((wordsB s.pts x).map (fun y : ByteArray => y.data.toList)).map bs) = some ⟨s.iv, s.pts, N ++ [x]⟩ := by
  obtain ⟨hk, ha0, hb0, ha, hb, hlo, hhi⟩ := h.note x hx
  have i1 := idx_pt h ha0 ha
  have i2 := idx_pt h hb0 hb
  have n1 := rdNum_itoa x.lo (by omega) (by omega)
  have n2 := rdNum_itoa x.hi (by omega) (by omega)
  have hid : ((wordsB s.pts x).map (fun y : ByteArray => y.data.toList)).map bs = wordsB s.pts x := by
    rw [List.map_map]
    exact (List.map_congr_left fun y _ => bs_of y).trans (List.map_id _)
  rw [hid]
  have ok := h.ok x hx
  have hz : noteErr s.iv s.pts.length x = 0 := by
    obtain ⟨k, hk', rfl⟩ := List.getElem_of_mem hx
    have := h.errs k hk'
    unfold ntErr at this
    rw [List.getElem?_eq_getElem hk'] at this
    exact this
  obtain ⟨k, a, b, lo, hi⟩ := x
  simp only at hk ha0 hb0 ha hb i1 i2 n1 n2 hz ⊢
  have ea : ((a.toNat : Nat) : Int) = a := by omega
  have eb : ((b.toNat : Nat) : Int) = b := by omega
  have hz2 : (k = 1 ∨ k = 2 → b = 0) ∧ (k = 3 → lo = 0 ∧ hi = 0) := by
    unfold noteErr at hz
    split at hz
    · cases hz
    split at hz
    · cases hz
    split at hz
    · cases hz
    split at hz
    · cases hz
    rename_i g1 g2 g3 g4
    refine ⟨fun e => ?_, fun e => ?_⟩
    · by_cases q : b = 0
      · exact q
      · exfalso
        apply g3
        right
        refine ⟨?_, q⟩
        unfold over
        rw [if_pos e]
    · subst e
      simp [withinB, endLo, endHi] at g4
      omega
  unfold wordsB
  rcases hk with e | e | e | e <;> subst e
  · rw [if_neg (by simp), if_neg (by simp), if_neg (by simp)]
    unfold rdLine
    simp only [bs_toList]
    rw [if_neg (by decide), if_neg (by decide), if_pos trivial]
    unfold rdNote
    simp only [i1, n1, n2]
    rw [if_neg (by decide), if_neg (by decide), ea, hz2.1 (.inl rfl)]
  · rw [if_pos rfl]
    unfold rdLine
    simp only [bs_toList]
    rw [if_neg (by decide), if_neg (by decide), if_neg (by decide), if_pos trivial]
    unfold rdNote
    simp only [i1, n1, n2]
    rw [if_neg (by decide), if_neg (by decide), ea, hz2.1 (.inr rfl)]
  · rw [if_neg (by simp), if_pos rfl]
    unfold rdLine
    simp only [bs_toList]
    rw [if_neg (by decide), if_neg (by decide), if_neg (by decide), if_neg (by decide), if_pos trivial]
    unfold rdNote
    simp only [i1, i2]
    rw [if_pos trivial, ea, eb, (hz2.2 rfl).1, (hz2.2 rfl).2]
  · rw [if_neg (by simp), if_neg (by simp), if_pos rfl]
    unfold rdLine
    simp only [bs_toList]
    rw [if_neg (by decide), if_neg (by decide), if_neg (by decide), if_neg (by decide), if_neg (by decide), if_pos trivial]
    unfold rdNote
    simp only [i1, i2, n1, n2]
    rw [if_neg (by decide), if_pos trivial, ea, eb]
theorem rdW_notes {s : Sheet} (h : ValidS s) : ∀ (l N : List Note), (∀ x, x ∈ l → x ∈ s.notes) → rdW ⟨s.iv, s.pts, N⟩ (l.map fun x : Note => (wordsB s.pts x).map (fun y : ByteArray => y.data.toList)) = some ⟨s.iv, s.pts, N ++ l⟩ := by
  intro l
  induction l with
  | nil => intro N _; simp [rdW]
  | cons x l ih =>
    intro N hl
    show (match rdLine ⟨s.iv, s.pts, N⟩ (((wordsB s.pts x).map (fun y : ByteArray => y.data.toList)).map bs) with | some r' => rdW r' (l.map fun x : Note => (wordsB s.pts x).map (fun y : ByteArray => y.data.toList)) | none => none) = _
    rw [rd_note h x (hl x (by simp)) N]
    show rdW _ _ = _
    rw [ih _ (fun y hy => hl y (by simp [hy]))]
    simp
/-- The text of a valid sheet is read as this sheet. -/
theorem rd_write {s : Sheet} (h : ValidS s) : rdAll ⟨0, [], []⟩ (linesOf (bs (writeT s))) = some ⟨s.iv, s.pts, s.notes⟩ := by
  rw [lines_write h, rdAll_W _ _ (fun ws hws => ⟨lw_ne s ws hws, word_no h 32 (.inr rfl) ws hws⟩)]
  unfold lw
  show (match rdLine ⟨0, [], []⟩ ([wSheet, Lib.itoa s.iv].map bs) with | some r' => rdW r' ((s.pts.map fun p : ByteArray => [wPoint, p.data.toList]) ++ s.notes.map fun x : Note => (wordsB s.pts x).map (fun y : ByteArray => y.data.toList)) | none => none) = _
  have e : rdLine ⟨0, [], []⟩ ([wSheet, Lib.itoa s.iv].map bs) = some ⟨s.iv, [], []⟩ := by
    show rdLine ⟨0, [], []⟩ [bs wSheet, bs (Lib.itoa s.iv)] = _
    unfold rdLine
    simp only [bs_toList]
    rw [if_pos trivial]
    have := rdNum_itoa s.iv (by have := h.iv1; omega) (by have := h.iv2; omega)
    simp only [this]
  rw [e]
  show rdW _ _ = _
  rw [rdW_append _ _ _ _ (rdW_pts s.iv s.pts []), List.nil_append, rdW_notes h s.notes [] (fun x hx => hx)]
  simp
end Go.Proofs.YtacmaddjpaebfaaGreatDoor
namespace Go.Proofs.YtacmaddjpaebfaaGreatDoor
open Go Go.RowKit Hs

theorem flat_len {α : Type} (f : α → List UInt8) (B : Nat) : ∀ l : List α, (∀ x, x ∈ l → (f x).length ≤ B) → (l.flatMap f).length ≤ l.length * B := by
  intro l
  induction l with
  | nil => intro _; simp
  | cons x l ih =>
    intro h
    have h1 := h x (by simp)
    have h2 := ih (fun y hy => h y (by simp [hy]))
    rw [List.flatMap_cons, List.length_append, List.length_cons, Nat.succ_mul]
    omega
theorem digits_len : ∀ u : Nat, u ≤ 9999 → (Lib.decDigits u).length ≤ 4 := by
  have step : ∀ u, (Lib.decDigits u).length = if u < 10 then 1 else (Lib.decDigits (u / 10)).length + 1 := fun u => by
    rw [Lib.decDigits]
    split <;> simp
  intro u hu
  rw [step]
  split
  · omega
  rw [step]
  split
  · omega
  rw [step]
  split
  · omega
  rw [step]
  split <;> omega
theorem itoa_len {n : Int} (h : -9999 ≤ n) (h1 : n ≤ 9999) : (Lib.itoa n).length ≤ 5 := by
  unfold Lib.itoa
  split
  · have := digits_len n.natAbs (by omega)
    simp only [List.length_cons]
    omega
  · have := digits_len n.toNat (by omega)
    omega
theorem words_16 {s : Sheet} (h : ValidS s) (x : Note) (hx : x ∈ s.notes) : (wordsB s.pts x).length ≤ 5 ∧ ∀ y, y ∈ (wordsB s.pts x).map (·.data.toList) → y.length ≤ 16 := by
  refine ⟨(wordsB_len h x hx).1, fun y hy => ?_⟩
  obtain ⟨hk, ha0, hb0, ha, hb, hlo, hhi⟩ := h.note x hx
  have hna : ∀ a : Int, 0 ≤ a → a < s.pts.length → (s.pts.getD a.toNat default).data.toList.length ≤ 16 := fun a h0 h1 => by
    have hlt : a.toNat < s.pts.length := by omega
    rw [List.getD_eq_getElem?_getD, List.getElem?_eq_getElem hlt]
    exact h.name16 _ (List.getElem_mem hlt)
  have n1 := hna x.a ha0 ha
  have n2 := hna x.b hb0 hb
  have i1 : (bs (Lib.itoa x.lo)).data.toList.length ≤ 16 := by rw [bs_toList]; have := itoa_len (n := x.lo) (by omega) (by omega); omega
  have i2 : (bs (Lib.itoa x.hi)).data.toList.length ≤ 16 := by rw [bs_toList]; have := itoa_len (n := x.hi) (by omega) (by omega); omega
  have kw : ∀ l : List UInt8, l.length ≤ 16 → (bs l).data.toList.length ≤ 16 := fun l hl => by rw [bs_toList]; exact hl
  obtain ⟨z, hz, rfl⟩ := List.mem_map.1 hy
  unfold wordsB at hz
  rcases hk with e | e | e | e <;> rw [e] at hz <;> simp at hz
  · rcases hz with rfl | rfl | rfl | rfl
    · exact kw _ (by decide)
    · exact n1
    · exact i1
    · exact i2
  · rcases hz with rfl | rfl | rfl | rfl
    · exact kw _ (by decide)
    · exact n1
    · exact i1
    · exact i2
  · rcases hz with rfl | rfl | rfl
    · exact kw _ (by decide)
    · exact n1
    · exact n2
  · rcases hz with rfl | rfl | rfl | rfl | rfl
    · exact kw _ (by decide)
    · exact n1
    · exact n2
    · exact i1
    · exact i2
theorem write_size {s : Sheet} (h : ValidS s) : (writeT s).length ≤ 1500 := by
  have h1 : (lineT [wSheet, Lib.itoa s.iv]).length ≤ 2 * (16 + 1) + 1 := lineT_len _ 16 (fun x hx => by
    simp at hx
    rcases hx with rfl | rfl
    · decide
    · have := itoa_len (n := s.iv) (by have := h.iv1; omega) (by have := h.iv2; omega)
      omega)
  have h2 : (ptsT s.pts).length ≤ s.pts.length * 35 := flat_len _ 35 _ (fun p hp => by
    have := lineT_len [wPoint, p.data.toList] 16 (fun x hx => by
      simp at hx
      rcases hx with rfl | rfl
      · decide
      · exact h.name16 p hp)
    simpa using this)
  have h3 : (notesT s.pts s.notes).length ≤ s.notes.length * 86 := flat_len _ 86 _ (fun x hx => by
    obtain ⟨w1, w2⟩ := words_16 h x hx
    have := lineT_len _ 16 w2
    rw [List.length_map] at this
    omega)
  have := h.np8
  have := h.nn
  unfold writeT
  rw [List.length_append, List.length_append]
  omega
theorem reads_back {s : Sheet} (h : ValidS s) : ReadsTo (bs (writeS s)) ⟨s.iv, s.pts, s.notes⟩ := by
  have e : writeS s = writeT s := by unfold writeS; rw [if_pos (show errS s = 0 from (check_valid s).2 h)]
  have hs : (⟨s.iv, s.pts, s.notes⟩ : Rd).sheet = s := rfl
  exact ⟨by rw [bs_size, e]; exact write_size h, by rw [e]; exact rd_write h, by rw [hs]; exact (check_valid s).2 h, by rw [hs]; rfl⟩

def BackP (s : Sheet) (w : World) (e : Ending) (w' : World) : Prop := ∃ pv nv, e = .returned (.tuple #[.agg #[.int .i64 s.iv, pv, nv], .int .i64 0]) ∧ SheetAt w'.heap.size w' pv nv s ∧ Below w.heap.size w w'
theorem read_to {t : ByteArray} {r : Rd} (hR : ReadsTo t r) (w : World) (hT : Tabs w) : Calls Tryz.prog 38 #[.string t] w (BackP r.sheet w) := by
  refine (Read_any t r w hR hT).mono ?_
  rintro e w' ⟨pv, nv, rfl, h1, h2, hb⟩
  have hv := (check_valid r.sheet).1 hR.ok
  have n8 : r.pts.length ≤ 8 := hv.np8
  have n12 : r.notes.length ≤ 12 := hv.nn
  refine ⟨pv, nv, rfl, ⟨strsAt_own h1 (by show r.pts.length ≤ _; omega), notesAt_own (l := r.notes) h2 (by omega), fun x hx => ?_⟩, hb⟩
  have := hv.name16 x hx
  have e : x.data.toList.length = x.size := by simp
  omega
theorem read_back {s : Sheet} (h : ValidS s) (w : World) (hT : Tabs w) : Calls Tryz.prog 38 #[.string (bs (writeS s))] w (BackP s w) := read_to (reads_back h) w hT
/-- What Read answers, whatever the text. -/
def ReadP (t : ByteArray) (w : World) (e : Ending) (w' : World) : Prop :=
  (∃ s pv nv, errS s = 0 ∧ bs (writeS s) = t ∧ e = .returned (.tuple #[.agg #[.int .i64 s.iv, pv, nv], .int .i64 0]) ∧ SheetAt w'.heap.size w' pv nv s ∧ Below w.heap.size w w') ∨
  (∃ z : Int, z ≠ 0 ∧ e = .returned (.tuple #[.agg #[.int .i64 0, .slice none 0 0, .slice none 0 0], .int .i64 z]) ∧ Below w.heap.size w w')
theorem read_all (t : ByteArray) (w : World) (hz : t.size ≤ 140737488351232) (hT : Tabs w) (hE : Errs w) : Calls Tryz.prog 38 #[.string t] w (ReadP t w) := by
  by_cases hs : t.size ≤ 1500
  · by_cases hr : ∃ r, rdAll ⟨0, [], []⟩ (linesOf t) = some r ∧ errS r.sheet = 0 ∧ writeS r.sheet = t.data.toList
    · obtain ⟨r, h1, h2, h3⟩ := hr
      refine (read_to ⟨hs, h1, h2, h3⟩ w hT).mono ?_
      rintro e w' ⟨pv, nv, rfl, h4, h5⟩
      exact .inl ⟨r.sheet, pv, nv, h2, by rw [h3]; exact bs_of t, rfl, h4, h5⟩
    · refine (Read_form t w hs (fun r h1 h2 => hr ⟨r, h1, h2.1, h2.2⟩) hT hE).mono ?_
      rintro e w' ⟨rfl, hb⟩
      exact .inr ⟨6, by decide, rfl, hb⟩
  · refine (Read_long t w (by omega) hz).mono ?_
    rintro e w' ⟨rfl, hb⟩
    exact .inr ⟨3, by decide, rfl, hb⟩

/-- What stands through the calls. -/
structure RndA (w0 : World) (bA : Nat) (oA : Obj) (pv nv : Value) (s : Sheet) (w : World) : Prop where
  a : w.heap[bA]? = some oA
  s : SheetAt w.heap.size w pv nv s
  T : Tabs w
  E : Errs w
  B : Below w0.heap.size w0 w
theorem RndA.up {w0 : World} {bA : Nat} {oA : Obj} {pv nv : Value} {s : Sheet} {w w' : World} (h : RndA w0 bA oA pv nv s w) (hb : Below w.heap.size w w') : RndA w0 bA oA pv nv s w' :=
  ⟨(hb.block _ (lt_of_block h.a)).trans h.a, (h.s.below hb).mono hb.size, h.T.below hb, h.E.below hb, h.B.trans (hb.mono h.B.size)⟩

set_option maxRecDepth 100000 in
set_option maxHeartbeats 8000000 in
theorem lround_any (s : Sheet) (pv nv : Value) (t : ByteArray) (w : World) (hS : SheetAt w.heap.size w pv nv s) (hcap : CapOk pv) (hz : t.size ≤ 140737488351232) (hT : Tabs w) (hE : Errs w) :
    Calls Tryz.prog 14 #[.agg #[.int .i64 s.iv, pv, nv], .string t] w fun e w' => e = .returned (.bool true) ∧ Below w.heap.size w w' := by
  obtain ⟨iv, pts, notes⟩ := s
  obtain ⟨ln, na, nc, rfl, _⟩ := id hS.notes
  obtain ⟨lp, pa, pc, rfl, _⟩ := id hS.pts
  simp only at hS ln lp ⊢
  have B0 : Below w.heap.size w (w.alloc (Obj.cells #[.int .i64 iv, .slice pa pts.length pc, .slice na notes.length nc] 25)) := by go_grown
  have HS0 : Hid (RndA w w.heap.size (Obj.cells #[.int .i64 iv, .slice pa pts.length pc, .slice na notes.length nc] 25 (0, 0)) (.slice pa pts.length pc) (.slice na notes.length nc) ⟨iv, pts, notes⟩ (w.alloc (Obj.cells #[.int .i64 iv, .slice pa pts.length pc, .slice na notes.length nc] 25))) :=
    ⟨heap_alloc_new w _, (hS.below B0).mono B0.size, hT.below B0, hE.below B0, B0⟩
  clear B0 hS hT hE
  go_enter Tryz.func14, Tryz.ntmps14
  go_wp2_with fail
  generalize (w.alloc (Obj.cells #[.int .i64 iv, .slice pa pts.length pc, .slice na notes.length nc] 25)) = w0 at *
  refine (Write_any ⟨iv, pts, notes⟩ (.slice pa pts.length pc) (.slice na notes.length nc) w0 HS0.out.s HS0.out.T).mono ?_
  rintro e w1 ⟨rfl, hb⟩
  have HS1 := Lib.hid (HS0.out.up hb)
  obtain ⟨z, HZ⟩ : ∃ z, Hid (errS ⟨iv, pts, notes⟩ = z) := ⟨_, rfl⟩
  obtain ⟨S, HSS⟩ : ∃ S, Hid (bs (writeS ⟨iv, pts, notes⟩) = S) := ⟨_, rfl⟩
  have HVL := Lib.hid (valid_any ⟨iv, pts, notes⟩ (.slice pa pts.length pc) (.slice na notes.length nc) w1 HS1.out.s hcap)
  rw [HZ.out] at HVL ⊢
  rw [HSS.out]
  clear hb HS0
  have a0 := cellOf HS1.out.a 0 _ rfl
  have a1 := cellOf HS1.out.a 1 _ rfl
  have a2 := cellOf HS1.out.a 2 _ rfl
  go_wp2_with fail
  refine HVL.out.mono ?_
  rintro e w2 ⟨rfl, hb⟩
  have HS2 := Lib.hid (HS1.out.up hb)
  clear hb HS1 HVL a0 a1 a2
  by_cases h0 : z = 0
  · have tz : (z == 0) = true := by simp [h0]
    have HV := Lib.hid ((check_valid ⟨iv, pts, notes⟩).1 (HZ.out.trans h0))
    have hrb := read_back HV.out w2 HS2.out.T
    rw [HSS.out] at hrb
    have HRB := Lib.hid hrb
    clear hrb h0
    rw [tz]
    go_wp2_with fail
    refine HRB.out.mono ?_
    rintro e w3 ⟨pv1, nv1, rfl, hs1, hb⟩
    obtain ⟨lp1, pa1, pc1, rfl, _⟩ := id hs1.pts
    obtain ⟨ln1, na1, nc1, rfl, _⟩ := id hs1.notes
    simp only at lp1 ln1 hs1
    have HS3 := Lib.hid (HS2.out.up hb)
    have HB3 : Hid (Below w3.heap.size w3 (w3.alloc (Obj.cells #[.int .i64 iv, (.slice pa1 pts.length pc1), (.slice na1 notes.length nc1)] 25))) := (Below.refl _ _).alloc (Nat.le_refl _) _
    have HX := Lib.hid (heap_alloc_new w3 (Obj.cells #[.int .i64 iv, (.slice pa1 pts.length pc1), (.slice na1 notes.length nc1)] 25))
    have HS4 := Lib.hid (HS3.out.up HB3.out)
    have HX1 := Lib.hid ((hs1.below HB3.out).mono HB3.out.size)
    have HSM := Lib.hid (same_eq ⟨iv, pts, notes⟩ (.slice pa1 pts.length pc1) (.slice na1 notes.length nc1) (.slice pa pts.length pc) (.slice na notes.length nc) (w3.alloc (Obj.cells #[.int .i64 iv, (.slice pa1 pts.length pc1), (.slice na1 notes.length nc1)] 25)) HX1.out.pts HX1.out.notes HS4.out.s.pts HS4.out.s.notes)
    have x0 := cellOf HX.out 0 _ rfl
    have x1 := cellOf HX.out 1 _ rfl
    have x2 := cellOf HX.out 2 _ rfl
    have a0 := cellOf HS4.out.a 0 _ rfl
    have a1 := cellOf HS4.out.a 1 _ rfl
    have a2 := cellOf HS4.out.a 2 _ rfl
    clear hb hs1 HRB HS2 HS3 HB3
    go_wp2_with fail
    refine HSM.out.mono ?_
    rintro e w5 ⟨rfl, hb⟩
    have HS5 := Lib.hid (HS4.out.up hb)
    clear hb HSM HS4 HX HX1 x0 x1 x2 a0 a1 a2
    go_wp2_with fail
    refine (read_all t w5 hz HS5.out.T HS5.out.E).mono ?_
    rintro e w6 (⟨⟨iv2, pts2, notes2⟩, pv2, nv2, hv2, hw2, rfl, hs2, hb⟩ | ⟨z2, hz2, rfl, hb⟩)
    · obtain ⟨lp2, pa2, pc2, rfl, _⟩ := id hs2.pts
      obtain ⟨ln2, na2, nc2, rfl, _⟩ := id hs2.notes
      simp only at lp2 ln2 hs2
      have HS6 := Lib.hid (HS5.out.up hb)
      have HBn : Hid (Below w6.heap.size w6 (w6.alloc (Obj.cells #[.int .i64 iv2, (.slice pa2 pts2.length pc2), (.slice na2 notes2.length nc2)] 25))) := (Below.refl _ _).alloc (Nat.le_refl _) _
      have HY := Lib.hid (heap_alloc_new w6 (Obj.cells #[.int .i64 iv2, (.slice pa2 pts2.length pc2), (.slice na2 notes2.length nc2)] 25))
      have HSZ := Lib.hid (HS6.out.up HBn.out)
      have hwr := Write_any ⟨iv2, pts2, notes2⟩ (.slice pa2 pts2.length pc2) (.slice na2 notes2.length nc2) (w6.alloc (Obj.cells #[.int .i64 iv2, (.slice pa2 pts2.length pc2), (.slice na2 notes2.length nc2)] 25)) ((hs2.below HBn.out).mono HBn.out.size) HSZ.out.T
      rw [hw2, hv2] at hwr
      have HWR := Lib.hid hwr
      have y0 := cellOf HY.out 0 _ rfl
      have y1 := cellOf HY.out 1 _ rfl
      have y2 := cellOf HY.out 2 _ rfl
      clear hb hs2 hwr hv2 hw2 HS5 HS6 HBn
      go_wp2_with fail
      refine HWR.out.mono ?_
      rintro e wz ⟨rfl, hb⟩
      have HSY := Lib.hid (HSZ.out.up hb)
      have tt : (t.toList == t.toList) = true := by simp
      clear hb HWR HSZ y0 y1 y2 HY
      go_wp2_with fail
      refine (awake_any _ HSY.out.T).mono ?_
      rintro e wA ⟨rfl, hb⟩
      have HBA := Lib.hid (HSY.out.B.trans (hb.mono HSY.out.B.size))
      clear hb
      go_wp2
      go_ret
      exact ⟨rfl, HBA.out⟩
    · have HS6 := Lib.hid (HS5.out.up hb)
      have HBn : Hid (Below w6.heap.size w6 (w6.alloc (Obj.cells #[.int .i64 0, .slice none 0 0, .slice none 0 0] 25))) := (Below.refl _ _).alloc (Nat.le_refl _) _
      have HY := Lib.hid (heap_alloc_new w6 (Obj.cells #[.int .i64 0, .slice none 0 0, .slice none 0 0] 25))
      have HSZ := Lib.hid (HS6.out.up HBn.out)
      have y0 := cellOf HY.out 0 _ rfl
      have y1 := cellOf HY.out 1 _ rfl
      have y2 := cellOf HY.out 2 _ rfl
      have tz2 : (z2 != 0) = true := by simp [hz2]
      clear hb hz2 HS5 HS6 HBn
      go_wp2_with fail
      refine (awake_any _ HSZ.out.T).mono ?_
      rintro e wA ⟨rfl, hb⟩
      have HBA := Lib.hid (HSZ.out.B.trans (hb.mono HSZ.out.B.size))
      clear hb
      go_wp2
      go_ret
      exact ⟨rfl, HBA.out⟩
  · have tz : (z == 0) = false := by simp [h0]
    clear h0
    rw [tz]
    go_wp2_with fail
    refine (read_all t w2 hz HS2.out.T HS2.out.E).mono ?_
    rintro e w3 (⟨⟨iv2, pts2, notes2⟩, pv2, nv2, hv2, hw2, rfl, hs2, hb⟩ | ⟨z2, hz2, rfl, hb⟩)
    · obtain ⟨lp2, pa2, pc2, rfl, _⟩ := id hs2.pts
      obtain ⟨ln2, na2, nc2, rfl, _⟩ := id hs2.notes
      simp only at lp2 ln2 hs2
      have HS3 := Lib.hid (HS2.out.up hb)
      have HBn : Hid (Below w3.heap.size w3 (w3.alloc (Obj.cells #[.int .i64 iv2, (.slice pa2 pts2.length pc2), (.slice na2 notes2.length nc2)] 25))) := (Below.refl _ _).alloc (Nat.le_refl _) _
      have HY := Lib.hid (heap_alloc_new w3 (Obj.cells #[.int .i64 iv2, (.slice pa2 pts2.length pc2), (.slice na2 notes2.length nc2)] 25))
      have HSZ := Lib.hid (HS3.out.up HBn.out)
      have hwr := Write_any ⟨iv2, pts2, notes2⟩ (.slice pa2 pts2.length pc2) (.slice na2 notes2.length nc2) (w3.alloc (Obj.cells #[.int .i64 iv2, (.slice pa2 pts2.length pc2), (.slice na2 notes2.length nc2)] 25)) ((hs2.below HBn.out).mono HBn.out.size) HSZ.out.T
      rw [hw2, hv2] at hwr
      have HWR := Lib.hid hwr
      have y0 := cellOf HY.out 0 _ rfl
      have y1 := cellOf HY.out 1 _ rfl
      have y2 := cellOf HY.out 2 _ rfl
      clear hb hs2 hwr hv2 hw2 HS2 HS3 HBn
      go_wp2_with fail
      refine HWR.out.mono ?_
      rintro e wz ⟨rfl, hb⟩
      have HSY := Lib.hid (HSZ.out.up hb)
      have tt : (t.toList == t.toList) = true := by simp
      clear hb HWR HSZ y0 y1 y2 HY
      go_wp2_with fail
      refine (awake_any _ HSY.out.T).mono ?_
      rintro e wA ⟨rfl, hb⟩
      have HBA := Lib.hid (HSY.out.B.trans (hb.mono HSY.out.B.size))
      clear hb
      go_wp2
      go_ret
      exact ⟨rfl, HBA.out⟩
    · have HS3 := Lib.hid (HS2.out.up hb)
      have HBn : Hid (Below w3.heap.size w3 (w3.alloc (Obj.cells #[.int .i64 0, .slice none 0 0, .slice none 0 0] 25))) := (Below.refl _ _).alloc (Nat.le_refl _) _
      have HY := Lib.hid (heap_alloc_new w3 (Obj.cells #[.int .i64 0, .slice none 0 0, .slice none 0 0] 25))
      have HSZ := Lib.hid (HS3.out.up HBn.out)
      have y0 := cellOf HY.out 0 _ rfl
      have y1 := cellOf HY.out 1 _ rfl
      have y2 := cellOf HY.out 2 _ rfl
      have tz2 : (z2 != 0) = true := by simp [hz2]
      clear hb hz2 HS2 HS3 HBn
      go_wp2_with fail
      refine (awake_any _ HSZ.out.T).mono ?_
      rintro e wA ⟨rfl, hb⟩
      have HBA := Lib.hid (HSZ.out.B.trans (hb.mono HSZ.out.B.size))
      clear hb
      go_wp2
      go_ret
      exact ⟨rfl, HBA.out⟩
end Go.Proofs.YtacmaddjpaebfaaGreatDoor
