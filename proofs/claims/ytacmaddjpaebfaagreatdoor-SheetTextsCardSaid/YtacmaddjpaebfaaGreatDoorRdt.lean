/- The reader of package sheet: a further note. -/
import Derived.Test.YtacmaddjpaebfaaGreatDoorRd
import Derived.Deep.AppendLies
import Derived.Deep.RegionLaw
set_option linter.unusedSimpArgs false
set_option linter.unusedVariables false
namespace Go.Proofs.YtacmaddjpaebfaaGreatDoor
open Go Go.RowKit Go.Maps Go.WideMaps Hs

/-- The cells of the note that is being read. -/
def NoteBlk (w : World) (b : Nat) (k a c lo hi : Int) : Prop := w.heap[b]? = some (.cells #[.int .i64 k, .int .i64 a, .int .i64 c, .int .i64 lo, .int .i64 hi] 67 (0, 0))
theorem NoteBlk.grown {w w' : World} {b : Nat} {k a c lo hi : Int} (h : NoteBlk w b k a c lo hi) {row : Option Nat} (hg : w.grownBy w' row) (hne : some b ≠ row) : NoteBlk w' b k a c lo hi := (hg.block _ (lt_of_block h) hne).trans h

/-- The append of a note, at its step. -/
theorem app_step {ops : Array Oper} {o : Oper} {a : Act} {K : Act → World → Prop} {Q : Exit → Act → World → Prop} {E : Prop} {B0 B1 B2 Br Bm : Nat} {r : Rd} {ws : List ByteArray} {W : World} (h : RdSt B0 B1 B2 Br Bm r ws W) (x : Note) (hl : r.notes.length < 2000)
    {pa : Option Addr} {pc : Nat} {na : Option Addr} {nc : Nat} {wv : Value} (h1 : W.heap[Br]? = some (.cells #[.int .i64 r.iv, .slice pa r.pts.length pc, .slice na r.notes.length nc, .map (some Bm), wv] 119 (0, 0)))
    (h2 : W.ownsRow B1 9 1 (.slice pa r.pts.length pc) r.pts.length (r.pts.map Value.string)) (h3 : W.ownsRow B1 67 5 (.slice na r.notes.length nc) r.notes.length (notesC r.notes))
    (hgd : o.guard = none) (s y : Operand) (ho : o.op = .call { callee := .builtin .append, args := #[s, y], argTypes := #[23, 23] })
    (hs : a.eval s = .slice na r.notes.length nc) (hy : a.eval y = .slice (some ⟨W.heap.size, 0, none⟩) 1 1)
    (hK : ∀ sa sc w', w'.heap[Br]? = some (.cells #[.int .i64 r.iv, .slice pa r.pts.length pc, .slice na r.notes.length nc, .map (some Bm), wv] 119 (0, 0)) →
      RdB B0 B1 Br Bm ⟨r.iv, r.pts, r.notes ++ [x]⟩ (w'.setCell ⟨Br, 2, none⟩ (.slice sa (r.notes.length + 1) sc)) → Kb B1 Br Bm W w' → K (a.put o.dst (.slice sa (r.notes.length + 1) sc)) w') :
    if Region.wanted o (yielded ops a.tmps) = true then Oper.wp Tryz.prog o a (W.alloc (.cells #[.int .i64 x.k, .int .i64 x.a, .int .i64 x.b, .int .i64 x.lo, .int .i64 x.hi] 67)).drew K Q else E := by
  obtain ⟨i0, hi⟩ := info_of_underlying Tryz.underlying67
  have HI : i0.zero = some (.agg #[.int .i64 0, .int .i64 0, .int .i64 0, .int .i64 0, .int .i64 0]) ∧ i0.size = 5 ∧ i0.bytes = 40 := by
    have h := noteInfo
    rw [hi] at h
    simp at h
    exact h
  have hX : Below W.heap.size W (W.alloc (.cells #[.int .i64 x.k, .int .i64 x.a, .int .i64 x.b, .int .i64 x.lo, .int .i64 x.hi] 67)).drew := ((Below.refl _ _).alloc (Nat.le_refl _) _).drew
  have hXs : (W.alloc (.cells #[.int .i64 x.k, .int .i64 x.a, .int .i64 x.b, .int .i64 x.lo, .int .i64 x.hi] 67)).drew.heap.size = W.heap.size + 1 := by show (W.heap.push _).size = _; simp
  have hcell : ∀ j u, (noteC x)[j]? = some u → (W.alloc (.cells #[.int .i64 x.k, .int .i64 x.a, .int .i64 x.b, .int .i64 x.lo, .int .i64 x.hi] 67)).drew.cell? ((⟨W.heap.size, 0, none⟩ : Addr).add j) = some u := by
    intro j u hj
    have hn := heap_alloc_new W (Obj.cells #[.int .i64 x.k, .int .i64 x.a, .int .i64 x.b, .int .i64 x.lo, .int .i64 x.hi] 67)
    have hadd : (⟨W.heap.size, 0, none⟩ : Addr).add j = ⟨W.heap.size, j, none⟩ := by unfold Addr.add; split <;> simp_all
    rw [hadd]
    show (W.alloc (.cells #[.int .i64 x.k, .int .i64 x.a, .int .i64 x.b, .int .i64 x.lo, .int .i64 x.hi] 67)).cell? ⟨W.heap.size, j, none⟩ = some u
    exact cellOf hn j u (by rw [← hj]; simp [noteC, ← Array.getElem?_toList])
  have hN := own_below h3 hX
  have hP := own_below h2 hX
  have hb1 := h.b1
  have hBr1 := h.r1
  have hBm1 := h.m1
  have hne := ownBlock_ne hN hBr1
  have hnm := ownBlock_ne hN hBm1
  have hlr := lt_of_block h1
  have hlen : (r.notes ++ [x]).length = r.notes.length + 1 := by simp
  have b0r := h.b0r
  have b0m := h.b0m
  refine step_append_lies _ hgd s y 23 ho B1 67 i0 _ 5 40 Tryz.underlying23 hi HI.1 HI.2.1 HI.2.2 rfl (by decide) _ r.notes.length (notesC r.notes) hs hN ⟨W.heap.size, 0, none⟩ 1 1 (noteC x) hy rfl hcell (by intro u hu; simp [noteC] at hu; rcases hu with rfl | rfl | rfl | rfl | rfl <;> rfl) (by omega) (by unfold maxLen; omega) (by omega) (by omega) _ rfl ?_
  intro g cap w' hown hgrow _ hlt
  have d1 : w'.heap[Br]? = _ := (hgrow.block Br (by omega) (some_ne_own hne)).trans ((hX.block _ hlr).trans h1)
  have o2 := hP.kept hgrow (own_apart hP hN (by decide))
  have hs4 := hgrow.size
  refine hK _ _ w' d1 ⟨⟨pa, pc, some ⟨g, 0, none⟩, cap, wv, by rw [hlen]; exact heap_setCell_same w' Br 2 _ _ _ d1, own_other o2 _ hBr1 _, by rw [hlen, notesC_append]; exact own_other hown _ hBr1 _⟩, ?_, b0r, b0m, hBr1, hBm1, h.ne, ?_, ?_⟩ ?_
  · exact ((h.map.kept (below_grownBy hX) (by simp)).kept hgrow (some_ne_own hnm)).kept (grown_setAt w' Br 2 _) (by have := h.ne; simpa using fun e => this e.symm)
  · simp; omega
  · exact ⟨h.small.1, by simp; omega⟩
  · exact (Kb.of_below hX hb1).grown hgrow (by omega) (fun k hk => .inl (hN.lt k hk).1)

set_option maxRecDepth 100000 in
set_option maxHeartbeats 4000000 in
theorem rnote_1 (B0 B1 B2 Br Bm : Nat) (r : Rd) (sa : ByteArray) (ia : Nat) (sl sh : ByteArray) (lo hi : Int) (ws : List ByteArray) (w : World) (h : RdSt B0 B1 B2 Br Bm r (sa :: sl :: sh :: ws) w) (hsa : sa.size ≤ 2000) (ha : idxOf r.pts sa.data.toList = some ia) (hsl : sl.size ≤ 2000) (hsh : sh.size ≤ 2000) (hl : Lib.atoiAll sl.data.toList = .ok lo) (hh : Lib.atoiAll sh.data.toList = .ok hi) (hn : r.notes.length < 2000) :
    Calls Tryz.prog 113 #[.pointer (some ⟨Br, 0, none⟩), .int .i64 1] w fun e w' => e = .returned (.tuple #[]) ∧ RdB B0 B1 Br Bm ⟨r.iv, r.pts, r.notes ++ [⟨1, ia, 0, lo, hi⟩]⟩ w' ∧ Kb B1 Br Bm w w' := by
  have h0 : B0 ≤ Br := h.b0r
  have h01 : Br < B1 := h.r1
  have HP := Lib.hid (point_any B0 B1 B2 Br Bm r sa (sl :: sh :: ws) ia w h hsa ha)
  have H := Lib.hid h
  have HLO := Lib.hid hl
  have HHI := Lib.hid hh
  clear h ha hl hh
  go_enter Tryz.func113, Tryz.ntmps113
  go_wp2_with fail
  refine HP.out.mono ?_
  rintro e w1 ⟨rfl, st1, gr1⟩
  have hb1 := st1.b1
  have k1 : Below w1.heap.size w1 (w1.alloc (Obj.cells #[.int .i64 1, .int .i64 ia, .int .i64 0, .int .i64 0, .int .i64 0] 67)) := by go_grown
  have S1 := Lib.hid (st1.below k1)
  have hb0 : B0 ≤ w.heap.size := by have := H.out.b1; omega
  have g1 : Kb B1 Br Bm w w1 := (Kb.refl w).grown gr1 H.out.b1 (fun k hk => by simp at hk; omega)
  have hw1 := g1.size
  have G1 : Hid (Kb B1 Br Bm w (w1.alloc (Obj.cells #[.int .i64 1, .int .i64 ia, .int .i64 0, .int .i64 0, .int .i64 0] 67))) := g1.trans (Kb.of_below k1 hb1)
  have hB2 := st1.b2
  have N1 : Hid (NoteBlk (w1.alloc (Obj.cells #[.int .i64 1, .int .i64 ia, .int .i64 0, .int .i64 0, .int .i64 0] 67)) w1.heap.size 1 ia 0 0 0) := heap_alloc_new _ _
  have hbn : Br ≠ w1.heap.size := by omega
  have hrest := number_any B0 B1 B2 Br Bm r sl (sh :: ws) lo (w1.alloc (Obj.cells #[.int .i64 1, .int .i64 ia, .int .i64 0, .int .i64 0, .int .i64 0] 67)) S1.out hsl HLO.out
  have HC1 := Lib.hid hrest
  clear hrest st1 gr1 k1
  go_wp2_with fail
  refine HC1.out.mono ?_
  rintro e w2 ⟨rfl, st2, gr2⟩
  have nb2 := N1.out.grown gr2 (by simpa using fun e => hbn e.symm)
  have cc2 := cellOf nb2 3 _ rfl
  have ff2 := frozen_of_row _ w1.heap.size 3 _ _ nb2
  have N2 : Hid (NoteBlk (w2.setCell ⟨w1.heap.size, 3, none⟩ (.int .i64 lo)) w1.heap.size 1 ia 0 lo 0) := heap_setCell_same _ w1.heap.size 3 _ _ _ nb2
  have S2 := Lib.hid (st2.setOther w1.heap.size 3 (.int .i64 lo) hB2)
  have G2 : Hid (Kb B1 Br Bm w (w2.setCell ⟨w1.heap.size, 3, none⟩ (.int .i64 lo))) := (G1.out.grown gr2 (Nat.le_trans H.out.b1 G1.out.size) (fun k hk => by simp at hk; omega)).setCell (.inl (by simp; omega)) _
  clear st2 gr2 nb2 HC1
  have hrest := number_any B0 B1 B2 Br Bm r sh ws hi (w2.setCell ⟨w1.heap.size, 3, none⟩ (.int .i64 lo)) S2.out hsh HHI.out
  have HC2 := Lib.hid hrest
  clear hrest
  go_wp2_with fail
  refine HC2.out.mono ?_
  rintro e w3 ⟨rfl, st3, gr3⟩
  have nb3 := N2.out.grown gr3 (by simpa using fun e => hbn e.symm)
  have cc3 := cellOf nb3 4 _ rfl
  have ff3 := frozen_of_row _ w1.heap.size 4 _ _ nb3
  have N3 : Hid (NoteBlk (w3.setCell ⟨w1.heap.size, 4, none⟩ (.int .i64 hi)) w1.heap.size 1 ia 0 lo hi) := heap_setCell_same _ w1.heap.size 4 _ _ _ nb3
  have S3 := Lib.hid (st3.setOther w1.heap.size 4 (.int .i64 hi) hB2)
  have G3 : Hid (Kb B1 Br Bm w (w3.setCell ⟨w1.heap.size, 4, none⟩ (.int .i64 hi))) := (G2.out.grown gr3 (Nat.le_trans H.out.b1 G2.out.size) (fun k hk => by simp at hk; omega)).setCell (.inl (by simp; omega)) _
  clear st3 gr3 nb3 HC2
  go_wp2_with fail
  have NN := N3.out
  have SS := S3.out
  have GN := Lib.hid G3.out
  clear cc3 ff3 N3 S3 G3
  generalize (w3.setCell ⟨w1.heap.size, 4, none⟩ (.int .i64 hi)) = W at *
  obtain ⟨pa, pc, na, nc, wa, wc, r1, r2, r3, _, _, _⟩ := SS.row
  have q2 := cellOf r1 2 _ rfl
  have hbrW := lt_of_block r1
  have hnW := lt_of_block NN
  have SSH := Lib.hid SS
  have R1 := Lib.hid r1
  have R2 := Lib.hid r2
  have R3 := Lib.hid r3
  have m0 := cellOf NN 0 _ rfl
  have m1 := cellOf NN 1 _ rfl
  have m2 := cellOf NN 2 _ rfl
  have m3 := cellOf NN 3 _ rfl
  have m4 := cellOf NN 4 _ rfl
  clear r1 r2 r3 NN SS
  go_region_law ((refine app_step SSH.out ⟨1, ia, 0, lo, hi⟩ hn R1.out R2.out R3.out (by rfl) _ _ (by rfl) (by rfl) (by rfl) ?_; intro sa' sc' w' d1 hB hlow; have p2 := cellOf d1 2 _ rfl; have pf := frozen_of_row _ Br 2 _ _ d1; have HBB := Lib.hid hB; have HLOW := Lib.hid hlow; clear hB hlow d1))
  all_goals
    go_wp2_with fail
    go_end0
    exact ⟨rfl, HBB.out, (GN.out.trans HLOW.out).setCell (.inr (.inl rfl)) _⟩

set_option maxRecDepth 100000 in
set_option maxHeartbeats 4000000 in
theorem rnote_2 (B0 B1 B2 Br Bm : Nat) (r : Rd) (sa : ByteArray) (ia : Nat) (sl sh : ByteArray) (lo hi : Int) (ws : List ByteArray) (w : World) (h : RdSt B0 B1 B2 Br Bm r (sa :: sl :: sh :: ws) w) (hsa : sa.size ≤ 2000) (ha : idxOf r.pts sa.data.toList = some ia) (hsl : sl.size ≤ 2000) (hsh : sh.size ≤ 2000) (hl : Lib.atoiAll sl.data.toList = .ok lo) (hh : Lib.atoiAll sh.data.toList = .ok hi) (hn : r.notes.length < 2000) :
    Calls Tryz.prog 113 #[.pointer (some ⟨Br, 0, none⟩), .int .i64 2] w fun e w' => e = .returned (.tuple #[]) ∧ RdB B0 B1 Br Bm ⟨r.iv, r.pts, r.notes ++ [⟨2, ia, 0, lo, hi⟩]⟩ w' ∧ Kb B1 Br Bm w w' := by
  have h0 : B0 ≤ Br := h.b0r
  have h01 : Br < B1 := h.r1
  have HP := Lib.hid (point_any B0 B1 B2 Br Bm r sa (sl :: sh :: ws) ia w h hsa ha)
  have H := Lib.hid h
  have HLO := Lib.hid hl
  have HHI := Lib.hid hh
  clear h ha hl hh
  go_enter Tryz.func113, Tryz.ntmps113
  go_wp2_with fail
  refine HP.out.mono ?_
  rintro e w1 ⟨rfl, st1, gr1⟩
  have hb1 := st1.b1
  have k1 : Below w1.heap.size w1 (w1.alloc (Obj.cells #[.int .i64 2, .int .i64 ia, .int .i64 0, .int .i64 0, .int .i64 0] 67)) := by go_grown
  have S1 := Lib.hid (st1.below k1)
  have hb0 : B0 ≤ w.heap.size := by have := H.out.b1; omega
  have g1 : Kb B1 Br Bm w w1 := (Kb.refl w).grown gr1 H.out.b1 (fun k hk => by simp at hk; omega)
  have hw1 := g1.size
  have G1 : Hid (Kb B1 Br Bm w (w1.alloc (Obj.cells #[.int .i64 2, .int .i64 ia, .int .i64 0, .int .i64 0, .int .i64 0] 67))) := g1.trans (Kb.of_below k1 hb1)
  have hB2 := st1.b2
  have N1 : Hid (NoteBlk (w1.alloc (Obj.cells #[.int .i64 2, .int .i64 ia, .int .i64 0, .int .i64 0, .int .i64 0] 67)) w1.heap.size 2 ia 0 0 0) := heap_alloc_new _ _
  have hbn : Br ≠ w1.heap.size := by omega
  have hrest := number_any B0 B1 B2 Br Bm r sl (sh :: ws) lo (w1.alloc (Obj.cells #[.int .i64 2, .int .i64 ia, .int .i64 0, .int .i64 0, .int .i64 0] 67)) S1.out hsl HLO.out
  have HC1 := Lib.hid hrest
  clear hrest st1 gr1 k1
  go_wp2_with fail
  refine HC1.out.mono ?_
  rintro e w2 ⟨rfl, st2, gr2⟩
  have nb2 := N1.out.grown gr2 (by simpa using fun e => hbn e.symm)
  have cc2 := cellOf nb2 3 _ rfl
  have ff2 := frozen_of_row _ w1.heap.size 3 _ _ nb2
  have N2 : Hid (NoteBlk (w2.setCell ⟨w1.heap.size, 3, none⟩ (.int .i64 lo)) w1.heap.size 2 ia 0 lo 0) := heap_setCell_same _ w1.heap.size 3 _ _ _ nb2
  have S2 := Lib.hid (st2.setOther w1.heap.size 3 (.int .i64 lo) hB2)
  have G2 : Hid (Kb B1 Br Bm w (w2.setCell ⟨w1.heap.size, 3, none⟩ (.int .i64 lo))) := (G1.out.grown gr2 (Nat.le_trans H.out.b1 G1.out.size) (fun k hk => by simp at hk; omega)).setCell (.inl (by simp; omega)) _
  clear st2 gr2 nb2 HC1
  have hrest := number_any B0 B1 B2 Br Bm r sh ws hi (w2.setCell ⟨w1.heap.size, 3, none⟩ (.int .i64 lo)) S2.out hsh HHI.out
  have HC2 := Lib.hid hrest
  clear hrest
  go_wp2_with fail
  refine HC2.out.mono ?_
  rintro e w3 ⟨rfl, st3, gr3⟩
  have nb3 := N2.out.grown gr3 (by simpa using fun e => hbn e.symm)
  have cc3 := cellOf nb3 4 _ rfl
  have ff3 := frozen_of_row _ w1.heap.size 4 _ _ nb3
  have N3 : Hid (NoteBlk (w3.setCell ⟨w1.heap.size, 4, none⟩ (.int .i64 hi)) w1.heap.size 2 ia 0 lo hi) := heap_setCell_same _ w1.heap.size 4 _ _ _ nb3
  have S3 := Lib.hid (st3.setOther w1.heap.size 4 (.int .i64 hi) hB2)
  have G3 : Hid (Kb B1 Br Bm w (w3.setCell ⟨w1.heap.size, 4, none⟩ (.int .i64 hi))) := (G2.out.grown gr3 (Nat.le_trans H.out.b1 G2.out.size) (fun k hk => by simp at hk; omega)).setCell (.inl (by simp; omega)) _
  clear st3 gr3 nb3 HC2
  go_wp2_with fail
  have NN := N3.out
  have SS := S3.out
  have GN := Lib.hid G3.out
  clear cc3 ff3 N3 S3 G3
  generalize (w3.setCell ⟨w1.heap.size, 4, none⟩ (.int .i64 hi)) = W at *
  obtain ⟨pa, pc, na, nc, wa, wc, r1, r2, r3, _, _, _⟩ := SS.row
  have q2 := cellOf r1 2 _ rfl
  have hbrW := lt_of_block r1
  have hnW := lt_of_block NN
  have SSH := Lib.hid SS
  have R1 := Lib.hid r1
  have R2 := Lib.hid r2
  have R3 := Lib.hid r3
  have m0 := cellOf NN 0 _ rfl
  have m1 := cellOf NN 1 _ rfl
  have m2 := cellOf NN 2 _ rfl
  have m3 := cellOf NN 3 _ rfl
  have m4 := cellOf NN 4 _ rfl
  clear r1 r2 r3 NN SS
  go_region_law ((refine app_step SSH.out ⟨2, ia, 0, lo, hi⟩ hn R1.out R2.out R3.out (by rfl) _ _ (by rfl) (by rfl) (by rfl) ?_; intro sa' sc' w' d1 hB hlow; have p2 := cellOf d1 2 _ rfl; have pf := frozen_of_row _ Br 2 _ _ d1; have HBB := Lib.hid hB; have HLOW := Lib.hid hlow; clear hB hlow d1))
  all_goals
    go_wp2_with fail
    go_end0
    exact ⟨rfl, HBB.out, (GN.out.trans HLOW.out).setCell (.inr (.inl rfl)) _⟩

set_option maxRecDepth 100000 in
set_option maxHeartbeats 4000000 in
theorem rnote_3 (B0 B1 B2 Br Bm : Nat) (r : Rd) (sa : ByteArray) (ia : Nat) (sb : ByteArray) (ib : Nat) (ws : List ByteArray) (w : World) (h : RdSt B0 B1 B2 Br Bm r (sa :: sb :: ws) w) (hsa : sa.size ≤ 2000) (ha : idxOf r.pts sa.data.toList = some ia) (hsb : sb.size ≤ 2000) (hb : idxOf r.pts sb.data.toList = some ib) (hn : r.notes.length < 2000) :
    Calls Tryz.prog 113 #[.pointer (some ⟨Br, 0, none⟩), .int .i64 3] w fun e w' => e = .returned (.tuple #[]) ∧ RdB B0 B1 Br Bm ⟨r.iv, r.pts, r.notes ++ [⟨3, ia, ib, 0, 0⟩]⟩ w' ∧ Kb B1 Br Bm w w' := by
  have h0 : B0 ≤ Br := h.b0r
  have h01 : Br < B1 := h.r1
  have HP := Lib.hid (point_any B0 B1 B2 Br Bm r sa (sb :: ws) ia w h hsa ha)
  have H := Lib.hid h
  have HB := Lib.hid hb
  clear h ha hb
  go_enter Tryz.func113, Tryz.ntmps113
  go_wp2_with fail
  refine HP.out.mono ?_
  rintro e w1 ⟨rfl, st1, gr1⟩
  have hb1 := st1.b1
  have k1 : Below w1.heap.size w1 (w1.alloc (Obj.cells #[.int .i64 3, .int .i64 ia, .int .i64 0, .int .i64 0, .int .i64 0] 67)) := by go_grown
  have S1 := Lib.hid (st1.below k1)
  have hb0 : B0 ≤ w.heap.size := by have := H.out.b1; omega
  have g1 : Kb B1 Br Bm w w1 := (Kb.refl w).grown gr1 H.out.b1 (fun k hk => by simp at hk; omega)
  have hw1 := g1.size
  have G1 : Hid (Kb B1 Br Bm w (w1.alloc (Obj.cells #[.int .i64 3, .int .i64 ia, .int .i64 0, .int .i64 0, .int .i64 0] 67))) := g1.trans (Kb.of_below k1 hb1)
  have hB2 := st1.b2
  have N1 : Hid (NoteBlk (w1.alloc (Obj.cells #[.int .i64 3, .int .i64 ia, .int .i64 0, .int .i64 0, .int .i64 0] 67)) w1.heap.size 3 ia 0 0 0) := heap_alloc_new _ _
  have hbn : Br ≠ w1.heap.size := by omega
  have hrest := point_any B0 B1 B2 Br Bm r sb ws ib (w1.alloc (Obj.cells #[.int .i64 3, .int .i64 ia, .int .i64 0, .int .i64 0, .int .i64 0] 67)) S1.out hsb HB.out
  have HC1 := Lib.hid hrest
  clear hrest st1 gr1 k1
  go_wp2_with fail
  refine HC1.out.mono ?_
  rintro e w2 ⟨rfl, st2, gr2⟩
  have nb2 := N1.out.grown gr2 (by simpa using fun e => hbn e.symm)
  have cc2 := cellOf nb2 2 _ rfl
  have ff2 := frozen_of_row _ w1.heap.size 2 _ _ nb2
  have N2 : Hid (NoteBlk (w2.setCell ⟨w1.heap.size, 2, none⟩ (.int .i64 ib)) w1.heap.size 3 ia ib 0 0) := heap_setCell_same _ w1.heap.size 2 _ _ _ nb2
  have S2 := Lib.hid (st2.setOther w1.heap.size 2 (.int .i64 ib) hB2)
  have G2 : Hid (Kb B1 Br Bm w (w2.setCell ⟨w1.heap.size, 2, none⟩ (.int .i64 ib))) := (G1.out.grown gr2 (Nat.le_trans H.out.b1 G1.out.size) (fun k hk => by simp at hk; omega)).setCell (.inl (by simp; omega)) _
  clear st2 gr2 nb2 HC1
  go_wp2_with fail
  have NN := N2.out
  have SS := S2.out
  have GN := Lib.hid G2.out
  clear cc2 ff2 N2 S2 G2
  generalize (w2.setCell ⟨w1.heap.size, 2, none⟩ (.int .i64 ib)) = W at *
  obtain ⟨pa, pc, na, nc, wa, wc, r1, r2, r3, _, _, _⟩ := SS.row
  have q2 := cellOf r1 2 _ rfl
  have hbrW := lt_of_block r1
  have hnW := lt_of_block NN
  have SSH := Lib.hid SS
  have R1 := Lib.hid r1
  have R2 := Lib.hid r2
  have R3 := Lib.hid r3
  have m0 := cellOf NN 0 _ rfl
  have m1 := cellOf NN 1 _ rfl
  have m2 := cellOf NN 2 _ rfl
  have m3 := cellOf NN 3 _ rfl
  have m4 := cellOf NN 4 _ rfl
  clear r1 r2 r3 NN SS
  go_region_law ((refine app_step SSH.out ⟨3, ia, ib, 0, 0⟩ hn R1.out R2.out R3.out (by rfl) _ _ (by rfl) (by rfl) (by rfl) ?_; intro sa' sc' w' d1 hB hlow; have p2 := cellOf d1 2 _ rfl; have pf := frozen_of_row _ Br 2 _ _ d1; have HBB := Lib.hid hB; have HLOW := Lib.hid hlow; clear hB hlow d1))
  all_goals
    go_wp2_with fail
    go_end0
    exact ⟨rfl, HBB.out, (GN.out.trans HLOW.out).setCell (.inr (.inl rfl)) _⟩

set_option maxRecDepth 100000 in
set_option maxHeartbeats 4000000 in
theorem rnote_4 (B0 B1 B2 Br Bm : Nat) (r : Rd) (sa : ByteArray) (ia : Nat) (sb : ByteArray) (ib : Nat) (sl sh : ByteArray) (lo hi : Int) (ws : List ByteArray) (w : World) (h : RdSt B0 B1 B2 Br Bm r (sa :: sb :: sl :: sh :: ws) w) (hsa : sa.size ≤ 2000) (ha : idxOf r.pts sa.data.toList = some ia) (hsb : sb.size ≤ 2000) (hb : idxOf r.pts sb.data.toList = some ib) (hsl : sl.size ≤ 2000) (hsh : sh.size ≤ 2000) (hl : Lib.atoiAll sl.data.toList = .ok lo) (hh : Lib.atoiAll sh.data.toList = .ok hi) (hn : r.notes.length < 2000) :
    Calls Tryz.prog 113 #[.pointer (some ⟨Br, 0, none⟩), .int .i64 4] w fun e w' => e = .returned (.tuple #[]) ∧ RdB B0 B1 Br Bm ⟨r.iv, r.pts, r.notes ++ [⟨4, ia, ib, lo, hi⟩]⟩ w' ∧ Kb B1 Br Bm w w' := by
  have h0 : B0 ≤ Br := h.b0r
  have h01 : Br < B1 := h.r1
  have HP := Lib.hid (point_any B0 B1 B2 Br Bm r sa (sb :: sl :: sh :: ws) ia w h hsa ha)
  have H := Lib.hid h
  have HB := Lib.hid hb
  have HLO := Lib.hid hl
  have HHI := Lib.hid hh
  clear h ha hb hl hh
  go_enter Tryz.func113, Tryz.ntmps113
  go_wp2_with fail
  refine HP.out.mono ?_
  rintro e w1 ⟨rfl, st1, gr1⟩
  have hb1 := st1.b1
  have k1 : Below w1.heap.size w1 (w1.alloc (Obj.cells #[.int .i64 4, .int .i64 ia, .int .i64 0, .int .i64 0, .int .i64 0] 67)) := by go_grown
  have S1 := Lib.hid (st1.below k1)
  have hb0 : B0 ≤ w.heap.size := by have := H.out.b1; omega
  have g1 : Kb B1 Br Bm w w1 := (Kb.refl w).grown gr1 H.out.b1 (fun k hk => by simp at hk; omega)
  have hw1 := g1.size
  have G1 : Hid (Kb B1 Br Bm w (w1.alloc (Obj.cells #[.int .i64 4, .int .i64 ia, .int .i64 0, .int .i64 0, .int .i64 0] 67))) := g1.trans (Kb.of_below k1 hb1)
  have hB2 := st1.b2
  have N1 : Hid (NoteBlk (w1.alloc (Obj.cells #[.int .i64 4, .int .i64 ia, .int .i64 0, .int .i64 0, .int .i64 0] 67)) w1.heap.size 4 ia 0 0 0) := heap_alloc_new _ _
  have hbn : Br ≠ w1.heap.size := by omega
  have hrest := point_any B0 B1 B2 Br Bm r sb (sl :: sh :: ws) ib (w1.alloc (Obj.cells #[.int .i64 4, .int .i64 ia, .int .i64 0, .int .i64 0, .int .i64 0] 67)) S1.out hsb HB.out
  have HC1 := Lib.hid hrest
  clear hrest st1 gr1 k1
  go_wp2_with fail
  refine HC1.out.mono ?_
  rintro e w2 ⟨rfl, st2, gr2⟩
  have nb2 := N1.out.grown gr2 (by simpa using fun e => hbn e.symm)
  have cc2 := cellOf nb2 2 _ rfl
  have ff2 := frozen_of_row _ w1.heap.size 2 _ _ nb2
  have N2 : Hid (NoteBlk (w2.setCell ⟨w1.heap.size, 2, none⟩ (.int .i64 ib)) w1.heap.size 4 ia ib 0 0) := heap_setCell_same _ w1.heap.size 2 _ _ _ nb2
  have S2 := Lib.hid (st2.setOther w1.heap.size 2 (.int .i64 ib) hB2)
  have G2 : Hid (Kb B1 Br Bm w (w2.setCell ⟨w1.heap.size, 2, none⟩ (.int .i64 ib))) := (G1.out.grown gr2 (Nat.le_trans H.out.b1 G1.out.size) (fun k hk => by simp at hk; omega)).setCell (.inl (by simp; omega)) _
  clear st2 gr2 nb2 HC1
  have hrest := number_any B0 B1 B2 Br Bm r sl (sh :: ws) lo (w2.setCell ⟨w1.heap.size, 2, none⟩ (.int .i64 ib)) S2.out hsl HLO.out
  have HC2 := Lib.hid hrest
  clear hrest
  go_wp2_with fail
  refine HC2.out.mono ?_
  rintro e w3 ⟨rfl, st3, gr3⟩
  have nb3 := N2.out.grown gr3 (by simpa using fun e => hbn e.symm)
  have cc3 := cellOf nb3 3 _ rfl
  have ff3 := frozen_of_row _ w1.heap.size 3 _ _ nb3
  have N3 : Hid (NoteBlk (w3.setCell ⟨w1.heap.size, 3, none⟩ (.int .i64 lo)) w1.heap.size 4 ia ib lo 0) := heap_setCell_same _ w1.heap.size 3 _ _ _ nb3
  have S3 := Lib.hid (st3.setOther w1.heap.size 3 (.int .i64 lo) hB2)
  have G3 : Hid (Kb B1 Br Bm w (w3.setCell ⟨w1.heap.size, 3, none⟩ (.int .i64 lo))) := (G2.out.grown gr3 (Nat.le_trans H.out.b1 G2.out.size) (fun k hk => by simp at hk; omega)).setCell (.inl (by simp; omega)) _
  clear st3 gr3 nb3 HC2
  have hrest := number_any B0 B1 B2 Br Bm r sh ws hi (w3.setCell ⟨w1.heap.size, 3, none⟩ (.int .i64 lo)) S3.out hsh HHI.out
  have HC3 := Lib.hid hrest
  clear hrest
  go_wp2_with fail
  refine HC3.out.mono ?_
  rintro e w4 ⟨rfl, st4, gr4⟩
  have nb4 := N3.out.grown gr4 (by simpa using fun e => hbn e.symm)
  have cc4 := cellOf nb4 4 _ rfl
  have ff4 := frozen_of_row _ w1.heap.size 4 _ _ nb4
  have N4 : Hid (NoteBlk (w4.setCell ⟨w1.heap.size, 4, none⟩ (.int .i64 hi)) w1.heap.size 4 ia ib lo hi) := heap_setCell_same _ w1.heap.size 4 _ _ _ nb4
  have S4 := Lib.hid (st4.setOther w1.heap.size 4 (.int .i64 hi) hB2)
  have G4 : Hid (Kb B1 Br Bm w (w4.setCell ⟨w1.heap.size, 4, none⟩ (.int .i64 hi))) := (G3.out.grown gr4 (Nat.le_trans H.out.b1 G3.out.size) (fun k hk => by simp at hk; omega)).setCell (.inl (by simp; omega)) _
  clear st4 gr4 nb4 HC3
  go_wp2_with fail
  have NN := N4.out
  have SS := S4.out
  have GN := Lib.hid G4.out
  clear cc4 ff4 N4 S4 G4
  generalize (w4.setCell ⟨w1.heap.size, 4, none⟩ (.int .i64 hi)) = W at *
  obtain ⟨pa, pc, na, nc, wa, wc, r1, r2, r3, _, _, _⟩ := SS.row
  have q2 := cellOf r1 2 _ rfl
  have hbrW := lt_of_block r1
  have hnW := lt_of_block NN
  have SSH := Lib.hid SS
  have R1 := Lib.hid r1
  have R2 := Lib.hid r2
  have R3 := Lib.hid r3
  have m0 := cellOf NN 0 _ rfl
  have m1 := cellOf NN 1 _ rfl
  have m2 := cellOf NN 2 _ rfl
  have m3 := cellOf NN 3 _ rfl
  have m4 := cellOf NN 4 _ rfl
  clear r1 r2 r3 NN SS
  go_region_law ((refine app_step SSH.out ⟨4, ia, ib, lo, hi⟩ hn R1.out R2.out R3.out (by rfl) _ _ (by rfl) (by rfl) (by rfl) ?_; intro sa' sc' w' d1 hB hlow; have p2 := cellOf d1 2 _ rfl; have pf := frozen_of_row _ Br 2 _ _ d1; have HBB := Lib.hid hB; have HLOW := Lib.hid hlow; clear hB hlow d1))
  all_goals
    go_wp2_with fail
    go_end0
    exact ⟨rfl, HBB.out, (GN.out.trans HLOW.out).setCell (.inr (.inl rfl)) _⟩
end Go.Proofs.YtacmaddjpaebfaaGreatDoor
