/- SheetOrder: the call returns true. Condition: the tables of Go's library are laid. -/
import Derived.Test.YteipihhpoakhpaaGreatDoorOrdp
import Derived.Test.YteipihhpoakhpaaGreatDoorUsixt
import Derived.Test.YteipihhpoakhpaaGreatDoorLast
import Derived.Test.YteipihhpoakhpaaGreatDoorSome
import Derived.Test.YteipihhpoakhpaaGreatDoorCmp
set_option linter.unusedSimpArgs false
set_option linter.unusedVariables false
namespace Go.Proofs.YteipihhpoakhpaaGreatDoor
open Go Go.RowKit Hs Dc

theorem elemNotes : Tryz.prog.elem 23 = 67 := by kernel_rfl
theorem undNotes : Tryz.prog.underlying 23 = some (.slice (Tryz.prog.elem 23)) := by kernel_rfl
theorem sizeNotes (w : World) : (sizeOf (Tryz.prog.elem 23)).run Tryz.prog w = .ok 5 w := by
  obtain ⟨i0, hi⟩ := info_of_underlying Tryz.underlying67
  have h := noteInfo
  rw [hi] at h
  simp at h
  rw [elemNotes]
  simp [sizeOf, typeInfo, hi, h.2.1]
/-- x[:at], x[at:], carried out. -/
theorem exec_lo {a : Act} {o : Oper} {x h : Operand} {sa : Option Addr} {k sc n : Nat} (ho : o.op = .slice 23 x none (some h) none) (hx : a.eval x = .slice sa k sc) (hh : a.eval h = .int .i64 n) (hn : n ≤ sc) (w : World) :
    (execOp a.eval o).run Tryz.prog w = .ok (.value (.slice sa n sc)) w := by
  have e := run_slice_h (P := Tryz.prog) w 23 sa k sc undNotes .i64 (n : Int) (by omega) (by omega)
  simp only [execOp, ho, hx, hh, Sem.run_bind, Option.map_some, Option.map_none, run_sliceAt_slice (P := Tryz.prog) w _ _ _ _ _ undNotes, e, sizeNotes, Result.andThen, sliced, Sem.run_pure]
  have hz : sa.map (fun x => x.add 0) = sa := by cases sa <;> simp [Addr.add]
  simp [hz]
theorem exec_hi {a : Act} {o : Oper} {x h : Operand} {sa : Option Addr} {k sc n : Nat} (ho : o.op = .slice 23 x (some h) none none) (hx : a.eval x = .slice sa k sc) (hh : a.eval h = .int .i64 n) (hn : n ≤ k) (w : World) :
    (execOp a.eval o).run Tryz.prog w = .ok (.value (.slice (if sc = n then sa else sa.map (·.add (n * 5))) (k - n) (sc - n))) w := by
  have e := run_slice_l (P := Tryz.prog) w 23 sa k sc undNotes .i64 (n : Int) (by omega) (by omega)
  simp only [execOp, ho, hx, hh, Sem.run_bind, Option.map_some, Option.map_none, run_sliceAt_slice (P := Tryz.prog) w _ _ _ _ _ undNotes, e, sizeNotes, Result.andThen, sliced, Sem.run_pure]
  simp
/-- The first notes of a row of the call's own, and the others. -/
theorem notes_lo {w : World} {base : Nat} {sa : Option Addr} {sc n : Nat} {l : List Note} (h : w.ownsRow base 67 5 (.slice sa l.length sc) l.length (notesC l)) (hn : n ≤ l.length) (hl : l.length ≤ 4611686018427387904) :
    n ≤ sc ∧ NotesAt w.heap.size w (.slice sa n sc) (l.take n) := by
  obtain ⟨h1, a, c, e, hc⟩ := notesAt_own h hl
  simp only [Value.slice.injEq, true_and] at e
  obtain ⟨rfl, rfl⟩ := e
  have hsc : l.length ≤ sc := by
    rcases h.2 with ⟨e, e0⟩ | ⟨g, cap, cur, e, _, _, r, _⟩
    · omega
    · simp only [Value.slice.injEq] at e; omega
  refine ⟨by omega, by simp; omega, _, sc, by rw [List.length_take, Nat.min_eq_left hn], fun hne => ?_⟩
  have hne' : l ≠ [] := by rintro rfl; simp at hne
  have h0 : sc ≠ 0 := by have := List.length_pos_iff.2 hne'; omega
  obtain ⟨b, o, rfl, hb, hk⟩ := hc hne'
  refine ⟨b, o, rfl, hb, fun k hk' => ?_⟩
  rw [List.length_take] at hk'
  have := hk k (by omega)
  simpa [List.getElem_take] using this
theorem notes_hi {w : World} {base : Nat} {sa : Option Addr} {sc n : Nat} {l : List Note} (h : w.ownsRow base 67 5 (.slice sa l.length sc) l.length (notesC l)) (hn : n ≤ l.length) (hl : l.length ≤ 4611686018427387904) :
    NotesAt w.heap.size w (.slice (if sc = n then sa else sa.map (·.add (n * 5))) (l.length - n) (sc - n)) (l.drop n) := by
  obtain ⟨h1, a, c, e, hc⟩ := notesAt_own h hl
  simp only [Value.slice.injEq, true_and] at e
  obtain ⟨rfl, rfl⟩ := e
  have hsc : l.length ≤ sc := by
    rcases h.2 with ⟨e, e0⟩ | ⟨g, cap, cur, e, _, _, r, _⟩
    · omega
    · simp only [Value.slice.injEq] at e; omega
  refine ⟨by simp; omega, _, sc - n, by rw [List.length_drop], fun hne => ?_⟩
  have hlt : n < l.length := by
    rcases Nat.lt_or_ge n l.length with h | h
    · exact h
    · exact absurd (List.drop_eq_nil_of_le h) hne
  obtain ⟨b, o, rfl, hb, hk⟩ := hc (by rintro rfl; simp at hlt)
  refine ⟨b, o + n * 5, by rw [if_neg (by omega)]; simp [Addr.add], hb, fun k hk' => ?_⟩
  rw [List.length_drop] at hk'
  have := hk (n + k) (by omega)
  rw [show o + (n + k) * 5 = o + n * 5 + k * 5 by omega] at this
  simpa [List.getElem_drop] using this
/-- A store to a block of which a row of the call's own is no part. -/
theorem own_far {w : World} {base e size n : Nat} {v : Value} {xs : List Value} (h : w.ownsRow base e size v n xs) (p : Addr) (u : Value) (hne : v.ownBlock ≠ some p.block) : (w.setCell p u).ownsRow base e size v n xs := by
  obtain ⟨h0, h⟩ := h
  refine ⟨h0, ?_⟩
  rcases h with h | ⟨g, cap, cur, rfl, r2, r3, r4⟩
  · exact .inl h
  · exact .inr ⟨g, cap, cur, rfl, r2, (heap_setCell_other w p g u (by simp [Value.ownBlock] at hne; omega)).trans r3, r4⟩
theorem own_new {w : World} {base e size n : Nat} {v : Value} {xs : List Value} (h : w.ownsRow base e size v n xs) : v.ownBlock ≠ some w.heap.size := by
  intro hv
  have := (h.lt _ hv).2
  omega
theorem highest_len (s : Sheet) : (highS s).length ≤ s.pts.length := by
  unfold highS
  split
  · exact topsK_le _ _ _
  · simp
/-- What stands through the calls behind the loop. -/
structure OrdSt (w0 : World) (bA bO : Nat) (oA oO : Obj) (pv nv nv' : Value) (s t : Sheet) (w : World) : Prop where
  a : w.heap[bA]? = some oA
  o : w.heap[bO]? = some oO
  s : SheetAt w.heap.size w pv nv s
  t : SheetAt w.heap.size w pv nv' t
  T : Tabs w
  B : Below w0.heap.size w0 w
theorem OrdSt.up {w0 : World} {bA bO : Nat} {oA oO : Obj} {pv nv nv' : Value} {s t : Sheet} {w w' : World} (h : OrdSt w0 bA bO oA oO pv nv nv' s t w) (hb : Below w.heap.size w w') : OrdSt w0 bA bO oA oO pv nv nv' s t w' :=
  ⟨(hb.block _ (lt_of_block h.a)).trans h.a, (hb.block _ (lt_of_block h.o)).trans h.o, h.s.up hb, h.t.up hb, h.T.below hb, h.B.trans (hb.mono h.B.size)⟩
/-- What Heights answers, read. -/
def SpnM (c : Int) (w : World) (v : Value) (l : List (Int × Int)) : Prop := (c = 0 → SpnAt w v l) ∧ (c ≠ 0 → v = .slice none 0 0)
theorem SpnM.below {c : Int} {w w' : World} {v : Value} {l : List (Int × Int)} (h : SpnM c w v l) (hb : Below w.heap.size w w') : SpnM c w' v l := ⟨fun e => (h.1 e).below hb, h.2⟩
theorem spn_hts {w w' : World} {v : Value} {s : Sheet} (hp : s.pts.length ≤ 8) (h1 : measE s = 0 → SpansAt w.heap.size w' v (heightS s)) (h2 : measE s ≠ 0 → v = .slice none 0 0) : SpnM (measE s) w' v (heightS s) :=
  ⟨fun h => (h1 h).spn (by unfold heightS; simp; omega), h2⟩
set_option maxRecDepth 100000 in
theorem spans_nil (w : World) : Calls Tryz.prog 24 #[.slice none 0 0, .slice none 0 0] w fun e w' => e = .returned (.bool true) ∧ Below w.heap.size w w' := by
  go_enter Tryz.func24, Tryz.ntmps24
  go_wp2
  go_loopw [5] (fun i wr => i = .int .i64 0 ∧ Hid (Below w.heap.size w wr)) (fun i _ => 0)
  case atStart => exact ⟨rfl, Below.refl _ _⟩
  case round =>
    obtain ⟨rfl, HB⟩ := hrel
    go_wp2
    go_ret
    exact ⟨rfl, HB.out⟩
theorem spans_m (c : Int) (va vb : Value) (l : List (Int × Int)) (w : World) (ha : SpnM c w va l) (hb : SpnM c w vb l) :
    Calls Tryz.prog 24 #[va, vb] w fun e w' => e = .returned (.bool true) ∧ Below w.heap.size w w' := by
  by_cases h : c = 0
  · exact spans_eq va vb l w (ha.1 h) (hb.1 h)
  · rw [ha.2 h, hb.2 h]
    exact spans_nil w
set_option maxRecDepth 100000 in
set_option maxHeartbeats 8000000 in
theorem lorder_any (s : Sheet) (pv nv lv : Value) (l : List Nat) (w : World) (hS : SheetAt w.heap.size w pv nv s) (hcap : CapOk pv) (hl : U16At w lv l) (hT : Tabs w) :
    Calls Tryz.prog 13 #[.agg #[.int .i64 s.iv, pv, nv], lv] w fun e w' => e = .returned (.bool true) ∧ Below w.heap.size w w' := by
  obtain ⟨iv, pts, notes⟩ := s
  obtain ⟨ln, na, nc, rfl, _⟩ := id hS.notes
  obtain ⟨lp, pa, pc, rfl, _⟩ := id hS.pts
  obtain ⟨_, xa, xc, rfl, _⟩ := id hl
  simp only at hS ln lp ⊢
  have B0 : Below w.heap.size w (w.alloc (Obj.cells #[.int .i64 iv, .slice pa pts.length pc, .slice na notes.length nc] 25)) := by go_grown
  have hA := heap_alloc_new w (Obj.cells #[.int .i64 iv, .slice pa pts.length pc, .slice na notes.length nc] 25)
  have HS := Lib.hid (hS.up B0)
  have HT := Lib.hid (hT.below B0)
  have HX := Lib.hid (hl.below B0)
  have HB := Lib.hid B0
  have HA := Lib.hid hA
  clear hA B0 hS hT hl
  go_enter Tryz.func13, Tryz.ntmps13
  go_wp2_with fail
  generalize w.alloc (Obj.cells #[.int .i64 iv, .slice pa pts.length pc, .slice na notes.length nc] 25) = W at *
  have hAlt := lt_of_block HA.out
  refine (valid_any ⟨iv, pts, notes⟩ _ _ W HS.out hcap).mono ?_
  rintro e w1 ⟨rfl, hb⟩
  have HA1 := Lib.hid ((hb.block _ hAlt).trans HA.out)
  have HS1 := Lib.hid (HS.out.up hb)
  have HT1 := Lib.hid (HT.out.below hb)
  have HX1 := Lib.hid (HX.out.below hb)
  have HB1 := Lib.hid (HB.out.trans (hb.mono HB.out.size))
  have hAlt1 := lt_of_block HA1.out
  clear hb HA HS HT HB HX hAlt
  clear W
  by_cases hv : errS ⟨iv, pts, notes⟩ = 0
  · have HV := Lib.hid ((check_valid _).1 hv)
    have tv : (errS ⟨iv, pts, notes⟩ == 0) = true := by simp [hv]
    rw [tv]
    clear tv hv
    have a0 := cellOf HA1.out 0 _ rfl
    have a1 := cellOf HA1.out 1 _ rfl
    have a2 := cellOf HA1.out 2 _ rfl
    have n12 : notes.length ≤ 12 := HV.out.nn
    have n12' : (notes.length : Int) ≤ 12 := by omega
    go_wp2_with fail
    have hB2 : Below w1.heap.size w1 (w1.alloc (Obj.cells #[.int .i64 iv, .slice pa pts.length pc, .slice none 0 0] 25)) := by go_grown
    have hO2 := heap_alloc_new w1 (Obj.cells #[.int .i64 iv, .slice pa pts.length pc, .slice none 0 0] 25)
    have hsz : w1.heap.size + 1 ≤ (w1.alloc (Obj.cells #[.int .i64 iv, .slice pa pts.length pc, .slice none 0 0] 25)).heap.size := by simp
    generalize w1.alloc (Obj.cells #[.int .i64 iv, .slice pa pts.length pc, .slice none 0 0] 25) = W at *
    have HO2 := Lib.hid hO2
    have HB2 := Lib.hid hB2
    clear hO2 hB2 a0 a1 a2
    go_loopw [6] (fun i wr => ∃ (L : List Note) (sa : Option Addr) (sc : Nat), L.length ≤ notes.length ∧ i = .int .i64 L.length ∧ Hid (L = ordL notes (turnS l) L.length) ∧ Hid (wr.heap[w1.heap.size]? = some (.cells #[.int .i64 iv, .slice pa pts.length pc, .slice sa L.length sc] 25 (0, 0))) ∧ wr.ownsRow W.heap.size 67 5 (.slice sa L.length sc) L.length (notesC L) ∧ Hid (Below w1.heap.size W wr)) (fun i _ => notes.length - (intOf i).toNat)
    case atStart => exact ⟨[], none, 0, Nat.zero_le _, rfl, rfl, HO2.out, World.ownsRow_nil _ _ _ _, Below.refl _ _⟩
    case round =>
      obtain ⟨L, sa, sc, hk, rfl, HL, HOk, hown, HBk⟩ := hrel
      have hsr := HBk.out.size
      have r1 : Below w1.heap.size w1 wr := HB2.out.trans HBk.out
      have hAk := (r1.block w.heap.size hAlt1).trans HA1.out
      have HAk := Lib.hid hAk
      have HXk := Lib.hid (HX1.out.below r1)
      have HNk : Hid (NotesAt wr.heap.size wr (.slice na notes.length nc) notes) := (HS1.out.notes.below r1).mono r1.size
      clear hAk
      have a2 := cellOf HAk.out 2 _ rfl
      generalize HK : L.length = k at *
      have HKl := Lib.hid HK
      clear HK
      by_cases hlt : k < notes.length
      · obtain ⟨_, na', nc', e', hc'⟩ := HNk.out
        simp only [Value.slice.injEq, true_and] at e'
        obtain ⟨rfl, rfl⟩ := e'
        obtain ⟨b, o, rfl, hb, hcc⟩ := hc' (by intro e; simp [e] at hlt)
        obtain ⟨d0, d1, d2, d3, d4⟩ := hcc k hlt
        have HLn : Hid (ordL notes (turnS l) (k + 1) = L.take (turnS l k / 2 % (k + 1)) ++ ordY notes[k] (turnS l k) :: L.drop (turnS l k / 2 % (k + 1))) := by
          show _ = _
          rw [ordL, List.getElem?_eq_getElem hlt, ← HL.out]
        have HM : Hid (notes[k] ∈ notes) := List.getElem_mem hlt
        have HTN := Lib.hid (turn_any (.slice xa l.length xc) l k)
        have hz := turnS_le HXk.out k
        have kl : (k : Int) < (notes.length : Int) := by omega
        clear hcc hc'
        generalize notes[k] = x at *
        generalize turnS l k = z at *
        have zl : (z : Int) ≤ 65535 := by omega
        go_wp2_with fail
        refine (HTN.out _ (HXk.out.below (by go_grown)) (by omega)).mono ?_
        rintro e w2 ⟨rfl, rfl⟩
        clear HTN
        obtain ⟨yk, ya, yb, yl, yh⟩ := x
        simp only at d0 d1 d2 d3 d4
        have EN : Hid ((z : Int) / 2 % ((k : Int) + 1) = ((z / 2 % (k + 1) : Nat) : Int)) := by show _ = _; simp
        have hnk : z / 2 % (k + 1) ≤ k := by have := Nat.mod_lt (z / 2) (show 0 < k + 1 by omega); omega
        generalize z / 2 % (k + 1) = n at *
        have k12 : (k : Int) ≤ 12 := by omega
        by_cases h4 : yk = 4
        · subst h4
          by_cases hz2 : z % 2 = 1
          · have tz : ((z : Int) % 2 == 1) = true := by simp; omega
            have hok := HV.out.ok _ HM.out
            have q1 := hok.l0; have q2 := hok.l9; have q3 := hok.h0; have q4 := hok.h9
            simp [loOf, hiOf] at q1 q2 q3 q4
            have eh : wrap64 (-yh) = -yh := by unfold wrap64; omega
            have el : wrap64 (-yl) = -yl := by unfold wrap64; omega
            clear hok
            go_wp2_with fail
            refine (lnote_any ⟨4, yb, ya, (-yh), (-yl)⟩ _).mono ?_
            rintro e w2 ⟨rfl, hbn⟩
            have hY2 := (hbn.block wr.heap.size (by simp)).trans (heap_alloc_new wr (Obj.cells #[.int .i64 4, .int .i64 ya, .int .i64 yb, .int .i64 yl, .int .i64 yh] 67))
            have hown2 := own_below (hown.alloc (Obj.cells #[.int .i64 4, .int .i64 ya, .int .i64 yb, .int .i64 yl, .int .i64 yh] 67)) hbn
            have HBy2 : Hid (Below wr.heap.size wr w2) := ((Below.refl _ _).alloc (Nat.le_refl _) _).trans (hbn.mono (by simp))
            have hb2' := lt_of_block hY2
            have HNE := Lib.hid (own_new hown)
            have y0 := cellOf hY2 0 _ rfl
            have y1 := cellOf hY2 1 _ rfl
            have y2 := cellOf hY2 2 _ rfl
            have y3 := cellOf hY2 3 _ rfl
            have y4 := cellOf hY2 4 _ rfl
            have f0 := frozen_of_row _ _ 0 _ _ hY2
            have f1 := frozen_of_row _ _ 1 _ _ hY2
            have f2 := frozen_of_row _ _ 2 _ _ hY2
            have f3 := frozen_of_row _ _ 3 _ _ hY2
            have f4 := frozen_of_row _ _ 4 _ _ hY2
            have HY2 := Lib.hid hY2
            clear hY2 hbn d0 d1 d2 d3 d4 a2 hown eh el
            go_wp2_with fail
            have hY2 := HY2.out
            have hY := (heap_setCell_same _ wr.heap.size 4 _ _ (.int .i64 (-yl)) (heap_setCell_same _ wr.heap.size 3 _ _ (.int .i64 (-yh)) (heap_setCell_same _ wr.heap.size 2 _ _ (.int .i64 ya) (heap_setCell_same _ wr.heap.size 1 _ _ (.int .i64 yb) (heap_setCell_same _ wr.heap.size 0 _ _ (.int .i64 4) hY2)))))
            have hown3 := (own_far (own_far (own_far (own_far (own_far hown2 ⟨wr.heap.size, 0, none⟩ (.int .i64 4) HNE.out) ⟨wr.heap.size, 1, none⟩ (.int .i64 yb) HNE.out) ⟨wr.heap.size, 2, none⟩ (.int .i64 ya) HNE.out) ⟨wr.heap.size, 3, none⟩ (.int .i64 (-yh)) HNE.out) ⟨wr.heap.size, 4, none⟩ (.int .i64 (-yl)) HNE.out)
            have HBy := Lib.hid (((((HBy2.out.setCell (p := ⟨wr.heap.size, 0, none⟩) (Nat.le_refl _) (.int .i64 4)).setCell (p := ⟨wr.heap.size, 1, none⟩) (Nat.le_refl _) (.int .i64 yb)).setCell (p := ⟨wr.heap.size, 2, none⟩) (Nat.le_refl _) (.int .i64 ya)).setCell (p := ⟨wr.heap.size, 3, none⟩) (Nat.le_refl _) (.int .i64 (-yh))).setCell (p := ⟨wr.heap.size, 4, none⟩) (Nat.le_refl _) (.int .i64 (-yl)))
            have hb2 : wr.heap.size < (((((w2.setCell ⟨wr.heap.size, 0, none⟩ (.int .i64 4)).setCell ⟨wr.heap.size, 1, none⟩ (.int .i64 yb)).setCell ⟨wr.heap.size, 2, none⟩ (.int .i64 ya)).setCell ⟨wr.heap.size, 3, none⟩ (.int .i64 (-yh))).setCell ⟨wr.heap.size, 4, none⟩ (.int .i64 (-yl))).heap.size := lt_of_block hY
            clear y0 y1 y2 y3 y4 f0 f1 f2 f3 f4 hY2 HY2 hown2 HBy2 hb2'
            generalize (((((w2.setCell ⟨wr.heap.size, 0, none⟩ (.int .i64 4)).setCell ⟨wr.heap.size, 1, none⟩ (.int .i64 yb)).setCell ⟨wr.heap.size, 2, none⟩ (.int .i64 ya)).setCell ⟨wr.heap.size, 3, none⟩ (.int .i64 (-yh))).setCell ⟨wr.heap.size, 4, none⟩ (.int .i64 (-yl))) = w3 at *
            have HLY : Hid (ordL notes (turnS l) (k + 1) = L.take n ++ ⟨4, yb, ya, (-yh), (-yl)⟩ :: L.drop n) := by
              have := HLn.out
              rw [ordY, if_pos ⟨rfl, hz2⟩] at this
              exact this
            have hb1 : w1.heap.size < w3.heap.size := by have := lt_of_block HOk.out; omega
            have HO3 := Lib.hid ((HBy.out.block _ (lt_of_block HOk.out)).trans HOk.out)
            have HY := Lib.hid hY
            clear hY
            rw [EN.out]
            have c2 := cellOf HO3.out 2 _ rfl
            have f2 := frozen_of_row _ _ 2 _ _ HO3.out
            have y0 := cellOf HY.out 0 _ rfl
            have y1 := cellOf HY.out 1 _ rfl
            have y2 := cellOf HY.out 2 _ rfl
            have y3 := cellOf HY.out 3 _ rfl
            have y4 := cellOf HY.out 4 _ rfl
            obtain ⟨hn1, hlo⟩ := notes_lo (l := L) (n := n) (by rw [HKl.out]; exact hown3) (by rw [HKl.out]; exact hnk) (by rw [HKl.out]; omega)
            have hhi := notes_hi (l := L) (n := n) (by rw [HKl.out]; exact hown3) (by rw [HKl.out]; exact hnk) (by rw [HKl.out]; omega)
            rw [HKl.out] at hhi
            have HLo := Lib.hid hlo
            have HHi := Lib.hid hhi
            have hn2 := hnk
            have hsz3 := HBy.out.size
            have hWle : W.heap.size ≤ w3.heap.size := by omega
            have hle1 : w1.heap.size ≤ wr.heap.size := by have := lt_of_block HOk.out; omega
            have hLl : L.length ≤ 12 := by rw [HKl.out]; omega
            clear hlo hhi hown3
            refine wp_region_noPanic ?_
            refine wp_region_last (S := fun V => V.cell? ⟨w1.heap.size, 2, none⟩ = some (.slice sa k sc) ∧ V.cell? ⟨wr.heap.size, 0, none⟩ = some (.int .i64 4) ∧ V.cell? ⟨wr.heap.size, 1, none⟩ = some (.int .i64 yb) ∧ V.cell? ⟨wr.heap.size, 2, none⟩ = some (.int .i64 ya) ∧ V.cell? ⟨wr.heap.size, 3, none⟩ = some (.int .i64 (-yh)) ∧ V.cell? ⟨wr.heap.size, 4, none⟩ = some (.int .i64 (-yl)) ∧ V.frozen? ⟨w1.heap.size, 2, none⟩ = false ∧ Hid (Below w3.heap.size w3 V)) 15 (by kernel_rfl) (by decide) (fun inv0 => ?_)
            have hs0 := keep7 (W := w3) ⟨c2, y0, y1, y2, y3, y4, f2, Lib.hid (Below.refl _ _)⟩ hb1 hb2 (Below.refl w3.heap.size w3).drew
            refine wpAnyZ_take (i := 1) (v := ?_) rfl (Lib.hid ⟨by as_aux_lemma => kernel_rfl, by as_aux_lemma => kernel_rfl, by as_aux_lemma => kernel_rfl, rfl⟩) (by decide) inv0 (by as_aux_lemma => kernel_rfl) (by as_aux_lemma => kernel_rfl) (fun _ _ _ h => h) (Or.inl ⟨by rfl, ?_⟩) hs0 (fun inv1 => ?_)
            rotate_left
            · intro w hSw
              try dsimp only at hSw
              go_simp
              try with_reducible rfl
            clear inv0
            try simp only [Act.put, List.getElem_toArray, List.getElem_cons_succ, List.getElem_cons_zero, List.setIfInBounds_toArray, List.set_cons_zero, List.set_cons_succ]
            refine wpAnyZ_take (i := 2) (v := ?_) rfl (Lib.hid ⟨by as_aux_lemma => kernel_rfl, by as_aux_lemma => kernel_rfl, by as_aux_lemma => kernel_rfl, rfl⟩) (by decide) inv1 (by as_aux_lemma => kernel_rfl) (by as_aux_lemma => kernel_rfl) (fun _ _ _ h => h) (Or.inl ⟨by rfl, ?_⟩) hs0 (fun inv2 => ?_)
            rotate_left
            · intro w hSw
              try dsimp only at hSw
              go_simp
              try with_reducible rfl
            clear inv1
            try simp only [Act.put, List.getElem_toArray, List.getElem_cons_succ, List.getElem_cons_zero, List.setIfInBounds_toArray, List.set_cons_zero, List.set_cons_succ]
            refine wpAnyZ_take (i := 3) (v := ?_) rfl (Lib.hid ⟨by as_aux_lemma => kernel_rfl, by as_aux_lemma => kernel_rfl, by as_aux_lemma => kernel_rfl, rfl⟩) (by decide) inv2 (by as_aux_lemma => kernel_rfl) (by as_aux_lemma => kernel_rfl) (fun _ _ _ h => h) (Or.inl ⟨by rfl, ?_⟩) hs0 (fun inv3 => ?_)
            rotate_left
            · intro w hSw
              try dsimp only at hSw
              go_simp
              try with_reducible rfl
            clear inv2
            try simp only [Act.put, List.getElem_toArray, List.getElem_cons_succ, List.getElem_cons_zero, List.setIfInBounds_toArray, List.set_cons_zero, List.set_cons_succ]
            refine wpAnyZ_take (i := 4) (v := .slice sa n sc) rfl (Lib.hid ⟨by as_aux_lemma => kernel_rfl, by as_aux_lemma => kernel_rfl, by as_aux_lemma => kernel_rfl, rfl⟩) (by decide) inv3 (by as_aux_lemma => kernel_rfl) (by as_aux_lemma => kernel_rfl) (fun _ _ _ h => h) (Or.inl ⟨by rfl, ?_⟩) hs0 (fun inv4 => ?_)
            · exact fun w _ => exec_lo rfl rfl rfl hn1 w
            clear inv3
            try simp only [Act.put, List.getElem_toArray, List.getElem_cons_succ, List.getElem_cons_zero, List.setIfInBounds_toArray, List.set_cons_zero, List.set_cons_succ]
            refine wpAnyZ_take (i := 6) (v := ?_) rfl (Lib.hid ⟨by as_aux_lemma => kernel_rfl, by as_aux_lemma => kernel_rfl, by as_aux_lemma => kernel_rfl, rfl⟩) (by decide) inv4 (by as_aux_lemma => kernel_rfl) (by as_aux_lemma => kernel_rfl) (fun _ _ _ h => h) (Or.inl ⟨by rfl, ?_⟩) hs0 (fun inv5 => ?_)
            rotate_left
            · intro w hSw
              try dsimp only at hSw
              go_simp
              try with_reducible rfl
            clear inv4
            try simp only [Act.put, List.getElem_toArray, List.getElem_cons_succ, List.getElem_cons_zero, List.setIfInBounds_toArray, List.set_cons_zero, List.set_cons_succ]
            refine wpAnyZ_take (i := 9) (v := ?_) rfl (Lib.hid ⟨by as_aux_lemma => kernel_rfl, by as_aux_lemma => kernel_rfl, by as_aux_lemma => kernel_rfl, rfl⟩) (by decide) inv5 (by as_aux_lemma => kernel_rfl) (by as_aux_lemma => kernel_rfl) (fun _ _ _ h => h) (Or.inl ⟨by rfl, ?_⟩) hs0 (fun inv6 => ?_)
            rotate_left
            · intro w hSw
              try dsimp only at hSw
              go_simp
              try with_reducible rfl
            clear inv5
            try simp only [Act.put, List.getElem_toArray, List.getElem_cons_succ, List.getElem_cons_zero, List.setIfInBounds_toArray, List.set_cons_zero, List.set_cons_succ]
            refine wpAnyZ_take (i := 10) (v := ?_) rfl (Lib.hid ⟨by as_aux_lemma => kernel_rfl, by as_aux_lemma => kernel_rfl, by as_aux_lemma => kernel_rfl, rfl⟩) (by decide) inv6 (by as_aux_lemma => kernel_rfl) (by as_aux_lemma => kernel_rfl) (fun _ _ _ h => h) (Or.inl ⟨by rfl, ?_⟩) hs0 (fun inv7 => ?_)
            rotate_left
            · intro w hSw
              try dsimp only at hSw
              go_simp
              try with_reducible rfl
            clear inv6
            try simp only [Act.put, List.getElem_toArray, List.getElem_cons_succ, List.getElem_cons_zero, List.setIfInBounds_toArray, List.set_cons_zero, List.set_cons_succ]
            refine wpAnyZ_take (i := 11) (v := ?_) rfl (Lib.hid ⟨by as_aux_lemma => kernel_rfl, by as_aux_lemma => kernel_rfl, by as_aux_lemma => kernel_rfl, rfl⟩) (by decide) inv7 (by as_aux_lemma => kernel_rfl) (by as_aux_lemma => kernel_rfl) (fun _ _ _ h => h) (Or.inl ⟨by rfl, ?_⟩) hs0 (fun inv8 => ?_)
            rotate_left
            · intro w hSw
              try dsimp only at hSw
              go_simp
              try with_reducible rfl
            clear inv7
            try simp only [Act.put, List.getElem_toArray, List.getElem_cons_succ, List.getElem_cons_zero, List.setIfInBounds_toArray, List.set_cons_zero, List.set_cons_succ]
            refine wpAnyZ_take (i := 12) (v := .slice (if sc = n then sa else sa.map (·.add (n * 5))) (k - n) (sc - n)) rfl (Lib.hid ⟨by as_aux_lemma => kernel_rfl, by as_aux_lemma => kernel_rfl, by as_aux_lemma => kernel_rfl, rfl⟩) (by decide) inv8 (by as_aux_lemma => kernel_rfl) (by as_aux_lemma => kernel_rfl) (fun _ _ _ h => h) (Or.inl ⟨by rfl, ?_⟩) hs0 (fun inv9 => ?_)
            · exact fun w _ => exec_hi rfl rfl rfl hn2 w
            clear inv8
            try simp only [Act.put, List.getElem_toArray, List.getElem_cons_succ, List.getElem_cons_zero, List.setIfInBounds_toArray, List.set_cons_zero, List.set_cons_succ]
            clear inv9
            refine wpAnyZ_all (rs := [0, 7]) (by as_aux_lemma => kernel_rfl) (by simp) ?_
            intro i hi
            simp only [List.mem_cons, List.not_mem_nil, or_false] at hi
            rcases hi with rfl | rfl
            · refine step_Z rfl (fun K hK => ?_)
              go_simp
              have B1 : Below w3.heap.size w3 (w3.drew.alloc (.cells #[] 67)) := (Below.refl w3.heap.size w3).drew.alloc (Nat.le_refl _) _
              refine hK.out _ _ (fun _ => keep7 (W := w3) ⟨c2, y0, y1, y2, y3, y4, f2, Lib.hid (Below.refl _ _)⟩ hb1 hb2 B1) ?_
              clear hK K
              try simp only [Act.put, List.getElem_toArray, List.getElem_cons_succ, List.getElem_cons_zero, List.setIfInBounds_toArray, List.set_cons_zero, List.set_cons_succ]
              have hm1 := made_at w3.drew w3.heap.size w3.heap.size rfl (Nat.le_refl _)
              refine wpAnyZ_all (rs := [5, 7]) (by as_aux_lemma => kernel_rfl) (by simp) ?_
              intro i hi
              simp only [List.mem_cons, List.not_mem_nil, or_false] at hi
              rcases hi with rfl | rfl
              · refine step_Z rfl (fun K hK => ?_)
                refine step_notes (by rfl) _ _ (by rfl) w3.heap.size (.slice (some ⟨w3.heap.size, 0, none⟩) 0 0) _ [] (L.take n) (by rfl) (by rfl) hm1 (ntsB HLo B1) B1.size (by simp; omega) ?_
                intro v1 u1 ho1 hg1 hl1
                have HG1 : Hid (Below w3.heap.size w3 u1) := B1.grown hg1 B1.size hl1
                have hs1 := keep7 (W := w3) ⟨c2, y0, y1, y2, y3, y4, f2, Lib.hid (Below.refl _ _)⟩ hb1 hb2 HG1.out
                refine hK.out _ _ (fun _ => hs1) ?_
                clear hK K
                try simp only [Act.put, List.getElem_toArray, List.getElem_cons_succ, List.getElem_cons_zero, List.setIfInBounds_toArray, List.set_cons_zero, List.set_cons_succ]
                refine wpAnyZ_all (rs := [7]) (by as_aux_lemma => kernel_rfl) (by simp) ?_
                intro i hi
                obtain rfl : i = 7 := by simpa using hi
                refine step_Z rfl (fun K hK => ?_)
                go_simp
                have B2 : Below w3.heap.size w3 (u1.alloc (.cells #[.int .i64 4, .int .i64 yb, .int .i64 ya, .int .i64 (-yh), .int .i64 (-yl)] 67)) := HG1.out.alloc HG1.out.size _
                refine hK.out _ _ (fun _ => keep7 (W := w3) ⟨c2, y0, y1, y2, y3, y4, f2, Lib.hid (Below.refl _ _)⟩ hb1 hb2 B2) ?_
                clear hK K
                try simp only [Act.put, List.getElem_toArray, List.getElem_cons_succ, List.getElem_cons_zero, List.setIfInBounds_toArray, List.set_cons_zero, List.set_cons_succ]
                refine wpAnyZ_all (rs := [8]) (by as_aux_lemma => kernel_rfl) (by simp) ?_
                intro i hi
                obtain rfl : i = 8 := by simpa using hi
                refine step_Z rfl (fun K hK => ?_)
                refine step_notes (by rfl) _ _ (by rfl) w3.heap.size _ _ (L.take n) [⟨4, yb, ya, (-yh), (-yl)⟩] (by rfl) (by rfl) (ho1.alloc _) (one_notes (heap_alloc_new _ _)) B2.size (by simp; omega) ?_
                intro v2 u2 ho2 hg2 hl2
                have HG2 : Hid (Below w3.heap.size w3 u2) := B2.grown hg2 B2.size hl2
                have hs2 := keep7 (W := w3) ⟨c2, y0, y1, y2, y3, y4, f2, Lib.hid (Below.refl _ _)⟩ hb1 hb2 HG2.out
                refine hK.out _ _ (fun _ => hs2) ?_
                clear hK K
                try simp only [Act.put, List.getElem_toArray, List.getElem_cons_succ, List.getElem_cons_zero, List.setIfInBounds_toArray, List.set_cons_zero, List.set_cons_succ]
                refine wpAnyZ_all (rs := [13]) (by as_aux_lemma => kernel_rfl) (by simp) ?_
                intro i hi
                obtain rfl : i = 13 := by simpa using hi
                refine step_Z rfl (fun K hK => ?_)
                refine step_notes (by rfl) _ _ (by rfl) w3.heap.size _ _ (L.take n ++ [⟨4, yb, ya, (-yh), (-yl)⟩]) (L.drop n) (by rfl) (by rfl) ho2 (ntsB HHi HG2.out) HG2.out.size (by simp; omega) ?_
                intro v3 u3 ho3 hg3 hl3
                have HG3 : Hid (Below w3.heap.size w3 u3) := HG2.out.grown hg3 HG2.out.size hl3
                have hs3 := keep7 (W := w3) ⟨c2, y0, y1, y2, y3, y4, f2, Lib.hid (Below.refl _ _)⟩ hb1 hb2 HG3.out
                refine hK.out _ _ (fun _ => hs3) ?_
                clear hK K
                try simp only [Act.put, List.getElem_toArray, List.getElem_cons_succ, List.getElem_cons_zero, List.setIfInBounds_toArray, List.set_cons_zero, List.set_cons_succ]
                have hl3 : (L.take n ++ [(⟨4, yb, ya, (-yh), (-yl)⟩ : Note)] ++ L.drop n).length = k + 1 := by have := HKl.out; simp; omega
                rw [hl3] at ho3
                have HL3 := Lib.hid hl3
                clear hl3
                obtain ⟨sa3, sc3, rfl⟩ := own_slice ho3
                refine wpAnyZ_all (rs := [14]) (by as_aux_lemma => kernel_rfl) (by simp) ?_
                intro i hi
                obtain rfl : i = 14 := by simpa using hi
                refine step_Z rfl (fun K hK => ?_)
                go_simp
                refine hK.out _ _ (fun _ => hs3) ?_
                clear hK K
                try simp only [Act.put, List.getElem_toArray, List.getElem_cons_succ, List.getElem_cons_zero, List.setIfInBounds_toArray, List.set_cons_zero, List.set_cons_succ]
                refine wpAnyZ_all (rs := [15]) (by as_aux_lemma => kernel_rfl) (by simp) ?_
                intro i hi
                obtain rfl : i = 15 := by simpa using hi
                refine step_Z rfl (fun K hK => ?_)
                have c3 := hs3.1
                have f3 := hs3.2.2.2.2.2.2.1
                go_simp
                refine hK.out _ _ (fun h => absurd rfl h) ?_
                clear hK K
                try simp only [Act.put, List.getElem_toArray, List.getElem_cons_succ, List.getElem_cons_zero, List.setIfInBounds_toArray, List.set_cons_zero, List.set_cons_succ]
                refine wpAnyZ_done (by as_aux_lemma => kernel_rfl) ?_ _
                refine NoPanic.normal ?_
                have hO4 := Lib.hid (heap_setCell_same u3 w1.heap.size 2 _ _ (.slice sa3 (k + 1) sc3) ((HG3.out.block _ hb1).trans HO3.out))
                have ho4 := own_base (own_other ho3 ⟨w1.heap.size, 2, none⟩ hb1 (.slice sa3 (k + 1) sc3)) hWle
                have hB4 := Lib.hid (HBk.out.trans ((HBy.out.mono hle1).trans ((HG3.out.mono (Nat.le_of_lt hb1)).setCell (p := ⟨w1.heap.size, 2, none⟩) (Nat.le_refl _) (.slice sa3 (k + 1) sc3))))
                clear c2 f2 y0 y1 y2 y3 y4 c3 f3 hs0 hs2 hs3 ho3 hg3 hl3
                generalize u3.setCell ⟨w1.heap.size, 2, none⟩ (.slice sa3 (k + 1) sc3) = w4 at *
                go_wp2_with fail
                go_roundw
                case rel => exact ⟨L.take n ++ [⟨4, yb, ya, (-yh), (-yl)⟩] ++ L.drop n, sa3, sc3, by rw [HL3.out]; omega, by rw [HL3.out]; go_num, by rw [HL3.out, HLY.out]; exact Lib.hid (by simp), by rw [HL3.out]; exact hO4.out, by rw [HL3.out]; exact ho4, hB4⟩
                case measure => simp [intOf]; omega
              · refine step_Z rfl (fun K hK => ?_)
                go_simp
                have B2 : Below w3.heap.size w3 ((w3.drew.alloc (.cells #[] 67)).alloc (.cells #[.int .i64 4, .int .i64 yb, .int .i64 ya, .int .i64 (-yh), .int .i64 (-yl)] 67)) := B1.alloc B1.size _
                refine hK.out _ _ (fun _ => keep7 (W := w3) ⟨c2, y0, y1, y2, y3, y4, f2, Lib.hid (Below.refl _ _)⟩ hb1 hb2 B2) ?_
                clear hK K
                try simp only [Act.put, List.getElem_toArray, List.getElem_cons_succ, List.getElem_cons_zero, List.setIfInBounds_toArray, List.set_cons_zero, List.set_cons_succ]
                have X2 : ((w3.drew.alloc (.cells #[] 67)).alloc (.cells #[.int .i64 4, .int .i64 yb, .int .i64 ya, .int .i64 (-yh), .int .i64 (-yl)] 67)).heap[w3.heap.size + 1]? = some (.cells #[.int .i64 4, .int .i64 yb, .int .i64 ya, .int .i64 (-yh), .int .i64 (-yl)] 67) := heap_alloc2_new w3.drew _ _
                refine wpAnyZ_all (rs := [5]) (by as_aux_lemma => kernel_rfl) (by simp) ?_
                intro i hi
                obtain rfl : i = 5 := by simpa using hi
                refine step_Z rfl (fun K hK => ?_)
                refine step_notes (by rfl) _ _ (by rfl) w3.heap.size (.slice (some ⟨w3.heap.size, 0, none⟩) 0 0) _ [] (L.take n) (by rfl) (by rfl) (hm1.alloc _) (ntsB HLo B2) B2.size (by simp; omega) ?_
                intro v1 u1 ho1 hg1 hl1
                have HG1 : Hid (Below w3.heap.size w3 u1) := B2.grown hg1 B2.size hl1
                have hs1 := keep7 (W := w3) ⟨c2, y0, y1, y2, y3, y4, f2, Lib.hid (Below.refl _ _)⟩ hb1 hb2 HG1.out
                refine hK.out _ _ (fun _ => hs1) ?_
                clear hK K
                try simp only [Act.put, List.getElem_toArray, List.getElem_cons_succ, List.getElem_cons_zero, List.setIfInBounds_toArray, List.set_cons_zero, List.set_cons_succ]
                have X3 := (hg1.block (w3.heap.size + 1) (by simp) (by simp [Value.ownBlock])).trans X2
                refine wpAnyZ_all (rs := [8]) (by as_aux_lemma => kernel_rfl) (by simp) ?_
                intro i hi
                obtain rfl : i = 8 := by simpa using hi
                refine step_Z rfl (fun K hK => ?_)
                refine step_notes (by rfl) _ _ (by rfl) w3.heap.size _ _ (L.take n) [⟨4, yb, ya, (-yh), (-yl)⟩] (by rfl) (by rfl) ho1 (one_notes X3) HG1.out.size (by simp; omega) ?_
                intro v2 u2 ho2 hg2 hl2
                have HG2 : Hid (Below w3.heap.size w3 u2) := HG1.out.grown hg2 HG1.out.size hl2
                have hs2 := keep7 (W := w3) ⟨c2, y0, y1, y2, y3, y4, f2, Lib.hid (Below.refl _ _)⟩ hb1 hb2 HG2.out
                refine hK.out _ _ (fun _ => hs2) ?_
                clear hK K
                try simp only [Act.put, List.getElem_toArray, List.getElem_cons_succ, List.getElem_cons_zero, List.setIfInBounds_toArray, List.set_cons_zero, List.set_cons_succ]
                refine wpAnyZ_all (rs := [13]) (by as_aux_lemma => kernel_rfl) (by simp) ?_
                intro i hi
                obtain rfl : i = 13 := by simpa using hi
                refine step_Z rfl (fun K hK => ?_)
                refine step_notes (by rfl) _ _ (by rfl) w3.heap.size _ _ (L.take n ++ [⟨4, yb, ya, (-yh), (-yl)⟩]) (L.drop n) (by rfl) (by rfl) ho2 (ntsB HHi HG2.out) HG2.out.size (by simp; omega) ?_
                intro v3 u3 ho3 hg3 hl3
                have HG3 : Hid (Below w3.heap.size w3 u3) := HG2.out.grown hg3 HG2.out.size hl3
                have hs3 := keep7 (W := w3) ⟨c2, y0, y1, y2, y3, y4, f2, Lib.hid (Below.refl _ _)⟩ hb1 hb2 HG3.out
                refine hK.out _ _ (fun _ => hs3) ?_
                clear hK K
                try simp only [Act.put, List.getElem_toArray, List.getElem_cons_succ, List.getElem_cons_zero, List.setIfInBounds_toArray, List.set_cons_zero, List.set_cons_succ]
                have hl3 : (L.take n ++ [(⟨4, yb, ya, (-yh), (-yl)⟩ : Note)] ++ L.drop n).length = k + 1 := by have := HKl.out; simp; omega
                rw [hl3] at ho3
                have HL3 := Lib.hid hl3
                clear hl3
                obtain ⟨sa3, sc3, rfl⟩ := own_slice ho3
                refine wpAnyZ_all (rs := [14]) (by as_aux_lemma => kernel_rfl) (by simp) ?_
                intro i hi
                obtain rfl : i = 14 := by simpa using hi
                refine step_Z rfl (fun K hK => ?_)
                go_simp
                refine hK.out _ _ (fun _ => hs3) ?_
                clear hK K
                try simp only [Act.put, List.getElem_toArray, List.getElem_cons_succ, List.getElem_cons_zero, List.setIfInBounds_toArray, List.set_cons_zero, List.set_cons_succ]
                refine wpAnyZ_all (rs := [15]) (by as_aux_lemma => kernel_rfl) (by simp) ?_
                intro i hi
                obtain rfl : i = 15 := by simpa using hi
                refine step_Z rfl (fun K hK => ?_)
                have c3 := hs3.1
                have f3 := hs3.2.2.2.2.2.2.1
                go_simp
                refine hK.out _ _ (fun h => absurd rfl h) ?_
                clear hK K
                try simp only [Act.put, List.getElem_toArray, List.getElem_cons_succ, List.getElem_cons_zero, List.setIfInBounds_toArray, List.set_cons_zero, List.set_cons_succ]
                refine wpAnyZ_done (by as_aux_lemma => kernel_rfl) ?_ _
                refine NoPanic.normal ?_
                have hO4 := Lib.hid (heap_setCell_same u3 w1.heap.size 2 _ _ (.slice sa3 (k + 1) sc3) ((HG3.out.block _ hb1).trans HO3.out))
                have ho4 := own_base (own_other ho3 ⟨w1.heap.size, 2, none⟩ hb1 (.slice sa3 (k + 1) sc3)) hWle
                have hB4 := Lib.hid (HBk.out.trans ((HBy.out.mono hle1).trans ((HG3.out.mono (Nat.le_of_lt hb1)).setCell (p := ⟨w1.heap.size, 2, none⟩) (Nat.le_refl _) (.slice sa3 (k + 1) sc3))))
                clear c2 f2 y0 y1 y2 y3 y4 c3 f3 hs0 hs2 hs3 ho3 hg3 hl3
                generalize u3.setCell ⟨w1.heap.size, 2, none⟩ (.slice sa3 (k + 1) sc3) = w4 at *
                go_wp2_with fail
                go_roundw
                case rel => exact ⟨L.take n ++ [⟨4, yb, ya, (-yh), (-yl)⟩] ++ L.drop n, sa3, sc3, by rw [HL3.out]; omega, by rw [HL3.out]; go_num, by rw [HL3.out, HLY.out]; exact Lib.hid (by simp), by rw [HL3.out]; exact hO4.out, by rw [HL3.out]; exact ho4, hB4⟩
                case measure => simp [intOf]; omega
            · refine step_Z rfl (fun K hK => ?_)
              go_simp
              have B1 : Below w3.heap.size w3 (w3.drew.alloc (.cells #[.int .i64 4, .int .i64 yb, .int .i64 ya, .int .i64 (-yh), .int .i64 (-yl)] 67)) := (Below.refl w3.heap.size w3).drew.alloc (Nat.le_refl _) _
              refine hK.out _ _ (fun _ => keep7 (W := w3) ⟨c2, y0, y1, y2, y3, y4, f2, Lib.hid (Below.refl _ _)⟩ hb1 hb2 B1) ?_
              clear hK K
              try simp only [Act.put, List.getElem_toArray, List.getElem_cons_succ, List.getElem_cons_zero, List.setIfInBounds_toArray, List.set_cons_zero, List.set_cons_succ]
              refine wpAnyZ_all (rs := [0]) (by as_aux_lemma => kernel_rfl) (by simp) ?_
              intro i hi
              obtain rfl : i = 0 := by simpa using hi
              refine step_Z rfl (fun K hK => ?_)
              go_simp
              have B2 : Below w3.heap.size w3 ((w3.drew.alloc (.cells #[.int .i64 4, .int .i64 yb, .int .i64 ya, .int .i64 (-yh), .int .i64 (-yl)] 67)).alloc (.cells #[] 67)) := B1.alloc B1.size _
              refine hK.out _ _ (fun _ => keep7 (W := w3) ⟨c2, y0, y1, y2, y3, y4, f2, Lib.hid (Below.refl _ _)⟩ hb1 hb2 B2) ?_
              clear hK K
              try simp only [Act.put, List.getElem_toArray, List.getElem_cons_succ, List.getElem_cons_zero, List.setIfInBounds_toArray, List.set_cons_zero, List.set_cons_succ]
              have hm1 := made_at (w3.drew.alloc (.cells #[.int .i64 4, .int .i64 yb, .int .i64 ya, .int .i64 (-yh), .int .i64 (-yl)] 67)) (w3.heap.size + 1) w3.heap.size (by simp) (by simp)
              have X2 : ((w3.drew.alloc (.cells #[.int .i64 4, .int .i64 yb, .int .i64 ya, .int .i64 (-yh), .int .i64 (-yl)] 67)).alloc (.cells #[] 67)).heap[w3.heap.size]? = some (.cells #[.int .i64 4, .int .i64 yb, .int .i64 ya, .int .i64 (-yh), .int .i64 (-yl)] 67) := heap_alloc2_old w3.drew _ _
              refine wpAnyZ_all (rs := [5]) (by as_aux_lemma => kernel_rfl) (by simp) ?_
              intro i hi
              obtain rfl : i = 5 := by simpa using hi
              refine step_Z rfl (fun K hK => ?_)
              refine step_notes (by rfl) _ _ (by rfl) w3.heap.size (.slice (some ⟨w3.heap.size + 1, 0, none⟩) 0 0) _ [] (L.take n) (by rfl) (by rfl) hm1 (ntsB HLo B2) B2.size (by simp; omega) ?_
              intro v1 u1 ho1 hg1 hl1
              have HG1 : Hid (Below w3.heap.size w3 u1) := B2.grown hg1 B2.size hl1
              have hs1 := keep7 (W := w3) ⟨c2, y0, y1, y2, y3, y4, f2, Lib.hid (Below.refl _ _)⟩ hb1 hb2 HG1.out
              refine hK.out _ _ (fun _ => hs1) ?_
              clear hK K
              try simp only [Act.put, List.getElem_toArray, List.getElem_cons_succ, List.getElem_cons_zero, List.setIfInBounds_toArray, List.set_cons_zero, List.set_cons_succ]
              have X3 := (hg1.block w3.heap.size (by simp; omega) (by simp [Value.ownBlock])).trans X2
              refine wpAnyZ_all (rs := [8]) (by as_aux_lemma => kernel_rfl) (by simp) ?_
              intro i hi
              obtain rfl : i = 8 := by simpa using hi
              refine step_Z rfl (fun K hK => ?_)
              refine step_notes (by rfl) _ _ (by rfl) w3.heap.size _ _ (L.take n) [⟨4, yb, ya, (-yh), (-yl)⟩] (by rfl) (by rfl) ho1 (one_notes X3) HG1.out.size (by simp; omega) ?_
              intro v2 u2 ho2 hg2 hl2
              have HG2 : Hid (Below w3.heap.size w3 u2) := HG1.out.grown hg2 HG1.out.size hl2
              have hs2 := keep7 (W := w3) ⟨c2, y0, y1, y2, y3, y4, f2, Lib.hid (Below.refl _ _)⟩ hb1 hb2 HG2.out
              refine hK.out _ _ (fun _ => hs2) ?_
              clear hK K
              try simp only [Act.put, List.getElem_toArray, List.getElem_cons_succ, List.getElem_cons_zero, List.setIfInBounds_toArray, List.set_cons_zero, List.set_cons_succ]
              refine wpAnyZ_all (rs := [13]) (by as_aux_lemma => kernel_rfl) (by simp) ?_
              intro i hi
              obtain rfl : i = 13 := by simpa using hi
              refine step_Z rfl (fun K hK => ?_)
              refine step_notes (by rfl) _ _ (by rfl) w3.heap.size _ _ (L.take n ++ [⟨4, yb, ya, (-yh), (-yl)⟩]) (L.drop n) (by rfl) (by rfl) ho2 (ntsB HHi HG2.out) HG2.out.size (by simp; omega) ?_
              intro v3 u3 ho3 hg3 hl3
              have HG3 : Hid (Below w3.heap.size w3 u3) := HG2.out.grown hg3 HG2.out.size hl3
              have hs3 := keep7 (W := w3) ⟨c2, y0, y1, y2, y3, y4, f2, Lib.hid (Below.refl _ _)⟩ hb1 hb2 HG3.out
              refine hK.out _ _ (fun _ => hs3) ?_
              clear hK K
              try simp only [Act.put, List.getElem_toArray, List.getElem_cons_succ, List.getElem_cons_zero, List.setIfInBounds_toArray, List.set_cons_zero, List.set_cons_succ]
              have hl3 : (L.take n ++ [(⟨4, yb, ya, (-yh), (-yl)⟩ : Note)] ++ L.drop n).length = k + 1 := by have := HKl.out; simp; omega
              rw [hl3] at ho3
              have HL3 := Lib.hid hl3
              clear hl3
              obtain ⟨sa3, sc3, rfl⟩ := own_slice ho3
              refine wpAnyZ_all (rs := [14]) (by as_aux_lemma => kernel_rfl) (by simp) ?_
              intro i hi
              obtain rfl : i = 14 := by simpa using hi
              refine step_Z rfl (fun K hK => ?_)
              go_simp
              refine hK.out _ _ (fun _ => hs3) ?_
              clear hK K
              try simp only [Act.put, List.getElem_toArray, List.getElem_cons_succ, List.getElem_cons_zero, List.setIfInBounds_toArray, List.set_cons_zero, List.set_cons_succ]
              refine wpAnyZ_all (rs := [15]) (by as_aux_lemma => kernel_rfl) (by simp) ?_
              intro i hi
              obtain rfl : i = 15 := by simpa using hi
              refine step_Z rfl (fun K hK => ?_)
              have c3 := hs3.1
              have f3 := hs3.2.2.2.2.2.2.1
              go_simp
              refine hK.out _ _ (fun h => absurd rfl h) ?_
              clear hK K
              try simp only [Act.put, List.getElem_toArray, List.getElem_cons_succ, List.getElem_cons_zero, List.setIfInBounds_toArray, List.set_cons_zero, List.set_cons_succ]
              refine wpAnyZ_done (by as_aux_lemma => kernel_rfl) ?_ _
              refine NoPanic.normal ?_
              have hO4 := Lib.hid (heap_setCell_same u3 w1.heap.size 2 _ _ (.slice sa3 (k + 1) sc3) ((HG3.out.block _ hb1).trans HO3.out))
              have ho4 := own_base (own_other ho3 ⟨w1.heap.size, 2, none⟩ hb1 (.slice sa3 (k + 1) sc3)) hWle
              have hB4 := Lib.hid (HBk.out.trans ((HBy.out.mono hle1).trans ((HG3.out.mono (Nat.le_of_lt hb1)).setCell (p := ⟨w1.heap.size, 2, none⟩) (Nat.le_refl _) (.slice sa3 (k + 1) sc3))))
              clear c2 f2 y0 y1 y2 y3 y4 c3 f3 hs0 hs2 hs3 ho3 hg3 hl3
              generalize u3.setCell ⟨w1.heap.size, 2, none⟩ (.slice sa3 (k + 1) sc3) = w4 at *
              go_wp2_with fail
              go_roundw
              case rel => exact ⟨L.take n ++ [⟨4, yb, ya, (-yh), (-yl)⟩] ++ L.drop n, sa3, sc3, by rw [HL3.out]; omega, by rw [HL3.out]; go_num, by rw [HL3.out, HLY.out]; exact Lib.hid (by simp), by rw [HL3.out]; exact hO4.out, by rw [HL3.out]; exact ho4, hB4⟩
              case measure => simp [intOf]; omega
          · have tz : ((z : Int) % 2 == 1) = false := by simp; omega
            go_wp2_with fail
            have hY := heap_alloc_new wr (Obj.cells #[.int .i64 4, .int .i64 ya, .int .i64 yb, .int .i64 yl, .int .i64 yh] 67)
            have hown3 := hown.alloc (Obj.cells #[.int .i64 4, .int .i64 ya, .int .i64 yb, .int .i64 yl, .int .i64 yh] 67)
            have HBy : Hid (Below wr.heap.size wr (wr.alloc (Obj.cells #[.int .i64 4, .int .i64 ya, .int .i64 yb, .int .i64 yl, .int .i64 yh] 67))) := (Below.refl _ _).alloc (Nat.le_refl _) _
            have hb2 : wr.heap.size < (wr.alloc (Obj.cells #[.int .i64 4, .int .i64 ya, .int .i64 yb, .int .i64 yl, .int .i64 yh] 67)).heap.size := by simp
            clear d0 d1 d2 d3 d4 a2 hown
            generalize wr.alloc (Obj.cells #[.int .i64 4, .int .i64 ya, .int .i64 yb, .int .i64 yl, .int .i64 yh] 67) = w3 at *
            have HLY : Hid (ordL notes (turnS l) (k + 1) = L.take n ++ ⟨4, ya, yb, yl, yh⟩ :: L.drop n) := by
              have := HLn.out
              rw [ordY, if_neg (by simp [hz2])] at this
              exact this
            have hb1 : w1.heap.size < w3.heap.size := by have := lt_of_block HOk.out; omega
            have HO3 := Lib.hid ((HBy.out.block _ (lt_of_block HOk.out)).trans HOk.out)
            have HY := Lib.hid hY
            clear hY
            rw [EN.out]
            have c2 := cellOf HO3.out 2 _ rfl
            have f2 := frozen_of_row _ _ 2 _ _ HO3.out
            have y0 := cellOf HY.out 0 _ rfl
            have y1 := cellOf HY.out 1 _ rfl
            have y2 := cellOf HY.out 2 _ rfl
            have y3 := cellOf HY.out 3 _ rfl
            have y4 := cellOf HY.out 4 _ rfl
            obtain ⟨hn1, hlo⟩ := notes_lo (l := L) (n := n) (by rw [HKl.out]; exact hown3) (by rw [HKl.out]; exact hnk) (by rw [HKl.out]; omega)
            have hhi := notes_hi (l := L) (n := n) (by rw [HKl.out]; exact hown3) (by rw [HKl.out]; exact hnk) (by rw [HKl.out]; omega)
            rw [HKl.out] at hhi
            have HLo := Lib.hid hlo
            have HHi := Lib.hid hhi
            have hn2 := hnk
            have hsz3 := HBy.out.size
            have hWle : W.heap.size ≤ w3.heap.size := by omega
            have hle1 : w1.heap.size ≤ wr.heap.size := by have := lt_of_block HOk.out; omega
            have hLl : L.length ≤ 12 := by rw [HKl.out]; omega
            clear hlo hhi hown3
            refine wp_region_noPanic ?_
            refine wp_region_last (S := fun V => V.cell? ⟨w1.heap.size, 2, none⟩ = some (.slice sa k sc) ∧ V.cell? ⟨wr.heap.size, 0, none⟩ = some (.int .i64 4) ∧ V.cell? ⟨wr.heap.size, 1, none⟩ = some (.int .i64 ya) ∧ V.cell? ⟨wr.heap.size, 2, none⟩ = some (.int .i64 yb) ∧ V.cell? ⟨wr.heap.size, 3, none⟩ = some (.int .i64 yl) ∧ V.cell? ⟨wr.heap.size, 4, none⟩ = some (.int .i64 yh) ∧ V.frozen? ⟨w1.heap.size, 2, none⟩ = false ∧ Hid (Below w3.heap.size w3 V)) 15 (by kernel_rfl) (by decide) (fun inv0 => ?_)
            have hs0 := keep7 (W := w3) ⟨c2, y0, y1, y2, y3, y4, f2, Lib.hid (Below.refl _ _)⟩ hb1 hb2 (Below.refl w3.heap.size w3).drew
            refine wpAnyZ_take (i := 1) (v := ?_) rfl (Lib.hid ⟨by as_aux_lemma => kernel_rfl, by as_aux_lemma => kernel_rfl, by as_aux_lemma => kernel_rfl, rfl⟩) (by decide) inv0 (by as_aux_lemma => kernel_rfl) (by as_aux_lemma => kernel_rfl) (fun _ _ _ h => h) (Or.inl ⟨by rfl, ?_⟩) hs0 (fun inv1 => ?_)
            rotate_left
            · intro w hSw
              try dsimp only at hSw
              go_simp
              try with_reducible rfl
            clear inv0
            try simp only [Act.put, List.getElem_toArray, List.getElem_cons_succ, List.getElem_cons_zero, List.setIfInBounds_toArray, List.set_cons_zero, List.set_cons_succ]
            refine wpAnyZ_take (i := 2) (v := ?_) rfl (Lib.hid ⟨by as_aux_lemma => kernel_rfl, by as_aux_lemma => kernel_rfl, by as_aux_lemma => kernel_rfl, rfl⟩) (by decide) inv1 (by as_aux_lemma => kernel_rfl) (by as_aux_lemma => kernel_rfl) (fun _ _ _ h => h) (Or.inl ⟨by rfl, ?_⟩) hs0 (fun inv2 => ?_)
            rotate_left
            · intro w hSw
              try dsimp only at hSw
              go_simp
              try with_reducible rfl
            clear inv1
            try simp only [Act.put, List.getElem_toArray, List.getElem_cons_succ, List.getElem_cons_zero, List.setIfInBounds_toArray, List.set_cons_zero, List.set_cons_succ]
            refine wpAnyZ_take (i := 3) (v := ?_) rfl (Lib.hid ⟨by as_aux_lemma => kernel_rfl, by as_aux_lemma => kernel_rfl, by as_aux_lemma => kernel_rfl, rfl⟩) (by decide) inv2 (by as_aux_lemma => kernel_rfl) (by as_aux_lemma => kernel_rfl) (fun _ _ _ h => h) (Or.inl ⟨by rfl, ?_⟩) hs0 (fun inv3 => ?_)
            rotate_left
            · intro w hSw
              try dsimp only at hSw
              go_simp
              try with_reducible rfl
            clear inv2
            try simp only [Act.put, List.getElem_toArray, List.getElem_cons_succ, List.getElem_cons_zero, List.setIfInBounds_toArray, List.set_cons_zero, List.set_cons_succ]
            refine wpAnyZ_take (i := 4) (v := .slice sa n sc) rfl (Lib.hid ⟨by as_aux_lemma => kernel_rfl, by as_aux_lemma => kernel_rfl, by as_aux_lemma => kernel_rfl, rfl⟩) (by decide) inv3 (by as_aux_lemma => kernel_rfl) (by as_aux_lemma => kernel_rfl) (fun _ _ _ h => h) (Or.inl ⟨by rfl, ?_⟩) hs0 (fun inv4 => ?_)
            · exact fun w _ => exec_lo rfl rfl rfl hn1 w
            clear inv3
            try simp only [Act.put, List.getElem_toArray, List.getElem_cons_succ, List.getElem_cons_zero, List.setIfInBounds_toArray, List.set_cons_zero, List.set_cons_succ]
            refine wpAnyZ_take (i := 6) (v := ?_) rfl (Lib.hid ⟨by as_aux_lemma => kernel_rfl, by as_aux_lemma => kernel_rfl, by as_aux_lemma => kernel_rfl, rfl⟩) (by decide) inv4 (by as_aux_lemma => kernel_rfl) (by as_aux_lemma => kernel_rfl) (fun _ _ _ h => h) (Or.inl ⟨by rfl, ?_⟩) hs0 (fun inv5 => ?_)
            rotate_left
            · intro w hSw
              try dsimp only at hSw
              go_simp
              try with_reducible rfl
            clear inv4
            try simp only [Act.put, List.getElem_toArray, List.getElem_cons_succ, List.getElem_cons_zero, List.setIfInBounds_toArray, List.set_cons_zero, List.set_cons_succ]
            refine wpAnyZ_take (i := 9) (v := ?_) rfl (Lib.hid ⟨by as_aux_lemma => kernel_rfl, by as_aux_lemma => kernel_rfl, by as_aux_lemma => kernel_rfl, rfl⟩) (by decide) inv5 (by as_aux_lemma => kernel_rfl) (by as_aux_lemma => kernel_rfl) (fun _ _ _ h => h) (Or.inl ⟨by rfl, ?_⟩) hs0 (fun inv6 => ?_)
            rotate_left
            · intro w hSw
              try dsimp only at hSw
              go_simp
              try with_reducible rfl
            clear inv5
            try simp only [Act.put, List.getElem_toArray, List.getElem_cons_succ, List.getElem_cons_zero, List.setIfInBounds_toArray, List.set_cons_zero, List.set_cons_succ]
            refine wpAnyZ_take (i := 10) (v := ?_) rfl (Lib.hid ⟨by as_aux_lemma => kernel_rfl, by as_aux_lemma => kernel_rfl, by as_aux_lemma => kernel_rfl, rfl⟩) (by decide) inv6 (by as_aux_lemma => kernel_rfl) (by as_aux_lemma => kernel_rfl) (fun _ _ _ h => h) (Or.inl ⟨by rfl, ?_⟩) hs0 (fun inv7 => ?_)
            rotate_left
            · intro w hSw
              try dsimp only at hSw
              go_simp
              try with_reducible rfl
            clear inv6
            try simp only [Act.put, List.getElem_toArray, List.getElem_cons_succ, List.getElem_cons_zero, List.setIfInBounds_toArray, List.set_cons_zero, List.set_cons_succ]
            refine wpAnyZ_take (i := 11) (v := ?_) rfl (Lib.hid ⟨by as_aux_lemma => kernel_rfl, by as_aux_lemma => kernel_rfl, by as_aux_lemma => kernel_rfl, rfl⟩) (by decide) inv7 (by as_aux_lemma => kernel_rfl) (by as_aux_lemma => kernel_rfl) (fun _ _ _ h => h) (Or.inl ⟨by rfl, ?_⟩) hs0 (fun inv8 => ?_)
            rotate_left
            · intro w hSw
              try dsimp only at hSw
              go_simp
              try with_reducible rfl
            clear inv7
            try simp only [Act.put, List.getElem_toArray, List.getElem_cons_succ, List.getElem_cons_zero, List.setIfInBounds_toArray, List.set_cons_zero, List.set_cons_succ]
            refine wpAnyZ_take (i := 12) (v := .slice (if sc = n then sa else sa.map (·.add (n * 5))) (k - n) (sc - n)) rfl (Lib.hid ⟨by as_aux_lemma => kernel_rfl, by as_aux_lemma => kernel_rfl, by as_aux_lemma => kernel_rfl, rfl⟩) (by decide) inv8 (by as_aux_lemma => kernel_rfl) (by as_aux_lemma => kernel_rfl) (fun _ _ _ h => h) (Or.inl ⟨by rfl, ?_⟩) hs0 (fun inv9 => ?_)
            · exact fun w _ => exec_hi rfl rfl rfl hn2 w
            clear inv8
            try simp only [Act.put, List.getElem_toArray, List.getElem_cons_succ, List.getElem_cons_zero, List.setIfInBounds_toArray, List.set_cons_zero, List.set_cons_succ]
            clear inv9
            refine wpAnyZ_all (rs := [0, 7]) (by as_aux_lemma => kernel_rfl) (by simp) ?_
            intro i hi
            simp only [List.mem_cons, List.not_mem_nil, or_false] at hi
            rcases hi with rfl | rfl
            · refine step_Z rfl (fun K hK => ?_)
              go_simp
              have B1 : Below w3.heap.size w3 (w3.drew.alloc (.cells #[] 67)) := (Below.refl w3.heap.size w3).drew.alloc (Nat.le_refl _) _
              refine hK.out _ _ (fun _ => keep7 (W := w3) ⟨c2, y0, y1, y2, y3, y4, f2, Lib.hid (Below.refl _ _)⟩ hb1 hb2 B1) ?_
              clear hK K
              try simp only [Act.put, List.getElem_toArray, List.getElem_cons_succ, List.getElem_cons_zero, List.setIfInBounds_toArray, List.set_cons_zero, List.set_cons_succ]
              have hm1 := made_at w3.drew w3.heap.size w3.heap.size rfl (Nat.le_refl _)
              refine wpAnyZ_all (rs := [5, 7]) (by as_aux_lemma => kernel_rfl) (by simp) ?_
              intro i hi
              simp only [List.mem_cons, List.not_mem_nil, or_false] at hi
              rcases hi with rfl | rfl
              · refine step_Z rfl (fun K hK => ?_)
                refine step_notes (by rfl) _ _ (by rfl) w3.heap.size (.slice (some ⟨w3.heap.size, 0, none⟩) 0 0) _ [] (L.take n) (by rfl) (by rfl) hm1 (ntsB HLo B1) B1.size (by simp; omega) ?_
                intro v1 u1 ho1 hg1 hl1
                have HG1 : Hid (Below w3.heap.size w3 u1) := B1.grown hg1 B1.size hl1
                have hs1 := keep7 (W := w3) ⟨c2, y0, y1, y2, y3, y4, f2, Lib.hid (Below.refl _ _)⟩ hb1 hb2 HG1.out
                refine hK.out _ _ (fun _ => hs1) ?_
                clear hK K
                try simp only [Act.put, List.getElem_toArray, List.getElem_cons_succ, List.getElem_cons_zero, List.setIfInBounds_toArray, List.set_cons_zero, List.set_cons_succ]
                refine wpAnyZ_all (rs := [7]) (by as_aux_lemma => kernel_rfl) (by simp) ?_
                intro i hi
                obtain rfl : i = 7 := by simpa using hi
                refine step_Z rfl (fun K hK => ?_)
                go_simp
                have B2 : Below w3.heap.size w3 (u1.alloc (.cells #[.int .i64 4, .int .i64 ya, .int .i64 yb, .int .i64 yl, .int .i64 yh] 67)) := HG1.out.alloc HG1.out.size _
                refine hK.out _ _ (fun _ => keep7 (W := w3) ⟨c2, y0, y1, y2, y3, y4, f2, Lib.hid (Below.refl _ _)⟩ hb1 hb2 B2) ?_
                clear hK K
                try simp only [Act.put, List.getElem_toArray, List.getElem_cons_succ, List.getElem_cons_zero, List.setIfInBounds_toArray, List.set_cons_zero, List.set_cons_succ]
                refine wpAnyZ_all (rs := [8]) (by as_aux_lemma => kernel_rfl) (by simp) ?_
                intro i hi
                obtain rfl : i = 8 := by simpa using hi
                refine step_Z rfl (fun K hK => ?_)
                refine step_notes (by rfl) _ _ (by rfl) w3.heap.size _ _ (L.take n) [⟨4, ya, yb, yl, yh⟩] (by rfl) (by rfl) (ho1.alloc _) (one_notes (heap_alloc_new _ _)) B2.size (by simp; omega) ?_
                intro v2 u2 ho2 hg2 hl2
                have HG2 : Hid (Below w3.heap.size w3 u2) := B2.grown hg2 B2.size hl2
                have hs2 := keep7 (W := w3) ⟨c2, y0, y1, y2, y3, y4, f2, Lib.hid (Below.refl _ _)⟩ hb1 hb2 HG2.out
                refine hK.out _ _ (fun _ => hs2) ?_
                clear hK K
                try simp only [Act.put, List.getElem_toArray, List.getElem_cons_succ, List.getElem_cons_zero, List.setIfInBounds_toArray, List.set_cons_zero, List.set_cons_succ]
                refine wpAnyZ_all (rs := [13]) (by as_aux_lemma => kernel_rfl) (by simp) ?_
                intro i hi
                obtain rfl : i = 13 := by simpa using hi
                refine step_Z rfl (fun K hK => ?_)
                refine step_notes (by rfl) _ _ (by rfl) w3.heap.size _ _ (L.take n ++ [⟨4, ya, yb, yl, yh⟩]) (L.drop n) (by rfl) (by rfl) ho2 (ntsB HHi HG2.out) HG2.out.size (by simp; omega) ?_
                intro v3 u3 ho3 hg3 hl3
                have HG3 : Hid (Below w3.heap.size w3 u3) := HG2.out.grown hg3 HG2.out.size hl3
                have hs3 := keep7 (W := w3) ⟨c2, y0, y1, y2, y3, y4, f2, Lib.hid (Below.refl _ _)⟩ hb1 hb2 HG3.out
                refine hK.out _ _ (fun _ => hs3) ?_
                clear hK K
                try simp only [Act.put, List.getElem_toArray, List.getElem_cons_succ, List.getElem_cons_zero, List.setIfInBounds_toArray, List.set_cons_zero, List.set_cons_succ]
                have hl3 : (L.take n ++ [(⟨4, ya, yb, yl, yh⟩ : Note)] ++ L.drop n).length = k + 1 := by have := HKl.out; simp; omega
                rw [hl3] at ho3
                have HL3 := Lib.hid hl3
                clear hl3
                obtain ⟨sa3, sc3, rfl⟩ := own_slice ho3
                refine wpAnyZ_all (rs := [14]) (by as_aux_lemma => kernel_rfl) (by simp) ?_
                intro i hi
                obtain rfl : i = 14 := by simpa using hi
                refine step_Z rfl (fun K hK => ?_)
                go_simp
                refine hK.out _ _ (fun _ => hs3) ?_
                clear hK K
                try simp only [Act.put, List.getElem_toArray, List.getElem_cons_succ, List.getElem_cons_zero, List.setIfInBounds_toArray, List.set_cons_zero, List.set_cons_succ]
                refine wpAnyZ_all (rs := [15]) (by as_aux_lemma => kernel_rfl) (by simp) ?_
                intro i hi
                obtain rfl : i = 15 := by simpa using hi
                refine step_Z rfl (fun K hK => ?_)
                have c3 := hs3.1
                have f3 := hs3.2.2.2.2.2.2.1
                go_simp
                refine hK.out _ _ (fun h => absurd rfl h) ?_
                clear hK K
                try simp only [Act.put, List.getElem_toArray, List.getElem_cons_succ, List.getElem_cons_zero, List.setIfInBounds_toArray, List.set_cons_zero, List.set_cons_succ]
                refine wpAnyZ_done (by as_aux_lemma => kernel_rfl) ?_ _
                refine NoPanic.normal ?_
                have hO4 := Lib.hid (heap_setCell_same u3 w1.heap.size 2 _ _ (.slice sa3 (k + 1) sc3) ((HG3.out.block _ hb1).trans HO3.out))
                have ho4 := own_base (own_other ho3 ⟨w1.heap.size, 2, none⟩ hb1 (.slice sa3 (k + 1) sc3)) hWle
                have hB4 := Lib.hid (HBk.out.trans ((HBy.out.mono hle1).trans ((HG3.out.mono (Nat.le_of_lt hb1)).setCell (p := ⟨w1.heap.size, 2, none⟩) (Nat.le_refl _) (.slice sa3 (k + 1) sc3))))
                clear c2 f2 y0 y1 y2 y3 y4 c3 f3 hs0 hs2 hs3 ho3 hg3 hl3
                generalize u3.setCell ⟨w1.heap.size, 2, none⟩ (.slice sa3 (k + 1) sc3) = w4 at *
                go_wp2_with fail
                go_roundw
                case rel => exact ⟨L.take n ++ [⟨4, ya, yb, yl, yh⟩] ++ L.drop n, sa3, sc3, by rw [HL3.out]; omega, by rw [HL3.out]; go_num, by rw [HL3.out, HLY.out]; exact Lib.hid (by simp), by rw [HL3.out]; exact hO4.out, by rw [HL3.out]; exact ho4, hB4⟩
                case measure => simp [intOf]; omega
              · refine step_Z rfl (fun K hK => ?_)
                go_simp
                have B2 : Below w3.heap.size w3 ((w3.drew.alloc (.cells #[] 67)).alloc (.cells #[.int .i64 4, .int .i64 ya, .int .i64 yb, .int .i64 yl, .int .i64 yh] 67)) := B1.alloc B1.size _
                refine hK.out _ _ (fun _ => keep7 (W := w3) ⟨c2, y0, y1, y2, y3, y4, f2, Lib.hid (Below.refl _ _)⟩ hb1 hb2 B2) ?_
                clear hK K
                try simp only [Act.put, List.getElem_toArray, List.getElem_cons_succ, List.getElem_cons_zero, List.setIfInBounds_toArray, List.set_cons_zero, List.set_cons_succ]
                have X2 : ((w3.drew.alloc (.cells #[] 67)).alloc (.cells #[.int .i64 4, .int .i64 ya, .int .i64 yb, .int .i64 yl, .int .i64 yh] 67)).heap[w3.heap.size + 1]? = some (.cells #[.int .i64 4, .int .i64 ya, .int .i64 yb, .int .i64 yl, .int .i64 yh] 67) := heap_alloc2_new w3.drew _ _
                refine wpAnyZ_all (rs := [5]) (by as_aux_lemma => kernel_rfl) (by simp) ?_
                intro i hi
                obtain rfl : i = 5 := by simpa using hi
                refine step_Z rfl (fun K hK => ?_)
                refine step_notes (by rfl) _ _ (by rfl) w3.heap.size (.slice (some ⟨w3.heap.size, 0, none⟩) 0 0) _ [] (L.take n) (by rfl) (by rfl) (hm1.alloc _) (ntsB HLo B2) B2.size (by simp; omega) ?_
                intro v1 u1 ho1 hg1 hl1
                have HG1 : Hid (Below w3.heap.size w3 u1) := B2.grown hg1 B2.size hl1
                have hs1 := keep7 (W := w3) ⟨c2, y0, y1, y2, y3, y4, f2, Lib.hid (Below.refl _ _)⟩ hb1 hb2 HG1.out
                refine hK.out _ _ (fun _ => hs1) ?_
                clear hK K
                try simp only [Act.put, List.getElem_toArray, List.getElem_cons_succ, List.getElem_cons_zero, List.setIfInBounds_toArray, List.set_cons_zero, List.set_cons_succ]
                have X3 := (hg1.block (w3.heap.size + 1) (by simp) (by simp [Value.ownBlock])).trans X2
                refine wpAnyZ_all (rs := [8]) (by as_aux_lemma => kernel_rfl) (by simp) ?_
                intro i hi
                obtain rfl : i = 8 := by simpa using hi
                refine step_Z rfl (fun K hK => ?_)
                refine step_notes (by rfl) _ _ (by rfl) w3.heap.size _ _ (L.take n) [⟨4, ya, yb, yl, yh⟩] (by rfl) (by rfl) ho1 (one_notes X3) HG1.out.size (by simp; omega) ?_
                intro v2 u2 ho2 hg2 hl2
                have HG2 : Hid (Below w3.heap.size w3 u2) := HG1.out.grown hg2 HG1.out.size hl2
                have hs2 := keep7 (W := w3) ⟨c2, y0, y1, y2, y3, y4, f2, Lib.hid (Below.refl _ _)⟩ hb1 hb2 HG2.out
                refine hK.out _ _ (fun _ => hs2) ?_
                clear hK K
                try simp only [Act.put, List.getElem_toArray, List.getElem_cons_succ, List.getElem_cons_zero, List.setIfInBounds_toArray, List.set_cons_zero, List.set_cons_succ]
                refine wpAnyZ_all (rs := [13]) (by as_aux_lemma => kernel_rfl) (by simp) ?_
                intro i hi
                obtain rfl : i = 13 := by simpa using hi
                refine step_Z rfl (fun K hK => ?_)
                refine step_notes (by rfl) _ _ (by rfl) w3.heap.size _ _ (L.take n ++ [⟨4, ya, yb, yl, yh⟩]) (L.drop n) (by rfl) (by rfl) ho2 (ntsB HHi HG2.out) HG2.out.size (by simp; omega) ?_
                intro v3 u3 ho3 hg3 hl3
                have HG3 : Hid (Below w3.heap.size w3 u3) := HG2.out.grown hg3 HG2.out.size hl3
                have hs3 := keep7 (W := w3) ⟨c2, y0, y1, y2, y3, y4, f2, Lib.hid (Below.refl _ _)⟩ hb1 hb2 HG3.out
                refine hK.out _ _ (fun _ => hs3) ?_
                clear hK K
                try simp only [Act.put, List.getElem_toArray, List.getElem_cons_succ, List.getElem_cons_zero, List.setIfInBounds_toArray, List.set_cons_zero, List.set_cons_succ]
                have hl3 : (L.take n ++ [(⟨4, ya, yb, yl, yh⟩ : Note)] ++ L.drop n).length = k + 1 := by have := HKl.out; simp; omega
                rw [hl3] at ho3
                have HL3 := Lib.hid hl3
                clear hl3
                obtain ⟨sa3, sc3, rfl⟩ := own_slice ho3
                refine wpAnyZ_all (rs := [14]) (by as_aux_lemma => kernel_rfl) (by simp) ?_
                intro i hi
                obtain rfl : i = 14 := by simpa using hi
                refine step_Z rfl (fun K hK => ?_)
                go_simp
                refine hK.out _ _ (fun _ => hs3) ?_
                clear hK K
                try simp only [Act.put, List.getElem_toArray, List.getElem_cons_succ, List.getElem_cons_zero, List.setIfInBounds_toArray, List.set_cons_zero, List.set_cons_succ]
                refine wpAnyZ_all (rs := [15]) (by as_aux_lemma => kernel_rfl) (by simp) ?_
                intro i hi
                obtain rfl : i = 15 := by simpa using hi
                refine step_Z rfl (fun K hK => ?_)
                have c3 := hs3.1
                have f3 := hs3.2.2.2.2.2.2.1
                go_simp
                refine hK.out _ _ (fun h => absurd rfl h) ?_
                clear hK K
                try simp only [Act.put, List.getElem_toArray, List.getElem_cons_succ, List.getElem_cons_zero, List.setIfInBounds_toArray, List.set_cons_zero, List.set_cons_succ]
                refine wpAnyZ_done (by as_aux_lemma => kernel_rfl) ?_ _
                refine NoPanic.normal ?_
                have hO4 := Lib.hid (heap_setCell_same u3 w1.heap.size 2 _ _ (.slice sa3 (k + 1) sc3) ((HG3.out.block _ hb1).trans HO3.out))
                have ho4 := own_base (own_other ho3 ⟨w1.heap.size, 2, none⟩ hb1 (.slice sa3 (k + 1) sc3)) hWle
                have hB4 := Lib.hid (HBk.out.trans ((HBy.out.mono hle1).trans ((HG3.out.mono (Nat.le_of_lt hb1)).setCell (p := ⟨w1.heap.size, 2, none⟩) (Nat.le_refl _) (.slice sa3 (k + 1) sc3))))
                clear c2 f2 y0 y1 y2 y3 y4 c3 f3 hs0 hs2 hs3 ho3 hg3 hl3
                generalize u3.setCell ⟨w1.heap.size, 2, none⟩ (.slice sa3 (k + 1) sc3) = w4 at *
                go_wp2_with fail
                go_roundw
                case rel => exact ⟨L.take n ++ [⟨4, ya, yb, yl, yh⟩] ++ L.drop n, sa3, sc3, by rw [HL3.out]; omega, by rw [HL3.out]; go_num, by rw [HL3.out, HLY.out]; exact Lib.hid (by simp), by rw [HL3.out]; exact hO4.out, by rw [HL3.out]; exact ho4, hB4⟩
                case measure => simp [intOf]; omega
            · refine step_Z rfl (fun K hK => ?_)
              go_simp
              have B1 : Below w3.heap.size w3 (w3.drew.alloc (.cells #[.int .i64 4, .int .i64 ya, .int .i64 yb, .int .i64 yl, .int .i64 yh] 67)) := (Below.refl w3.heap.size w3).drew.alloc (Nat.le_refl _) _
              refine hK.out _ _ (fun _ => keep7 (W := w3) ⟨c2, y0, y1, y2, y3, y4, f2, Lib.hid (Below.refl _ _)⟩ hb1 hb2 B1) ?_
              clear hK K
              try simp only [Act.put, List.getElem_toArray, List.getElem_cons_succ, List.getElem_cons_zero, List.setIfInBounds_toArray, List.set_cons_zero, List.set_cons_succ]
              refine wpAnyZ_all (rs := [0]) (by as_aux_lemma => kernel_rfl) (by simp) ?_
              intro i hi
              obtain rfl : i = 0 := by simpa using hi
              refine step_Z rfl (fun K hK => ?_)
              go_simp
              have B2 : Below w3.heap.size w3 ((w3.drew.alloc (.cells #[.int .i64 4, .int .i64 ya, .int .i64 yb, .int .i64 yl, .int .i64 yh] 67)).alloc (.cells #[] 67)) := B1.alloc B1.size _
              refine hK.out _ _ (fun _ => keep7 (W := w3) ⟨c2, y0, y1, y2, y3, y4, f2, Lib.hid (Below.refl _ _)⟩ hb1 hb2 B2) ?_
              clear hK K
              try simp only [Act.put, List.getElem_toArray, List.getElem_cons_succ, List.getElem_cons_zero, List.setIfInBounds_toArray, List.set_cons_zero, List.set_cons_succ]
              have hm1 := made_at (w3.drew.alloc (.cells #[.int .i64 4, .int .i64 ya, .int .i64 yb, .int .i64 yl, .int .i64 yh] 67)) (w3.heap.size + 1) w3.heap.size (by simp) (by simp)
              have X2 : ((w3.drew.alloc (.cells #[.int .i64 4, .int .i64 ya, .int .i64 yb, .int .i64 yl, .int .i64 yh] 67)).alloc (.cells #[] 67)).heap[w3.heap.size]? = some (.cells #[.int .i64 4, .int .i64 ya, .int .i64 yb, .int .i64 yl, .int .i64 yh] 67) := heap_alloc2_old w3.drew _ _
              refine wpAnyZ_all (rs := [5]) (by as_aux_lemma => kernel_rfl) (by simp) ?_
              intro i hi
              obtain rfl : i = 5 := by simpa using hi
              refine step_Z rfl (fun K hK => ?_)
              refine step_notes (by rfl) _ _ (by rfl) w3.heap.size (.slice (some ⟨w3.heap.size + 1, 0, none⟩) 0 0) _ [] (L.take n) (by rfl) (by rfl) hm1 (ntsB HLo B2) B2.size (by simp; omega) ?_
              intro v1 u1 ho1 hg1 hl1
              have HG1 : Hid (Below w3.heap.size w3 u1) := B2.grown hg1 B2.size hl1
              have hs1 := keep7 (W := w3) ⟨c2, y0, y1, y2, y3, y4, f2, Lib.hid (Below.refl _ _)⟩ hb1 hb2 HG1.out
              refine hK.out _ _ (fun _ => hs1) ?_
              clear hK K
              try simp only [Act.put, List.getElem_toArray, List.getElem_cons_succ, List.getElem_cons_zero, List.setIfInBounds_toArray, List.set_cons_zero, List.set_cons_succ]
              have X3 := (hg1.block w3.heap.size (by simp; omega) (by simp [Value.ownBlock])).trans X2
              refine wpAnyZ_all (rs := [8]) (by as_aux_lemma => kernel_rfl) (by simp) ?_
              intro i hi
              obtain rfl : i = 8 := by simpa using hi
              refine step_Z rfl (fun K hK => ?_)
              refine step_notes (by rfl) _ _ (by rfl) w3.heap.size _ _ (L.take n) [⟨4, ya, yb, yl, yh⟩] (by rfl) (by rfl) ho1 (one_notes X3) HG1.out.size (by simp; omega) ?_
              intro v2 u2 ho2 hg2 hl2
              have HG2 : Hid (Below w3.heap.size w3 u2) := HG1.out.grown hg2 HG1.out.size hl2
              have hs2 := keep7 (W := w3) ⟨c2, y0, y1, y2, y3, y4, f2, Lib.hid (Below.refl _ _)⟩ hb1 hb2 HG2.out
              refine hK.out _ _ (fun _ => hs2) ?_
              clear hK K
              try simp only [Act.put, List.getElem_toArray, List.getElem_cons_succ, List.getElem_cons_zero, List.setIfInBounds_toArray, List.set_cons_zero, List.set_cons_succ]
              refine wpAnyZ_all (rs := [13]) (by as_aux_lemma => kernel_rfl) (by simp) ?_
              intro i hi
              obtain rfl : i = 13 := by simpa using hi
              refine step_Z rfl (fun K hK => ?_)
              refine step_notes (by rfl) _ _ (by rfl) w3.heap.size _ _ (L.take n ++ [⟨4, ya, yb, yl, yh⟩]) (L.drop n) (by rfl) (by rfl) ho2 (ntsB HHi HG2.out) HG2.out.size (by simp; omega) ?_
              intro v3 u3 ho3 hg3 hl3
              have HG3 : Hid (Below w3.heap.size w3 u3) := HG2.out.grown hg3 HG2.out.size hl3
              have hs3 := keep7 (W := w3) ⟨c2, y0, y1, y2, y3, y4, f2, Lib.hid (Below.refl _ _)⟩ hb1 hb2 HG3.out
              refine hK.out _ _ (fun _ => hs3) ?_
              clear hK K
              try simp only [Act.put, List.getElem_toArray, List.getElem_cons_succ, List.getElem_cons_zero, List.setIfInBounds_toArray, List.set_cons_zero, List.set_cons_succ]
              have hl3 : (L.take n ++ [(⟨4, ya, yb, yl, yh⟩ : Note)] ++ L.drop n).length = k + 1 := by have := HKl.out; simp; omega
              rw [hl3] at ho3
              have HL3 := Lib.hid hl3
              clear hl3
              obtain ⟨sa3, sc3, rfl⟩ := own_slice ho3
              refine wpAnyZ_all (rs := [14]) (by as_aux_lemma => kernel_rfl) (by simp) ?_
              intro i hi
              obtain rfl : i = 14 := by simpa using hi
              refine step_Z rfl (fun K hK => ?_)
              go_simp
              refine hK.out _ _ (fun _ => hs3) ?_
              clear hK K
              try simp only [Act.put, List.getElem_toArray, List.getElem_cons_succ, List.getElem_cons_zero, List.setIfInBounds_toArray, List.set_cons_zero, List.set_cons_succ]
              refine wpAnyZ_all (rs := [15]) (by as_aux_lemma => kernel_rfl) (by simp) ?_
              intro i hi
              obtain rfl : i = 15 := by simpa using hi
              refine step_Z rfl (fun K hK => ?_)
              have c3 := hs3.1
              have f3 := hs3.2.2.2.2.2.2.1
              go_simp
              refine hK.out _ _ (fun h => absurd rfl h) ?_
              clear hK K
              try simp only [Act.put, List.getElem_toArray, List.getElem_cons_succ, List.getElem_cons_zero, List.setIfInBounds_toArray, List.set_cons_zero, List.set_cons_succ]
              refine wpAnyZ_done (by as_aux_lemma => kernel_rfl) ?_ _
              refine NoPanic.normal ?_
              have hO4 := Lib.hid (heap_setCell_same u3 w1.heap.size 2 _ _ (.slice sa3 (k + 1) sc3) ((HG3.out.block _ hb1).trans HO3.out))
              have ho4 := own_base (own_other ho3 ⟨w1.heap.size, 2, none⟩ hb1 (.slice sa3 (k + 1) sc3)) hWle
              have hB4 := Lib.hid (HBk.out.trans ((HBy.out.mono hle1).trans ((HG3.out.mono (Nat.le_of_lt hb1)).setCell (p := ⟨w1.heap.size, 2, none⟩) (Nat.le_refl _) (.slice sa3 (k + 1) sc3))))
              clear c2 f2 y0 y1 y2 y3 y4 c3 f3 hs0 hs2 hs3 ho3 hg3 hl3
              generalize u3.setCell ⟨w1.heap.size, 2, none⟩ (.slice sa3 (k + 1) sc3) = w4 at *
              go_wp2_with fail
              go_roundw
              case rel => exact ⟨L.take n ++ [⟨4, ya, yb, yl, yh⟩] ++ L.drop n, sa3, sc3, by rw [HL3.out]; omega, by rw [HL3.out]; go_num, by rw [HL3.out, HLY.out]; exact Lib.hid (by simp), by rw [HL3.out]; exact hO4.out, by rw [HL3.out]; exact ho4, hB4⟩
              case measure => simp [intOf]; omega
        · have t4 : (yk == 4) = false := by simp [h4]
          go_wp2_with fail
          have hY := heap_alloc_new wr (Obj.cells #[.int .i64 yk, .int .i64 ya, .int .i64 yb, .int .i64 yl, .int .i64 yh] 67)
          have hown3 := hown.alloc (Obj.cells #[.int .i64 yk, .int .i64 ya, .int .i64 yb, .int .i64 yl, .int .i64 yh] 67)
          have HBy : Hid (Below wr.heap.size wr (wr.alloc (Obj.cells #[.int .i64 yk, .int .i64 ya, .int .i64 yb, .int .i64 yl, .int .i64 yh] 67))) := (Below.refl _ _).alloc (Nat.le_refl _) _
          have hb2 : wr.heap.size < (wr.alloc (Obj.cells #[.int .i64 yk, .int .i64 ya, .int .i64 yb, .int .i64 yl, .int .i64 yh] 67)).heap.size := by simp
          clear d0 d1 d2 d3 d4 a2 hown
          generalize wr.alloc (Obj.cells #[.int .i64 yk, .int .i64 ya, .int .i64 yb, .int .i64 yl, .int .i64 yh] 67) = w3 at *
          have HLY : Hid (ordL notes (turnS l) (k + 1) = L.take n ++ ⟨yk, ya, yb, yl, yh⟩ :: L.drop n) := by
            have := HLn.out
            rw [ordY, if_neg (by simp [h4])] at this
            exact this
          have hb1 : w1.heap.size < w3.heap.size := by have := lt_of_block HOk.out; omega
          have HO3 := Lib.hid ((HBy.out.block _ (lt_of_block HOk.out)).trans HOk.out)
          have HY := Lib.hid hY
          clear hY
          rw [EN.out]
          have c2 := cellOf HO3.out 2 _ rfl
          have f2 := frozen_of_row _ _ 2 _ _ HO3.out
          have y0 := cellOf HY.out 0 _ rfl
          have y1 := cellOf HY.out 1 _ rfl
          have y2 := cellOf HY.out 2 _ rfl
          have y3 := cellOf HY.out 3 _ rfl
          have y4 := cellOf HY.out 4 _ rfl
          obtain ⟨hn1, hlo⟩ := notes_lo (l := L) (n := n) (by rw [HKl.out]; exact hown3) (by rw [HKl.out]; exact hnk) (by rw [HKl.out]; omega)
          have hhi := notes_hi (l := L) (n := n) (by rw [HKl.out]; exact hown3) (by rw [HKl.out]; exact hnk) (by rw [HKl.out]; omega)
          rw [HKl.out] at hhi
          have HLo := Lib.hid hlo
          have HHi := Lib.hid hhi
          have hn2 := hnk
          have hsz3 := HBy.out.size
          have hWle : W.heap.size ≤ w3.heap.size := by omega
          have hle1 : w1.heap.size ≤ wr.heap.size := by have := lt_of_block HOk.out; omega
          have hLl : L.length ≤ 12 := by rw [HKl.out]; omega
          clear hlo hhi hown3
          refine wp_region_noPanic ?_
          refine wp_region_last (S := fun V => V.cell? ⟨w1.heap.size, 2, none⟩ = some (.slice sa k sc) ∧ V.cell? ⟨wr.heap.size, 0, none⟩ = some (.int .i64 yk) ∧ V.cell? ⟨wr.heap.size, 1, none⟩ = some (.int .i64 ya) ∧ V.cell? ⟨wr.heap.size, 2, none⟩ = some (.int .i64 yb) ∧ V.cell? ⟨wr.heap.size, 3, none⟩ = some (.int .i64 yl) ∧ V.cell? ⟨wr.heap.size, 4, none⟩ = some (.int .i64 yh) ∧ V.frozen? ⟨w1.heap.size, 2, none⟩ = false ∧ Hid (Below w3.heap.size w3 V)) 15 (by kernel_rfl) (by decide) (fun inv0 => ?_)
          have hs0 := keep7 (W := w3) ⟨c2, y0, y1, y2, y3, y4, f2, Lib.hid (Below.refl _ _)⟩ hb1 hb2 (Below.refl w3.heap.size w3).drew
          refine wpAnyZ_take (i := 1) (v := ?_) rfl (Lib.hid ⟨by as_aux_lemma => kernel_rfl, by as_aux_lemma => kernel_rfl, by as_aux_lemma => kernel_rfl, rfl⟩) (by decide) inv0 (by as_aux_lemma => kernel_rfl) (by as_aux_lemma => kernel_rfl) (fun _ _ _ h => h) (Or.inl ⟨by rfl, ?_⟩) hs0 (fun inv1 => ?_)
          rotate_left
          · intro w hSw
            try dsimp only at hSw
            go_simp
            try with_reducible rfl
          clear inv0
          try simp only [Act.put, List.getElem_toArray, List.getElem_cons_succ, List.getElem_cons_zero, List.setIfInBounds_toArray, List.set_cons_zero, List.set_cons_succ]
          refine wpAnyZ_take (i := 2) (v := ?_) rfl (Lib.hid ⟨by as_aux_lemma => kernel_rfl, by as_aux_lemma => kernel_rfl, by as_aux_lemma => kernel_rfl, rfl⟩) (by decide) inv1 (by as_aux_lemma => kernel_rfl) (by as_aux_lemma => kernel_rfl) (fun _ _ _ h => h) (Or.inl ⟨by rfl, ?_⟩) hs0 (fun inv2 => ?_)
          rotate_left
          · intro w hSw
            try dsimp only at hSw
            go_simp
            try with_reducible rfl
          clear inv1
          try simp only [Act.put, List.getElem_toArray, List.getElem_cons_succ, List.getElem_cons_zero, List.setIfInBounds_toArray, List.set_cons_zero, List.set_cons_succ]
          refine wpAnyZ_take (i := 3) (v := ?_) rfl (Lib.hid ⟨by as_aux_lemma => kernel_rfl, by as_aux_lemma => kernel_rfl, by as_aux_lemma => kernel_rfl, rfl⟩) (by decide) inv2 (by as_aux_lemma => kernel_rfl) (by as_aux_lemma => kernel_rfl) (fun _ _ _ h => h) (Or.inl ⟨by rfl, ?_⟩) hs0 (fun inv3 => ?_)
          rotate_left
          · intro w hSw
            try dsimp only at hSw
            go_simp
            try with_reducible rfl
          clear inv2
          try simp only [Act.put, List.getElem_toArray, List.getElem_cons_succ, List.getElem_cons_zero, List.setIfInBounds_toArray, List.set_cons_zero, List.set_cons_succ]
          refine wpAnyZ_take (i := 4) (v := .slice sa n sc) rfl (Lib.hid ⟨by as_aux_lemma => kernel_rfl, by as_aux_lemma => kernel_rfl, by as_aux_lemma => kernel_rfl, rfl⟩) (by decide) inv3 (by as_aux_lemma => kernel_rfl) (by as_aux_lemma => kernel_rfl) (fun _ _ _ h => h) (Or.inl ⟨by rfl, ?_⟩) hs0 (fun inv4 => ?_)
          · exact fun w _ => exec_lo rfl rfl rfl hn1 w
          clear inv3
          try simp only [Act.put, List.getElem_toArray, List.getElem_cons_succ, List.getElem_cons_zero, List.setIfInBounds_toArray, List.set_cons_zero, List.set_cons_succ]
          refine wpAnyZ_take (i := 6) (v := ?_) rfl (Lib.hid ⟨by as_aux_lemma => kernel_rfl, by as_aux_lemma => kernel_rfl, by as_aux_lemma => kernel_rfl, rfl⟩) (by decide) inv4 (by as_aux_lemma => kernel_rfl) (by as_aux_lemma => kernel_rfl) (fun _ _ _ h => h) (Or.inl ⟨by rfl, ?_⟩) hs0 (fun inv5 => ?_)
          rotate_left
          · intro w hSw
            try dsimp only at hSw
            go_simp
            try with_reducible rfl
          clear inv4
          try simp only [Act.put, List.getElem_toArray, List.getElem_cons_succ, List.getElem_cons_zero, List.setIfInBounds_toArray, List.set_cons_zero, List.set_cons_succ]
          refine wpAnyZ_take (i := 9) (v := ?_) rfl (Lib.hid ⟨by as_aux_lemma => kernel_rfl, by as_aux_lemma => kernel_rfl, by as_aux_lemma => kernel_rfl, rfl⟩) (by decide) inv5 (by as_aux_lemma => kernel_rfl) (by as_aux_lemma => kernel_rfl) (fun _ _ _ h => h) (Or.inl ⟨by rfl, ?_⟩) hs0 (fun inv6 => ?_)
          rotate_left
          · intro w hSw
            try dsimp only at hSw
            go_simp
            try with_reducible rfl
          clear inv5
          try simp only [Act.put, List.getElem_toArray, List.getElem_cons_succ, List.getElem_cons_zero, List.setIfInBounds_toArray, List.set_cons_zero, List.set_cons_succ]
          refine wpAnyZ_take (i := 10) (v := ?_) rfl (Lib.hid ⟨by as_aux_lemma => kernel_rfl, by as_aux_lemma => kernel_rfl, by as_aux_lemma => kernel_rfl, rfl⟩) (by decide) inv6 (by as_aux_lemma => kernel_rfl) (by as_aux_lemma => kernel_rfl) (fun _ _ _ h => h) (Or.inl ⟨by rfl, ?_⟩) hs0 (fun inv7 => ?_)
          rotate_left
          · intro w hSw
            try dsimp only at hSw
            go_simp
            try with_reducible rfl
          clear inv6
          try simp only [Act.put, List.getElem_toArray, List.getElem_cons_succ, List.getElem_cons_zero, List.setIfInBounds_toArray, List.set_cons_zero, List.set_cons_succ]
          refine wpAnyZ_take (i := 11) (v := ?_) rfl (Lib.hid ⟨by as_aux_lemma => kernel_rfl, by as_aux_lemma => kernel_rfl, by as_aux_lemma => kernel_rfl, rfl⟩) (by decide) inv7 (by as_aux_lemma => kernel_rfl) (by as_aux_lemma => kernel_rfl) (fun _ _ _ h => h) (Or.inl ⟨by rfl, ?_⟩) hs0 (fun inv8 => ?_)
          rotate_left
          · intro w hSw
            try dsimp only at hSw
            go_simp
            try with_reducible rfl
          clear inv7
          try simp only [Act.put, List.getElem_toArray, List.getElem_cons_succ, List.getElem_cons_zero, List.setIfInBounds_toArray, List.set_cons_zero, List.set_cons_succ]
          refine wpAnyZ_take (i := 12) (v := .slice (if sc = n then sa else sa.map (·.add (n * 5))) (k - n) (sc - n)) rfl (Lib.hid ⟨by as_aux_lemma => kernel_rfl, by as_aux_lemma => kernel_rfl, by as_aux_lemma => kernel_rfl, rfl⟩) (by decide) inv8 (by as_aux_lemma => kernel_rfl) (by as_aux_lemma => kernel_rfl) (fun _ _ _ h => h) (Or.inl ⟨by rfl, ?_⟩) hs0 (fun inv9 => ?_)
          · exact fun w _ => exec_hi rfl rfl rfl hn2 w
          clear inv8
          try simp only [Act.put, List.getElem_toArray, List.getElem_cons_succ, List.getElem_cons_zero, List.setIfInBounds_toArray, List.set_cons_zero, List.set_cons_succ]
          clear inv9
          refine wpAnyZ_all (rs := [0, 7]) (by as_aux_lemma => kernel_rfl) (by simp) ?_
          intro i hi
          simp only [List.mem_cons, List.not_mem_nil, or_false] at hi
          rcases hi with rfl | rfl
          · refine step_Z rfl (fun K hK => ?_)
            go_simp
            have B1 : Below w3.heap.size w3 (w3.drew.alloc (.cells #[] 67)) := (Below.refl w3.heap.size w3).drew.alloc (Nat.le_refl _) _
            refine hK.out _ _ (fun _ => keep7 (W := w3) ⟨c2, y0, y1, y2, y3, y4, f2, Lib.hid (Below.refl _ _)⟩ hb1 hb2 B1) ?_
            clear hK K
            try simp only [Act.put, List.getElem_toArray, List.getElem_cons_succ, List.getElem_cons_zero, List.setIfInBounds_toArray, List.set_cons_zero, List.set_cons_succ]
            have hm1 := made_at w3.drew w3.heap.size w3.heap.size rfl (Nat.le_refl _)
            refine wpAnyZ_all (rs := [5, 7]) (by as_aux_lemma => kernel_rfl) (by simp) ?_
            intro i hi
            simp only [List.mem_cons, List.not_mem_nil, or_false] at hi
            rcases hi with rfl | rfl
            · refine step_Z rfl (fun K hK => ?_)
              refine step_notes (by rfl) _ _ (by rfl) w3.heap.size (.slice (some ⟨w3.heap.size, 0, none⟩) 0 0) _ [] (L.take n) (by rfl) (by rfl) hm1 (ntsB HLo B1) B1.size (by simp; omega) ?_
              intro v1 u1 ho1 hg1 hl1
              have HG1 : Hid (Below w3.heap.size w3 u1) := B1.grown hg1 B1.size hl1
              have hs1 := keep7 (W := w3) ⟨c2, y0, y1, y2, y3, y4, f2, Lib.hid (Below.refl _ _)⟩ hb1 hb2 HG1.out
              refine hK.out _ _ (fun _ => hs1) ?_
              clear hK K
              try simp only [Act.put, List.getElem_toArray, List.getElem_cons_succ, List.getElem_cons_zero, List.setIfInBounds_toArray, List.set_cons_zero, List.set_cons_succ]
              refine wpAnyZ_all (rs := [7]) (by as_aux_lemma => kernel_rfl) (by simp) ?_
              intro i hi
              obtain rfl : i = 7 := by simpa using hi
              refine step_Z rfl (fun K hK => ?_)
              go_simp
              have B2 : Below w3.heap.size w3 (u1.alloc (.cells #[.int .i64 yk, .int .i64 ya, .int .i64 yb, .int .i64 yl, .int .i64 yh] 67)) := HG1.out.alloc HG1.out.size _
              refine hK.out _ _ (fun _ => keep7 (W := w3) ⟨c2, y0, y1, y2, y3, y4, f2, Lib.hid (Below.refl _ _)⟩ hb1 hb2 B2) ?_
              clear hK K
              try simp only [Act.put, List.getElem_toArray, List.getElem_cons_succ, List.getElem_cons_zero, List.setIfInBounds_toArray, List.set_cons_zero, List.set_cons_succ]
              refine wpAnyZ_all (rs := [8]) (by as_aux_lemma => kernel_rfl) (by simp) ?_
              intro i hi
              obtain rfl : i = 8 := by simpa using hi
              refine step_Z rfl (fun K hK => ?_)
              refine step_notes (by rfl) _ _ (by rfl) w3.heap.size _ _ (L.take n) [⟨yk, ya, yb, yl, yh⟩] (by rfl) (by rfl) (ho1.alloc _) (one_notes (heap_alloc_new _ _)) B2.size (by simp; omega) ?_
              intro v2 u2 ho2 hg2 hl2
              have HG2 : Hid (Below w3.heap.size w3 u2) := B2.grown hg2 B2.size hl2
              have hs2 := keep7 (W := w3) ⟨c2, y0, y1, y2, y3, y4, f2, Lib.hid (Below.refl _ _)⟩ hb1 hb2 HG2.out
              refine hK.out _ _ (fun _ => hs2) ?_
              clear hK K
              try simp only [Act.put, List.getElem_toArray, List.getElem_cons_succ, List.getElem_cons_zero, List.setIfInBounds_toArray, List.set_cons_zero, List.set_cons_succ]
              refine wpAnyZ_all (rs := [13]) (by as_aux_lemma => kernel_rfl) (by simp) ?_
              intro i hi
              obtain rfl : i = 13 := by simpa using hi
              refine step_Z rfl (fun K hK => ?_)
              refine step_notes (by rfl) _ _ (by rfl) w3.heap.size _ _ (L.take n ++ [⟨yk, ya, yb, yl, yh⟩]) (L.drop n) (by rfl) (by rfl) ho2 (ntsB HHi HG2.out) HG2.out.size (by simp; omega) ?_
              intro v3 u3 ho3 hg3 hl3
              have HG3 : Hid (Below w3.heap.size w3 u3) := HG2.out.grown hg3 HG2.out.size hl3
              have hs3 := keep7 (W := w3) ⟨c2, y0, y1, y2, y3, y4, f2, Lib.hid (Below.refl _ _)⟩ hb1 hb2 HG3.out
              refine hK.out _ _ (fun _ => hs3) ?_
              clear hK K
              try simp only [Act.put, List.getElem_toArray, List.getElem_cons_succ, List.getElem_cons_zero, List.setIfInBounds_toArray, List.set_cons_zero, List.set_cons_succ]
              have hl3 : (L.take n ++ [(⟨yk, ya, yb, yl, yh⟩ : Note)] ++ L.drop n).length = k + 1 := by have := HKl.out; simp; omega
              rw [hl3] at ho3
              have HL3 := Lib.hid hl3
              clear hl3
              obtain ⟨sa3, sc3, rfl⟩ := own_slice ho3
              refine wpAnyZ_all (rs := [14]) (by as_aux_lemma => kernel_rfl) (by simp) ?_
              intro i hi
              obtain rfl : i = 14 := by simpa using hi
              refine step_Z rfl (fun K hK => ?_)
              go_simp
              refine hK.out _ _ (fun _ => hs3) ?_
              clear hK K
              try simp only [Act.put, List.getElem_toArray, List.getElem_cons_succ, List.getElem_cons_zero, List.setIfInBounds_toArray, List.set_cons_zero, List.set_cons_succ]
              refine wpAnyZ_all (rs := [15]) (by as_aux_lemma => kernel_rfl) (by simp) ?_
              intro i hi
              obtain rfl : i = 15 := by simpa using hi
              refine step_Z rfl (fun K hK => ?_)
              have c3 := hs3.1
              have f3 := hs3.2.2.2.2.2.2.1
              go_simp
              refine hK.out _ _ (fun h => absurd rfl h) ?_
              clear hK K
              try simp only [Act.put, List.getElem_toArray, List.getElem_cons_succ, List.getElem_cons_zero, List.setIfInBounds_toArray, List.set_cons_zero, List.set_cons_succ]
              refine wpAnyZ_done (by as_aux_lemma => kernel_rfl) ?_ _
              refine NoPanic.normal ?_
              have hO4 := Lib.hid (heap_setCell_same u3 w1.heap.size 2 _ _ (.slice sa3 (k + 1) sc3) ((HG3.out.block _ hb1).trans HO3.out))
              have ho4 := own_base (own_other ho3 ⟨w1.heap.size, 2, none⟩ hb1 (.slice sa3 (k + 1) sc3)) hWle
              have hB4 := Lib.hid (HBk.out.trans ((HBy.out.mono hle1).trans ((HG3.out.mono (Nat.le_of_lt hb1)).setCell (p := ⟨w1.heap.size, 2, none⟩) (Nat.le_refl _) (.slice sa3 (k + 1) sc3))))
              clear c2 f2 y0 y1 y2 y3 y4 c3 f3 hs0 hs2 hs3 ho3 hg3 hl3
              generalize u3.setCell ⟨w1.heap.size, 2, none⟩ (.slice sa3 (k + 1) sc3) = w4 at *
              go_wp2_with fail
              go_roundw
              case rel => exact ⟨L.take n ++ [⟨yk, ya, yb, yl, yh⟩] ++ L.drop n, sa3, sc3, by rw [HL3.out]; omega, by rw [HL3.out]; go_num, by rw [HL3.out, HLY.out]; exact Lib.hid (by simp), by rw [HL3.out]; exact hO4.out, by rw [HL3.out]; exact ho4, hB4⟩
              case measure => simp [intOf]; omega
            · refine step_Z rfl (fun K hK => ?_)
              go_simp
              have B2 : Below w3.heap.size w3 ((w3.drew.alloc (.cells #[] 67)).alloc (.cells #[.int .i64 yk, .int .i64 ya, .int .i64 yb, .int .i64 yl, .int .i64 yh] 67)) := B1.alloc B1.size _
              refine hK.out _ _ (fun _ => keep7 (W := w3) ⟨c2, y0, y1, y2, y3, y4, f2, Lib.hid (Below.refl _ _)⟩ hb1 hb2 B2) ?_
              clear hK K
              try simp only [Act.put, List.getElem_toArray, List.getElem_cons_succ, List.getElem_cons_zero, List.setIfInBounds_toArray, List.set_cons_zero, List.set_cons_succ]
              have X2 : ((w3.drew.alloc (.cells #[] 67)).alloc (.cells #[.int .i64 yk, .int .i64 ya, .int .i64 yb, .int .i64 yl, .int .i64 yh] 67)).heap[w3.heap.size + 1]? = some (.cells #[.int .i64 yk, .int .i64 ya, .int .i64 yb, .int .i64 yl, .int .i64 yh] 67) := heap_alloc2_new w3.drew _ _
              refine wpAnyZ_all (rs := [5]) (by as_aux_lemma => kernel_rfl) (by simp) ?_
              intro i hi
              obtain rfl : i = 5 := by simpa using hi
              refine step_Z rfl (fun K hK => ?_)
              refine step_notes (by rfl) _ _ (by rfl) w3.heap.size (.slice (some ⟨w3.heap.size, 0, none⟩) 0 0) _ [] (L.take n) (by rfl) (by rfl) (hm1.alloc _) (ntsB HLo B2) B2.size (by simp; omega) ?_
              intro v1 u1 ho1 hg1 hl1
              have HG1 : Hid (Below w3.heap.size w3 u1) := B2.grown hg1 B2.size hl1
              have hs1 := keep7 (W := w3) ⟨c2, y0, y1, y2, y3, y4, f2, Lib.hid (Below.refl _ _)⟩ hb1 hb2 HG1.out
              refine hK.out _ _ (fun _ => hs1) ?_
              clear hK K
              try simp only [Act.put, List.getElem_toArray, List.getElem_cons_succ, List.getElem_cons_zero, List.setIfInBounds_toArray, List.set_cons_zero, List.set_cons_succ]
              have X3 := (hg1.block (w3.heap.size + 1) (by simp) (by simp [Value.ownBlock])).trans X2
              refine wpAnyZ_all (rs := [8]) (by as_aux_lemma => kernel_rfl) (by simp) ?_
              intro i hi
              obtain rfl : i = 8 := by simpa using hi
              refine step_Z rfl (fun K hK => ?_)
              refine step_notes (by rfl) _ _ (by rfl) w3.heap.size _ _ (L.take n) [⟨yk, ya, yb, yl, yh⟩] (by rfl) (by rfl) ho1 (one_notes X3) HG1.out.size (by simp; omega) ?_
              intro v2 u2 ho2 hg2 hl2
              have HG2 : Hid (Below w3.heap.size w3 u2) := HG1.out.grown hg2 HG1.out.size hl2
              have hs2 := keep7 (W := w3) ⟨c2, y0, y1, y2, y3, y4, f2, Lib.hid (Below.refl _ _)⟩ hb1 hb2 HG2.out
              refine hK.out _ _ (fun _ => hs2) ?_
              clear hK K
              try simp only [Act.put, List.getElem_toArray, List.getElem_cons_succ, List.getElem_cons_zero, List.setIfInBounds_toArray, List.set_cons_zero, List.set_cons_succ]
              refine wpAnyZ_all (rs := [13]) (by as_aux_lemma => kernel_rfl) (by simp) ?_
              intro i hi
              obtain rfl : i = 13 := by simpa using hi
              refine step_Z rfl (fun K hK => ?_)
              refine step_notes (by rfl) _ _ (by rfl) w3.heap.size _ _ (L.take n ++ [⟨yk, ya, yb, yl, yh⟩]) (L.drop n) (by rfl) (by rfl) ho2 (ntsB HHi HG2.out) HG2.out.size (by simp; omega) ?_
              intro v3 u3 ho3 hg3 hl3
              have HG3 : Hid (Below w3.heap.size w3 u3) := HG2.out.grown hg3 HG2.out.size hl3
              have hs3 := keep7 (W := w3) ⟨c2, y0, y1, y2, y3, y4, f2, Lib.hid (Below.refl _ _)⟩ hb1 hb2 HG3.out
              refine hK.out _ _ (fun _ => hs3) ?_
              clear hK K
              try simp only [Act.put, List.getElem_toArray, List.getElem_cons_succ, List.getElem_cons_zero, List.setIfInBounds_toArray, List.set_cons_zero, List.set_cons_succ]
              have hl3 : (L.take n ++ [(⟨yk, ya, yb, yl, yh⟩ : Note)] ++ L.drop n).length = k + 1 := by have := HKl.out; simp; omega
              rw [hl3] at ho3
              have HL3 := Lib.hid hl3
              clear hl3
              obtain ⟨sa3, sc3, rfl⟩ := own_slice ho3
              refine wpAnyZ_all (rs := [14]) (by as_aux_lemma => kernel_rfl) (by simp) ?_
              intro i hi
              obtain rfl : i = 14 := by simpa using hi
              refine step_Z rfl (fun K hK => ?_)
              go_simp
              refine hK.out _ _ (fun _ => hs3) ?_
              clear hK K
              try simp only [Act.put, List.getElem_toArray, List.getElem_cons_succ, List.getElem_cons_zero, List.setIfInBounds_toArray, List.set_cons_zero, List.set_cons_succ]
              refine wpAnyZ_all (rs := [15]) (by as_aux_lemma => kernel_rfl) (by simp) ?_
              intro i hi
              obtain rfl : i = 15 := by simpa using hi
              refine step_Z rfl (fun K hK => ?_)
              have c3 := hs3.1
              have f3 := hs3.2.2.2.2.2.2.1
              go_simp
              refine hK.out _ _ (fun h => absurd rfl h) ?_
              clear hK K
              try simp only [Act.put, List.getElem_toArray, List.getElem_cons_succ, List.getElem_cons_zero, List.setIfInBounds_toArray, List.set_cons_zero, List.set_cons_succ]
              refine wpAnyZ_done (by as_aux_lemma => kernel_rfl) ?_ _
              refine NoPanic.normal ?_
              have hO4 := Lib.hid (heap_setCell_same u3 w1.heap.size 2 _ _ (.slice sa3 (k + 1) sc3) ((HG3.out.block _ hb1).trans HO3.out))
              have ho4 := own_base (own_other ho3 ⟨w1.heap.size, 2, none⟩ hb1 (.slice sa3 (k + 1) sc3)) hWle
              have hB4 := Lib.hid (HBk.out.trans ((HBy.out.mono hle1).trans ((HG3.out.mono (Nat.le_of_lt hb1)).setCell (p := ⟨w1.heap.size, 2, none⟩) (Nat.le_refl _) (.slice sa3 (k + 1) sc3))))
              clear c2 f2 y0 y1 y2 y3 y4 c3 f3 hs0 hs2 hs3 ho3 hg3 hl3
              generalize u3.setCell ⟨w1.heap.size, 2, none⟩ (.slice sa3 (k + 1) sc3) = w4 at *
              go_wp2_with fail
              go_roundw
              case rel => exact ⟨L.take n ++ [⟨yk, ya, yb, yl, yh⟩] ++ L.drop n, sa3, sc3, by rw [HL3.out]; omega, by rw [HL3.out]; go_num, by rw [HL3.out, HLY.out]; exact Lib.hid (by simp), by rw [HL3.out]; exact hO4.out, by rw [HL3.out]; exact ho4, hB4⟩
              case measure => simp [intOf]; omega
          · refine step_Z rfl (fun K hK => ?_)
            go_simp
            have B1 : Below w3.heap.size w3 (w3.drew.alloc (.cells #[.int .i64 yk, .int .i64 ya, .int .i64 yb, .int .i64 yl, .int .i64 yh] 67)) := (Below.refl w3.heap.size w3).drew.alloc (Nat.le_refl _) _
            refine hK.out _ _ (fun _ => keep7 (W := w3) ⟨c2, y0, y1, y2, y3, y4, f2, Lib.hid (Below.refl _ _)⟩ hb1 hb2 B1) ?_
            clear hK K
            try simp only [Act.put, List.getElem_toArray, List.getElem_cons_succ, List.getElem_cons_zero, List.setIfInBounds_toArray, List.set_cons_zero, List.set_cons_succ]
            refine wpAnyZ_all (rs := [0]) (by as_aux_lemma => kernel_rfl) (by simp) ?_
            intro i hi
            obtain rfl : i = 0 := by simpa using hi
            refine step_Z rfl (fun K hK => ?_)
            go_simp
            have B2 : Below w3.heap.size w3 ((w3.drew.alloc (.cells #[.int .i64 yk, .int .i64 ya, .int .i64 yb, .int .i64 yl, .int .i64 yh] 67)).alloc (.cells #[] 67)) := B1.alloc B1.size _
            refine hK.out _ _ (fun _ => keep7 (W := w3) ⟨c2, y0, y1, y2, y3, y4, f2, Lib.hid (Below.refl _ _)⟩ hb1 hb2 B2) ?_
            clear hK K
            try simp only [Act.put, List.getElem_toArray, List.getElem_cons_succ, List.getElem_cons_zero, List.setIfInBounds_toArray, List.set_cons_zero, List.set_cons_succ]
            have hm1 := made_at (w3.drew.alloc (.cells #[.int .i64 yk, .int .i64 ya, .int .i64 yb, .int .i64 yl, .int .i64 yh] 67)) (w3.heap.size + 1) w3.heap.size (by simp) (by simp)
            have X2 : ((w3.drew.alloc (.cells #[.int .i64 yk, .int .i64 ya, .int .i64 yb, .int .i64 yl, .int .i64 yh] 67)).alloc (.cells #[] 67)).heap[w3.heap.size]? = some (.cells #[.int .i64 yk, .int .i64 ya, .int .i64 yb, .int .i64 yl, .int .i64 yh] 67) := heap_alloc2_old w3.drew _ _
            refine wpAnyZ_all (rs := [5]) (by as_aux_lemma => kernel_rfl) (by simp) ?_
            intro i hi
            obtain rfl : i = 5 := by simpa using hi
            refine step_Z rfl (fun K hK => ?_)
            refine step_notes (by rfl) _ _ (by rfl) w3.heap.size (.slice (some ⟨w3.heap.size + 1, 0, none⟩) 0 0) _ [] (L.take n) (by rfl) (by rfl) hm1 (ntsB HLo B2) B2.size (by simp; omega) ?_
            intro v1 u1 ho1 hg1 hl1
            have HG1 : Hid (Below w3.heap.size w3 u1) := B2.grown hg1 B2.size hl1
            have hs1 := keep7 (W := w3) ⟨c2, y0, y1, y2, y3, y4, f2, Lib.hid (Below.refl _ _)⟩ hb1 hb2 HG1.out
            refine hK.out _ _ (fun _ => hs1) ?_
            clear hK K
            try simp only [Act.put, List.getElem_toArray, List.getElem_cons_succ, List.getElem_cons_zero, List.setIfInBounds_toArray, List.set_cons_zero, List.set_cons_succ]
            have X3 := (hg1.block w3.heap.size (by simp; omega) (by simp [Value.ownBlock])).trans X2
            refine wpAnyZ_all (rs := [8]) (by as_aux_lemma => kernel_rfl) (by simp) ?_
            intro i hi
            obtain rfl : i = 8 := by simpa using hi
            refine step_Z rfl (fun K hK => ?_)
            refine step_notes (by rfl) _ _ (by rfl) w3.heap.size _ _ (L.take n) [⟨yk, ya, yb, yl, yh⟩] (by rfl) (by rfl) ho1 (one_notes X3) HG1.out.size (by simp; omega) ?_
            intro v2 u2 ho2 hg2 hl2
            have HG2 : Hid (Below w3.heap.size w3 u2) := HG1.out.grown hg2 HG1.out.size hl2
            have hs2 := keep7 (W := w3) ⟨c2, y0, y1, y2, y3, y4, f2, Lib.hid (Below.refl _ _)⟩ hb1 hb2 HG2.out
            refine hK.out _ _ (fun _ => hs2) ?_
            clear hK K
            try simp only [Act.put, List.getElem_toArray, List.getElem_cons_succ, List.getElem_cons_zero, List.setIfInBounds_toArray, List.set_cons_zero, List.set_cons_succ]
            refine wpAnyZ_all (rs := [13]) (by as_aux_lemma => kernel_rfl) (by simp) ?_
            intro i hi
            obtain rfl : i = 13 := by simpa using hi
            refine step_Z rfl (fun K hK => ?_)
            refine step_notes (by rfl) _ _ (by rfl) w3.heap.size _ _ (L.take n ++ [⟨yk, ya, yb, yl, yh⟩]) (L.drop n) (by rfl) (by rfl) ho2 (ntsB HHi HG2.out) HG2.out.size (by simp; omega) ?_
            intro v3 u3 ho3 hg3 hl3
            have HG3 : Hid (Below w3.heap.size w3 u3) := HG2.out.grown hg3 HG2.out.size hl3
            have hs3 := keep7 (W := w3) ⟨c2, y0, y1, y2, y3, y4, f2, Lib.hid (Below.refl _ _)⟩ hb1 hb2 HG3.out
            refine hK.out _ _ (fun _ => hs3) ?_
            clear hK K
            try simp only [Act.put, List.getElem_toArray, List.getElem_cons_succ, List.getElem_cons_zero, List.setIfInBounds_toArray, List.set_cons_zero, List.set_cons_succ]
            have hl3 : (L.take n ++ [(⟨yk, ya, yb, yl, yh⟩ : Note)] ++ L.drop n).length = k + 1 := by have := HKl.out; simp; omega
            rw [hl3] at ho3
            have HL3 := Lib.hid hl3
            clear hl3
            obtain ⟨sa3, sc3, rfl⟩ := own_slice ho3
            refine wpAnyZ_all (rs := [14]) (by as_aux_lemma => kernel_rfl) (by simp) ?_
            intro i hi
            obtain rfl : i = 14 := by simpa using hi
            refine step_Z rfl (fun K hK => ?_)
            go_simp
            refine hK.out _ _ (fun _ => hs3) ?_
            clear hK K
            try simp only [Act.put, List.getElem_toArray, List.getElem_cons_succ, List.getElem_cons_zero, List.setIfInBounds_toArray, List.set_cons_zero, List.set_cons_succ]
            refine wpAnyZ_all (rs := [15]) (by as_aux_lemma => kernel_rfl) (by simp) ?_
            intro i hi
            obtain rfl : i = 15 := by simpa using hi
            refine step_Z rfl (fun K hK => ?_)
            have c3 := hs3.1
            have f3 := hs3.2.2.2.2.2.2.1
            go_simp
            refine hK.out _ _ (fun h => absurd rfl h) ?_
            clear hK K
            try simp only [Act.put, List.getElem_toArray, List.getElem_cons_succ, List.getElem_cons_zero, List.setIfInBounds_toArray, List.set_cons_zero, List.set_cons_succ]
            refine wpAnyZ_done (by as_aux_lemma => kernel_rfl) ?_ _
            refine NoPanic.normal ?_
            have hO4 := Lib.hid (heap_setCell_same u3 w1.heap.size 2 _ _ (.slice sa3 (k + 1) sc3) ((HG3.out.block _ hb1).trans HO3.out))
            have ho4 := own_base (own_other ho3 ⟨w1.heap.size, 2, none⟩ hb1 (.slice sa3 (k + 1) sc3)) hWle
            have hB4 := Lib.hid (HBk.out.trans ((HBy.out.mono hle1).trans ((HG3.out.mono (Nat.le_of_lt hb1)).setCell (p := ⟨w1.heap.size, 2, none⟩) (Nat.le_refl _) (.slice sa3 (k + 1) sc3))))
            clear c2 f2 y0 y1 y2 y3 y4 c3 f3 hs0 hs2 hs3 ho3 hg3 hl3
            generalize u3.setCell ⟨w1.heap.size, 2, none⟩ (.slice sa3 (k + 1) sc3) = w4 at *
            go_wp2_with fail
            go_roundw
            case rel => exact ⟨L.take n ++ [⟨yk, ya, yb, yl, yh⟩] ++ L.drop n, sa3, sc3, by rw [HL3.out]; omega, by rw [HL3.out]; go_num, by rw [HL3.out, HLY.out]; exact Lib.hid (by simp), by rw [HL3.out]; exact hO4.out, by rw [HL3.out]; exact ho4, hB4⟩
            case measure => simp [intOf]; omega
      · obtain rfl : k = notes.length := by omega
        have hVt : ValidS ⟨iv, pts, L⟩ := by
          have h := ordS_valid HV.out (turnS l)
          simp only at h
          rw [← HL.out] at h
          exact h
        have hTs := told_same (s := ⟨iv, pts, notes⟩) (t := ⟨iv, pts, L⟩) HV.out hVt rfl rfl (fun wd x => by
          show TrB (bdsL iv wd L) x ↔ TrB (bdsL iv wd notes) x
          rw [HL.out]
          exact ordL_truths iv wd notes (turnS l) x)
        obtain ⟨t1, t2, t3, t4, t5⟩ := hTs
        have HT1' := Lib.hid t1
        have HT3 := Lib.hid t3
        have HT4 := Lib.hid t4
        have HT5 := Lib.hid t5
        have HEs := Lib.hid (errS_zero HV.out)
        have HEt := Lib.hid (errS_zero hVt)
        have HH : Hid (OrdSt w w.heap.size w1.heap.size (.cells #[.int .i64 iv, .slice pa pts.length pc, .slice na notes.length nc] 25) (.cells #[.int .i64 iv, .slice pa pts.length pc, .slice sa notes.length sc] 25) (.slice pa pts.length pc) (.slice na notes.length nc) (.slice sa notes.length sc) ⟨iv, pts, notes⟩ ⟨iv, pts, L⟩ wr) :=
          ⟨HAk.out, HOk.out, HS1.out.up r1, ⟨(HS1.out.up r1).pts, by have h := notesAt_own (l := L) (by rw [HKl.out]; exact hown) (by rw [HKl.out]; omega); exact h, HS1.out.sz⟩, HT1.out.below r1, HB1.out.trans (r1.mono HB1.out.size)⟩
        have hp8 : pts.length ≤ 8 := HV.out.np8
        clear t1 t2 t3 t4 t5 hVt hown a2 r1
        have a0 := cellOf HH.out.a 0 _ rfl
        have a1 := cellOf HH.out.a 1 _ rfl
        have a2 := cellOf HH.out.a 2 _ rfl
        go_wp2_with fail
        refine (Heights_any ⟨iv, pts, notes⟩ _ _ _ HH.out.s).mono ?_
        rintro e v1 ⟨h1, rfl, hs1, hs2, hb⟩
        have HQ1 := Lib.hid (spn_hts hp8 hs1 hs2)
        have HH1 := Lib.hid (HH.out.up hb)
        clear hs1 hs2 hb HH a0 a1 a2
        have a0 := cellOf HH1.out.o 0 _ rfl
        have a1 := cellOf HH1.out.o 1 _ rfl
        have a2 := cellOf HH1.out.o 2 _ rfl
        go_wp2_with fail
        refine (Heights_any ⟨iv, pts, L⟩ _ _ _ HH1.out.t).mono ?_
        rintro e v2 ⟨h2, rfl, hs1, hs2, hb⟩
        have hq2 := spn_hts (s := ⟨iv, pts, L⟩) hp8 hs1 hs2
        rw [HT1'.out, HT3.out] at hq2
        have HQ2 := Lib.hid hq2
        have HQ1b := Lib.hid (HQ1.out.below hb)
        have HH2 := Lib.hid (HH1.out.up hb)
        rw [HT1'.out]
        clear hs1 hs2 hb HH1 HQ1 hq2 a0 a1 a2
        have a0 := cellOf HH2.out.a 0 _ rfl
        have a1 := cellOf HH2.out.a 1 _ rfl
        have a2 := cellOf HH2.out.a 2 _ rfl
        go_wp2_with fail
        refine (Highest_any ⟨iv, pts, notes⟩ _ _ _ HH2.out.s).mono ?_
        rintro e v3 ⟨g1, rfl, hs1, _, hb⟩
        have HR1 := Lib.hid (intsAt_own hs1 (by have := highest_len ⟨iv, pts, notes⟩; simp only at this; omega))
        have HQ1c := Lib.hid (HQ1b.out.below hb)
        have HQ2c := Lib.hid (HQ2.out.below hb)
        have HH3 := Lib.hid (HH2.out.up hb)
        clear hs1 hb HH2 HQ1b HQ2 a0 a1 a2
        have a0 := cellOf HH3.out.o 0 _ rfl
        have a1 := cellOf HH3.out.o 1 _ rfl
        have a2 := cellOf HH3.out.o 2 _ rfl
        go_wp2_with fail
        refine (Highest_any ⟨iv, pts, L⟩ _ _ _ HH3.out.t).mono ?_
        rintro e v4 ⟨g2, rfl, hs1, _, hb⟩
        have hr2 := intsAt_own hs1 (by have := highest_len ⟨iv, pts, L⟩; simp only at this; omega)
        rw [HT4.out] at hr2
        have HR2 := Lib.hid hr2
        have HR1b := Lib.hid (HR1.out.below hb)
        have HQ1d := Lib.hid (HQ1c.out.below hb)
        have HQ2d := Lib.hid (HQ2c.out.below hb)
        have HH4 := Lib.hid (HH3.out.up hb)
        rw [HT1'.out]
        clear hs1 hb hr2 HH3 HQ1c HQ2c HR1 a0 a1 a2
        have a0 := cellOf HH4.out.a 0 _ rfl
        have a1 := cellOf HH4.out.a 1 _ rfl
        have a2 := cellOf HH4.out.a 2 _ rfl
        go_wp2_with fail
        refine (Wider_any ⟨iv, pts, notes⟩ _ _ _ HH4.out.s).mono ?_
        rintro e v5 ⟨d1, rfl, hw1, hb⟩
        have HW1 := Lib.hid hw1
        have HR1c := Lib.hid (HR1b.out.below hb)
        have HR2c := Lib.hid (HR2.out.below hb)
        have HQ1e := Lib.hid (HQ1d.out.below hb)
        have HQ2e := Lib.hid (HQ2d.out.below hb)
        have HH5 := Lib.hid (HH4.out.up hb)
        rw [HEs.out]
        clear hw1 hb HH4 HQ1d HQ2d HR1b HR2 a0 a1 a2
        have a0 := cellOf HH5.out.o 0 _ rfl
        have a1 := cellOf HH5.out.o 1 _ rfl
        have a2 := cellOf HH5.out.o 2 _ rfl
        go_wp2_with fail
        refine (Wider_any ⟨iv, pts, L⟩ _ _ _ HH5.out.t).mono ?_
        rintro e v6 ⟨d2, rfl, hw2, hb⟩
        obtain rfl := HT5.out _ _ HW1.out hw2
        have HR1d := Lib.hid (HR1c.out.below hb)
        have HR2d := Lib.hid (HR2c.out.below hb)
        have HQ1f := Lib.hid (HQ1e.out.below hb)
        have HQ2f := Lib.hid (HQ2e.out.below hb)
        have HH6 := Lib.hid (HH5.out.up hb)
        rw [HEt.out]
        clear hw2 hb HH5 HQ1e HQ2e HR1c HR2c HW1 a0 a1 a2
        generalize measE ⟨iv, pts, notes⟩ = me at *
        go_wp2_with fail
        refine (spans_m me _ _ _ _ HQ1f.out HQ2f.out).mono ?_
        rintro e v7 ⟨rfl, hb⟩
        have HR1e := Lib.hid (HR1d.out.below hb)
        have HR2e := Lib.hid (HR2d.out.below hb)
        have HH7 := Lib.hid (HH6.out.up hb)
        clear hb HH6 HQ1f HQ2f HR1d HR2d
        go_wp2_with fail
        refine (ints_eq _ _ _ _ HR1e.out HR2e.out).mono ?_
        rintro e v8 ⟨rfl, hb⟩
        have HH8 := Lib.hid (HH7.out.up hb)
        clear hb HH7 HR1e HR2e
        go_wp2_with fail
        refine (awake_any _ HH8.out.T).mono ?_
        rintro e v9 ⟨rfl, hb⟩
        have HH9 := Lib.hid (HH8.out.up hb)
        clear hb HH8
        go_wp2
        go_ret
        exact ⟨rfl, HH9.out.B⟩
  · have tv : (errS ⟨iv, pts, notes⟩ == 0) = false := by simp [hv]
    rw [tv]
    clear tv hv
    go_wp2_with fail
    refine (awake_any _ HT1.out).mono ?_
    rintro e w2 ⟨rfl, hb⟩
    have HB2 := Lib.hid (HB1.out.trans (hb.mono HB1.out.size))
    clear hb
    go_wp2
    go_ret
    exact ⟨rfl, HB2.out⟩
end Go.Proofs.YteipihhpoakhpaaGreatDoor
