/- The statements' function Told: a sheet whose notes say what is true of some heights. Condition: the sheet that it is made from is valid. -/
import Derived.Test.YtpmnnomeaaaenaaGreatDoorToldp
import Derived.Test.YtpmnnomeaaaenaaGreatDoorLaws
import Derived.StillTailTactics
import Derived.Deep.CutRange
set_option linter.unusedSimpArgs false
set_option linter.unusedVariables false
namespace Go.Proofs.YtpmnnomeaaaenaaGreatDoor
open Go Go.RowKit Hs Fct

theorem toldL_succ (iv : Int) (pts : List ByteArray) (notes : List Note) (h : List Int) (off : List Nat) (k : Nat) (hk : k < notes.length) :
    toldL iv pts notes h off (k + 1) = if toldB iv pts h off k notes[k] then toldL iv pts notes h off k ++ [toldN iv h off k notes[k]] else toldL iv pts notes h off k := by
  rw [toldL, List.getElem?_eq_getElem hk]
/-- A row of the call's own, where what has turned lies beyond it. -/
theorem own_upto {w w' : World} {B C e size n : Nat} {v : Value} {xs : List Value} (h : w.ownsRow B e size v n xs) (hlt : ∀ k, v.ownBlock = some k → k < C) (hb : Below C w w') : w'.ownsRow B e size v n xs := by
  obtain ⟨h0, h⟩ := h
  refine ⟨h0, ?_⟩
  rcases h with h | ⟨g, cap, cur, rfl, r2, r3, r4⟩
  · exact .inl h
  · exact .inr ⟨g, cap, cur, rfl, r2, (hb.block g (hlt g rfl)).trans r3, r4⟩
def ToldP (s : Sheet) (pv : Value) (h : List Int) (off : List Nat) (w : World) (e : Ending) (w' : World) : Prop :=
  ∃ nv, e = .returned (.agg #[.int .i64 s.iv, pv, nv]) ∧ w'.ownsRow w.heap.size 67 5 nv (toldS s h off).notes.length (notesC (toldS s h off).notes) ∧ Below w.heap.size w w'

set_option maxRecDepth 100000 in
set_option maxHeartbeats 8000000 in
theorem told_any (s : Sheet) (pv nv hv ov : Value) (h : List Int) (off : List Nat) (w : World) (hS : SheetAt w.heap.size w pv nv s) (hcap : CapOk pv) (hval : ValidS s) (hH : IntsAt w hv h) (hO : U16At w ov off) (hl : h.length = s.pts.length) (hok : HtsOk h) :
    Calls Tryz.prog 43 #[.agg #[.int .i64 s.iv, pv, nv], hv, ov] w (ToldP s pv h off w) := by
  obtain ⟨i0, hi⟩ := info_of_underlying Tryz.underlying67
  have HI : Hid (i0.zero = some (.agg #[.int .i64 0, .int .i64 0, .int .i64 0, .int .i64 0, .int .i64 0]) ∧ i0.size = 5 ∧ i0.bytes = 40) := by
    have h := noteInfo
    rw [hi] at h
    simp at h
    exact h
  obtain ⟨iv, pts, notes⟩ := s
  obtain ⟨ln, na, nc, rfl, hcN⟩ := id hS.notes
  obtain ⟨lp, pa, pc, rfl, _⟩ := id hS.pts
  obtain ⟨hm, ha, hc, rfl, hcH⟩ := id hH
  obtain ⟨om, oa, oc, rfl, _⟩ := id hO
  simp only at hS hcN hl ln lp ⊢
  have np8 : pts.length ≤ 8 := hval.np8
  have np1 : 1 ≤ pts.length := hval.np1
  have iv1 : 1 ≤ iv := hval.iv1
  have iv2 : iv ≤ 1000 := hval.iv2
  have hn12 : notes.length ≤ 12 := hval.nn
  have HC := Lib.hid hcN
  have HS := Lib.hid hS
  have HV := Lib.hid hval
  have HCH := Lib.hid hcH
  have HOK := Lib.hid hok
  have HO := Lib.hid hO
  have HL := Lib.hid hl
  have ln' : (notes.length : Int) ≤ 12 := by omega
  have hI : (h.length : Int) ≤ 8 := by omega
  clear hcN hS hval hcH hok hO hl hH
  go_enter Tryz.func43, Tryz.ntmps43
  go_wp2
  have hBW : Below w.heap.size w (((w.alloc (Obj.cells #[.int .i64 iv, .slice pa pts.length pc, .slice na notes.length nc] 25)).alloc (Obj.cells #[.int .i64 0, .slice none 0 0, .slice none 0 0] 25)).alloc (Obj.cells #[.int .i64 iv, .slice pa pts.length pc, .slice none 0 0] 25)) := by go_grown
  have hA : (((w.alloc (Obj.cells #[.int .i64 iv, .slice pa pts.length pc, .slice na notes.length nc] 25)).alloc (Obj.cells #[.int .i64 0, .slice none 0 0, .slice none 0 0] 25)).alloc (Obj.cells #[.int .i64 iv, .slice pa pts.length pc, .slice none 0 0] 25)).heap[w.heap.size]? = some (.cells #[.int .i64 iv, .slice pa pts.length pc, .slice na notes.length nc] 25 (0, 0)) := (Below.heap_alloc _ _ _ (by simp; omega)).trans (heap_alloc2_old w _ _)
  have hR : (((w.alloc (Obj.cells #[.int .i64 iv, .slice pa pts.length pc, .slice na notes.length nc] 25)).alloc (Obj.cells #[.int .i64 0, .slice none 0 0, .slice none 0 0] 25)).alloc (Obj.cells #[.int .i64 iv, .slice pa pts.length pc, .slice none 0 0] 25)).heap[w.heap.size + 1]? = some (.cells #[.int .i64 0, .slice none 0 0, .slice none 0 0] 25 (0, 0)) := (Below.heap_alloc _ _ _ (by simp)).trans (heap_alloc2_new w _ _)
  have hO : (((w.alloc (Obj.cells #[.int .i64 iv, .slice pa pts.length pc, .slice na notes.length nc] 25)).alloc (Obj.cells #[.int .i64 0, .slice none 0 0, .slice none 0 0] 25)).alloc (Obj.cells #[.int .i64 iv, .slice pa pts.length pc, .slice none 0 0] 25)).heap[w.heap.size + 1 + 1]? = some (.cells #[.int .i64 iv, .slice pa pts.length pc, .slice none 0 0] 25 (0, 0)) := by
    have := heap_alloc_new ((w.alloc (Obj.cells #[.int .i64 iv, .slice pa pts.length pc, .slice na notes.length nc] 25)).alloc (Obj.cells #[.int .i64 0, .slice none 0 0, .slice none 0 0] 25)) (Obj.cells #[.int .i64 iv, .slice pa pts.length pc, .slice none 0 0] 25)
    simpa using this
  have hsz : w.heap.size + 1 + 1 + 1 ≤ (((w.alloc (Obj.cells #[.int .i64 iv, .slice pa pts.length pc, .slice na notes.length nc] 25)).alloc (Obj.cells #[.int .i64 0, .slice none 0 0, .slice none 0 0] 25)).alloc (Obj.cells #[.int .i64 iv, .slice pa pts.length pc, .slice none 0 0] 25)).heap.size := by simp
  generalize (((w.alloc (Obj.cells #[.int .i64 iv, .slice pa pts.length pc, .slice na notes.length nc] 25)).alloc (Obj.cells #[.int .i64 0, .slice none 0 0, .slice none 0 0] 25)).alloc (Obj.cells #[.int .i64 iv, .slice pa pts.length pc, .slice none 0 0] 25)) = W at *
  have HA := Lib.hid hA
  have HR := Lib.hid hR
  have HOO := Lib.hid hO
  have HB := Lib.hid hBW
  clear hA hR hO hBW
  go_loopw [8] (fun i wr => ∃ (k : Nat) (sa : Option Addr) (sc : Nat), k ≤ notes.length ∧ i = .int .i64 k ∧ Hid (wr.heap[w.heap.size + 1 + 1]? = some (.cells #[.int .i64 iv, .slice pa pts.length pc, .slice sa (toldL iv pts notes h off k).length sc] 25 (0, 0))) ∧ wr.ownsRow W.heap.size 67 5 (.slice sa (toldL iv pts notes h off k).length sc) (toldL iv pts notes h off k).length (notesC (toldL iv pts notes h off k)) ∧ Hid (Below (w.heap.size + 1 + 1) W wr)) (fun i _ => notes.length - (intOf i).toNat)
  case atStart => exact ⟨0, none, 0, Nat.zero_le _, rfl, HOO.out, World.ownsRow_nil _ _ _ _, Below.refl _ _⟩
  case round =>
    obtain ⟨k, sa, sc, hk, rfl, HOk, hown, HBk⟩ := hrel
    have hAk := (HBk.out.block w.heap.size (by omega)).trans HA.out
    have hkl := toldL_le iv pts notes h off k
    have hsr := HBk.out.size
    have HAk := Lib.hid hAk
    clear hAk
    by_cases hlt : k < notes.length
    · obtain ⟨b, o, rfl, hb, hcc⟩ := HC.out (by intro e; simp [e] at hlt)
      obtain ⟨d0, d1, d2, d3, d4⟩ := hcc k hlt
      have r2 : Below w.heap.size w wr := HB.out.trans (HBk.out.mono (by omega))
      have e0 := (r2.cell (p := ⟨b, o + k * 5, none⟩) hb).trans d0
      have e1 := (r2.cell (p := ⟨b, o + k * 5 + 1, none⟩) hb).trans d1
      have e2 := (r2.cell (p := ⟨b, o + k * 5 + 2, none⟩) hb).trans d2
      have e3 := (r2.cell (p := ⟨b, o + k * 5 + 3, none⟩) hb).trans d3
      have e4 := (r2.cell (p := ⟨b, o + k * 5 + 4, none⟩) hb).trans d4
      have HK := Lib.hid (toldL_succ iv pts notes h off k hlt)
      have hx0 := HV.out.ok notes[k] (List.getElem_mem hlt)
      have hxe := HV.out.err0 notes[k] (List.getElem_mem hlt)
      have hab : (0 ≤ notes[k].a ∧ notes[k].a ≤ (pts.length : Int) - 1) ∧ 0 ≤ notes[k].b ∧ notes[k].b ≤ (pts.length : Int) - 1 := by
        have h2 := (err_parts hxe).2.1
        simp [withinB] at h2
        omega
      have kl : (k : Int) < (notes.length : Int) := by omega
      have k12 : (k : Int) ≤ 11 := by omega
      have a2 := cellOf HAk.out 2 _ rfl
      clear hcc d0 d1 d2 d3 d4
      generalize notes[k] = x at *
      obtain ⟨kd, a, b', lo, hi'⟩ := x
      simp only at e0 e1 e2 e3 e4 hab
      obtain ⟨⟨a0, a1⟩, b0, b1⟩ := hab
      obtain ⟨an, rfl⟩ : ∃ an : Nat, a = (an : Int) := ⟨a.toNat, by omega⟩
      obtain ⟨bn, rfl⟩ : ∃ bn : Nat, b' = (bn : Int) := ⟨b'.toNat, by omega⟩
      have hal : an < h.length := by rw [HL.out]; omega
      have hbl : bn < h.length := by rw [HL.out]; omega
      have al : (an : Int) < (h.length : Int) := by omega
      have bl : (bn : Int) < (h.length : Int) := by omega
      obtain ⟨bh, oh, rfl, hdh⟩ := HCH.out (by rintro rfl; simp at hal)
      have ca := hdh an hal
      have cb := hdh bn hbl
      have lth := World.block_lt_of_cell? w _ ca
      simp only at lth
      have ca' := (r2.cell (p := ⟨bh, oh + an, none⟩) lth).trans ca
      have cb' := (r2.cell (p := ⟨bh, oh + bn, none⟩) lth).trans cb
      have hza := HOK.out.bd an
      have hzb := HOK.out.bd bn
      unfold hF at hza hzb
      have hTA : hAt h (an : Int) = h.getD an 0 := rfl
      have hTB : hAt h (bn : Int) = h.getD bn 0 := rfl
      have HTA := Lib.hid hTA
      have HTB := Lib.hid hTB
      have lt1 : bh < wr.heap.size := by omega
      clear ca cb hdh hTA hTB a1 b1
      have hBx : Below wr.heap.size wr (wr.alloc (Obj.cells #[.int .i64 kd, .int .i64 an, .int .i64 bn, .int .i64 lo, .int .i64 hi'] 67)) := (Below.refl _ _).alloc (Nat.le_refl _) _
      have HX1 := Lib.hid (heap_alloc_new wr (Obj.cells #[.int .i64 kd, .int .i64 an, .int .i64 bn, .int .i64 lo, .int .i64 hi'] 67))
      have da : decide ((an : Int) < 0) = false := by simp
      have db : decide ((bn : Int) < 0) = false := by simp
      have k24 : (2 * k : Nat) ≤ 1000 := by omega
      have q2 : Hid (((2 * k : Nat) : Int) = 2 * (k : Int)) := by show _ = _; omega
      have q3 : Hid (((2 * k + 1 : Nat) : Int) = 2 * (k : Int) + 1) := by show _ = _; omega
      have m1 : 2 * (k : Int) ≤ 22 := by omega
      have m0 : 0 ≤ 2 * (k : Int) := by omega
      have r3 := r2.trans (hBx.mono r2.size)
      have HO1 := Lib.hid (HO.out.below r3)
      have HA1 := Lib.hid ((hBx.block w.heap.size (by omega)).trans HAk.out)
      have HO1' := Lib.hid ((hBx.block (w.heap.size + 1 + 1) (by omega)).trans HOk.out)
      have hown1 := own_below hown hBx
      have HLT : Hid (∀ j, (Value.slice sa (toldL iv pts notes h off k).length sc).ownBlock = some j → j < wr.heap.size) := fun j hj => (hown.lt j hj).2
      have HB1 := Lib.hid (HBk.out.trans (hBx.mono (by omega)))
      have ca1 := (hBx.cell (p := ⟨bh, oh + an, none⟩) lt1).trans ca'
      have cb1 := (hBx.cell (p := ⟨bh, oh + bn, none⟩) lt1).trans cb'
      have hs1 : wr.heap.size < (wr.alloc (Obj.cells #[.int .i64 kd, .int .i64 an, .int .i64 bn, .int .i64 lo, .int .i64 hi'] 67)).heap.size := by simp
      have hz1 := turnS_le HO.out (2 * k)
      have hz2 := turnS_le HO.out (2 * k + 1)
      have HLS : Hid (lessS off k = ((turnS off (2 * k)) : Int) % 50) := by show _ = _; unfold lessS; omega
      have HMS : Hid (moreS off k = ((turnS off (2 * k + 1)) : Int) % 50) := by show _ = _; unfold moreS; omega
      go_wp2_with fail
      clear ca' cb' hBx HAk HOk hown HBk r2 r3 a2 e0 e1 e2 e3 e4
      have hsW : w.heap.size + 1 + 1 < wr.heap.size := by omega
      generalize wr.alloc (Obj.cells #[.int .i64 kd, .int .i64 an, .int .i64 bn, .int .i64 lo, .int .i64 hi'] 67) = w1 at *
      generalize wr.heap.size = bx at *
      have HT1 := turn_any (.slice oa off.length oc) off (2 * k) w1 HO1.out (by omega)
      have HT2 := turn_any (.slice oa off.length oc) off (2 * k + 1) w1 HO1.out (by omega)
      rw [q2.out] at HT1
      rw [q3.out] at HT2
      generalize turnS off (2 * k) = z1 at *
      generalize turnS off (2 * k + 1) = z2 at *
      have z1I : (z1 : Int) ≤ 65535 := by omega
      have z2I : (z2 : Int) ≤ 65535 := by omega
      have HT2' := Lib.hid HT2
      have l0 : 0 ≤ (z1 : Int) % 50 := by omega
      have l9 : (z1 : Int) % 50 ≤ 49 := by omega
      have l0' : 0 ≤ (z2 : Int) % 50 := by omega
      have l9' : (z2 : Int) % 50 ≤ 49 := by omega
      have x0 := cellOf HX1.out 0 _ rfl
      have x1 := cellOf HX1.out 1 _ rfl
      have x2 := cellOf HX1.out 2 _ rfl
      have f3 := frozen_of_row _ _ 3 _ _ HX1.out
      have f4 := frozen_of_row _ _ 4 _ _ HX1.out
      have x3 := cellOf HX1.out 3 _ rfl
      have x4 := cellOf HX1.out 4 _ rfl
      have p0 := cellOf HA1.out 0 _ rfl
      clear HT2
      refine HT1.mono ?_
      rintro e w' ⟨rfl, rfl⟩
      go_wp2_with fail
      refine HT2'.out.mono ?_
      rintro e w' ⟨rfl, rfl⟩
      clear HT1 HT2'
      rcases hx0.kind with e | e | e | e
      · simp only at e
        subst e
        have HKEEP : Hid (toldN iv h off k ⟨1, an, bn, lo, hi'⟩ = ⟨1, an, bn, max 0 (h.getD an 0 - (z1 : Int) % 50), min 9000 (h.getD an 0 + (z2 : Int) % 50)⟩ ∧ toldB iv pts h off k ⟨1, an, bn, lo, hi'⟩ = (errS ⟨iv, pts, [toldN iv h off k ⟨1, an, bn, lo, hi'⟩]⟩ == 0)) := ⟨by unfold toldN; rw [HLS.out, HMS.out]; rfl, by unfold toldB; simp⟩
        obtain ⟨zA, hzA⟩ : ∃ zA, h.getD an 0 = zA := ⟨_, rfl⟩
        rw [hzA] at ca1 hza HTA HKEEP
        obtain ⟨za0, za9⟩ := hza
        clear cb1 hzb hzA
        go_wp2_with fail
        go_still_tail 16, (by kernel_rfl)
        have HX2 := Lib.hid (show w1.drew.heap[bx]? = _ from HX1.out)
        have HB2 : Hid (Below bx w1 w1.drew) := (Below.refl _ _).drew
        have hs2 : bx < w1.drew.heap.size := hs1
        change wpList _ _ _ _ _ w1.drew
        generalize w1.drew = w2 at *
        go_wp2_with fail
        refine (lspan_any _ _ _).mono ?_
        rintro e w3 ⟨rfl, hb⟩
        have hX3 := (hb.block bx hs2).trans HX2.out
        have HB3 := Lib.hid (HB2.out.trans (hb.mono (Nat.le_of_lt hs2)))
        have y3 := cellOf hX3 3 _ rfl
        have y4 := cellOf hX3 4 _ rfl
        have g3 := frozen_of_row _ _ 3 _ _ hX3
        have g4 := frozen_of_row _ _ 4 _ _ hX3
        have HX3 := Lib.hid hX3
        clear hX3 HB2 HX2 hb hs2
        go_upto_region 19 with fail
        have hX9 := heap_setCell_same _ bx 4 _ _ (.int .i64 (min 9000 (zA + (z2 : Int) % 50))) (heap_setCell_same w3 bx 3 _ _ (.int .i64 (max 0 (zA - (z1 : Int) % 50))) HX3.out)
        have HX9 := Lib.hid hX9
        have HB9 := Lib.hid ((HB3.out.setCell (p := ⟨bx, 3, none⟩) (Nat.le_refl _) (.int .i64 (max 0 (zA - (z1 : Int) % 50)))).setCell (p := ⟨bx, 4, none⟩) (Nat.le_refl _) (.int .i64 (min 9000 (zA + (z2 : Int) % 50))))
        clear hX9 HX3 HB3 y3 y4 g3 g4
        generalize (w3.setCell ⟨bx, 3, none⟩ (.int .i64 (max 0 (zA - (z1 : Int) % 50)))).setCell ⟨bx, 4, none⟩ (.int .i64 (min 9000 (zA + (z2 : Int) % 50))) = w9 at *
        generalize max 0 (zA - (z1 : Int) % 50) = LO at *
        generalize min 9000 (zA + (z2 : Int) % 50) = HI' at *
        have HA9 := Lib.hid ((HB9.out.block w.heap.size (by omega)).trans HA1.out)
        have HO9 := Lib.hid ((HB9.out.block (w.heap.size + 1 + 1) (by omega)).trans HO1'.out)
        have hown9 := own_upto hown1 HLT.out HB9.out
        have HW9 := Lib.hid (HB1.out.trans (HB9.out.mono (by omega)))
        have hs9 : bx < w9.heap.size := lt_of_block HX9.out
        have HC9 := Lib.hid (HB9.out.size)
        clear HA1 HO1' hown1 HB1 HX1 x0 x1 x2 x3 x4 f3 f4 p0
        have x0 := cellOf HX9.out 0 _ rfl
        have x1 := cellOf HX9.out 1 _ rfl
        have x2 := cellOf HX9.out 2 _ rfl
        have x3 := cellOf HX9.out 3 _ rfl
        have x4 := cellOf HX9.out 4 _ rfl
        have o0 := cellOf HO9.out 0 _ rfl
        have o1 := cellOf HO9.out 1 _ rfl
        have o2 := cellOf HO9.out 2 _ rfl
        have sO : w.heap.size + 1 + 1 < w9.heap.size := by omega
        have sO' := Nat.le_of_lt sO
        have hO10 := HO9.out
        have hw10 : Below w9.heap.size w9 ((w9.alloc (Obj.cells #[.int .i64 iv, .slice pa pts.length pc, .slice (some ⟨w9.heap.size + 1, 0, none⟩) 1 1] 25)).alloc (Obj.cells #[.int .i64 1, .int .i64 an, .int .i64 bn, .int .i64 LO, .int .i64 HI'] 67)) := by go_grown
        have hn10 : ((w9.alloc (Obj.cells #[.int .i64 iv, .slice pa pts.length pc, .slice (some ⟨w9.heap.size + 1, 0, none⟩) 1 1] 25)).alloc (Obj.cells #[.int .i64 1, .int .i64 an, .int .i64 bn, .int .i64 LO, .int .i64 HI'] 67)).heap[w9.heap.size + 1]? = some (.cells #[.int .i64 1, .int .i64 an, .int .i64 bn, .int .i64 LO, .int .i64 HI'] 67 (0, 0)) := heap_alloc2_new w9 _ _
        have HW10 := Lib.hid hw10
        have HNT := Lib.hid (one_notes hn10)
        clear hO10 hw10 hn10
        go_wp2_with fail
        generalize (w9.alloc (Obj.cells #[.int .i64 iv, .slice pa pts.length pc, .slice (some ⟨w9.heap.size + 1, 0, none⟩) 1 1] 25)).alloc (Obj.cells #[.int .i64 1, .int .i64 an, .int .i64 bn, .int .i64 LO, .int .i64 HI'] 67) = w10 at *
        have HB10 := Lib.hid (HB.out.trans (((HW9.out.trans (HW10.out.mono sO')).mono (by omega)) : Below w.heap.size W w10))
        have HV10 := Lib.hid (valid_any ⟨iv, pts, [(⟨1, an, bn, LO, HI'⟩ : Note)]⟩ (.slice pa pts.length pc) (.slice (some ⟨w9.heap.size + 1, 0, none⟩) 1 1) w10 ⟨(HS.out.pts.below HB10.out).mono HB10.out.size, HNT.out, HS.out.sz⟩ hcap)
        clear HNT x0 x1 x2 x3 x4 o0 o1 o2
        refine HV10.out.mono ?_
        rintro e w11 ⟨rfl, hb⟩
        clear HV10
        have hb9 := HW10.out.trans (hb.mono HW10.out.size)
        have HX11 := Lib.hid ((hb9.block bx hs9).trans HX9.out)
        have HO11 := Lib.hid ((hb9.block _ sO).trans HO9.out)
        have hown11 := own_below hown9 hb9
        have HW11 := Lib.hid (HW9.out.trans (hb9.mono (Nat.le_of_lt sO)))
        have hs11 := HW11.out.size
        clear hb9 hb HW10 HB10 HX9 HO9 hown9 HW9 HA9
        have x0 := cellOf HX11.out 0 _ rfl
        have x1 := cellOf HX11.out 1 _ rfl
        have x2 := cellOf HX11.out 2 _ rfl
        have x3 := cellOf HX11.out 3 _ rfl
        have x4 := cellOf HX11.out 4 _ rfl
        have c2 := cellOf HO11.out 2 _ rfl
        have f2 := frozen_of_row _ _ 2 _ _ HO11.out
        obtain ⟨q, hq⟩ : ∃ q, errS ⟨iv, pts, [(⟨1, an, bn, LO, HI'⟩ : Note)]⟩ = q := ⟨_, rfl⟩
        rw [hq]
        have HQ := Lib.hid hq
        clear hq
        by_cases hq0 : q = 0
        · have tq : (q == 0) = true := by simp [hq0]
          have HT : Hid (toldL iv pts notes h off (k + 1) = toldL iv pts notes h off k ++ [(⟨1, an, bn, LO, HI'⟩ : Note)]) := by
            show _ = _
            rw [HK.out, if_pos (by rw [HKEEP.out.2, HKEEP.out.1, HQ.out, hq0]; rfl), HKEEP.out.1]
          clear hq0 HK
          have hownA := hown11.alloc (Obj.cells #[.int .i64 1, .int .i64 an, .int .i64 bn, .int .i64 LO, .int .i64 HI'] 67)
          have HBA : Hid (Below (w.heap.size + 1 + 1) W (w11.alloc (Obj.cells #[.int .i64 1, .int .i64 an, .int .i64 bn, .int .i64 LO, .int .i64 HI'] 67))) := HW11.out.alloc (by omega) _
          have HO12 := Lib.hid ((Below.heap_alloc w11 (Obj.cells #[.int .i64 1, .int .i64 an, .int .i64 bn, .int .i64 LO, .int .i64 HI'] 67) _ (lt_of_block HO11.out)).trans HO11.out)
          go_wp2_with (first
            | (at_builtin; refine wpList_append_own _ rfl _ _ 23 rfl W.heap.size 67 i0 (.agg #[.int .i64 0, .int .i64 0, .int .i64 0, .int .i64 0, .int .i64 0]) 5 40 Tryz.underlying23 hi HI.out.1 HI.out.2.1 HI.out.2.2 rfl (by decide) _ _ _ rfl hownA ⟨w11.heap.size, 0, none⟩ 1 1 (noteC (⟨1, an, bn, LO, HI'⟩ : Note)) rfl rfl ?c1 ?c2 ?c3 ?c4 ?c5 ?_))
          case c1 =>
            intro j u hj
            match j, hj with
            | 0, hj => simp [noteC] at hj; subst hj; simp [Addr.add]
            | 1, hj => simp [noteC] at hj; subst hj; simp [Addr.add]
            | 2, hj => simp [noteC] at hj; subst hj; simp [Addr.add]
            | 3, hj => simp [noteC] at hj; subst hj; simp [Addr.add]
            | 4, hj => simp [noteC] at hj; subst hj; simp [Addr.add]
            | j + 5, hj => simp [noteC] at hj
          case c2 => intro u hu; simp [noteC] at hu; rcases hu with rfl | rfl | rfl | rfl | rfl <;> rfl
          case c3 => unfold maxLen; omega
          case c4 => omega
          case c5 => simp; omega
          intro v' w12 hown12 hgrow _
          have hO1 := (hgrow.block (w.heap.size + 1 + 1) (by simp; omega) (by intro e; have := (hownA.lt _ e.symm).1; omega)).trans HO12.out
          have hB1' : Below (w.heap.size + 1 + 1) W w12 := HBA.out.grown hgrow (by simp; omega) (fun j hj => by have := (hownA.lt j hj).1; omega)
          obtain ⟨sa1, sc1, rfl⟩ := own_slice hown12
          have hown4 := own_other hown12 ⟨w.heap.size + 1 + 1, 2, none⟩ (by simp only; omega) (.slice sa1 ((toldL iv pts notes h off k).length + 1) sc1)
          have HO2 := Lib.hid (heap_setCell_same w12 (w.heap.size + 1 + 1) 2 _ _ (.slice sa1 ((toldL iv pts notes h off k).length + 1) sc1) hO1)
          have HB4 := Lib.hid (hB1'.setCell (p := ⟨w.heap.size + 1 + 1, 2, none⟩) (Nat.le_refl _) (.slice sa1 ((toldL iv pts notes h off k).length + 1) sc1))
          have g2 := cellOf hO1 2 _ rfl
          have gf := frozen_of_row _ _ 2 _ _ hO1
          have HLN : Hid ((toldL iv pts notes h off k ++ [(⟨1, an, bn, LO, HI'⟩ : Note)]).length = (toldL iv pts notes h off k).length + 1) := by show _ = _; simp
          have HNC : Hid (notesC (toldL iv pts notes h off k ++ [(⟨1, an, bn, LO, HI'⟩ : Note)]) = notesC (toldL iv pts notes h off k) ++ noteC (⟨1, an, bn, LO, HI'⟩ : Note)) := notesC_append _ _
          clear hgrow hownA hown12 hO1 hB1' HBA HO12 x0 x1 x2 x3 x4 c2 f2
          go_wp2
          go_roundw
          case rel => exact ⟨k + 1, sa1, sc1, by omega, by go_num, by rw [HT.out, HLN.out]; exact HO2.out, by rw [HT.out, HLN.out, HNC.out]; exact hown4, HB4.out⟩
          case measure => simp [intOf]; omega
        · have tq : (q == 0) = false := by simp [hq0]
          have HT : Hid (toldL iv pts notes h off (k + 1) = toldL iv pts notes h off k) := by
            show _ = _
            rw [HK.out, if_neg (by rw [HKEEP.out.2, HKEEP.out.1, HQ.out]; simp [hq0])]
          clear hq0 HK x0 x1 x2 x3 x4 c2 f2
          go_wp2
          go_roundw
          case rel => exact ⟨k + 1, sa, sc, by omega, by go_num, by rw [HT.out]; exact HO11.out, by rw [HT.out]; exact hown11, HW11.out⟩
          case measure => simp [intOf]; omega
      · simp only at e
        subst e
        have HKEEP : Hid (toldN iv h off k ⟨2, an, bn, lo, hi'⟩ = ⟨2, an, bn, h.getD an 0 / iv, h.getD an 0 / iv + 1⟩ ∧ toldB iv pts h off k ⟨2, an, bn, lo, hi'⟩ = (errS ⟨iv, pts, [toldN iv h off k ⟨2, an, bn, lo, hi'⟩]⟩ == 0)) := ⟨by unfold toldN; rfl, by unfold toldB; simp⟩
        obtain ⟨zA, hzA⟩ : ∃ zA, h.getD an 0 = zA := ⟨_, rfl⟩
        rw [hzA] at ca1 hza HTA HKEEP
        obtain ⟨za0, za9⟩ := hza
        clear cb1 hzb hzA
        have hq : (zA).tdiv iv = zA / iv := Int.tdiv_eq_ediv_of_nonneg za0
        have hq0 : 0 ≤ zA / iv := Int.ediv_nonneg za0 (by omega)
        have hq9 : zA / iv ≤ 9000 := Int.le_trans (Int.ediv_le_self _ za0) za9
        have hiv0 : (iv == 0) = false := by rw [beq_eq_false_iff_ne]; omega
        have hivn : ¬ iv = 0 := by omega
        have hivm : ¬ iv = -1 := by omega
        go_wp2_with fail
        go_still_tail 17, (by kernel_rfl)
        have HX2 := Lib.hid (show w1.drew.heap[bx]? = _ from HX1.out)
        have HB2 : Hid (Below bx w1 w1.drew) := (Below.refl _ _).drew
        have hs2 : bx < w1.drew.heap.size := hs1
        change wpList _ _ _ _ _ w1.drew
        generalize w1.drew = w2 at *
        go_wp2_with fail
        refine (lspan_any _ _ _).mono ?_
        rintro e w3 ⟨rfl, hb⟩
        have hX3 := (hb.block bx hs2).trans HX2.out
        have HB3 := Lib.hid (HB2.out.trans (hb.mono (Nat.le_of_lt hs2)))
        have y3 := cellOf hX3 3 _ rfl
        have y4 := cellOf hX3 4 _ rfl
        have g3 := frozen_of_row _ _ 3 _ _ hX3
        have g4 := frozen_of_row _ _ 4 _ _ hX3
        have HX3 := Lib.hid hX3
        clear hX3 HB2 hb
        go_upto_region 19 with fail
        have hX9 := heap_setCell_same _ bx 4 _ _ (.int .i64 (zA / iv + 1)) (heap_setCell_same w3 bx 3 _ _ (.int .i64 (zA / iv)) HX3.out)
        have HX9 := Lib.hid hX9
        have HB9 := Lib.hid ((HB3.out.setCell (p := ⟨bx, 3, none⟩) (Nat.le_refl _) (.int .i64 (zA / iv))).setCell (p := ⟨bx, 4, none⟩) (Nat.le_refl _) (.int .i64 (zA / iv + 1)))
        clear hX9 HX3 HB3 y3 y4 g3 g4
        generalize (w3.setCell ⟨bx, 3, none⟩ (.int .i64 (zA / iv))).setCell ⟨bx, 4, none⟩ (.int .i64 (zA / iv + 1)) = w9 at *
        generalize zA / iv = LO at *
        generalize LO + 1 = HI' at *
        have HA9 := Lib.hid ((HB9.out.block w.heap.size (by omega)).trans HA1.out)
        have HO9 := Lib.hid ((HB9.out.block (w.heap.size + 1 + 1) (by omega)).trans HO1'.out)
        have hown9 := own_upto hown1 HLT.out HB9.out
        have HW9 := Lib.hid (HB1.out.trans (HB9.out.mono (by omega)))
        have hs9 : bx < w9.heap.size := lt_of_block HX9.out
        have HC9 := Lib.hid (HB9.out.size)
        clear HA1 HO1' hown1 HB1 HX1 x0 x1 x2 x3 x4 f3 f4 p0
        have x0 := cellOf HX9.out 0 _ rfl
        have x1 := cellOf HX9.out 1 _ rfl
        have x2 := cellOf HX9.out 2 _ rfl
        have x3 := cellOf HX9.out 3 _ rfl
        have x4 := cellOf HX9.out 4 _ rfl
        have o0 := cellOf HO9.out 0 _ rfl
        have o1 := cellOf HO9.out 1 _ rfl
        have o2 := cellOf HO9.out 2 _ rfl
        have sO : w.heap.size + 1 + 1 < w9.heap.size := by omega
        have sO' := Nat.le_of_lt sO
        have hO10 := HO9.out
        have hw10 : Below w9.heap.size w9 ((w9.alloc (Obj.cells #[.int .i64 iv, .slice pa pts.length pc, .slice (some ⟨w9.heap.size + 1, 0, none⟩) 1 1] 25)).alloc (Obj.cells #[.int .i64 2, .int .i64 an, .int .i64 bn, .int .i64 LO, .int .i64 HI'] 67)) := by go_grown
        have hn10 : ((w9.alloc (Obj.cells #[.int .i64 iv, .slice pa pts.length pc, .slice (some ⟨w9.heap.size + 1, 0, none⟩) 1 1] 25)).alloc (Obj.cells #[.int .i64 2, .int .i64 an, .int .i64 bn, .int .i64 LO, .int .i64 HI'] 67)).heap[w9.heap.size + 1]? = some (.cells #[.int .i64 2, .int .i64 an, .int .i64 bn, .int .i64 LO, .int .i64 HI'] 67 (0, 0)) := heap_alloc2_new w9 _ _
        have HW10 := Lib.hid hw10
        have HNT := Lib.hid (one_notes hn10)
        clear hO10 hw10 hn10
        go_wp2_with fail
        generalize (w9.alloc (Obj.cells #[.int .i64 iv, .slice pa pts.length pc, .slice (some ⟨w9.heap.size + 1, 0, none⟩) 1 1] 25)).alloc (Obj.cells #[.int .i64 2, .int .i64 an, .int .i64 bn, .int .i64 LO, .int .i64 HI'] 67) = w10 at *
        have HB10 := Lib.hid (HB.out.trans (((HW9.out.trans (HW10.out.mono sO')).mono (by omega)) : Below w.heap.size W w10))
        have HV10 := Lib.hid (valid_any ⟨iv, pts, [(⟨2, an, bn, LO, HI'⟩ : Note)]⟩ (.slice pa pts.length pc) (.slice (some ⟨w9.heap.size + 1, 0, none⟩) 1 1) w10 ⟨(HS.out.pts.below HB10.out).mono HB10.out.size, HNT.out, HS.out.sz⟩ hcap)
        clear HNT x0 x1 x2 x3 x4 o0 o1 o2
        refine HV10.out.mono ?_
        rintro e w11 ⟨rfl, hb⟩
        clear HV10
        have hb9 := HW10.out.trans (hb.mono HW10.out.size)
        have HX11 := Lib.hid ((hb9.block bx hs9).trans HX9.out)
        have HO11 := Lib.hid ((hb9.block _ sO).trans HO9.out)
        have hown11 := own_below hown9 hb9
        have HW11 := Lib.hid (HW9.out.trans (hb9.mono (Nat.le_of_lt sO)))
        have hs11 := HW11.out.size
        clear hb9 hb HW10 HB10 HX9 HO9 hown9 HW9 HA9
        have x0 := cellOf HX11.out 0 _ rfl
        have x1 := cellOf HX11.out 1 _ rfl
        have x2 := cellOf HX11.out 2 _ rfl
        have x3 := cellOf HX11.out 3 _ rfl
        have x4 := cellOf HX11.out 4 _ rfl
        have c2 := cellOf HO11.out 2 _ rfl
        have f2 := frozen_of_row _ _ 2 _ _ HO11.out
        obtain ⟨q, hq⟩ : ∃ q, errS ⟨iv, pts, [(⟨2, an, bn, LO, HI'⟩ : Note)]⟩ = q := ⟨_, rfl⟩
        rw [hq]
        have HQ := Lib.hid hq
        clear hq
        by_cases hq0 : q = 0
        · have tq : (q == 0) = true := by simp [hq0]
          have HT : Hid (toldL iv pts notes h off (k + 1) = toldL iv pts notes h off k ++ [(⟨2, an, bn, LO, HI'⟩ : Note)]) := by
            show _ = _
            rw [HK.out, if_pos (by rw [HKEEP.out.2, HKEEP.out.1, HQ.out, hq0]; rfl), HKEEP.out.1]
          clear hq0 HK
          have hownA := hown11.alloc (Obj.cells #[.int .i64 2, .int .i64 an, .int .i64 bn, .int .i64 LO, .int .i64 HI'] 67)
          have HBA : Hid (Below (w.heap.size + 1 + 1) W (w11.alloc (Obj.cells #[.int .i64 2, .int .i64 an, .int .i64 bn, .int .i64 LO, .int .i64 HI'] 67))) := HW11.out.alloc (by omega) _
          have HO12 := Lib.hid ((Below.heap_alloc w11 (Obj.cells #[.int .i64 2, .int .i64 an, .int .i64 bn, .int .i64 LO, .int .i64 HI'] 67) _ (lt_of_block HO11.out)).trans HO11.out)
          go_wp2_with (first
            | (at_builtin; refine wpList_append_own _ rfl _ _ 23 rfl W.heap.size 67 i0 (.agg #[.int .i64 0, .int .i64 0, .int .i64 0, .int .i64 0, .int .i64 0]) 5 40 Tryz.underlying23 hi HI.out.1 HI.out.2.1 HI.out.2.2 rfl (by decide) _ _ _ rfl hownA ⟨w11.heap.size, 0, none⟩ 1 1 (noteC (⟨2, an, bn, LO, HI'⟩ : Note)) rfl rfl ?c1 ?c2 ?c3 ?c4 ?c5 ?_))
          case c1 =>
            intro j u hj
            match j, hj with
            | 0, hj => simp [noteC] at hj; subst hj; simp [Addr.add]
            | 1, hj => simp [noteC] at hj; subst hj; simp [Addr.add]
            | 2, hj => simp [noteC] at hj; subst hj; simp [Addr.add]
            | 3, hj => simp [noteC] at hj; subst hj; simp [Addr.add]
            | 4, hj => simp [noteC] at hj; subst hj; simp [Addr.add]
            | j + 5, hj => simp [noteC] at hj
          case c2 => intro u hu; simp [noteC] at hu; rcases hu with rfl | rfl | rfl | rfl | rfl <;> rfl
          case c3 => unfold maxLen; omega
          case c4 => omega
          case c5 => simp; omega
          intro v' w12 hown12 hgrow _
          have hO1 := (hgrow.block (w.heap.size + 1 + 1) (by simp; omega) (by intro e; have := (hownA.lt _ e.symm).1; omega)).trans HO12.out
          have hB1' : Below (w.heap.size + 1 + 1) W w12 := HBA.out.grown hgrow (by simp; omega) (fun j hj => by have := (hownA.lt j hj).1; omega)
          obtain ⟨sa1, sc1, rfl⟩ := own_slice hown12
          have hown4 := own_other hown12 ⟨w.heap.size + 1 + 1, 2, none⟩ (by simp only; omega) (.slice sa1 ((toldL iv pts notes h off k).length + 1) sc1)
          have HO2 := Lib.hid (heap_setCell_same w12 (w.heap.size + 1 + 1) 2 _ _ (.slice sa1 ((toldL iv pts notes h off k).length + 1) sc1) hO1)
          have HB4 := Lib.hid (hB1'.setCell (p := ⟨w.heap.size + 1 + 1, 2, none⟩) (Nat.le_refl _) (.slice sa1 ((toldL iv pts notes h off k).length + 1) sc1))
          have g2 := cellOf hO1 2 _ rfl
          have gf := frozen_of_row _ _ 2 _ _ hO1
          have HLN : Hid ((toldL iv pts notes h off k ++ [(⟨2, an, bn, LO, HI'⟩ : Note)]).length = (toldL iv pts notes h off k).length + 1) := by show _ = _; simp
          have HNC : Hid (notesC (toldL iv pts notes h off k ++ [(⟨2, an, bn, LO, HI'⟩ : Note)]) = notesC (toldL iv pts notes h off k) ++ noteC (⟨2, an, bn, LO, HI'⟩ : Note)) := notesC_append _ _
          clear hgrow hownA hown12 hO1 hB1' HBA HO12 x0 x1 x2 x3 x4 c2 f2
          go_wp2
          go_roundw
          case rel => exact ⟨k + 1, sa1, sc1, by omega, by go_num, by rw [HT.out, HLN.out]; exact HO2.out, by rw [HT.out, HLN.out, HNC.out]; exact hown4, HB4.out⟩
          case measure => simp [intOf]; omega
        · have tq : (q == 0) = false := by simp [hq0]
          have HT : Hid (toldL iv pts notes h off (k + 1) = toldL iv pts notes h off k) := by
            show _ = _
            rw [HK.out, if_neg (by rw [HKEEP.out.2, HKEEP.out.1, HQ.out]; simp [hq0])]
          clear hq0 HK x0 x1 x2 x3 x4 c2 f2
          go_wp2
          go_roundw
          case rel => exact ⟨k + 1, sa, sc, by omega, by go_num, by rw [HT.out]; exact HO11.out, by rw [HT.out]; exact hown11, HW11.out⟩
          case measure => simp [intOf]; omega
      · simp only at e
        subst e
        obtain ⟨zA, hzA⟩ : ∃ zA, h.getD an 0 = zA := ⟨_, rfl⟩
        obtain ⟨zB, hzB⟩ : ∃ zB, h.getD bn 0 = zB := ⟨_, rfl⟩
        rw [hzA] at ca1 hza HTA
        rw [hzB] at cb1 hzb HTB
        obtain ⟨za0, za9⟩ := hza
        obtain ⟨zb0, zb9⟩ := hzb
        clear hzA hzB
        by_cases heq : zA = zB
        · have tn : (zA != zB) = false := by simp [heq]
          have HKEEP : Hid (toldN iv h off k ⟨3, an, bn, lo, hi'⟩ = ⟨3, an, bn, lo, hi'⟩ ∧ toldB iv pts h off k ⟨3, an, bn, lo, hi'⟩ = (errS ⟨iv, pts, [toldN iv h off k ⟨3, an, bn, lo, hi'⟩]⟩ == 0)) := ⟨by unfold toldN; rfl, by unfold toldB; rw [HTA.out, HTB.out]; simp [heq]⟩
          clear heq
          go_wp2_with fail
          go_quiet (fail)
          have HX9 := Lib.hid (show (w1.drewN nq).heap[bx]? = _ from HX1.out)
          have HB9 : Hid (Below bx w1 (w1.drewN nq)) := ⟨rfl, rfl, rfl, Nat.le_refl _, fun _ _ => rfl⟩
          go_upto_region 19 with fail
          generalize w1.drewN nq = w9 at *
          have HA9 := Lib.hid ((HB9.out.block w.heap.size (by omega)).trans HA1.out)
          have HO9 := Lib.hid ((HB9.out.block (w.heap.size + 1 + 1) (by omega)).trans HO1'.out)
          have hown9 := own_upto hown1 HLT.out HB9.out
          have HW9 := Lib.hid (HB1.out.trans (HB9.out.mono (by omega)))
          have hs9 : bx < w9.heap.size := lt_of_block HX9.out
          have HC9 := Lib.hid (HB9.out.size)
          clear HA1 HO1' hown1 HB1 HX1 x0 x1 x2 x3 x4 f3 f4 p0
          have x0 := cellOf HX9.out 0 _ rfl
          have x1 := cellOf HX9.out 1 _ rfl
          have x2 := cellOf HX9.out 2 _ rfl
          have x3 := cellOf HX9.out 3 _ rfl
          have x4 := cellOf HX9.out 4 _ rfl
          have o0 := cellOf HO9.out 0 _ rfl
          have o1 := cellOf HO9.out 1 _ rfl
          have o2 := cellOf HO9.out 2 _ rfl
          have sO : w.heap.size + 1 + 1 < w9.heap.size := by omega
          have sO' := Nat.le_of_lt sO
          have hO10 := HO9.out
          have hw10 : Below w9.heap.size w9 ((w9.alloc (Obj.cells #[.int .i64 iv, .slice pa pts.length pc, .slice (some ⟨w9.heap.size + 1, 0, none⟩) 1 1] 25)).alloc (Obj.cells #[.int .i64 3, .int .i64 an, .int .i64 bn, .int .i64 lo, .int .i64 hi'] 67)) := by go_grown
          have hn10 : ((w9.alloc (Obj.cells #[.int .i64 iv, .slice pa pts.length pc, .slice (some ⟨w9.heap.size + 1, 0, none⟩) 1 1] 25)).alloc (Obj.cells #[.int .i64 3, .int .i64 an, .int .i64 bn, .int .i64 lo, .int .i64 hi'] 67)).heap[w9.heap.size + 1]? = some (.cells #[.int .i64 3, .int .i64 an, .int .i64 bn, .int .i64 lo, .int .i64 hi'] 67 (0, 0)) := heap_alloc2_new w9 _ _
          have HW10 := Lib.hid hw10
          have HNT := Lib.hid (one_notes hn10)
          clear hO10 hw10 hn10
          go_wp2_with fail
          generalize (w9.alloc (Obj.cells #[.int .i64 iv, .slice pa pts.length pc, .slice (some ⟨w9.heap.size + 1, 0, none⟩) 1 1] 25)).alloc (Obj.cells #[.int .i64 3, .int .i64 an, .int .i64 bn, .int .i64 lo, .int .i64 hi'] 67) = w10 at *
          have HB10 := Lib.hid (HB.out.trans (((HW9.out.trans (HW10.out.mono sO')).mono (by omega)) : Below w.heap.size W w10))
          have HV10 := Lib.hid (valid_any ⟨iv, pts, [(⟨3, an, bn, lo, hi'⟩ : Note)]⟩ (.slice pa pts.length pc) (.slice (some ⟨w9.heap.size + 1, 0, none⟩) 1 1) w10 ⟨(HS.out.pts.below HB10.out).mono HB10.out.size, HNT.out, HS.out.sz⟩ hcap)
          clear HNT x0 x1 x2 x3 x4 o0 o1 o2
          refine HV10.out.mono ?_
          rintro e w11 ⟨rfl, hb⟩
          clear HV10
          have hb9 := HW10.out.trans (hb.mono HW10.out.size)
          have HX11 := Lib.hid ((hb9.block bx hs9).trans HX9.out)
          have HO11 := Lib.hid ((hb9.block _ sO).trans HO9.out)
          have hown11 := own_below hown9 hb9
          have HW11 := Lib.hid (HW9.out.trans (hb9.mono (Nat.le_of_lt sO)))
          have hs11 := HW11.out.size
          clear hb9 hb HW10 HB10 HX9 HO9 hown9 HW9 HA9
          have x0 := cellOf HX11.out 0 _ rfl
          have x1 := cellOf HX11.out 1 _ rfl
          have x2 := cellOf HX11.out 2 _ rfl
          have x3 := cellOf HX11.out 3 _ rfl
          have x4 := cellOf HX11.out 4 _ rfl
          have c2 := cellOf HO11.out 2 _ rfl
          have f2 := frozen_of_row _ _ 2 _ _ HO11.out
          obtain ⟨q, hq⟩ : ∃ q, errS ⟨iv, pts, [(⟨3, an, bn, lo, hi'⟩ : Note)]⟩ = q := ⟨_, rfl⟩
          rw [hq]
          have HQ := Lib.hid hq
          clear hq
          by_cases hq0 : q = 0
          · have tq : (q == 0) = true := by simp [hq0]
            have HT : Hid (toldL iv pts notes h off (k + 1) = toldL iv pts notes h off k ++ [(⟨3, an, bn, lo, hi'⟩ : Note)]) := by
              show _ = _
              rw [HK.out, if_pos (by rw [HKEEP.out.2, HKEEP.out.1, HQ.out, hq0]; rfl), HKEEP.out.1]
            clear hq0 HK
            have hownA := hown11.alloc (Obj.cells #[.int .i64 3, .int .i64 an, .int .i64 bn, .int .i64 lo, .int .i64 hi'] 67)
            have HBA : Hid (Below (w.heap.size + 1 + 1) W (w11.alloc (Obj.cells #[.int .i64 3, .int .i64 an, .int .i64 bn, .int .i64 lo, .int .i64 hi'] 67))) := HW11.out.alloc (by omega) _
            have HO12 := Lib.hid ((Below.heap_alloc w11 (Obj.cells #[.int .i64 3, .int .i64 an, .int .i64 bn, .int .i64 lo, .int .i64 hi'] 67) _ (lt_of_block HO11.out)).trans HO11.out)
            go_wp2_with (first
              | (at_builtin; refine wpList_append_own _ rfl _ _ 23 rfl W.heap.size 67 i0 (.agg #[.int .i64 0, .int .i64 0, .int .i64 0, .int .i64 0, .int .i64 0]) 5 40 Tryz.underlying23 hi HI.out.1 HI.out.2.1 HI.out.2.2 rfl (by decide) _ _ _ rfl hownA ⟨w11.heap.size, 0, none⟩ 1 1 (noteC (⟨3, an, bn, lo, hi'⟩ : Note)) rfl rfl ?c1 ?c2 ?c3 ?c4 ?c5 ?_))
            case c1 =>
              intro j u hj
              match j, hj with
              | 0, hj => simp [noteC] at hj; subst hj; simp [Addr.add]
              | 1, hj => simp [noteC] at hj; subst hj; simp [Addr.add]
              | 2, hj => simp [noteC] at hj; subst hj; simp [Addr.add]
              | 3, hj => simp [noteC] at hj; subst hj; simp [Addr.add]
              | 4, hj => simp [noteC] at hj; subst hj; simp [Addr.add]
              | j + 5, hj => simp [noteC] at hj
            case c2 => intro u hu; simp [noteC] at hu; rcases hu with rfl | rfl | rfl | rfl | rfl <;> rfl
            case c3 => unfold maxLen; omega
            case c4 => omega
            case c5 => simp; omega
            intro v' w12 hown12 hgrow _
            have hO1 := (hgrow.block (w.heap.size + 1 + 1) (by simp; omega) (by intro e; have := (hownA.lt _ e.symm).1; omega)).trans HO12.out
            have hB1' : Below (w.heap.size + 1 + 1) W w12 := HBA.out.grown hgrow (by simp; omega) (fun j hj => by have := (hownA.lt j hj).1; omega)
            obtain ⟨sa1, sc1, rfl⟩ := own_slice hown12
            have hown4 := own_other hown12 ⟨w.heap.size + 1 + 1, 2, none⟩ (by simp only; omega) (.slice sa1 ((toldL iv pts notes h off k).length + 1) sc1)
            have HO2 := Lib.hid (heap_setCell_same w12 (w.heap.size + 1 + 1) 2 _ _ (.slice sa1 ((toldL iv pts notes h off k).length + 1) sc1) hO1)
            have HB4 := Lib.hid (hB1'.setCell (p := ⟨w.heap.size + 1 + 1, 2, none⟩) (Nat.le_refl _) (.slice sa1 ((toldL iv pts notes h off k).length + 1) sc1))
            have g2 := cellOf hO1 2 _ rfl
            have gf := frozen_of_row _ _ 2 _ _ hO1
            have HLN : Hid ((toldL iv pts notes h off k ++ [(⟨3, an, bn, lo, hi'⟩ : Note)]).length = (toldL iv pts notes h off k).length + 1) := by show _ = _; simp
            have HNC : Hid (notesC (toldL iv pts notes h off k ++ [(⟨3, an, bn, lo, hi'⟩ : Note)]) = notesC (toldL iv pts notes h off k) ++ noteC (⟨3, an, bn, lo, hi'⟩ : Note)) := notesC_append _ _
            clear hgrow hownA hown12 hO1 hB1' HBA HO12 x0 x1 x2 x3 x4 c2 f2
            go_wp2
            go_roundw
            case rel => exact ⟨k + 1, sa1, sc1, by omega, by go_num, by rw [HT.out, HLN.out]; exact HO2.out, by rw [HT.out, HLN.out, HNC.out]; exact hown4, HB4.out⟩
            case measure => simp [intOf]; omega
          · have tq : (q == 0) = false := by simp [hq0]
            have HT : Hid (toldL iv pts notes h off (k + 1) = toldL iv pts notes h off k) := by
              show _ = _
              rw [HK.out, if_neg (by rw [HKEEP.out.2, HKEEP.out.1, HQ.out]; simp [hq0])]
            clear hq0 HK x0 x1 x2 x3 x4 c2 f2
            go_wp2
            go_roundw
            case rel => exact ⟨k + 1, sa, sc, by omega, by go_num, by rw [HT.out]; exact HO11.out, by rw [HT.out]; exact hown11, HW11.out⟩
            case measure => simp [intOf]; omega
        · have tn : (zA != zB) = true := by simp [heq]
          have HT : Hid (toldL iv pts notes h off (k + 1) = toldL iv pts notes h off k) := by
            show _ = _
            rw [HK.out, if_neg (by unfold toldB; rw [HTA.out, HTB.out]; simp [heq])]
          clear heq
          go_wp2_with fail
          go_quiet (fail)
          have HB9 : Below bx w1 (w1.drewN nq) := ⟨rfl, rfl, rfl, Nat.le_refl _, fun _ _ => rfl⟩
          have HO9 := Lib.hid ((HB9.block (w.heap.size + 1 + 1) (by omega)).trans HO1'.out)
          have hown9 := own_upto hown1 HLT.out HB9
          have HW9 := Lib.hid (HB1.out.trans (HB9.mono (by omega)))
          clear HB9 HX1 x0 x1 x2 x3 x4 f3 f4 p0 ca1 cb1
          go_wp2
          go_roundw
          case rel => exact ⟨k + 1, sa, sc, by omega, by go_num, by rw [HT.out]; exact HO9.out, by rw [HT.out]; exact hown9, HW9.out⟩
          case measure => simp [intOf]; omega
      · simp only at e
        subst e
        have HKEEP : Hid (toldN iv h off k ⟨4, an, bn, lo, hi'⟩ = ⟨4, an, bn, max (-9000) (h.getD an 0 - h.getD bn 0 - (z1 : Int) % 50), min 9000 (h.getD an 0 - h.getD bn 0 + (z2 : Int) % 50)⟩ ∧ toldB iv pts h off k ⟨4, an, bn, lo, hi'⟩ = (errS ⟨iv, pts, [toldN iv h off k ⟨4, an, bn, lo, hi'⟩]⟩ == 0)) := ⟨by unfold toldN; rw [HLS.out, HMS.out]; rfl, by unfold toldB; simp⟩
        obtain ⟨zA, hzA⟩ : ∃ zA, h.getD an 0 = zA := ⟨_, rfl⟩
        obtain ⟨zB, hzB⟩ : ∃ zB, h.getD bn 0 = zB := ⟨_, rfl⟩
        rw [hzA] at ca1 hza HTA HKEEP
        rw [hzB] at cb1 hzb HTB HKEEP
        obtain ⟨za0, za9⟩ := hza
        obtain ⟨zb0, zb9⟩ := hzb
        clear hzA hzB
        go_wp2_with fail
        go_quiet (fail)
        have HX2 := Lib.hid (show (w1.drewN nq).heap[bx]? = _ from HX1.out)
        have HB2 : Hid (Below bx w1 (w1.drewN nq)) := ⟨rfl, rfl, rfl, Nat.le_refl _, fun _ _ => rfl⟩
        have hs2 : bx < (w1.drewN nq).heap.size := hs1
        generalize w1.drewN nq = w2 at *
        go_wp2_with fail
        refine (lspan_any _ _ _).mono ?_
        rintro e w3 ⟨rfl, hb⟩
        have hX3 := (hb.block bx hs2).trans HX2.out
        have HB3 := Lib.hid (HB2.out.trans (hb.mono (Nat.le_of_lt hs2)))
        have y3 := cellOf hX3 3 _ rfl
        have y4 := cellOf hX3 4 _ rfl
        have g3 := frozen_of_row _ _ 3 _ _ hX3
        have g4 := frozen_of_row _ _ 4 _ _ hX3
        have HX3 := Lib.hid hX3
        clear hX3 HB2 hb
        go_upto_region 19 with fail
        have hX9 := heap_setCell_same _ bx 4 _ _ (.int .i64 (min 9000 (zA - zB + (z2 : Int) % 50))) (heap_setCell_same w3 bx 3 _ _ (.int .i64 (max (-9000) (zA - zB - (z1 : Int) % 50))) HX3.out)
        have HX9 := Lib.hid hX9
        have HB9 := Lib.hid ((HB3.out.setCell (p := ⟨bx, 3, none⟩) (Nat.le_refl _) (.int .i64 (max (-9000) (zA - zB - (z1 : Int) % 50)))).setCell (p := ⟨bx, 4, none⟩) (Nat.le_refl _) (.int .i64 (min 9000 (zA - zB + (z2 : Int) % 50))))
        clear hX9 HX3 HB3 y3 y4 g3 g4
        generalize (w3.setCell ⟨bx, 3, none⟩ (.int .i64 (max (-9000) (zA - zB - (z1 : Int) % 50)))).setCell ⟨bx, 4, none⟩ (.int .i64 (min 9000 (zA - zB + (z2 : Int) % 50))) = w9 at *
        generalize max (-9000) (zA - zB - (z1 : Int) % 50) = LO at *
        generalize min 9000 (zA - zB + (z2 : Int) % 50) = HI' at *
        have HA9 := Lib.hid ((HB9.out.block w.heap.size (by omega)).trans HA1.out)
        have HO9 := Lib.hid ((HB9.out.block (w.heap.size + 1 + 1) (by omega)).trans HO1'.out)
        have hown9 := own_upto hown1 HLT.out HB9.out
        have HW9 := Lib.hid (HB1.out.trans (HB9.out.mono (by omega)))
        have hs9 : bx < w9.heap.size := lt_of_block HX9.out
        have HC9 := Lib.hid (HB9.out.size)
        clear HA1 HO1' hown1 HB1 HX1 x0 x1 x2 x3 x4 f3 f4 p0
        have x0 := cellOf HX9.out 0 _ rfl
        have x1 := cellOf HX9.out 1 _ rfl
        have x2 := cellOf HX9.out 2 _ rfl
        have x3 := cellOf HX9.out 3 _ rfl
        have x4 := cellOf HX9.out 4 _ rfl
        have o0 := cellOf HO9.out 0 _ rfl
        have o1 := cellOf HO9.out 1 _ rfl
        have o2 := cellOf HO9.out 2 _ rfl
        have sO : w.heap.size + 1 + 1 < w9.heap.size := by omega
        have sO' := Nat.le_of_lt sO
        have hO10 := HO9.out
        have hw10 : Below w9.heap.size w9 ((w9.alloc (Obj.cells #[.int .i64 iv, .slice pa pts.length pc, .slice (some ⟨w9.heap.size + 1, 0, none⟩) 1 1] 25)).alloc (Obj.cells #[.int .i64 4, .int .i64 an, .int .i64 bn, .int .i64 LO, .int .i64 HI'] 67)) := by go_grown
        have hn10 : ((w9.alloc (Obj.cells #[.int .i64 iv, .slice pa pts.length pc, .slice (some ⟨w9.heap.size + 1, 0, none⟩) 1 1] 25)).alloc (Obj.cells #[.int .i64 4, .int .i64 an, .int .i64 bn, .int .i64 LO, .int .i64 HI'] 67)).heap[w9.heap.size + 1]? = some (.cells #[.int .i64 4, .int .i64 an, .int .i64 bn, .int .i64 LO, .int .i64 HI'] 67 (0, 0)) := heap_alloc2_new w9 _ _
        have HW10 := Lib.hid hw10
        have HNT := Lib.hid (one_notes hn10)
        clear hO10 hw10 hn10
        go_wp2_with fail
        generalize (w9.alloc (Obj.cells #[.int .i64 iv, .slice pa pts.length pc, .slice (some ⟨w9.heap.size + 1, 0, none⟩) 1 1] 25)).alloc (Obj.cells #[.int .i64 4, .int .i64 an, .int .i64 bn, .int .i64 LO, .int .i64 HI'] 67) = w10 at *
        have HB10 := Lib.hid (HB.out.trans (((HW9.out.trans (HW10.out.mono sO')).mono (by omega)) : Below w.heap.size W w10))
        have HV10 := Lib.hid (valid_any ⟨iv, pts, [(⟨4, an, bn, LO, HI'⟩ : Note)]⟩ (.slice pa pts.length pc) (.slice (some ⟨w9.heap.size + 1, 0, none⟩) 1 1) w10 ⟨(HS.out.pts.below HB10.out).mono HB10.out.size, HNT.out, HS.out.sz⟩ hcap)
        clear HNT x0 x1 x2 x3 x4 o0 o1 o2
        refine HV10.out.mono ?_
        rintro e w11 ⟨rfl, hb⟩
        clear HV10
        have hb9 := HW10.out.trans (hb.mono HW10.out.size)
        have HX11 := Lib.hid ((hb9.block bx hs9).trans HX9.out)
        have HO11 := Lib.hid ((hb9.block _ sO).trans HO9.out)
        have hown11 := own_below hown9 hb9
        have HW11 := Lib.hid (HW9.out.trans (hb9.mono (Nat.le_of_lt sO)))
        have hs11 := HW11.out.size
        clear hb9 hb HW10 HB10 HX9 HO9 hown9 HW9 HA9
        have x0 := cellOf HX11.out 0 _ rfl
        have x1 := cellOf HX11.out 1 _ rfl
        have x2 := cellOf HX11.out 2 _ rfl
        have x3 := cellOf HX11.out 3 _ rfl
        have x4 := cellOf HX11.out 4 _ rfl
        have c2 := cellOf HO11.out 2 _ rfl
        have f2 := frozen_of_row _ _ 2 _ _ HO11.out
        obtain ⟨q, hq⟩ : ∃ q, errS ⟨iv, pts, [(⟨4, an, bn, LO, HI'⟩ : Note)]⟩ = q := ⟨_, rfl⟩
        rw [hq]
        have HQ := Lib.hid hq
        clear hq
        by_cases hq0 : q = 0
        · have tq : (q == 0) = true := by simp [hq0]
          have HT : Hid (toldL iv pts notes h off (k + 1) = toldL iv pts notes h off k ++ [(⟨4, an, bn, LO, HI'⟩ : Note)]) := by
            show _ = _
            rw [HK.out, if_pos (by rw [HKEEP.out.2, HKEEP.out.1, HQ.out, hq0]; rfl), HKEEP.out.1]
          clear hq0 HK
          have hownA := hown11.alloc (Obj.cells #[.int .i64 4, .int .i64 an, .int .i64 bn, .int .i64 LO, .int .i64 HI'] 67)
          have HBA : Hid (Below (w.heap.size + 1 + 1) W (w11.alloc (Obj.cells #[.int .i64 4, .int .i64 an, .int .i64 bn, .int .i64 LO, .int .i64 HI'] 67))) := HW11.out.alloc (by omega) _
          have HO12 := Lib.hid ((Below.heap_alloc w11 (Obj.cells #[.int .i64 4, .int .i64 an, .int .i64 bn, .int .i64 LO, .int .i64 HI'] 67) _ (lt_of_block HO11.out)).trans HO11.out)
          go_wp2_with (first
            | (at_builtin; refine wpList_append_own _ rfl _ _ 23 rfl W.heap.size 67 i0 (.agg #[.int .i64 0, .int .i64 0, .int .i64 0, .int .i64 0, .int .i64 0]) 5 40 Tryz.underlying23 hi HI.out.1 HI.out.2.1 HI.out.2.2 rfl (by decide) _ _ _ rfl hownA ⟨w11.heap.size, 0, none⟩ 1 1 (noteC (⟨4, an, bn, LO, HI'⟩ : Note)) rfl rfl ?c1 ?c2 ?c3 ?c4 ?c5 ?_))
          case c1 =>
            intro j u hj
            match j, hj with
            | 0, hj => simp [noteC] at hj; subst hj; simp [Addr.add]
            | 1, hj => simp [noteC] at hj; subst hj; simp [Addr.add]
            | 2, hj => simp [noteC] at hj; subst hj; simp [Addr.add]
            | 3, hj => simp [noteC] at hj; subst hj; simp [Addr.add]
            | 4, hj => simp [noteC] at hj; subst hj; simp [Addr.add]
            | j + 5, hj => simp [noteC] at hj
          case c2 => intro u hu; simp [noteC] at hu; rcases hu with rfl | rfl | rfl | rfl | rfl <;> rfl
          case c3 => unfold maxLen; omega
          case c4 => omega
          case c5 => simp; omega
          intro v' w12 hown12 hgrow _
          have hO1 := (hgrow.block (w.heap.size + 1 + 1) (by simp; omega) (by intro e; have := (hownA.lt _ e.symm).1; omega)).trans HO12.out
          have hB1' : Below (w.heap.size + 1 + 1) W w12 := HBA.out.grown hgrow (by simp; omega) (fun j hj => by have := (hownA.lt j hj).1; omega)
          obtain ⟨sa1, sc1, rfl⟩ := own_slice hown12
          have hown4 := own_other hown12 ⟨w.heap.size + 1 + 1, 2, none⟩ (by simp only; omega) (.slice sa1 ((toldL iv pts notes h off k).length + 1) sc1)
          have HO2 := Lib.hid (heap_setCell_same w12 (w.heap.size + 1 + 1) 2 _ _ (.slice sa1 ((toldL iv pts notes h off k).length + 1) sc1) hO1)
          have HB4 := Lib.hid (hB1'.setCell (p := ⟨w.heap.size + 1 + 1, 2, none⟩) (Nat.le_refl _) (.slice sa1 ((toldL iv pts notes h off k).length + 1) sc1))
          have g2 := cellOf hO1 2 _ rfl
          have gf := frozen_of_row _ _ 2 _ _ hO1
          have HLN : Hid ((toldL iv pts notes h off k ++ [(⟨4, an, bn, LO, HI'⟩ : Note)]).length = (toldL iv pts notes h off k).length + 1) := by show _ = _; simp
          have HNC : Hid (notesC (toldL iv pts notes h off k ++ [(⟨4, an, bn, LO, HI'⟩ : Note)]) = notesC (toldL iv pts notes h off k) ++ noteC (⟨4, an, bn, LO, HI'⟩ : Note)) := notesC_append _ _
          clear hgrow hownA hown12 hO1 hB1' HBA HO12 x0 x1 x2 x3 x4 c2 f2
          go_wp2
          go_roundw
          case rel => exact ⟨k + 1, sa1, sc1, by omega, by go_num, by rw [HT.out, HLN.out]; exact HO2.out, by rw [HT.out, HLN.out, HNC.out]; exact hown4, HB4.out⟩
          case measure => simp [intOf]; omega
        · have tq : (q == 0) = false := by simp [hq0]
          have HT : Hid (toldL iv pts notes h off (k + 1) = toldL iv pts notes h off k) := by
            show _ = _
            rw [HK.out, if_neg (by rw [HKEEP.out.2, HKEEP.out.1, HQ.out]; simp [hq0])]
          clear hq0 HK x0 x1 x2 x3 x4 c2 f2
          go_wp2
          go_roundw
          case rel => exact ⟨k + 1, sa, sc, by omega, by go_num, by rw [HT.out]; exact HO11.out, by rw [HT.out]; exact hown11, HW11.out⟩
          case measure => simp [intOf]; omega
    · have e : k = notes.length := by omega
      subst e
      have r0 := cellOf HOk.out 0 _ rfl
      have r1 := cellOf HOk.out 1 _ rfl
      have r2 := cellOf HOk.out 2 _ rfl
      have hRk := (HBk.out.block (w.heap.size + 1) (by omega)).trans HR.out
      have q0 := cellOf hRk 0 _ rfl
      have q1 := cellOf hRk 1 _ rfl
      have q2 := cellOf hRk 2 _ rfl
      have f0 := frozen_of_row _ _ 0 _ _ hRk
      have f1 := frozen_of_row _ _ 1 _ _ hRk
      have f2 := frozen_of_row _ _ 2 _ _ hRk
      have a2 := cellOf HAk.out 2 _ rfl
      have HRk := Lib.hid hRk
      have hBB := Lib.hid (HB.out.trans (HBk.out.mono (by omega)))
      clear hRk
      go_wp2_with fail
      have hC := heap_setCell_same _ (w.heap.size + 1) 2 _ _ (.slice sa (toldL iv pts notes h off notes.length).length sc) (heap_setCell_same _ (w.heap.size + 1) 1 _ _ (.slice pa pts.length pc) (heap_setCell_same _ (w.heap.size + 1) 0 _ _ (.int .i64 iv) HRk.out))
      have hO := own_other (own_other (own_other hown ⟨w.heap.size + 1, 0, none⟩ (by simp only; omega) (.int .i64 iv)) ⟨w.heap.size + 1, 1, none⟩ (by simp only; omega) (.slice pa pts.length pc)) ⟨w.heap.size + 1, 2, none⟩ (by simp only; omega) (.slice sa (toldL iv pts notes h off notes.length).length sc)
      have hBZ := ((hBB.out.setCell (p := ⟨w.heap.size + 1, 0, none⟩) (by simp) (.int .i64 iv)).setCell (p := ⟨w.heap.size + 1, 1, none⟩) (by simp) (.slice pa pts.length pc)).setCell (p := ⟨w.heap.size + 1, 2, none⟩) (by simp) (.slice sa (toldL iv pts notes h off notes.length).length sc)
      refine bodyPost_ret (results_cell_row rfl _ _ (w.heap.size + 1) 25 _ (0, 0) _ rfl hC Tryz.underlying25 rfl (by kernel_rfl)) rfl ⟨_, rfl, own_base hO (by omega), hBZ⟩
end Go.Proofs.YtpmnnomeaaaenaaGreatDoor
