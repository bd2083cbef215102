/- Write of package sheet: the walk. -/
import Derived.Test.YtacmaddjpaebfaaGreatDoorWr
set_option linter.unusedSimpArgs false
set_option linter.unusedVariables false
namespace Go.Proofs.YtacmaddjpaebfaaGreatDoor
open Go Go.RowKit Hs

theorem line_in (bk : Nat) (xs : List ByteArray) (w : World) (X : List (List UInt8)) (hX : xs.map (·.data.toList) = X) (hc : ∀ (j : Nat) x, xs[j]? = some x → w.cell? ⟨bk, 0 + j, none⟩ = some (.string x)) (hbk : bk < w.heap.size) (hN : xs.length ≤ 5) (m n : Nat) (hm : m = xs.length) (hn : n = xs.length) (hlen : ∀ x, x ∈ X → x.length ≤ 25) :
    Calls Tryz.prog 82 #[.slice (some ⟨bk, 0, none⟩) m n] w fun e w' => ∃ S : ByteArray, e = .returned (.string S) ∧ Hid (S = bs (lineT X)) ∧ S.size ≤ 200 ∧ Below w.heap.size w w' := by
  subst hm hn hX
  have hl := lineT_len _ 25 hlen
  have hj := join_len _ 25 hlen
  rw [List.length_map] at hl hj
  refine (line_any bk xs.length xs w hc hbk (by omega) (Nat.le_refl _) (by omega)).mono ?_
  rintro e w' ⟨rfl, hb⟩
  exact ⟨_, rfl, rfl, by show (lineT (xs.map (·.data.toList))).toArray.size ≤ 200; simp only [List.size_toArray]; omega, hb⟩

theorem bs_append (x y : List UInt8) : bs x ++ bs y = bs (x ++ y) := ByteArray.mk_append_mk x y
theorem bs_size (x : List UInt8) : (bs x).size = x.length := by show x.toArray.size = _; simp

set_option maxRecDepth 100000 in
set_option maxHeartbeats 4000000 in
theorem Write_any (s : Sheet) (pv nv : Value) (w : World) (hS : SheetAt w.heap.size w pv nv s) (hT : Tabs w) :
    Calls Tryz.prog 36 #[.agg #[.int .i64 s.iv, pv, nv]] w fun e w' => e = .returned (.tuple #[.string (bs (writeS s)), .int .i64 (errS s)]) ∧ Below w.heap.size w w' := by
  obtain ⟨iv, pts, notes⟩ := s
  obtain ⟨hP, hN, hsz⟩ := id hS
  obtain ⟨lp, pa, pc, rfl, hcP⟩ := id hP
  obtain ⟨ln, na, nc, rfl, hcN⟩ := id hN
  simp only at hP hN hsz lp ln hcP hcN ⊢
  have HS := Lib.hid hS
  have HT := Lib.hid hT
  have HCP := Lib.hid hcP
  have HCN := Lib.hid hcN
  have HP := Lib.hid hP
  clear hP hN hsz hS hT hcP hcN
  have B0 : Below w.heap.size w (w.alloc (Obj.cells #[.int .i64 iv, .slice pa pts.length pc, .slice na notes.length nc] 25)) := by go_grown
  have hc := check_any ⟨iv, pts, notes⟩ (.slice pa pts.length pc) (.slice na notes.length nc) (w.alloc (Obj.cells #[.int .i64 iv, .slice pa pts.length pc, .slice na notes.length nc] 25)) ((HS.out.below B0).mono B0.size)
  have HC := Lib.hid hc
  clear hc
  go_enter Tryz.func36, Tryz.ntmps36
  go_wp2_with fail
  refine HC.out.mono ?_
  rintro e w1 ⟨rfl, hb1⟩
  have hB1 := B0.trans (hb1.mono B0.size)
  have hA := (hb1.block w.heap.size (by simp)).trans (heap_alloc_new w (Obj.cells #[.int .i64 iv, .slice pa pts.length pc, .slice na notes.length nc] 25))
  obtain ⟨p, q, r, hpq⟩ : ∃ p q r, Hid (checkS ⟨iv, pts, notes⟩ = (p, q, r)) := ⟨_, _, _, rfl⟩
  rw [hpq.out]
  have HE : Hid (errS ⟨iv, pts, notes⟩ = r) := by show _ = _; unfold errS; rw [hpq.out]
  have hlt := lt_of_block hA
  clear hb1 B0 HC
  by_cases hr : r = 0
  · have tr : (r != 0) = false := by simp [hr]
    have hv := (check_valid ⟨iv, pts, notes⟩).1 (by rw [hpq.out]; exact hr)
    have a0 := cellOf hA 0 _ rfl
    have a1 := cellOf hA 1 _ rfl
    have a2 := cellOf hA 2 _ rfl
    have hB2 : Below w.heap.size w (w1.alloc (Obj.cells #[.int .i64 iv, .slice pa pts.length pc, .slice na notes.length nc, .int .i64 0] 80)) := hB1.alloc hB1.size _
    have hL2 := heap_alloc_new w1 (Obj.cells #[.int .i64 iv, .slice pa pts.length pc, .slice na notes.length nc, .int .i64 0] 80)
    have hA2 := (Below.heap_alloc w1 (Obj.cells #[.int .i64 iv, .slice pa pts.length pc, .slice na notes.length nc, .int .i64 0] 80) _ hlt).trans hA
    have hit := itoa_any iv (w1.alloc (Obj.cells #[.int .i64 iv, .slice pa pts.length pc, .slice na notes.length nc, .int .i64 0] 80)) (by have := hv.iv1; simp only at this; omega) (by have := hv.iv2; simp only at this; omega) (HT.out.below hB2)
    have HIT := Lib.hid hit
    have HV := Lib.hid hv
    have HR := Lib.hid hr
    have HL2 := Lib.hid hL2
    have HA2 := Lib.hid hA2
    have HB2 := Lib.hid hB2
    have HW : Hid (writeS ⟨iv, pts, notes⟩ = lineT [wSheet, Lib.itoa iv] ++ ptsT pts ++ notesT pts notes) := by show _ = _; unfold writeS; rw [if_pos (HE.out.trans hr)]; rfl
    have np8 := hv.np8
    have nn12 := hv.nn
    simp only at np8 nn12
    have pI : (pts.length : Int) ≤ 8 := by omega
    have nI : (notes.length : Int) ≤ 12 := by omega
    clear hit hv hr hL2 hA2 hB2 hA
    go_wp2_with fail
    refine HIT.out.mono ?_
    rintro e w2 ⟨rfl, hb2⟩
    have hI : (Lib.itoa iv).length ≤ 21 := Lib.itoa_length_le iv (by have := HV.out.iv1; simp only at this; omega) (by have := HV.out.iv2; simp only at this; omega)
    have hl1 := newStrs 0 w2 [bs wSheet, bs (Lib.itoa iv)] (Nat.zero_le _)
    obtain ⟨bk, hbe, _, hbk, hbc⟩ := hl1
    obtain rfl : w2.heap.size = bk := by simpa using hbe
    have hl2 := line_in w2.heap.size [bs wSheet, bs (Lib.itoa iv)] (w2.alloc (.cells ([bs wSheet, bs (Lib.itoa iv)].map Value.string).toArray 9)) [wSheet, Lib.itoa iv] rfl hbc hbk (by simp) 2 2 rfl rfl (by intro x hx; simp at hx; rcases hx with rfl | rfl <;> first | decide | omega)
    have HL := Lib.hid hl2
    have hB3 := HB2.out.trans (hb2.mono HB2.out.size)
    have hL3 := (hb2.block _ (by simp)).trans HL2.out
    have hA3 := (hb2.block w.heap.size (by simp; omega)).trans HA2.out
    clear hl2 hbe hbk hbc hb2 a0 a1 a2 hI HIT
    go_wp2_with fail
    refine HL.out.mono ?_
    rintro e w4 ⟨S0, rfl, HS0, hz0, hb4⟩
    have hw2 := hB3.size
    have hL3lt := lt_of_block hL3
    have hA3lt := lt_of_block hA3
    have hb4' : Below w2.heap.size w2 w4 := ((Below.refl _ _).alloc (Nat.le_refl _) _).trans (hb4.mono (by simp))
    have hB4 := hB3.trans (hb4'.mono hB3.size)
    have hL4 := (hb4'.block _ hL3lt).trans hL3
    have hA4 := (hb4'.block _ hA3lt).trans hA3
    have b1 := cellOf hA4 1 _ rfl
    clear hb4 hb4' hL3 hA3 hB3 HL
    go_wp2_with fail
    clear b1
    have HB4 := Lib.hid hB4
    have hs4 := hB4.size
    have hL4lt := lt_of_block hL4
    have hA4lt := lt_of_block hA4
    have HL4 := Lib.hid hL4
    have HA4 := Lib.hid hA4
    clear hB4 hL4 hA4
    go_loopw [8, 32] (fun t i wr => ∃ (k : Nat) (T : ByteArray), k ≤ pts.length ∧ i = .int .i64 k ∧ t = .string T ∧ Hid (T = bs (lineT [wSheet, Lib.itoa iv] ++ ptsT (pts.take k))) ∧ T.size ≤ 200 + k * 200 ∧ Hid (Below w4.heap.size w4 wr)) (fun _ i _ => pts.length - (intOf i).toNat)
    case atStart => exact ⟨0, S0, Nat.zero_le _, rfl, rfl, by show _ = _; rw [HS0.out]; simp [ptsT], by omega, Below.refl _ _⟩
    case round =>
      obtain ⟨k, T, hk, rfl, rfl, HTT, hzT, HB⟩ := hrel
      have kI : (k : Int) ≤ 8 := by omega
      have hwr := HB.out.size
      by_cases hlt : k < pts.length
      · obtain ⟨b, o, rfl, hb, hcc⟩ := HCP.out (by intro e; simp [e] at hlt)
        have e0 := ((HB4.out.trans (HB.out.mono hs4)).cell (p := ⟨b, o + k, none⟩) hb).trans (hcc k hlt)
        have HK : Hid (ptsT (pts.take (k + 1)) = ptsT (pts.take k) ++ lineT [wPoint, pts[k].data.toList]) := ptsT_succ pts k hlt
        have hsk : pts[k].data.toList.length ≤ 16 := HV.out.name16 _ (List.getElem_mem hlt)
        clear hcc
        generalize pts[k] = s at *
        obtain ⟨bk, hbe, _, hbk, hbc⟩ := newStrs 0 wr [bs wPoint, s] (Nat.zero_le _)
        obtain rfl : wr.heap.size = bk := by simpa using hbe
        have hl := line_in wr.heap.size [bs wPoint, s] (wr.alloc (.cells ([bs wPoint, s].map Value.string).toArray 9)) [wPoint, s.data.toList] rfl hbc hbk (by simp) 2 2 rfl rfl (by intro x hx; simp at hx; rcases hx with rfl | rfl <;> first | decide | omega)
        have HLL := Lib.hid hl
        clear hl hbe hbk hbc hsk
        go_wp2_with fail
        refine HLL.out.mono ?_
        rintro e w5 ⟨S, rfl, HSS, hzS, hb5⟩
        have HB5 : Hid (Below w4.heap.size w4 w5) := HB.out.trans (((Below.refl _ _).alloc (by omega) _).trans (hb5.mono (by simp; omega)))
        have HX : Hid (T ++ S = bs (lineT [wSheet, Lib.itoa iv] ++ ptsT (pts.take (k + 1)))) := by
          show _ = _
          rw [HTT.out, HSS.out, HK.out, bs_append]
          simp only [List.append_assoc]
        have hzX : (T ++ S).size ≤ 200 + (k + 1) * 200 := by rw [ByteArray.size_append]; omega
        have HZX := Lib.hid hzX
        clear hb5 e0 hzX
        go_wp2_with fail
        go_roundw
        case rel => exact ⟨k + 1, T ++ S, by omega, by go_num, rfl, HX.out, HZX.out, HB5⟩
        case measure => simp [intOf]; omega
      · obtain rfl : k = pts.length := by omega
        have hL5 := (HB.out.block _ hL4lt).trans HL4.out
        have hA5 := (HB.out.block _ hA4lt).trans HA4.out
        have c2 := cellOf hA5 2 _ rfl
        have HT0 : Hid (T = bs (lineT [wSheet, Lib.itoa iv] ++ ptsT pts)) := by show _ = _; rw [HTT.out, List.take_of_length_le (Nat.le_refl _)]
        go_wp2_with fail
        clear c2 HTT hlt hk
        rename World => w6
        have HL6 := Lib.hid hL5
        have HB6 : Hid (Below w.heap.size w w6) := HB4.out.trans (HB.out.mono hs4)
        have hs6 := HB6.out.size
        have hL6lt := lt_of_block hL5
        clear hL5 hA5
        go_loopw [8, 45] (fun t i ws => ∃ (k : Nat) (T : ByteArray), k ≤ notes.length ∧ i = .int .i64 k ∧ t = .string T ∧ Hid (T = bs (lineT [wSheet, Lib.itoa iv] ++ ptsT pts ++ notesT pts (notes.take k))) ∧ T.size ≤ 2000 + k * 200 ∧ Hid (Below w6.heap.size w6 ws)) (fun _ i _ => notes.length - (intOf i).toNat)
        case atStart => exact ⟨0, T, Nat.zero_le _, rfl, rfl, by show _ = _; rw [HT0.out]; simp [notesT], by omega, Below.refl _ _⟩
        case round =>
          obtain ⟨k, T2, hk, rfl, rfl, HTT, hzT2, HBs⟩ := hrel
          have kI : (k : Int) ≤ 12 := by omega
          have hwr := HBs.out.size
          have hB7 := HB6.out.trans (HBs.out.mono hs6)
          by_cases hlt : k < notes.length
          · obtain ⟨b, o, rfl, hb, hcc⟩ := HCN.out (by intro e; simp [e] at hlt)
            obtain ⟨d0, d1, d2, d3, d4⟩ := hcc k hlt
            have e0 := (hB7.cell (p := ⟨b, o + k * 5, none⟩) hb).trans d0
            have e1 := (hB7.cell (p := ⟨b, o + k * 5 + 1, none⟩) hb).trans d1
            have e2 := (hB7.cell (p := ⟨b, o + k * 5 + 2, none⟩) hb).trans d2
            have e3 := (hB7.cell (p := ⟨b, o + k * 5 + 3, none⟩) hb).trans d3
            have e4 := (hB7.cell (p := ⟨b, o + k * 5 + 4, none⟩) hb).trans d4
            have HK : Hid (notesT pts (notes.take (k + 1)) = notesT pts (notes.take k) ++ lineT ((wordsB pts notes[k]).map (·.data.toList))) := notesT_succ pts notes k hlt
            have hmem : notes[k] ∈ notes := List.getElem_mem hlt
            obtain ⟨x1, x2, x3, x4, x5, x6, x7⟩ := HV.out.note _ hmem
            have HWL := Lib.hid (wordsB_len HV.out _ hmem)
            simp only at x1 x2 x3 x4 x5 x6 x7
            clear hcc d0 d1 d2 d3 d4 hmem
            generalize notes[k] = x at *
            have hL7 := (Below.heap_alloc wr (Obj.cells #[.int .i64 x.k, .int .i64 x.a, .int .i64 x.b, .int .i64 x.lo, .int .i64 x.hi] 67) _ (by omega)).trans ((HBs.out.block _ hL6lt).trans HL6.out)
            have l0 := cellOf hL7 0 _ rfl
            have l1 := cellOf hL7 1 _ rfl
            have l2 := cellOf hL7 2 _ rfl
            have l3 := cellOf hL7 3 _ rfl
            have hB8 := hB7.alloc (by omega) (Obj.cells #[.int .i64 x.k, .int .i64 x.a, .int .i64 x.b, .int .i64 x.lo, .int .i64 x.hi] 67)
            have hwd := words_any iv pts (.slice pa pts.length pc) (some ⟨b, o, none⟩) notes.length nc x (wr.alloc (Obj.cells #[.int .i64 x.k, .int .i64 x.a, .int .i64 x.b, .int .i64 x.lo, .int .i64 x.hi] 67)) x1 ((HP.out.below hB8).mono hB8.size) x2 x3 x4 x5 np8 x6 x7 (HT.out.below hB8)
            have HWD := Lib.hid hwd
            clear hwd x1 x2 x3 x4 x5 x6 x7 hB8 hL7 hB7
            go_wp2_with fail
            refine HWD.out.mono ?_
            rintro e w8 ⟨v, rfl, ⟨bk, rfl, hbk0, hbk, hbc⟩, hb8⟩
            have hl := line_in bk (wordsB pts x) w8 _ rfl hbc hbk HWL.out.1 _ _ rfl rfl HWL.out.2
            have HLL := Lib.hid hl
            clear hl hbc
            go_wp2_with fail
            refine HLL.out.mono ?_
            rintro e w9 ⟨S, rfl, HSS, hzS, hb9⟩
            have HB9 : Hid (Below w6.heap.size w6 w9) := (HBs.out.trans (((Below.refl _ _).alloc (by omega) _).trans (hb8.mono (by simp; omega)))).trans (hb9.mono (by have := hb8.size; simp at this; omega))
            have HX : Hid (T2 ++ S = bs (lineT [wSheet, Lib.itoa iv] ++ ptsT pts ++ notesT pts (notes.take (k + 1)))) := by
              show _ = _
              rw [HTT.out, HSS.out, HK.out, bs_append]
              simp only [List.append_assoc]
            have HZX : Hid ((T2 ++ S).size ≤ 2000 + (k + 1) * 200) := by show _ ≤ _; rw [ByteArray.size_append]; omega
            clear hb8 hb9 e0 e1 e2 e3 e4 l0 l1 l2 l3
            go_wp2_with fail
            go_roundw
            case rel => exact ⟨k + 1, T2 ++ S, by omega, by go_num, rfl, HX.out, HZX.out, HB9⟩
            case measure => simp [intOf]; omega
          · obtain rfl : k = notes.length := by omega
            have HX : Hid (T2 = bs (writeS ⟨iv, pts, notes⟩)) := by show _ = _; rw [HTT.out, HW.out, List.take_of_length_le (Nat.le_refl _)]
            have HB9 := Lib.hid hB7
            clear hB7
            go_wp2_with fail
            go_ret2
            exact ⟨by rw [← HX.out, HE.out, HR.out]; rfl, HB9.out⟩
  · have tr : (r != 0) = true := by simp [hr]
    have HW : Hid (writeS ⟨iv, pts, notes⟩ = []) := by show _ = _; unfold writeS; rw [if_neg (fun e => hr (HE.out.symm.trans e))]
    clear hr
    go_wp2
    go_ret2
    exact ⟨by rw [HW.out, HE.out]; rfl, hB1⟩
end Go.Proofs.YtacmaddjpaebfaaGreatDoor
