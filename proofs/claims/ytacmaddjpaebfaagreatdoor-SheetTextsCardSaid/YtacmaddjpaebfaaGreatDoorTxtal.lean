/- The law SheetTexts. -/
import Derived.Test.YtacmaddjpaebfaaGreatDoorSga
import Derived.Test.YtacmaddjpaebfaaGreatDoorRndal
import Derived.Laws.Concat
import Derived.Test.YtacmaddjpaebfaaGreatDoorRowx
import Derived.Test.YtacmaddjpaebfaaGreatDoorRowy
import Derived.Deep.LoopGhost
set_option linter.unusedSimpArgs false
set_option linter.unusedVariables false
namespace Go.Proofs.YtacmaddjpaebfaaGreatDoor
open Go Go.RowKit Hs

theorem head0 (iv : Int) : ({ data := #[115, 104, 101, 101, 116, 32] } : ByteArray) ++ bs (Lib.itoa iv) ++ { data := #[10] } = bs (lineT [wSheet, Lib.itoa iv]) := by
  show bs [115, 104, 101, 101, 116, 32] ++ bs (Lib.itoa iv) ++ bs [10] = _
  rw [bs_append, bs_append]
  congr 1
  simp [lineT, Lib.join, wSheet]
theorem point1 (x : List UInt8) (p : ByteArray) : bs x ++ ({ data := #[112, 111, 105, 110, 116, 32] } : ByteArray) ++ p ++ { data := #[10] } = bs (x ++ lineT [wPoint, p.data.toList]) := by
  show bs x ++ bs [112, 111, 105, 110, 116, 32] ++ bs p.data.toList ++ bs [10] = _
  rw [bs_append, bs_append, bs_append, List.append_assoc, List.append_assoc]
  congr 2
  simp [lineT, Lib.join, wPoint]
theorem keep2b {W w w' : World} {p1 p2 : Addr} {v1 v2 : Value} (h : w.cell? p1 = some v1 ∧ w.cell? p2 = some v2 ∧ Hid (Below W.heap.size W w)) (hb : Below w.heap.size w w') :
    w'.cell? p1 = some v1 ∧ w'.cell? p2 = some v2 ∧ Hid (Below W.heap.size W w') := by
  obtain ⟨c1, c2, c7⟩ := h
  have g : ∀ {p : Addr} {v : Value}, w.cell? p = some v → w'.cell? p = some v := fun {p v} h => (hb.cell (World.block_lt_of_cell? w p h)).trans h
  exact ⟨g c1, g c2, c7.out.trans (hb.mono c7.out.size)⟩
theorem rowT {X kw L : List UInt8} {o Y SE SL SH : ByteArray} {lo hi : Int} (ho : o = bs X) (hs : ({ data := #[32] } : ByteArray) ++ SL ++ { data := #[32] } ++ SH ++ { data := #[10] } = SE) (hl : bs (Lib.itoa lo) = SL) (hh : bs (Lib.itoa hi) = SH) (hk : L = kw ++ [32]) :
    o ++ bs L ++ Y ++ SE = bs (X ++ lineT [kw, Y.data.toList, Lib.itoa lo, Lib.itoa hi]) := by
  subst ho hs hl hh hk
  show bs X ++ bs (kw ++ [32]) ++ bs Y.data.toList ++ (bs [32] ++ bs (Lib.itoa lo) ++ bs [32] ++ bs (Lib.itoa hi) ++ bs [10]) = _
  simp only [bs_append]
  congr 1
  simp [lineT, Lib.join]
theorem rowS {X kw L : List UInt8} {o Y Z SE SL SH : ByteArray} {lo hi : Int} (ho : o = bs X) (hs : ({ data := #[32] } : ByteArray) ++ SL ++ { data := #[32] } ++ SH ++ { data := #[10] } = SE) (hl : bs (Lib.itoa lo) = SL) (hh : bs (Lib.itoa hi) = SH) (hk : L = kw ++ [32]) :
    o ++ bs L ++ Y ++ { data := #[32] } ++ Z ++ SE = bs (X ++ lineT [kw, Y.data.toList, Z.data.toList, Lib.itoa lo, Lib.itoa hi]) := by
  subst ho hs hl hh hk
  show bs X ++ bs (kw ++ [32]) ++ bs Y.data.toList ++ bs [32] ++ bs Z.data.toList ++ (bs [32] ++ bs (Lib.itoa lo) ++ bs [32] ++ bs (Lib.itoa hi) ++ bs [10]) = _
  simp only [bs_append]
  congr 1
  simp [lineT, Lib.join]
theorem rowL {X kw L : List UInt8} {o Y Z : ByteArray} (ho : o = bs X) (hk : L = kw ++ [32]) :
    o ++ bs L ++ Y ++ { data := #[32] } ++ Z ++ { data := #[10] } = bs (X ++ lineT [kw, Y.data.toList, Z.data.toList]) := by
  subst ho hk
  show bs X ++ bs (kw ++ [32]) ++ bs Y.data.toList ++ bs [32] ++ bs Z.data.toList ++ bs [10] = _
  simp only [bs_append]
  congr 1
  simp [lineT, Lib.join]
/-- The head and the points. -/
def headT (s : Sheet) (k : Nat) : List UInt8 := lineT [wSheet, Lib.itoa s.iv] ++ ptsT (s.pts.take k)

set_option maxRecDepth 100000 in
set_option maxHeartbeats 4000000 in
theorem rtext_any (s : Sheet) (hv : ValidS s) (pv nv : Value) (w : World) (hS : SheetAt w.heap.size w pv nv s) :
    Calls Tryz.prog 85 #[.agg #[.int .i64 s.iv, pv, nv]] w fun e w' => e = .returned (.string (bs (writeT s))) ∧ Below w.heap.size w w' := by
  have HV := Lib.hid hv
  obtain ⟨iv, pts, notes⟩ := s
  obtain ⟨hP, hN, hsz⟩ := hS
  obtain ⟨lp, pa, pc, rfl, hpc⟩ := id hP
  obtain ⟨ln, na, nc, rfl, hnc⟩ := id hN
  have n8 : pts.length ≤ 8 := hv.np8
  have n12 : notes.length ≤ 12 := hv.nn
  have i1 : 1 ≤ iv := hv.iv1
  have i2 : iv ≤ 1000 := hv.iv2
  have H16 : Hid (∀ x, x ∈ pts → x.size ≤ 16) := fun x hx => by
    have := hv.name16 x hx
    simpa using this
  simp only at hsz ln lp hP hN
  have HW0 := Lib.hid (heap_alloc_new w (Obj.cells #[.int .i64 iv, .slice pa pts.length pc, .slice na notes.length nc] 25))
  have HB0 : Hid (Below w.heap.size w (w.alloc (Obj.cells #[.int .i64 iv, .slice pa pts.length pc, .slice na notes.length nc] 25))) := (Below.refl _ _).alloc (Nat.le_refl _) _
  have HP := Lib.hid hP
  have HN := Lib.hid hN
  have HD := Lib.hid (digits_any iv (by omega) (by omega) (w.alloc (Obj.cells #[.int .i64 iv, .slice pa pts.length pc, .slice na notes.length nc] 25)))
  have hI : (bs (Lib.itoa iv)).size ≤ 5 := by
    rw [bs_size]
    exact itoa_len (by omega) (by omega)
  obtain ⟨S, HS⟩ : ∃ S, Hid (bs (Lib.itoa iv) = S) := ⟨_, rfl⟩
  rw [HS.out] at HD hI
  clear hv hpc hnc hP hN hsz
  go_enter Tryz.func85, Tryz.ntmps85
  have c0 := cellOf HW0.out 0 _ rfl
  go_wp2_with fail
  refine HD.out.mono ?_
  rintro e w1 ⟨rfl, hb⟩
  have HW1 := Lib.hid ((hb.block w.heap.size (by have := lt_of_block HW0.out; omega)).trans HW0.out)
  have HB1 := Lib.hid (HB0.out.trans (hb.mono HB0.out.size))
  clear hb c0 HW0 HB0 HD
  go_wp2_with fail
  go_loop [3, 4] (fun ov i => ∃ (k : Nat) (o : ByteArray), k ≤ pts.length ∧ i = .int .i64 k ∧ ov = .string o ∧ Hid (o = bs (headT ⟨iv, pts, notes⟩ k)) ∧ o.size ≤ 20 + 30 * k) (fun _ i => pts.length - (intOf i).toNat)
  case atStart =>
    refine ⟨0, _, Nat.zero_le _, rfl, rfl, Lib.hid ?_, ?_⟩
    · rw [← HS.out, head0]
      simp [headT, ptsT]
    · have z1 : ({ data := #[115, 104, 101, 101, 116, 32] } : ByteArray).size = 6 := rfl
      have z2 : ({ data := #[10] } : ByteArray).size = 1 := rfl
      rw [ByteArray.size_append, ByteArray.size_append]
      omega
  case round =>
    obtain ⟨k, o, hk, rfl, rfl, HO, ho⟩ := hrel
    have c1 := cellOf HW1.out 1 _ rfl
    have kI : (k : Int) ≤ 8 := by omega
    by_cases hlt : k < pts.length
    · obtain ⟨_, _, _, e0, hc⟩ := HP.out
      cases e0
      obtain ⟨b, o2, rfl, hb, hcc⟩ := hc (by intro e; simp [e] at hlt)
      have hck := ((HB1.out.cell (p := ⟨b, o2 + k, none⟩) hb).trans (hcc k hlt))
      have h16 := H16.out _ (List.getElem_mem hlt)
      have HT : Hid (headT ⟨iv, pts, notes⟩ (k + 1) = headT ⟨iv, pts, notes⟩ k ++ lineT [wPoint, pts[k].data.toList]) := Lib.hid (by unfold headT; rw [ptsT_succ pts k hlt, List.append_assoc])
      clear hcc hc
      generalize pts[k] = y at *
      go_wp2
      go_round
      case rel =>
        refine ⟨k + 1, _, by omega, by go_num, rfl, Lib.hid (by rw [HT.out, HO.out, point1]), ?_⟩
        have z1 : ({ data := #[112, 111, 105, 110, 116, 32] } : ByteArray).size = 6 := rfl
        have z2 : ({ data := #[10] } : ByteArray).size = 1 := rfl
        rw [ByteArray.size_append, ByteArray.size_append, ByteArray.size_append]
        omega
      case measure => simp [intOf]; omega
    · obtain rfl : k = pts.length := by omega
      have HO2 : Hid (o = bs (headT ⟨iv, pts, notes⟩ pts.length ++ notesT pts (notes.take 0))) := Lib.hid (by rw [HO.out]; simp [notesT])
      have ho2 : o.size ≤ 400 := by omega
      clear hlt HO ho
      go_wp2_with fail
      clear c1
      go_loopw [3, 5] (fun ov i wr => ∃ (k : Nat) (o : ByteArray), k ≤ notes.length ∧ i = .int .i64 k ∧ ov = .string o ∧ Hid (o = bs (headT ⟨iv, pts, notes⟩ pts.length ++ notesT pts (notes.take k))) ∧ o.size ≤ 400 + 200 * k ∧ Hid (Below w1.heap.size w1 wr)) (fun _ i _ => notes.length - (intOf i).toNat)
      case atStart => exact ⟨0, _, Nat.zero_le _, rfl, rfl, HO2, by omega, Below.refl _ _⟩
      case round =>
        clear HO2 ho2
        obtain ⟨k, o, hk, rfl, rfl, HO, ho, HR⟩ := hrel
        have kI : (k : Int) ≤ 12 := by omega
        have HWR := Lib.hid ((HR.out.block w.heap.size (by have := lt_of_block HW1.out; omega)).trans HW1.out)
        have a1 := cellOf HWR.out 1 _ rfl
        have a2 := cellOf HWR.out 2 _ rfl
        by_cases hlt : k < notes.length
        · obtain ⟨_, _, _, e0, hc⟩ := HN.out
          cases e0
          obtain ⟨nb, no, rfl, hb, hcc⟩ := hc (by intro e; simp [e] at hlt)
          have hx := hcc k hlt
          have G : ∀ p v, w.cell? ⟨nb, p, none⟩ = some v → wr.cell? ⟨nb, p, none⟩ = some v := fun p v h => ((HB1.out.trans (HR.out.mono HB1.out.size)).cell (p := ⟨nb, p, none⟩) hb).trans h
          have x0 := G _ _ hx.1
          have x1 := G _ _ hx.2.1
          have x2 := G _ _ hx.2.2.1
          have x3 := G _ _ hx.2.2.2.1
          have x4 := G _ _ hx.2.2.2.2
          obtain ⟨hk4, ha0, hb0, ha, hbb, hlo, hhi⟩ := HV.out.note _ (List.getElem_mem hlt)
          have HT : Hid (notesT pts (notes.take (k + 1)) = notesT pts (notes.take k) ++ lineT ((wordsB pts notes[k]).map (·.data.toList))) := Lib.hid (notesT_succ pts notes k hlt)
          clear hcc hc hx G
          generalize notes[k] = x at *
          obtain ⟨xk, xa, xb, xl, xh⟩ := x
          simp only at hk4 ha0 hb0 ha hbb hlo hhi x0 x1 x2 x3 x4
          obtain ⟨A, rfl⟩ := Int.eq_ofNat_of_zero_le ha0
          obtain ⟨B, rfl⟩ := Int.eq_ofNat_of_zero_le hb0
          have HXB := Lib.hid (heap_alloc_new wr (Obj.cells #[.int .i64 xk, .int .i64 (A : Int), .int .i64 (B : Int), .int .i64 xl, .int .i64 xh] 67))
          have HXR : Hid (Below w1.heap.size w1 (wr.alloc (Obj.cells #[.int .i64 xk, .int .i64 (A : Int), .int .i64 (B : Int), .int .i64 xl, .int .i64 xh] 67))) := HR.out.alloc HR.out.size _
          have HDL : Hid (∀ W, Calls Tryz.prog 107 #[.int .i64 xl] W fun e w' => e = .returned (.string (bs (Lib.itoa xl))) ∧ Below W.heap.size W w') := fun W => digits_any xl (by omega) (by omega) W
          have HDH : Hid (∀ W, Calls Tryz.prog 107 #[.int .i64 xh] W fun e w' => e = .returned (.string (bs (Lib.itoa xh))) ∧ Below W.heap.size W w') := fun W => digits_any xh (by omega) (by omega) W
          have zl : (bs (Lib.itoa xl)).size ≤ 5 := by rw [bs_size]; exact itoa_len (by omega) (by omega)
          have zh : (bs (Lib.itoa xh)).size ≤ 5 := by rw [bs_size]; exact itoa_len (by omega) (by omega)
          obtain ⟨SL, HSL⟩ : ∃ S, Hid (bs (Lib.itoa xl) = S) := ⟨_, rfl⟩
          obtain ⟨SH, HSH⟩ : ∃ S, Hid (bs (Lib.itoa xh) = S) := ⟨_, rfl⟩
          rw [HSL.out] at HDL zl
          rw [HSH.out] at HDH zh
          go_wp2_with fail
          generalize wr.alloc (Obj.cells #[.int .i64 xk, .int .i64 (A : Int), .int .i64 (B : Int), .int .i64 xl, .int .i64 xh] 67) = wx at *
          have y3 := cellOf HXB.out 3 _ rfl
          have y4 := cellOf HXB.out 4 _ rfl
          clear x0 x1 x2 x3 x4 a1 a2
          have zz1 : 1 + SL.size ≤ 9223372036854775807 := by omega
          have zz2 : 1 + SL.size + 1 ≤ 9223372036854775807 := by omega
          have zz3 : 1 + SL.size + 1 + SH.size ≤ 9223372036854775807 := by omega
          have zz4 : 1 + SL.size + 1 + SH.size + 1 ≤ 9223372036854775807 := by omega
          have yy1 : ({ data := #[32] } : ByteArray).size + SL.size ≤ 9223372036854775807 := zz1
          have yy2 : (({ data := #[32] } : ByteArray) ++ SL).size + ({ data := #[32] } : ByteArray).size ≤ 9223372036854775807 := by rw [ByteArray.size_append]; exact zz2
          have yy3 : (({ data := #[32] } : ByteArray) ++ SL ++ { data := #[32] }).size + SH.size ≤ 9223372036854775807 := by rw [ByteArray.size_append, ByteArray.size_append]; exact zz3
          have yy4 : (({ data := #[32] } : ByteArray) ++ SL ++ { data := #[32] } ++ SH).size + ({ data := #[10] } : ByteArray).size ≤ 9223372036854775807 := by rw [ByteArray.size_append, ByteArray.size_append, ByteArray.size_append]; exact zz4
          have k1 : ∀ W : World, (Op.stringOp .add ({ data := #[32] } : ByteArray) SL).run Tryz.prog W = .ok (.string (({ data := #[32] } : ByteArray) ++ SL)) W := fun W => run_string_add_sum W _ _ yy1
          have k2 : ∀ W : World, (Op.stringOp .add (({ data := #[32] } : ByteArray) ++ SL) { data := #[32] }).run Tryz.prog W = .ok (.string (({ data := #[32] } : ByteArray) ++ SL ++ { data := #[32] })) W := fun W => run_string_add_sum W _ _ yy2
          have k3 : ∀ W : World, (Op.stringOp .add (({ data := #[32] } : ByteArray) ++ SL ++ { data := #[32] }) SH).run Tryz.prog W = .ok (.string (({ data := #[32] } : ByteArray) ++ SL ++ { data := #[32] } ++ SH)) W := fun W => run_string_add_sum W _ _ yy3
          have k4 : ∀ W : World, (Op.stringOp .add (({ data := #[32] } : ByteArray) ++ SL ++ { data := #[32] } ++ SH) { data := #[10] }).run Tryz.prog W = .ok (.string (({ data := #[32] } : ByteArray) ++ SL ++ { data := #[32] } ++ SH ++ { data := #[10] })) W := fun W => run_string_add_sum W _ _ yy4
          go_region_held3 (fun W' => W'.cell? ⟨wr.heap.size, 3, none⟩ = some (.int .i64 xl) ∧ W'.cell? ⟨wr.heap.size, 4, none⟩ = some (.int .i64 xh) ∧ Hid (Below wx.heap.size wx W'))
            (first | exact ⟨y3, y4, (Below.refl _ _).drew⟩ | (refine keep2b ?_ hb; assumption))
            (first
              | (go_at_call_of 107 (Value.int .i64 xl); refine (HDL.out _).mono ?_; rintro e w' ⟨rfl, hb⟩)
              | (go_at_call_of 107 (Value.int .i64 xh); refine (HDH.out _).mono ?_; rintro e w' ⟨rfl, hb⟩))
          have HWZ : Hid (Below wx.heap.size wx w') := (by assumption : w'.cell? ⟨wr.heap.size, 3, none⟩ = some (.int .i64 xl) ∧ w'.cell? ⟨wr.heap.size, 4, none⟩ = some (.int .i64 xh) ∧ Hid (Below wx.heap.size wx w')).2.2
          obtain ⟨SE, HSE⟩ : ∃ S, Hid (({ data := #[32] } : ByteArray) ++ SL ++ { data := #[32] } ++ SH ++ { data := #[10] } = S) := ⟨_, rfl⟩
          have zse : SE.size ≤ 13 := by
            have z1 : ({ data := #[32] } : ByteArray).size = 1 := rfl
            have z2 : ({ data := #[10] } : ByteArray).size = 1 := rfl
            rw [← HSE.out]
            simp only [ByteArray.size_append]
            omega
          rw [HSE.out]
          clear k1 k2 k3 k4 yy1 yy2 yy3 yy4 zz1 zz2 zz3 zz4 hb
          generalize w' = wz at *
          have HZ : Hid (Below w1.heap.size w1 wz) := HXR.out.trans (HWZ.out.mono HXR.out.size)
          have HBX := Lib.hid ((HZ.out.block w.heap.size (by have := lt_of_block HW1.out; omega)).trans HW1.out)
          have HNX := Lib.hid ((HWZ.out.block wr.heap.size (lt_of_block HXB.out)).trans HXB.out)
          have b1 := cellOf HBX.out 1 _ rfl
          have m0 := cellOf HNX.out 0 _ rfl
          have m1 := cellOf HNX.out 1 _ rfl
          have m2 := cellOf HNX.out 2 _ rfl
          have hA : A < pts.length := by omega
          have hB : B < pts.length := by omega
          obtain ⟨_, _, _, e0, hc⟩ := HP.out
          cases e0
          obtain ⟨pb, po, rfl, hpb, hcc⟩ := hc (by intro e; simp [e] at hA)
          have pA := ((HB1.out.trans (HZ.out.mono HB1.out.size)).cell (p := ⟨pb, po + A, none⟩) hpb).trans (hcc A hA)
          have pB := ((HB1.out.trans (HZ.out.mono HB1.out.size)).cell (p := ⟨pb, po + B, none⟩) hpb).trans (hcc B hB)
          have h16A := H16.out _ (List.getElem_mem hA)
          have h16B := H16.out _ (List.getElem_mem hB)
          have eA : Hid (pts.getD A default = pts[A]) := Lib.hid (by rw [List.getD_eq_getElem?_getD, List.getElem?_eq_getElem hA]; rfl)
          have eB : Hid (pts.getD B default = pts[B]) := Lib.hid (by rw [List.getD_eq_getElem?_getD, List.getElem?_eq_getElem hB]; rfl)
          obtain ⟨YA, HYA⟩ : ∃ y, Hid (pts[A] = y) := ⟨pts[A], Lib.hid rfl⟩
          obtain ⟨YB, HYB⟩ : ∃ y, Hid (pts[B] = y) := ⟨pts[B], Lib.hid rfl⟩
          rw [HYA.out] at pA h16A eA
          rw [HYB.out] at pB h16B eB
          have lA : (A : Int) < (pts.length : Int) := by omega
          have lB : (B : Int) < (pts.length : Int) := by omega
          clear HYA HYB hcc hc y3 y4 hA hB
          rcases hk4 with rfl | rfl | rfl | rfl
          · have HQ : Hid (o ++ ({ data := #[115, 112, 111, 116, 32] } : ByteArray) ++ YA ++ SE = bs (headT ⟨iv, pts, notes⟩ pts.length ++ notesT pts (notes.take (k + 1)))) := Lib.hid (by
              rw [HT.out, ← List.append_assoc]
              refine (rowT (kw := [115, 112, 111, 116]) (L := [115, 112, 111, 116, 32]) HO.out HSE.out HSL.out HSH.out rfl).trans ?_
              rw [← eA.out]
              rfl)
            go_wp2_with fail
            refine ⟨⟨k + 1, _, by omega, by go_num, rfl, HQ, ?_, HZ⟩, ?_⟩
            · have z1 : ({ data := #[115, 112, 111, 116, 32] } : ByteArray).size = 5 := rfl
              simp only [ByteArray.size_append]
              omega
            · simp [intOf]; omega
          · have HQ : Hid (o ++ ({ data := #[99, 111, 110, 116, 111, 117, 114, 32] } : ByteArray) ++ YA ++ SE = bs (headT ⟨iv, pts, notes⟩ pts.length ++ notesT pts (notes.take (k + 1)))) := Lib.hid (by
              rw [HT.out, ← List.append_assoc]
              refine (rowT (kw := [99, 111, 110, 116, 111, 117, 114]) (L := [99, 111, 110, 116, 111, 117, 114, 32]) HO.out HSE.out HSL.out HSH.out rfl).trans ?_
              rw [← eA.out]
              rfl)
            go_wp2_with fail
            refine ⟨⟨k + 1, _, by omega, by go_num, rfl, HQ, ?_, HZ⟩, ?_⟩
            · have z1 : ({ data := #[99, 111, 110, 116, 111, 117, 114, 32] } : ByteArray).size = 8 := rfl
              simp only [ByteArray.size_append]
              omega
            · simp [intOf]; omega
          · have HQ : Hid (o ++ ({ data := #[108, 97, 107, 101, 32] } : ByteArray) ++ YA ++ { data := #[32] } ++ YB ++ ({ data := #[10] } : ByteArray) = bs (headT ⟨iv, pts, notes⟩ pts.length ++ notesT pts (notes.take (k + 1)))) := Lib.hid (by
              rw [HT.out, ← List.append_assoc]
              refine (rowL (kw := [108, 97, 107, 101]) (L := [108, 97, 107, 101, 32]) HO.out rfl).trans ?_
              rw [← eA.out, ← eB.out]
              rfl)
            have z1 : ({ data := #[108, 97, 107, 101, 32] } : ByteArray).size = 5 := rfl
            have z2 : ({ data := #[32] } : ByteArray).size = 1 := rfl
            have z3 : ({ data := #[10] } : ByteArray).size = 1 := rfl
            have k1 : ∀ W : World, (Op.stringOp .add (o) ({ data := #[108, 97, 107, 101, 32] } : ByteArray)).run Tryz.prog W = .ok (.string (o ++ ({ data := #[108, 97, 107, 101, 32] } : ByteArray))) W := fun W => run_string_add_sum W _ _ (by (try simp only [ByteArray.size_append]); omega)
            have k2 : ∀ W : World, (Op.stringOp .add (o ++ ({ data := #[108, 97, 107, 101, 32] } : ByteArray)) YA).run Tryz.prog W = .ok (.string (o ++ ({ data := #[108, 97, 107, 101, 32] } : ByteArray) ++ YA)) W := fun W => run_string_add_sum W _ _ (by (try simp only [ByteArray.size_append]); omega)
            have k3 : ∀ W : World, (Op.stringOp .add (o ++ ({ data := #[108, 97, 107, 101, 32] } : ByteArray) ++ YA) ({ data := #[32] } : ByteArray)).run Tryz.prog W = .ok (.string (o ++ ({ data := #[108, 97, 107, 101, 32] } : ByteArray) ++ YA ++ ({ data := #[32] } : ByteArray))) W := fun W => run_string_add_sum W _ _ (by (try simp only [ByteArray.size_append]); omega)
            have k4 : ∀ W : World, (Op.stringOp .add (o ++ ({ data := #[108, 97, 107, 101, 32] } : ByteArray) ++ YA ++ ({ data := #[32] } : ByteArray)) YB).run Tryz.prog W = .ok (.string (o ++ ({ data := #[108, 97, 107, 101, 32] } : ByteArray) ++ YA ++ ({ data := #[32] } : ByteArray) ++ YB)) W := fun W => run_string_add_sum W _ _ (by (try simp only [ByteArray.size_append]); omega)
            have k5 : ∀ W : World, (Op.stringOp .add (o ++ ({ data := #[108, 97, 107, 101, 32] } : ByteArray) ++ YA ++ ({ data := #[32] } : ByteArray) ++ YB) ({ data := #[10] } : ByteArray)).run Tryz.prog W = .ok (.string (o ++ ({ data := #[108, 97, 107, 101, 32] } : ByteArray) ++ YA ++ ({ data := #[32] } : ByteArray) ++ YB ++ ({ data := #[10] } : ByteArray))) W := fun W => run_string_add_sum W _ _ (by (try simp only [ByteArray.size_append]); omega)
            go_wp2_with fail
            go_quiet (fail)
            clear k1 k2 k3 k4 k5
            go_wp2_with fail
            refine ⟨⟨k + 1, _, by omega, by go_num, rfl, HQ, ?_, Lib.hid (HZ.out.trans ⟨rfl, rfl, rfl, Nat.le_refl _, fun _ _ => rfl⟩)⟩, ?_⟩
            · simp only [ByteArray.size_append]
              omega
            · simp [intOf]; omega
          · have HQ : Hid (o ++ ({ data := #[115, 108, 111, 112, 101, 32] } : ByteArray) ++ YA ++ { data := #[32] } ++ YB ++ SE = bs (headT ⟨iv, pts, notes⟩ pts.length ++ notesT pts (notes.take (k + 1)))) := Lib.hid (by
              rw [HT.out, ← List.append_assoc]
              refine (rowS (kw := [115, 108, 111, 112, 101]) (L := [115, 108, 111, 112, 101, 32]) HO.out HSE.out HSL.out HSH.out rfl).trans ?_
              rw [← eA.out, ← eB.out]
              rfl)
            have z1 : ({ data := #[115, 108, 111, 112, 101, 32] } : ByteArray).size = 6 := rfl
            have z2 : ({ data := #[32] } : ByteArray).size = 1 := rfl
            have z3 : ({ data := #[10] } : ByteArray).size = 1 := rfl
            have k1 : ∀ W : World, (Op.stringOp .add (o) ({ data := #[115, 108, 111, 112, 101, 32] } : ByteArray)).run Tryz.prog W = .ok (.string (o ++ ({ data := #[115, 108, 111, 112, 101, 32] } : ByteArray))) W := fun W => run_string_add_sum W _ _ (by (try simp only [ByteArray.size_append]); omega)
            have k2 : ∀ W : World, (Op.stringOp .add (o ++ ({ data := #[115, 108, 111, 112, 101, 32] } : ByteArray)) YA).run Tryz.prog W = .ok (.string (o ++ ({ data := #[115, 108, 111, 112, 101, 32] } : ByteArray) ++ YA)) W := fun W => run_string_add_sum W _ _ (by (try simp only [ByteArray.size_append]); omega)
            have k3 : ∀ W : World, (Op.stringOp .add (o ++ ({ data := #[115, 108, 111, 112, 101, 32] } : ByteArray) ++ YA) ({ data := #[32] } : ByteArray)).run Tryz.prog W = .ok (.string (o ++ ({ data := #[115, 108, 111, 112, 101, 32] } : ByteArray) ++ YA ++ ({ data := #[32] } : ByteArray))) W := fun W => run_string_add_sum W _ _ (by (try simp only [ByteArray.size_append]); omega)
            have k4 : ∀ W : World, (Op.stringOp .add (o ++ ({ data := #[115, 108, 111, 112, 101, 32] } : ByteArray) ++ YA ++ ({ data := #[32] } : ByteArray)) YB).run Tryz.prog W = .ok (.string (o ++ ({ data := #[115, 108, 111, 112, 101, 32] } : ByteArray) ++ YA ++ ({ data := #[32] } : ByteArray) ++ YB)) W := fun W => run_string_add_sum W _ _ (by (try simp only [ByteArray.size_append]); omega)
            have k5 : ∀ W : World, (Op.stringOp .add (o ++ ({ data := #[115, 108, 111, 112, 101, 32] } : ByteArray) ++ YA ++ ({ data := #[32] } : ByteArray) ++ YB) SE).run Tryz.prog W = .ok (.string (o ++ ({ data := #[115, 108, 111, 112, 101, 32] } : ByteArray) ++ YA ++ ({ data := #[32] } : ByteArray) ++ YB ++ SE)) W := fun W => run_string_add_sum W _ _ (by (try simp only [ByteArray.size_append]); omega)
            go_wp2_with fail
            go_quiet (fail)
            clear k1 k2 k3 k4 k5
            go_wp2_with fail
            refine ⟨⟨k + 1, _, by omega, by go_num, rfl, HQ, ?_, Lib.hid (HZ.out.trans ⟨rfl, rfl, rfl, Nat.le_refl _, fun _ _ => rfl⟩)⟩, ?_⟩
            · simp only [ByteArray.size_append]
              omega
            · simp [intOf]; omega
        · obtain rfl : k = notes.length := by omega
          have HF : Hid (o = bs (writeT ⟨iv, pts, notes⟩)) := Lib.hid (by rw [HO.out]; unfold headT writeT; simp)
          clear hlt HO
          go_wp2
          go_ret
          exact ⟨by rw [← HF.out]; rfl, HB1.out.trans (HR.out.mono HB1.out.size)⟩
end Go.Proofs.YtacmaddjpaebfaaGreatDoor
namespace Go.Proofs.YtacmaddjpaebfaaGreatDoor
open Go Go.RowKit Hs

set_option maxRecDepth 100000 in
set_option maxHeartbeats 2000000 in
theorem rwrite_any (s : Sheet) (pv nv : Value) (w : World) (hS : SheetAt w.heap.size w pv nv s) (hcap : CapOk pv) :
    Calls Tryz.prog 37 #[.agg #[.int .i64 s.iv, pv, nv]] w fun e w' => e = .returned (.tuple #[.string (bs (writeS s)), .int .i64 (errS s)]) ∧ Below w.heap.size w w' := by
  obtain ⟨iv, pts, notes⟩ := s
  obtain ⟨ln, na, nc, rfl, _⟩ := id hS.notes
  obtain ⟨lp, pa, pc, rfl, _⟩ := id hS.pts
  simp only at hS ln lp ⊢
  have HB0 : Hid (Below w.heap.size w (w.alloc (Obj.cells #[.int .i64 iv, .slice pa pts.length pc, .slice na notes.length nc] 25))) := (Below.refl _ _).alloc (Nat.le_refl _) _
  have HS0 := Lib.hid ((hS.below HB0.out).mono HB0.out.size)
  have HA := Lib.hid (heap_alloc_new w (Obj.cells #[.int .i64 iv, .slice pa pts.length pc, .slice na notes.length nc] 25))
  have HCK := Lib.hid (rcheck_any ⟨iv, pts, notes⟩ _ _ (w.alloc (Obj.cells #[.int .i64 iv, .slice pa pts.length pc, .slice na notes.length nc] 25)) HS0.out hcap)
  obtain ⟨z, HZ⟩ : ∃ z, Hid ((checkS ⟨iv, pts, notes⟩).2.2 = z) := ⟨_, rfl⟩
  rw [HZ.out] at HCK
  have HZ2 : Hid (errS ⟨iv, pts, notes⟩ = z) := HZ.out
  rw [HZ2.out]
  have a0 := cellOf HA.out 0 _ rfl
  have a1 := cellOf HA.out 1 _ rfl
  have a2 := cellOf HA.out 2 _ rfl
  clear hS
  go_enter Tryz.func37, Tryz.ntmps37
  go_wp2_with fail
  refine HCK.out.mono ?_
  rintro e w1 ⟨rfl, hb⟩
  have HA1 := Lib.hid ((hb.block w.heap.size (lt_of_block HA.out)).trans HA.out)
  have HB1 := Lib.hid (HB0.out.trans (hb.mono HB0.out.size))
  have HS1 := Lib.hid ((HS0.out.below hb).mono hb.size)
  clear a0 a1 a2 hb HCK HS0 HB0 HA
  have a0 := cellOf HA1.out 0 _ rfl
  have a1 := cellOf HA1.out 1 _ rfl
  have a2 := cellOf HA1.out 2 _ rfl
  by_cases hr : z = 0
  · subst hr
    have HV := Lib.hid ((check_valid ⟨iv, pts, notes⟩).1 HZ2.out)
    have HW : Hid (writeS ⟨iv, pts, notes⟩ = writeT ⟨iv, pts, notes⟩) := Lib.hid (by unfold writeS; rw [if_pos HZ2.out])
    go_wp2_with fail
    refine (rtext_any ⟨iv, pts, notes⟩ HV.out _ _ w1 HS1.out).mono ?_
    rintro e w2 ⟨rfl, hb⟩
    have HB2 := Lib.hid (HB1.out.trans (hb.mono HB1.out.size))
    clear hb a0 a1 a2
    go_wp2
    go_ret2
    refine ⟨by rw [HW.out]; rfl, HB2.out⟩
  · have HW : Hid (writeS ⟨iv, pts, notes⟩ = []) := Lib.hid (by unfold writeS; rw [if_neg (by rw [HZ2.out]; exact hr)])
    have tz : (z != 0) = true := by simp [hr]
    clear hr
    go_wp2
    go_ret2
    refine ⟨by rw [HW.out]; rfl, HB1.out⟩
end Go.Proofs.YtacmaddjpaebfaaGreatDoor
namespace Go.Proofs.YtacmaddjpaebfaaGreatDoor
open Go Go.RowKit Hs

theorem cutL_piece (c : UInt8) (l : List UInt8) : ∀ x, x ∈ cutL c l → x.length ≤ l.length := by
  induction l with
  | nil => intro x hx; simp [cutL] at hx; subst hx; simp
  | cons y l ih =>
    intro x hx
    unfold cutL at hx
    split at hx
    · rcases List.mem_cons.1 hx with rfl | h
      · simp
      · have := ih x h; simp; omega
    · split at hx
      · simp at hx; subst hx; simp
      · rename_i z r e
        rw [e] at ih
        rcases List.mem_cons.1 hx with rfl | h
        · have := ih z (by simp); simp; omega
        · have := ih x (by simp [h]); simp; omega

/-- What row answers to words, by its plain function. -/
def RowP (iv : Int) (P : List ByteArray) (N : List Note) (ws : List (List UInt8)) (w : World) (e : Ending) (w' : World) : Prop :=
  match rowF P N ws with
  | some (P', N') => RowOk iv P' N' w e w'
  | none => RowNo w e w'
theorem rowP_some {iv : Int} {P P' : List ByteArray} {N N' : List Note} {ws : List (List UInt8)} (h : rowF P N ws = some (P', N')) {w : World} {e : Ending} {w' : World} : RowOk iv P' N' w e w' → RowP iv P N ws w e w' := by
  intro h1
  unfold RowP
  rw [h]
  exact h1
theorem rowP_none {iv : Int} {P : List ByteArray} {N : List Note} {ws : List (List UInt8)} (h : rowF P N ws = none) {w : World} {e : Ending} {w' : World} : RowNo w e w' → RowP iv P N ws w e w' := by
  intro h1
  unfold RowP
  rw [h]
  exact h1

set_option maxHeartbeats 1000000 in
theorem row_any (iv : Int) (P : List ByteArray) (N : List Note) (pv nv wv : Value) (wl : List ByteArray) (w : World) (hS : SheetAt w.heap.size w pv nv ⟨iv, P, N⟩) (hcap : CapOk pv) (hW : StrsAt w.heap.size w wv wl) (hwcap : CapOk wv)
    (hne : wl ≠ []) (hx : ∀ x, x ∈ wl → x.size ≤ 100000) (hp : P.length ≤ 10000) (hn : N.length ≤ 10000) :
    Calls Tryz.prog 92 #[.agg #[.int .i64 iv, pv, nv], wv] w (RowP iv P N (wl.map fun x : ByteArray => x.data.toList) w) := by
  rcases wl with _ | ⟨x0, _ | ⟨x1, _ | ⟨x2, r⟩⟩⟩
  · exact absurd rfl hne
  · have hf : rowF P N ([x0].map fun x : ByteArray => x.data.toList) = none := by
      unfold rowF
      rw [if_neg (by simp), if_pos (by simp)]
    exact (row_short iv P N pv nv wv x0 [] w hS hW (by simp) (.inr rfl)).mono fun _ _ h => rowP_none hf h
  · by_cases hk : x0.data.toList = [112, 111, 105, 110, 116]
    · have hf : rowF P N ([x0, x1].map fun x : ByteArray => x.data.toList) = some (P ++ [x1], N) := by
        unfold rowF
        rw [if_pos ⟨by simp, hk⟩]
        rfl
      exact (row_point iv P N pv nv wv x0 x1 w hS hW hp (hx x1 (by simp)) hk).mono fun _ _ h => rowP_some hf h
    · have hf : rowF P N ([x0, x1].map fun x : ByteArray => x.data.toList) = none := by
        unfold rowF
        rw [if_neg (fun h => hk h.2), if_pos (by simp)]
      exact (row_short iv P N pv nv wv x0 [x1] w hS hW (by simp) (.inl hk)).mono fun _ _ h => rowP_none hf h
  · have hl : ((x0 :: x1 :: x2 :: r).map fun x : ByteArray => x.data.toList).length = r.length + 3 := by simp
    have g0 : ((x0 :: x1 :: x2 :: r).map fun x : ByteArray => x.data.toList).getD 0 [] = x0.data.toList := rfl
    have g1 : ((x0 :: x1 :: x2 :: r).map fun x : ByteArray => x.data.toList).getD 1 [] = x1.data.toList := rfl
    have g2 : ((x0 :: x1 :: x2 :: r).map fun x : ByteArray => x.data.toList).getD 2 [] = x2.data.toList := rfl
    have hF : rowF P N ((x0 :: x1 :: x2 :: r).map fun x : ByteArray => x.data.toList) =
      (if x0.data.toList = wSpot then (if r.length + 3 = 4 then some (P, N ++ [⟨1, plF x1.data.toList P 0, 0, sigF x2.data.toList, sigF (((x0 :: x1 :: x2 :: r).map fun x : ByteArray => x.data.toList).getD 3 [])⟩]) else none)
      else if x0.data.toList = wContour then (if r.length + 3 = 4 then some (P, N ++ [⟨2, plF x1.data.toList P 0, 0, sigF x2.data.toList, sigF (((x0 :: x1 :: x2 :: r).map fun x : ByteArray => x.data.toList).getD 3 [])⟩]) else none)
      else if x0.data.toList = wLake then (if r.length + 3 = 3 then some (P, N ++ [⟨3, plF x1.data.toList P 0, plF x2.data.toList P 0, 0, 0⟩]) else none)
      else if x0.data.toList = wSlope then (if r.length + 3 = 5 then some (P, N ++ [⟨4, plF x1.data.toList P 0, plF x2.data.toList P 0, sigF (((x0 :: x1 :: x2 :: r).map fun x : ByteArray => x.data.toList).getD 3 []), sigF (((x0 :: x1 :: x2 :: r).map fun x : ByteArray => x.data.toList).getD 4 [])⟩]) else none)
      else none) := by
      unfold rowF
      rw [hl, g0, g1, g2, if_neg (fun h => by have := h.1; omega), if_neg (by omega)]
    by_cases k1 : x0.data.toList = wSpot
    · rw [if_pos k1] at hF
      by_cases hr : r.length = 1
      · obtain ⟨x3, rfl⟩ := List.length_eq_one_iff.1 hr
        rw [if_pos (by simp)] at hF
        exact (row_ok_spot iv P N pv nv wv x0 x1 x2 x3 w hS hW hwcap hcap hn (hx x2 (by simp)) (hx x3 (by simp)) k1).mono fun _ _ h => rowP_some hF h
      · rw [if_neg (by omega)] at hF
        exact (row_bad4 iv P N pv nv wv x0 x1 x2 r w hS hW hwcap (by rw [k1]; decide) (by rw [k1]; decide) (by rw [k1]; decide) hr).mono fun _ _ h => rowP_none hF h
    rw [if_neg k1] at hF
    by_cases k2 : x0.data.toList = wContour
    · rw [if_pos k2] at hF
      by_cases hr : r.length = 1
      · obtain ⟨x3, rfl⟩ := List.length_eq_one_iff.1 hr
        rw [if_pos (by simp)] at hF
        exact (row_ok_contour iv P N pv nv wv x0 x1 x2 x3 w hS hW hwcap hcap hn (hx x2 (by simp)) (hx x3 (by simp)) k2).mono fun _ _ h => rowP_some hF h
      · rw [if_neg (by omega)] at hF
        exact (row_bad4 iv P N pv nv wv x0 x1 x2 r w hS hW hwcap (by rw [k2]; decide) (by rw [k2]; decide) (by rw [k2]; decide) hr).mono fun _ _ h => rowP_none hF h
    rw [if_neg k2] at hF
    by_cases k3 : x0.data.toList = wLake
    · rw [if_pos k3] at hF
      by_cases hr : r.length = 0
      · obtain rfl := List.eq_nil_of_length_eq_zero hr
        rw [if_pos (by simp)] at hF
        exact (row_ok_lake iv P N pv nv wv x0 x1 x2 w hS hW hwcap hcap hn k3).mono fun _ _ h => rowP_some hF h
      · rw [if_neg (by omega)] at hF
        exact (row_badc iv P N pv nv wv x0 x1 x2 r w hS hW hwcap k3 (by omega)).mono fun _ _ h => rowP_none hF h
    rw [if_neg k3] at hF
    by_cases k4 : x0.data.toList = wSlope
    · rw [if_pos k4] at hF
      by_cases hr : r.length = 2
      · obtain ⟨x3, x4, rfl⟩ : ∃ x3 x4, r = [x3, x4] := by
          rcases r with _ | ⟨x3, _ | ⟨x4, _ | ⟨x5, r⟩⟩⟩
          · simp at hr
          · simp at hr
          · exact ⟨x3, x4, rfl⟩
          · simp at hr
        rw [if_pos (by simp)] at hF
        exact (row_ok_slope iv P N pv nv wv x0 x1 x2 x3 x4 w hS hW hwcap hcap hn (hx x3 (by simp)) (hx x4 (by simp)) k4).mono fun _ _ h => rowP_some hF h
      · rw [if_neg (by omega)] at hF
        by_cases h0 : r.length = 0
        · exact (row_bade iv P N pv nv wv x0 x1 x2 r w hS hW hwcap k4 h0).mono fun _ _ h => rowP_none hF h
        · exact (row_badd iv P N pv nv wv x0 x1 x2 r w hS hW hwcap k4 (by omega) hr).mono fun _ _ h => rowP_none hF h
    rw [if_neg k4] at hF
    by_cases k5 : x0.data.toList = [112, 111, 105, 110, 116]
    · exact (row_badp iv P N pv nv wv x0 x1 x2 r w hS hW hwcap k5).mono fun _ _ h => rowP_none hF h
    · exact (row_badn iv P N pv nv wv x0 x1 x2 r w hS hW hwcap k5 k1 k2 k3 k4).mono fun _ _ h => rowP_none hF h

/-- The sheet of a text. -/
def RdOk (t : ByteArray) (s : Sheet) : Prop := ValidS s ∧ writeT s = t.data.toList
theorem RdOk.ref {t : ByteArray} {s : Sheet} (h : RdOk t s) : refF t.data.toList = some s := by rw [← h.2]; exact ref_write h.1
theorem RdOk.one {t : ByteArray} {s s' : Sheet} (h : RdOk t s) (h' : RdOk t s') : s = s' := by
  have := h.ref
  rw [h'.ref] at this
  exact (Option.some.inj this).symm
/-- What Read of the reference answers. -/
def ReadR (t : ByteArray) (w : World) (e : Ending) (w' : World) : Prop :=
  (∃ s pv nv, RdOk t s ∧ t.size ≤ 1500 ∧ e = .returned (.tuple #[.agg #[.int .i64 s.iv, pv, nv], .int .i64 0]) ∧ SheetAt w'.heap.size w' pv nv s ∧ Below w.heap.size w w') ∨
  (1500 < t.size ∧ e = .returned (.tuple #[.agg #[.int .i64 0, .slice none 0 0, .slice none 0 0], .int .i64 3]) ∧ Below w.heap.size w w') ∨
  (t.size ≤ 1500 ∧ (¬ ∃ s, RdOk t s) ∧ e = .returned (.tuple #[.agg #[.int .i64 0, .slice none 0 0, .slice none 0 0], .int .i64 6]) ∧ Below w.heap.size w w')

theorem read_off {t : ByteArray} (h : ∀ s, RdOk t s → False) : ¬ ∃ s, RdOk t s := fun ⟨s, hs⟩ => h s hs
theorem own_slm {w : World} {base e size n : Nat} {v : Value} {xs : List Value} (h : w.ownsRow base e size v n xs) : ∃ m sa sc, m = n ∧ v = .slice sa m sc := by
  obtain ⟨sa, sc, rfl⟩ := own_slice h
  exact ⟨n, sa, sc, rfl, rfl⟩
theorem strs_ptr {n : Nat} {w : World} {v : Value} {l : List ByteArray} (h : StrsAt n w v l) (hne : l ≠ []) : ∃ b o c, v = .slice (some ⟨b, o, none⟩) l.length c ∧ b < n ∧ ∀ k (h : k < l.length), w.cell? ⟨b, o + k, none⟩ = some (.string l[k]) := by
  obtain ⟨_, a, c, rfl, h2⟩ := h
  obtain ⟨b, o, rfl, hb, hc⟩ := h2 hne
  exact ⟨b, o, c, rfl, hb, hc⟩

theorem rowF_len {P P' : List ByteArray} {N N' : List Note} {ws : List (List UInt8)} (h : rowF P N ws = some (P', N')) : P'.length ≤ P.length + 1 ∧ N'.length ≤ N.length + 1 := by
  unfold rowF at h
  repeat' split at h
  all_goals first
    | (cases h; done)
    | (simp only [Option.some.injEq, Prod.mk.injEq] at h; obtain ⟨rfl, rfl⟩ := h; simp)
theorem mid_len (L : List (List UInt8)) : (midL L).length = L.length - 2 := by
  unfold midL
  simp
  omega
theorem mid_get (L : List (List UInt8)) (j : Nat) (h1 : 1 ≤ j) (h2 : j + 1 < L.length) : (midL L).take j = (midL L).take (j - 1) ++ [cutL 32 (L[j]'(by omega))] := by
  obtain ⟨i, rfl⟩ : ∃ i, j = i + 1 := ⟨j - 1, by omega⟩
  have hl := mid_len L
  rw [Nat.add_sub_cancel, List.take_succ_eq_append_getElem (by omega)]
  congr 2
  unfold midL
  simp [List.getElem_dropLast, Nat.add_comm]
theorem keepR {W w w' : World} {b6 br q : Nat} {v0 v1 v2 v3 : Value} (h : w.cell? ⟨b6, 0, none⟩ = some v0 ∧ w.cell? ⟨b6, 1, none⟩ = some v1 ∧ w.cell? ⟨b6, 2, none⟩ = some v2 ∧ w.cell? ⟨br, q, none⟩ = some v3 ∧ Hid (Below W.heap.size W w)) (hb : Below w.heap.size w w') :
    w'.cell? ⟨b6, 0, none⟩ = some v0 ∧ w'.cell? ⟨b6, 1, none⟩ = some v1 ∧ w'.cell? ⟨b6, 2, none⟩ = some v2 ∧ w'.cell? ⟨br, q, none⟩ = some v3 ∧ Hid (Below W.heap.size W w') := by
  obtain ⟨h0, h1, h2, h3, h4⟩ := h
  have l6 := World.block_lt_of_cell? w ⟨b6, 0, none⟩ h0
  have lr := World.block_lt_of_cell? w ⟨br, q, none⟩ h3
  exact ⟨(hb.cell (p := ⟨b6, 0, none⟩) l6).trans h0, (hb.cell (p := ⟨b6, 1, none⟩) l6).trans h1, (hb.cell (p := ⟨b6, 2, none⟩) l6).trans h2, (hb.cell (p := ⟨br, q, none⟩) lr).trans h3, h4.out.trans (hb.mono h4.out.size)⟩
theorem keepB {W w w' : World} {b6 br q : Nat} {v0 v1 v2 v3 : Value} (h : w.cell? ⟨b6, 0, none⟩ = some v0 ∧ w.cell? ⟨b6, 1, none⟩ = some v1 ∧ w.cell? ⟨b6, 2, none⟩ = some v2 ∧ w.cell? ⟨br, q, none⟩ = some v3 ∧ Hid (Below W.heap.size W w)) (l6 : b6 < W.heap.size) (lr : br < W.heap.size) (hb : Below W.heap.size w w') :
    w'.cell? ⟨b6, 0, none⟩ = some v0 ∧ w'.cell? ⟨b6, 1, none⟩ = some v1 ∧ w'.cell? ⟨b6, 2, none⟩ = some v2 ∧ w'.cell? ⟨br, q, none⟩ = some v3 ∧ Hid (Below W.heap.size W w') := by
  obtain ⟨h0, h1, h2, h3, h4⟩ := h
  exact ⟨(hb.cell (p := ⟨b6, 0, none⟩) l6).trans h0, (hb.cell (p := ⟨b6, 1, none⟩) l6).trans h1, (hb.cell (p := ⟨b6, 2, none⟩) l6).trans h2, (hb.cell (p := ⟨br, q, none⟩) lr).trans h3, h4.out.trans hb⟩
theorem below_realloc {B : Nat} {w : World} {o o' : Obj} (h : B ≤ w.heap.size) : Below B (w.alloc o) (w.alloc o') :=
  ⟨rfl, rfl, rfl, by simp, fun k hk => (Below.heap_alloc w o' k (by omega)).trans (Below.heap_alloc w o k (by omega)).symm⟩
theorem sheet_off {w w' : World} {g : Nat} {a : Int} {a1 a2 : Option Addr} {n1 c1 n2 c2 : Nat} {T : TypeId} {pv nv : Value} {s : Sheet} (hz : w.heap[g]? = some (.cells #[.int .i64 a, .slice a1 n1 c1, .slice a2 n2 c2] T (0, 0)))
    (hk : ∀ b o, b ≠ g → w'.cell? ⟨b, o, none⟩ = w.cell? ⟨b, o, none⟩) (hs : w'.heap.size = w.heap.size) (h : SheetAt w.heap.size w pv nv s) : SheetAt w'.heap.size w' pv nv s := by
  obtain ⟨⟨p1, pa, pc, rfl, p2⟩, ⟨n1, na, nc, rfl, n2⟩, hsz⟩ := h
  have key : ∀ o, w.cell? ⟨g, o, none⟩ = (#[.int .i64 a, .slice a1 _ c1, .slice a2 _ c2] : Array Value)[o]? := fun o => by
    unfold World.cell?
    rw [hz]
    rfl
  refine ⟨⟨p1, pa, pc, rfl, fun hne => ?_⟩, ⟨n1, na, nc, rfl, fun hne => ?_⟩, hsz⟩
  · obtain ⟨b, o, e, hb, hc⟩ := p2 hne
    have hpos : 0 < s.pts.length := List.length_pos_iff.2 hne
    have hbg : b ≠ g := by
      rintro rfl
      have h0 := hc 0 hpos
      rw [key, Nat.add_zero] at h0
      rcases o with _ | _ | _ | o <;> simp at h0
    exact ⟨b, o, e, by rw [hs]; exact hb, fun k hk' => (hk b (o + k) hbg).trans (hc k hk')⟩
  · obtain ⟨b, o, e, hb, hc⟩ := n2 hne
    have hpos : 0 < s.notes.length := List.length_pos_iff.2 hne
    have hbg : b ≠ g := by
      rintro rfl
      obtain ⟨_, _, _, _, h4⟩ := hc 0 hpos
      rw [key] at h4
      simp at h4
    exact ⟨b, o, e, by rw [hs]; exact hb, fun k hk' => by
      obtain ⟨h0, h1, h2, h3, h4⟩ := hc k hk'
      exact ⟨(hk b _ hbg).trans h0, (hk b _ hbg).trans h1, (hk b _ hbg).trans h2, (hk b _ hbg).trans h3, (hk b _ hbg).trans h4⟩⟩
theorem sheet_off3 {w : World} {g : Nat} {a : Int} {a1 a2 : Option Addr} {n1 c1 n2 c2 : Nat} {T : TypeId} {pv nv x y z : Value} {s : Sheet} (hz : w.heap[g]? = some (.cells #[.int .i64 a, .slice a1 n1 c1, .slice a2 n2 c2] T (0, 0)))
    (h : SheetAt w.heap.size w pv nv s) : SheetAt (((w.setCell ⟨g, 0, none⟩ x).setCell ⟨g, 1, none⟩ y).setCell ⟨g, 2, none⟩ z).heap.size (((w.setCell ⟨g, 0, none⟩ x).setCell ⟨g, 1, none⟩ y).setCell ⟨g, 2, none⟩ z) pv nv s :=
  sheet_off hz (fun b o hb => (World.cell?_of_block (w := _) (Below.heap_setCell _ _ _ _ hb)).trans ((World.cell?_of_block (w := _) (Below.heap_setCell _ _ _ _ hb)).trans (World.cell?_of_block (w := _) (Below.heap_setCell _ _ _ _ hb)))) (by simp) h
theorem al_drew {W w4 : World} {o : Obj} (hb : Below (W.alloc o).drew.heap.size (W.alloc o).drew w4) : w4.heap[W.heap.size]? = some o := (hb.block W.heap.size (by simp)).trans (heap_alloc_new W o)
theorem al_plain {W w4 : World} {o : Obj} (hb : Below (W.alloc o).heap.size (W.alloc o) w4) : w4.heap[W.heap.size]? = some o := (hb.block W.heap.size (by simp)).trans (heap_alloc_new W o)
/-- What stands at the head of a round. -/
structure RdL (L : List (List UInt8)) (iv : Int) (b6 : Nat) (w2 : World) (j : Nat) (P : List ByteArray) (N : List Note) (pa : Option Addr) (pc : Nat) (na : Option Addr) (nc : Nat) (wr : World) : Prop where
  rows : rowsF [] [] ((midL L).take (j - 1)) = some (P, N)
  box : wr.heap[b6]? = some (.cells #[.int .i64 iv, .slice pa P.length pc, .slice na N.length nc] 25 (0, 0))
  sh : SheetAt wr.heap.size wr (.slice pa P.length pc) (.slice na N.length nc) ⟨iv, P, N⟩
  cap : CapOk (.slice pa P.length pc)
  pl : P.length ≤ j
  nl : N.length ≤ j
  b : Below w2.heap.size w2 wr
/-- What row has answered in a round. -/
def RdOn (iv : Int) (P : List ByteArray) (N : List Note) (v8 v9 : Value) (w0 w : World) : Prop :=
  ∃ bq pa pc na nc, v8 = .pointer (some ⟨bq, 0, none⟩) ∧ v9 = .bool true ∧ w0.heap.size ≤ bq ∧ w.heap[bq]? = some (.cells #[.int .i64 iv, .slice pa P.length pc, .slice na N.length nc] 25 (0, 0)) ∧
    SheetAt w.heap.size w (.slice pa P.length pc) (.slice na N.length nc) ⟨iv, P, N⟩ ∧ CapOk (.slice pa P.length pc) ∧ Below w0.heap.size w0 w
def RdOff (v9 : Value) (w0 w : World) : Prop := v9 = .bool false ∧ Below w0.heap.size w0 w

set_option maxRecDepth 100000 in
set_option maxHeartbeats 2000000 in
theorem rread_long (t : ByteArray) (w : World) (hz : 1500 < t.size) (hz2 : t.size ≤ 140737488351232) : Calls Tryz.prog 39 #[.string t] w (ReadR t w) := by
  have hzI : (1500 : Int) < (t.size : Int) := by omega
  have hzJ : (t.size : Int) ≤ 140737488351232 := by omega
  go_enter Tryz.func39, Tryz.ntmps39
  go_wp2_with fail
  refine bodyPost_ret (row_result rfl _ _ w.heap.size _ _ _ _ rfl (heap_alloc_new w _) rfl) rfl (.inr (.inl ⟨hz, rfl, by go_grown⟩))

set_option maxRecDepth 100000 in
set_option maxHeartbeats 4000000 in
theorem rread_short (t : ByteArray) (w : World) (hz : t.size ≤ 1500) : Calls Tryz.prog 39 #[.string t] w (ReadR t w) := by
  have hzI : (t.size : Int) ≤ 1500 := by omega
  obtain ⟨L, HL⟩ : ∃ L, Hid (cutL 10 t.data.toList = L) := ⟨_, rfl⟩
  have hLne : L ≠ [] := by rw [← HL.out]; exact cutL_ne _ _
  have hLn : L.length ≤ 1501 := by rw [← HL.out]; have := cutL_len 10 t.data.toList; have e : t.data.toList.length = t.size := by simp
                                   omega
  have hLp : ∀ x, x ∈ L → x.length ≤ 1500 := fun x hx => by
    rw [← HL.out] at hx
    have := cutL_piece 10 _ x hx
    have e : t.data.toList.length = t.size := by simp
    omega
  have HC := Lib.hid (cut_any t 10)
  rw [HL.out] at HC
  have hL1 : 1 ≤ L.length := by cases L with | nil => exact absurd rfl hLne | cons x l => simp
  have HLp := Lib.hid hLp
  have HLne := Lib.hid hLne
  clear hLp hLne
  go_enter Tryz.func39, Tryz.ntmps39
  go_wp2_with fail
  have hR0 := heap_alloc_new w (Obj.cells #[.int .i64 0, .slice none 0 0, .slice none 0 0] 25)
  have hB0 : Below w.heap.size w (w.alloc (Obj.cells #[.int .i64 0, .slice none 0 0, .slice none 0 0] 25)) := by go_grown
  generalize w.alloc (Obj.cells #[.int .i64 0, .slice none 0 0, .slice none 0 0] 25) = w0 at *
  refine (HC.out w0 (by omega)).mono ?_
  rintro e w1 ⟨v, rfl, hown, hb⟩
  have hS1 : StrsAt w1.heap.size w1 v (L.map bs) := strsAt_own (base := w0.heap.size) (l := L.map bs) (by rw [List.length_map, List.map_map]; exact hown) (by rw [List.length_map]; omega)
  have hR1 := (hb.block _ (lt_of_block hR0)).trans hR0
  have hB1 := hB0.trans (hb.mono hB0.size)
  obtain ⟨br, orr, cr, rfl, hbr, hcr⟩ := strs_ptr hS1 (by intro e; exact HLne.out (List.map_eq_nil_iff.1 e))
  have c0 := hcr 0 (by rw [List.length_map]; omega)
  rw [List.getElem_map, Nat.add_zero] at c0
  rw [List.length_map]
  obtain ⟨l0, HL0⟩ : ∃ l0, Hid (L[0]'(by omega) = l0) := ⟨L[0]'(by omega), Lib.hid rfl⟩
  have hl0 : l0.length ≤ 1500 := by rw [← HL0.out]; exact HLp.out _ (List.getElem_mem _)
  rw [HL0.out] at c0
  have HS1 := Lib.hid hS1
  have HR1 := Lib.hid hR1
  have HB1 := Lib.hid hB1
  obtain ⟨H, HH⟩ : ∃ H, Hid (cutL 32 l0 = H) := ⟨_, rfl⟩
  have hCH := cut_any (bs l0) 32 w1 (by rw [bs_size]; omega)
  rw [bs_toList, HH.out] at hCH
  have HCH := Lib.hid hCH
  have hHn : H.length ≤ 1501 := by rw [← HH.out]; have := cutL_len 32 l0; omega
  have HREF : Hid (refF t.data.toList = if H.length = 2 then (rowsF [] [] (midL L)).map fun x => ⟨sigF (H.getD 1 []), x.1, x.2⟩ else none) := by
    show _ = _
    unfold refF
    rw [HL.out]
    have e : L.getD 0 [] = l0 := by rw [← HL0.out]; simp [List.getD_eq_getElem?_getD, List.getElem?_eq_getElem (show 0 < L.length by omega)]
    rw [e, HH.out]
  have hLI : (0 : Int) < (L.length : Int) := by omega
  have HHp : Hid (∀ x, x ∈ H → x.length ≤ 1500) := fun x hx => by
    rw [← HH.out] at hx
    have := cutL_piece 32 _ x hx
    omega
  clear hown hR0 hB0 hS1 hR1 hB1 hcr hCH hb HC
  go_wp2_with fail
  refine HCH.out.mono ?_
  rintro e w2 ⟨vh, rfl, hownh, hb⟩
  have hSh : StrsAt w2.heap.size w2 vh (H.map bs) := strsAt_own (base := w1.heap.size) (l := H.map bs) (by rw [List.length_map, List.map_map]; exact hownh) (by rw [List.length_map]; omega)
  have HS2 := Lib.hid (strsB HS1 hb)
  have hbr2' : br < w2.heap.size := Nat.lt_of_lt_of_le hbr hb.size
  have HR2 := Lib.hid ((hb.block _ (lt_of_block HR1.out)).trans HR1.out)
  have HB2 := Lib.hid (HB1.out.trans (hb.mono HB1.out.size))
  obtain ⟨mh, ah, ch, hmh, rfl⟩ := own_slm hownh
  clear hownh HCH HS1 HR1 HB1 c0
  by_cases hH2 : H.length = 2
  · obtain rfl : mh = 2 := by omega
    obtain ⟨bh, oh, ch', e, hbh, hch⟩ := strs_ptr hSh (by intro e; have := List.map_eq_nil_iff.1 e; rw [this] at hH2; simp at hH2)
    simp only [Value.slice.injEq] at e
    obtain ⟨rfl, e2, rfl⟩ := e
    clear e2
    have c1 := hch 1 (by rw [List.length_map]; omega)
    rw [List.getElem_map] at c1
    obtain ⟨h1, HH1⟩ : ∃ h1, Hid (H[1]'(by omega) = h1) := ⟨H[1]'(by omega), Lib.hid rfl⟩
    rw [HH1.out] at c1
    have hh1 : h1.length ≤ 1500 := by rw [← HH1.out]; exact HHp.out _ (List.getElem_mem _)
    have hcs := signed_any (bs h1) w2 (by rw [bs_size]; omega)
    rw [bs_toList] at hcs
    obtain ⟨iv, HIV⟩ : ∃ iv : Int, Hid (sigF h1 = iv) := ⟨_, rfl⟩
    rw [HIV.out] at hcs
    have HCS := Lib.hid hcs
    have HREF2 : Hid (refF t.data.toList = (rowsF [] [] (midL L)).map fun x => ⟨iv, x.1, x.2⟩) := by
      show _ = _
      rw [HREF.out, if_pos hH2]
      have e : H.getD 1 [] = h1 := by rw [← HH1.out]; simp [List.getD_eq_getElem?_getD, List.getElem?_eq_getElem (show 1 < H.length by omega)]
      rw [e, HIV.out]
    clear hSh hch hcs hmh HREF HH1 hH2
    go_wp2_with fail
    refine HCS.out.mono ?_
    rintro e w' ⟨rfl, rfl⟩
    clear HCS
    go_wp2_with fail
    have hB3 : Below w2.heap.size w2 (w2.alloc (Obj.cells #[.int .i64 iv, .slice none 0 0, .slice none 0 0] 25)) := by go_grown
    have hL0 : RdL L iv w2.heap.size w2 1 [] [] none 0 none 0 (w2.alloc (Obj.cells #[.int .i64 iv, .slice none 0 0, .slice none 0 0] 25)) := ⟨rfl, heap_alloc_new w2 _, ⟨⟨by simp, none, 0, rfl, fun h => absurd rfl h⟩, ⟨by simp, none, 0, rfl, fun h => absurd rfl h⟩, fun _ h => by cases h⟩, ⟨none, 0, 0, rfl, Nat.le_refl _⟩, by simp, by simp, hB3⟩
    have HL0 := Lib.hid hL0
    clear hB3 hL0 c1
    generalize w2.alloc (Obj.cells #[.int .i64 iv, .slice none 0 0, .slice none 0 0] 25) = w3 at *
    have hlt6 : w.heap.size < w2.heap.size := lt_of_block HR2.out
    have hbr2 := hbr2'
    clear hbr2'
    generalize hb6 : w2.heap.size = b6 at *
    have HB6 := Lib.hid hb6
    clear hb6
    go_loopg [7] L.length (fun g i wr => ∃ (j : Nat) (P : List ByteArray) (N : List Note) (pa : Option Addr) (pc : Nat) (na : Option Addr) (nc : Nat), g + j = L.length + 1 ∧ 1 ≤ j ∧ j ≤ L.length ∧ i = .int .i64 j ∧ Hid (RdL L iv b6 w2 j P N pa pc na nc wr))
    case atStart => exact ⟨1, [], [], none, 0, none, 0, rfl, Nat.le_refl _, hL1, rfl, HL0.out⟩
    case round =>
      obtain ⟨j, P, N, pa, pc, na, nc, hg, hj1, hj2, rfl, HR⟩ := hrel
      have hjI : (1 : Int) ≤ (j : Int) := by omega
      have hjJ : (j : Int) ≤ 1501 := by omega
      clear HL0
      obtain ⟨a0, a1, a2⟩ : wr.cell? ⟨b6, 0, none⟩ = some (.int .i64 iv) ∧ wr.cell? ⟨b6, 1, none⟩ = some (.slice pa P.length pc) ∧ wr.cell? ⟨b6, 2, none⟩ = some (.slice na N.length nc) := ⟨cellOf HR.out.box 0 _ rfl, cellOf HR.out.box 1 _ rfl, cellOf HR.out.box 2 _ rfl⟩
      by_cases hlt : j + 1 < L.length
      · have hltI : (j : Int) + 1 < (L.length : Int) := by omega
        have hltJ : (j : Int) < (L.length : Int) := by omega
        obtain ⟨lj, HLJ⟩ : ∃ lj, Hid (L[j]'(by omega) = lj) := ⟨L[j]'(by omega), Lib.hid rfl⟩
        have hlj : lj.length ≤ 1500 := by rw [← HLJ.out]; exact HLp.out _ (List.getElem_mem _)
        obtain ⟨ws, HWS⟩ : ∃ ws, Hid (cutL 32 lj = ws) := ⟨_, rfl⟩
        have hwn : ws.length ≤ 1501 := by rw [← HWS.out]; have := cutL_len 32 lj; omega
        have HCUT : Hid (∀ wX, Calls Tryz.prog 90 #[.string (bs lj), .int .u8 32] wX fun e w' => ∃ v, e = .returned v ∧ w'.ownsRow wX.heap.size 9 1 v ws.length (ws.map fun x => Value.string (bs x)) ∧ Below wX.heap.size wX w') := fun wX => by
          have h := cut_any (bs lj) 32 wX (by rw [bs_size]; omega)
          rw [bs_toList, HWS.out] at h
          exact h
        have HTK : Hid ((midL L).take j = (midL L).take (j - 1) ++ [ws]) := by
          show _ = _
          rw [mid_get L j hj1 hlt, HLJ.out, HWS.out]
        have HRB : Hid (Below w2.heap.size w2 wr) := HR.out.b
        have cj : wr.cell? ⟨br, orr + j, none⟩ = some (.string (bs lj)) := by
          have h2 : w2.cell? ⟨br, orr + j, none⟩ = some (.string ((L.map bs)[j]'(by rw [List.length_map]; omega))) := by
            obtain ⟨b', o', c', e, hb', hc'⟩ := strs_ptr HS2.out (by intro e; exact HLne.out (List.map_eq_nil_iff.1 e))
            simp only [Value.slice.injEq, Option.some.injEq, Addr.mk.injEq] at e
            obtain ⟨⟨rfl, rfl, _⟩, _⟩ := e
            exact hc' j (by rw [List.length_map]; omega)
          have h := (HRB.out.cell (p := ⟨br, orr + j, none⟩) (by rw [HB6.out]; exact hbr2)).trans h2
          rw [List.getElem_map, HLJ.out] at h
          exact h
        have hbrw : br < wr.heap.size := Nat.lt_of_lt_of_le hbr2 (by rw [← HB6.out]; exact HRB.out.size)
        have h6w : b6 < wr.heap.size := lt_of_block HR.out.box
        have HWN : Hid (∀ x, x ∈ ws.map bs → x.size ≤ 100000) := fun x hx => by
          obtain ⟨y, hy, rfl⟩ := List.mem_map.1 hx
          rw [← HWS.out] at hy
          have := cutL_piece 32 _ y hy
          rw [bs_size]
          omega
        have HWE : Hid (ws.map bs ≠ []) := fun e => by
          have h := List.map_eq_nil_iff.1 e
          rw [← HWS.out] at h
          exact cutL_ne _ _ h
        have hpj := HR.out.pl
        have hnj := HR.out.nl
        have HROW : Hid (∀ wX v, Below wr.heap.size wr wX → StrsAt wX.heap.size wX v (ws.map bs) → CapOk v → Calls Tryz.prog 92 #[.agg #[.int .i64 iv, .slice pa P.length pc, .slice na N.length nc], v] wX (RowP iv P N ws wX)) := fun wX v hb hs hc => by
          have h := row_any iv P N (.slice pa P.length pc) (.slice na N.length nc) v (ws.map bs) wX ((HR.out.sh.below hb).mono hb.size) HR.out.cap hs hc HWE.out HWN.out (by omega) (by omega)
          rw [List.map_map] at h
          have e : ws.map ((fun x : ByteArray => x.data.toList) ∘ bs) = ws := (List.map_congr_left fun y _ => rfl).trans (List.map_id _)
          rw [e] at h
          exact h
        have hst0 : (ws.map bs).length ≤ 4611686018427387904 := by rw [List.length_map]; omega
        have HST0 := Lib.hid hst0
        clear HLJ HWS HWN HWE hlj hwn hst0
        go_upto_region 11 with fail
        rcases hq : rowF P N ws with _ | ⟨P', N'⟩
        · have HNF : Hid (¬ ∃ s, RdOk t s) := read_off (t := t) fun s hs => by
            have h := hs.ref
            rw [HREF2.out] at h
            have e : midL L = (midL L).take (j - 1) ++ ws :: (midL L).drop j := by
              conv => lhs; rw [← List.take_append_drop j (midL L), HTK.out]
              simp
            rw [e, rowsF_none ws _ _ [] [] P N HR.out.rows hq] at h
            cases h
          have HRW : Hid (∀ wX v, Below wr.heap.size wr wX → StrsAt wX.heap.size wX v (ws.map bs) → CapOk v → Calls Tryz.prog 92 #[.agg #[.int .i64 iv, .slice pa P.length pc, .slice na N.length nc], v] wX (RowNo wX)) := fun wX v hb hs hc => (HROW.out wX v hb hs hc).mono fun e w' h => by
            unfold RowP at h
            rw [hq] at h
            exact h
          clear HROW hq
          go_cut [8, 9] from 32 to 52 (fun v8 v9 w9 => RdOff v9 wr w9)
          case first =>
            go_region_held3 (fun W' => W'.cell? ⟨b6, 0, none⟩ = some (.int .i64 iv) ∧ W'.cell? ⟨b6, 1, none⟩ = some (.slice pa P.length pc) ∧ W'.cell? ⟨b6, 2, none⟩ = some (.slice na N.length nc) ∧ W'.cell? ⟨br, orr + j, none⟩ = some (.string (bs lj)) ∧ Hid (Below wr.heap.size wr W'))
              (first | exact ⟨a0, a1, a2, cj, (Below.refl _ _).drew⟩ | exact keepR (W := wr) (w := wr) ⟨a0, a1, a2, cj, Below.refl _ _⟩ (((Below.refl _ _).alloc (Nat.le_refl _) _).drew) | (refine keepR ?_ hb5; assumption) | (refine keepR ?_ hb; assumption) | (refine keepR ?_ ((Below.refl _ _).alloc (Nat.le_refl _) _); assumption) | (refine keepB ?_ h6w hbrw (below_realloc (o := Obj.cells #[.int .i64 0, .slice none 0 0, .slice none 0 0] 25) hq); assumption) | (refine keepB ?_ h6w hbrw (Below.setCell (Below.setCell (Below.setCell (Below.refl _ _) hq _) hq _) hq _); assumption))
              (first
              | (go_at_call 90; refine (HCUT.out _).mono ?_; rintro e w4 ⟨v, rfl, hown, hb⟩; have z4 := al_drew hb; have hB4 : Below wr.heap.size wr w4 := Below.trans (by go_grown) (hb.mono (by simp)); have hst : StrsAt w4.heap.size w4 v (ws.map bs) := strsAt_own (base := _) (l := ws.map bs) (by rw [List.length_map, List.map_map]; exact hown) HST0.out; have hcp := cap_own hown)
              | (go_at_call 90; refine (HCUT.out _).mono ?_; rintro e w4 ⟨v, rfl, hown, hb⟩; have hB4 : Below wr.heap.size wr w4 := Below.trans (by go_grown) (hb.mono (by simp)); have hst : StrsAt w4.heap.size w4 v (ws.map bs) := strsAt_own (base := _) (l := ws.map bs) (by rw [List.length_map, List.map_map]; exact hown) HST0.out; have hcp := cap_own hown)
              | (go_at_call 92; refine (HRW.out _ _ (by first | exact hB4 | exact hB4.alloc hB4.size _) (by first | exact hst | exact strsB (Lib.hid hst) (by go_grown)) hcp).mono ?_; rintro e w5 ⟨i5, p1, p2, m1, k1, m2, k2, rfl, hb5⟩; have z5 := (hb5.block _ (lt_of_block z4)).trans z4; have hq := Nat.le_refl wr.heap.size; have s0 := cellOf z5 0 _ rfl; have s1 := cellOf z5 1 _ rfl; have s2 := cellOf z5 2 _ rfl; have q0 := frozen_of_row _ _ 0 _ _ z5; have q1 := frozen_of_row _ _ 1 _ _ z5; have q2 := frozen_of_row _ _ 2 _ _ z5)
              | (go_at_call 92; refine (HRW.out _ _ (by first | exact hB4 | exact hB4.alloc hB4.size _) (by first | exact hst | exact strsB (Lib.hid hst) (by go_grown)) hcp).mono ?_; rintro e w5 ⟨i5, p1, p2, m1, k1, m2, k2, rfl, hb5⟩; have z5 := al_plain hb5; have hq : wr.heap.size ≤ w4.heap.size := hB4.size; have s0 := cellOf z5 0 _ rfl; have s1 := cellOf z5 1 _ rfl; have s2 := cellOf z5 2 _ rfl; have q0 := frozen_of_row _ _ 0 _ _ z5; have q1 := frozen_of_row _ _ 1 _ _ z5; have q2 := frozen_of_row _ _ 2 _ _ z5)
              | (go_at_call 92; refine (HRW.out _ _ (by first | exact hB4 | exact hB4.alloc hB4.size _) (by first | exact hst | exact strsB (Lib.hid hst) (by go_grown)) hcp).mono ?_; rintro e w5 ⟨i5, p1, p2, m1, k1, m2, k2, rfl, hb5⟩; have hq : wr.heap.size ≤ w5.heap.size := Nat.le_trans hB4.size hb5.size))
            all_goals
              have HBz := Lib.hid (by assumption : _ ∧ _ ∧ _ ∧ _ ∧ Hid (Below wr.heap.size wr _)).2.2.2.2.out
              go_wp2_with fail
              go_meet
              case rel => exact ⟨rfl, HBz.out⟩
          case rest =>
            obtain ⟨rfl, hBc⟩ := hcut
            have HRc := Lib.hid (((HRB.out.trans (hBc.mono HRB.out.size)).block _ (by rw [HB6.out]; exact hlt6)).trans HR2.out)
            have HBc := Lib.hid (HB2.out.trans ((HRB.out.trans (hBc.mono HRB.out.size)).mono HB2.out.size))
            clear hBc a0 a1 a2 cj HRB HR HTK HRW
            have r0 := cellOf HRc.out 0 _ rfl
            have r1 := cellOf HRc.out 1 _ rfl
            have r2 := cellOf HRc.out 2 _ rfl
            have g0 := frozen_of_row _ _ 0 _ _ HRc.out
            have g1 := frozen_of_row _ _ 1 _ _ HRc.out
            have g2 := frozen_of_row _ _ 2 _ _ HRc.out
            go_wp2_with fail
            refine bodyPost_ret (row_result rfl _ _ w.heap.size _ _ _ _ rfl (three_set (z0 := .int .i64 0) (z1 := .slice none 0 0) (z2 := .slice none 0 0) HRc.out) rfl) rfl (.inr (.inr ⟨hz, HNF.out, rfl, three_below HBc.out (Nat.le_refl _)⟩))
        · have HRS : Hid (∀ wX v, Below wr.heap.size wr wX → StrsAt wX.heap.size wX v (ws.map bs) → CapOk v → Calls Tryz.prog 92 #[.agg #[.int .i64 iv, .slice pa P.length pc, .slice na N.length nc], v] wX (RowOk iv P' N' wX)) := fun wX v hb hs hc => (HROW.out wX v hb hs hc).mono fun e w' h => by
            unfold RowP at h
            rw [hq] at h
            exact h
          have HTJ : Hid (rowsF [] [] ((midL L).take j) = some (P', N')) := by
            show _ = _
            rw [HTK.out, rowsF_snoc ws _ [] [] P N HR.out.rows, hq]
          have hlen := rowF_len hq
          have hpl : P'.length ≤ j + 1 := by omega
          have hnl : N'.length ≤ j + 1 := by omega
          clear HROW hq hlen HTK
          go_cut [8, 9] from 32 to 52 (fun v8 v9 w9 => RdOn iv P' N' v8 v9 wr w9)
          case first =>
            go_region_held3 (fun W' => W'.cell? ⟨b6, 0, none⟩ = some (.int .i64 iv) ∧ W'.cell? ⟨b6, 1, none⟩ = some (.slice pa P.length pc) ∧ W'.cell? ⟨b6, 2, none⟩ = some (.slice na N.length nc) ∧ W'.cell? ⟨br, orr + j, none⟩ = some (.string (bs lj)) ∧ Hid (Below wr.heap.size wr W'))
              (first | exact ⟨a0, a1, a2, cj, (Below.refl _ _).drew⟩ | exact keepR (W := wr) (w := wr) ⟨a0, a1, a2, cj, Below.refl _ _⟩ (((Below.refl _ _).alloc (Nat.le_refl _) _).drew) | (refine keepR ?_ hb5; assumption) | (refine keepR ?_ hb; assumption) | (refine keepR ?_ ((Below.refl _ _).alloc (Nat.le_refl _) _); assumption) | (refine keepB ?_ h6w hbrw (below_realloc (o := Obj.cells #[.int .i64 0, .slice none 0 0, .slice none 0 0] 25) hq); assumption) | (refine keepB ?_ h6w hbrw (Below.setCell (Below.setCell (Below.setCell (Below.refl _ _) hq _) hq _) hq _); assumption))
              (first
              | (go_at_call 90; refine (HCUT.out _).mono ?_; rintro e w4 ⟨v, rfl, hown, hb⟩; have z4 := al_drew hb; have hB4 : Below wr.heap.size wr w4 := Below.trans (by go_grown) (hb.mono (by simp)); have hst : StrsAt w4.heap.size w4 v (ws.map bs) := strsAt_own (base := _) (l := ws.map bs) (by rw [List.length_map, List.map_map]; exact hown) HST0.out; have hcp := cap_own hown)
              | (go_at_call 90; refine (HCUT.out _).mono ?_; rintro e w4 ⟨v, rfl, hown, hb⟩; have hB4 : Below wr.heap.size wr w4 := Below.trans (by go_grown) (hb.mono (by simp)); have hst : StrsAt w4.heap.size w4 v (ws.map bs) := strsAt_own (base := _) (l := ws.map bs) (by rw [List.length_map, List.map_map]; exact hown) HST0.out; have hcp := cap_own hown)
              | (go_at_call 92; refine (HRS.out _ _ (by first | exact hB4 | exact hB4.alloc hB4.size _) (by first | exact hst | exact strsB (Lib.hid hst) (by go_grown)) hcp).mono ?_; rintro e w5 ⟨pv5, nv5, rfl, hs5, hc5, hb5⟩; obtain ⟨lp5, pa5, pc5, rfl, _⟩ := id hs5.pts; obtain ⟨ln5, na5, nc5, rfl, _⟩ := id hs5.notes; simp only at lp5 ln5 hs5; have z5 := (hb5.block _ (lt_of_block z4)).trans z4; have hq := Nat.le_refl wr.heap.size; have s0 := cellOf z5 0 _ rfl; have s1 := cellOf z5 1 _ rfl; have s2 := cellOf z5 2 _ rfl; have q0 := frozen_of_row _ _ 0 _ _ z5; have q1 := frozen_of_row _ _ 1 _ _ z5; have q2 := frozen_of_row _ _ 2 _ _ z5)
              | (go_at_call 92; refine (HRS.out _ _ (by first | exact hB4 | exact hB4.alloc hB4.size _) (by first | exact hst | exact strsB (Lib.hid hst) (by go_grown)) hcp).mono ?_; rintro e w5 ⟨pv5, nv5, rfl, hs5, hc5, hb5⟩; obtain ⟨lp5, pa5, pc5, rfl, _⟩ := id hs5.pts; obtain ⟨ln5, na5, nc5, rfl, _⟩ := id hs5.notes; simp only at lp5 ln5 hs5; have z5 := al_plain hb5; have hq : wr.heap.size ≤ w4.heap.size := hB4.size; have s0 := cellOf z5 0 _ rfl; have s1 := cellOf z5 1 _ rfl; have s2 := cellOf z5 2 _ rfl; have q0 := frozen_of_row _ _ 0 _ _ z5; have q1 := frozen_of_row _ _ 1 _ _ z5; have q2 := frozen_of_row _ _ 2 _ _ z5)
              | (go_at_call 92; refine (HRS.out _ _ (by first | exact hB4 | exact hB4.alloc hB4.size _) (by first | exact hst | exact strsB (Lib.hid hst) (by go_grown)) hcp).mono ?_; rintro e w5 ⟨pv5, nv5, rfl, hs5, hc5, hb5⟩; obtain ⟨lp5, pa5, pc5, rfl, _⟩ := id hs5.pts; obtain ⟨ln5, na5, nc5, rfl, _⟩ := id hs5.notes; simp only at lp5 ln5 hs5; have hq : wr.heap.size ≤ w5.heap.size := Nat.le_trans hB4.size hb5.size))
            all_goals
              have HBz := Lib.hid (by assumption : _ ∧ _ ∧ _ ∧ _ ∧ Hid (Below wr.heap.size wr _)).2.2.2.2.out
              have HS5 := Lib.hid hs5
              have HC5 := Lib.hid hc5
              clear hs5 hc5
              go_wp2_with fail
              go_meet
              case rel => first
                | exact ⟨_, _, _, _, _, rfl, rfl, hq, three_set z5, sheet_off3 z5 HS5.out, HC5.out, HBz.out⟩
                | exact ⟨_, _, _, _, _, rfl, rfl, hq, heap_alloc_new _ _, (HS5.out.below ((Below.refl _ _).alloc (Nat.le_refl _) _)).mono (by simp), HC5.out, HBz.out⟩
          case rest =>
            obtain ⟨bq, pa', pc', na', nc', rfl, rfl, hq8, hQ, hSq, hCq, hBq⟩ := hcut
            have hB6 := (hBq.block b6 h6w).trans HR.out.box
            have HBJ := Lib.hid (HRB.out.trans (hBq.mono HRB.out.size))
            have h6q : b6 ≠ bq := by omega
            have q0 := cellOf hQ 0 _ rfl
            have q1 := cellOf hQ 1 _ rfl
            have q2 := cellOf hQ 2 _ rfl
            have f0 := frozen_of_row _ _ 0 _ _ hB6
            have f1 := frozen_of_row _ _ 1 _ _ hB6
            have f2 := frozen_of_row _ _ 2 _ _ hB6
            have e0 := cellOf hB6 0 _ rfl
            have e1 := cellOf hB6 1 _ rfl
            have e2 := cellOf hB6 2 _ rfl
            have HSQ := Lib.hid (sheet_off3 (x := .int .i64 iv) (y := .slice pa' P'.length pc') (z := .slice na' N'.length nc') hB6 hSq)
            have HBX := Lib.hid (three_set (x := .int .i64 iv) (y := .slice pa' P'.length pc') (z := .slice na' N'.length nc') hB6)
            have HBK := Lib.hid (three_below (B := b6) (g := b6) (x := .int .i64 iv) (y := .slice pa' P'.length pc') (z := .slice na' N'.length nc') (show Below b6 w2 wc by rw [← HB6.out]; exact HBJ.out) (Nat.le_refl _))
            have HCq := Lib.hid hCq
            clear hQ hB6 hSq hCq hBq a0 a1 a2 cj HR HRB HBJ HRS
            have hpl' := Lib.hid hpl
            have hnl' := Lib.hid hnl
            clear hpl hnl
            go_wp2_with fail
            go_roundg (gk - 1)
            case measure => omega
            case rel => exact ⟨j + 1, P', N', pa', pc', na', nc', by omega, by omega, by omega, by go_num, by rw [Nat.add_sub_cancel]; exact HTJ.out, HBX.out, HSQ.out, HCq.out, hpl'.out, hnl'.out, by rw [HB6.out]; exact HBK.out⟩
      · have HREF3 : Hid (refF t.data.toList = some ⟨iv, P, N⟩) := by
          show _ = _
          have h := HR.out.rows
          rw [List.take_of_length_le (by rw [mid_len]; omega)] at h
          rw [HREF2.out, h]
          rfl
        have HCK := Lib.hid (rcheck_any ⟨iv, P, N⟩ (.slice pa P.length pc) (.slice na N.length nc) wr HR.out.sh HR.out.cap)
        obtain ⟨z, HZ⟩ : ∃ z, Hid ((checkS ⟨iv, P, N⟩).2.2 = z) := ⟨_, rfl⟩
        rw [HZ.out] at HCK
        have hltI : ¬ (j : Int) + 1 < (L.length : Int) := by omega
        clear hlt
        go_wp2_with fail
        refine HCK.out.mono ?_
        rintro e w4 ⟨rfl, hb⟩
        have HBX := Lib.hid ((hb.block b6 (lt_of_block HR.out.box)).trans HR.out.box)
        have HS4 := Lib.hid ((HR.out.sh.below hb).mono hb.size)
        have HB4 := Lib.hid (HR.out.b.trans (hb.mono HR.out.b.size))
        have HR4 := Lib.hid ((HB4.out.block _ (by rw [HB6.out]; exact hlt6)).trans HR2.out)
        have HBW := Lib.hid (HB2.out.trans (HB4.out.mono HB2.out.size))
        clear hb HR HCK a0 a1 a2
        have a0 := cellOf HBX.out 0 _ rfl
        have a1 := cellOf HBX.out 1 _ rfl
        have a2 := cellOf HBX.out 2 _ rfl
        by_cases hz0 : z = 0
        · subst hz0
          have HV := Lib.hid ((check_valid ⟨iv, P, N⟩).1 HZ.out)
          have HTX := Lib.hid (rtext_any ⟨iv, P, N⟩ HV.out (.slice pa P.length pc) (.slice na N.length nc) w4 HS4.out)
          obtain ⟨X, HX⟩ : ∃ X, Hid (bs (writeT ⟨iv, P, N⟩) = X) := ⟨_, rfl⟩
          rw [HX.out] at HTX
          go_wp2_with fail
          refine HTX.out.mono ?_
          rintro e w5 ⟨rfl, hb⟩
          have HBX5 := Lib.hid ((hb.block b6 (lt_of_block HBX.out)).trans HBX.out)
          have HS5 := Lib.hid ((HS4.out.below hb).mono hb.size)
          have HR5 := Lib.hid ((hb.block _ (lt_of_block HR4.out)).trans HR4.out)
          have HBW5 := Lib.hid (HBW.out.trans (hb.mono HBW.out.size))
          clear hb HTX HBX HS4 HR4 HBW HB4 a0 a1 a2
          have r0 := cellOf HR5.out 0 _ rfl
          have r1 := cellOf HR5.out 1 _ rfl
          have r2 := cellOf HR5.out 2 _ rfl
          have g0 := frozen_of_row _ _ 0 _ _ HR5.out
          have g1 := frozen_of_row _ _ 1 _ _ HR5.out
          have g2 := frozen_of_row _ _ 2 _ _ HR5.out
          by_cases hxt : X = t
          · have hxt' : t = X := hxt.symm
            subst hxt'
            have ty : (t.toList == t.toList) = true := by simp
            have HOK : Hid (RdOk t ⟨iv, P, N⟩) := ⟨HV.out, congrArg (fun x : ByteArray => x.data.toList) HX.out⟩
            clear hxt HX
            have a0 := cellOf HBX5.out 0 _ rfl
            have a1 := cellOf HBX5.out 1 _ rfl
            have a2 := cellOf HBX5.out 2 _ rfl
            go_wp2_with fail
            refine bodyPost_ret (row_result rfl _ _ w.heap.size _ _ _ _ rfl (three_set (z0 := .int .i64 0) (z1 := .slice none 0 0) (z2 := .slice none 0 0) HR5.out) rfl) rfl (.inl ⟨⟨iv, P, N⟩, _, _, HOK.out, hz, rfl, sheet_off3 HR5.out HS5.out, three_below HBW5.out (Nat.le_refl _)⟩)
          · have tx : (X.toList == t.toList) = false := str_ne hxt
            have HNF : Hid (¬ ∃ s, RdOk t s) := read_off (t := t) fun s hs => hxt (by
              have h := hs.ref
              rw [HREF3.out] at h
              have e := Option.some.inj h
              rw [← HX.out, e, hs.2]
              rfl)
            clear hxt HX
            go_wp2_with fail
            refine bodyPost_ret (row_result rfl _ _ w.heap.size _ _ _ _ rfl (three_set (z0 := .int .i64 0) (z1 := .slice none 0 0) (z2 := .slice none 0 0) HR5.out) rfl) rfl (.inr (.inr ⟨hz, HNF.out, rfl, three_below HBW5.out (Nat.le_refl _)⟩))
        · have tz : (z != 0) = true := by simp [hz0]
          have HNF : Hid (¬ ∃ s, RdOk t s) := read_off (t := t) fun s hs => hz0 (by
            have h := hs.ref
            rw [HREF3.out] at h
            have e := Option.some.inj h
            rw [← HZ.out, e]
            exact (check_valid s).2 hs.1)
          clear hz0 a0 a1 a2
          have r0 := cellOf HR4.out 0 _ rfl
          have r1 := cellOf HR4.out 1 _ rfl
          have r2 := cellOf HR4.out 2 _ rfl
          have g0 := frozen_of_row _ _ 0 _ _ HR4.out
          have g1 := frozen_of_row _ _ 1 _ _ HR4.out
          have g2 := frozen_of_row _ _ 2 _ _ HR4.out
          go_wp2_with fail
          refine bodyPost_ret (row_result rfl _ _ w.heap.size _ _ _ _ rfl (three_set (z0 := .int .i64 0) (z1 := .slice none 0 0) (z2 := .slice none 0 0) HR4.out) rfl) rfl (.inr (.inr ⟨hz, HNF.out, rfl, three_below HBW.out (Nat.le_refl _)⟩))
  · have tn : ((mh : Int) != 2) = true := by simp; omega
    have HN := Lib.hid (read_off (t := t) fun s hs => by have := hs.ref; rw [HREF.out, if_neg hH2] at this; cases this)
    clear hH2 hmh HREF
    have r0 := cellOf HR2.out 0 _ rfl
    have r1 := cellOf HR2.out 1 _ rfl
    have r2 := cellOf HR2.out 2 _ rfl
    have g0 := frozen_of_row _ _ 0 _ _ HR2.out
    have g1 := frozen_of_row _ _ 1 _ _ HR2.out
    have g2 := frozen_of_row _ _ 2 _ _ HR2.out
    go_wp2_with fail
    refine bodyPost_ret (row_result rfl _ _ w.heap.size _ _ _ _ rfl (three_set (z0 := .int .i64 0) (z1 := .slice none 0 0) (z2 := .slice none 0 0) HR2.out) rfl) rfl (.inr (.inr ⟨hz, HN.out, rfl, three_below HB2.out (Nat.le_refl _)⟩))

theorem rread_any (t : ByteArray) (w : World) (hz2 : t.size ≤ 140737488351232) : Calls Tryz.prog 39 #[.string t] w (ReadR t w) := by
  by_cases hz : t.size ≤ 1500
  · exact rread_short t w hz
  · exact rread_long t w (by omega) hz2
end Go.Proofs.YtacmaddjpaebfaaGreatDoor
namespace Go.Proofs.YtacmaddjpaebfaaGreatDoor
open Go Go.RowKit Hs

/-- The package's Read answers as the reference's. -/
theorem pread_any (t : ByteArray) (w : World) (hz : t.size ≤ 140737488351232) (hT : Tabs w) (hE : Errs w) : Calls Tryz.prog 38 #[.string t] w (ReadR t w) := by
  by_cases hs : t.size ≤ 1500
  · by_cases hr : ∃ r, rdAll ⟨0, [], []⟩ (linesOf t) = some r ∧ errS r.sheet = 0 ∧ writeS r.sheet = t.data.toList
    · obtain ⟨r, h1, h2, h3⟩ := hr
      have hw : writeT r.sheet = t.data.toList := by rw [← h3]; unfold writeS; rw [if_pos h2]
      refine (read_to ⟨hs, h1, h2, h3⟩ w hT).mono ?_
      rintro e w' ⟨pv, nv, rfl, h4, h5⟩
      exact .inl ⟨r.sheet, pv, nv, ⟨(check_valid r.sheet).1 h2, hw⟩, hs, rfl, h4, h5⟩
    · have hn : ¬ ∃ s, RdOk t s := fun ⟨s, hv, hw⟩ => hr (by
        have h := reads_back hv
        have e : writeS s = t.data.toList := by unfold writeS; rw [if_pos (show errS s = 0 from (check_valid s).2 hv)]; exact hw
        rw [e, bs_of] at h
        exact ⟨_, h.lines, h.ok, h.back⟩)
      refine (Read_form t w hs (fun r h1 h2 => hr ⟨r, h1, h2.1, h2.2⟩) hT hE).mono ?_
      rintro e w' ⟨rfl, hb⟩
      exact .inr (.inr ⟨hs, hn, rfl, hb⟩)
  · refine (Read_long t w (by omega) hz).mono ?_
    rintro e w' ⟨rfl, hb⟩
    exact .inr (.inl ⟨by omega, rfl, hb⟩)

/-- What a text is read as. -/
def ReadsAs (t : ByteArray) (s : Sheet) (z : Int) : Prop :=
  (RdOk t s ∧ t.size ≤ 1500 ∧ z = 0) ∨ (s = ⟨0, [], []⟩ ∧ 1500 < t.size ∧ z = 3) ∨ (s = ⟨0, [], []⟩ ∧ t.size ≤ 1500 ∧ (¬ ∃ s, RdOk t s) ∧ z = 6)
theorem ReadsAs.one {t : ByteArray} {s s' : Sheet} {z z' : Int} (h : ReadsAs t s z) (h' : ReadsAs t s' z') : s = s' ∧ z = z' := by
  rcases h with ⟨a, b, rfl⟩ | ⟨rfl, b, rfl⟩ | ⟨rfl, b, c, rfl⟩ <;> rcases h' with ⟨a', b', rfl⟩ | ⟨rfl, b', rfl⟩ | ⟨rfl, b', c', rfl⟩
  · exact ⟨a.one a', rfl⟩
  · omega
  · exact absurd ⟨_, a⟩ c'
  · omega
  · exact ⟨rfl, rfl⟩
  · omega
  · exact absurd ⟨_, a'⟩ c
  · omega
  · exact ⟨rfl, rfl⟩
/-- ... in one form. -/
def ReadQ (t : ByteArray) (w : World) (e : Ending) (w' : World) : Prop :=
  ∃ s pa pc na nc z, ReadsAs t s z ∧ e = .returned (.tuple #[.agg #[.int .i64 s.iv, .slice pa s.pts.length pc, .slice na s.notes.length nc], .int .i64 z]) ∧ SheetAt w'.heap.size w' (.slice pa s.pts.length pc) (.slice na s.notes.length nc) s ∧ Below w.heap.size w w'
theorem empty_at (w : World) : SheetAt w.heap.size w (.slice none 0 0) (.slice none 0 0) ⟨0, [], []⟩ :=
  ⟨⟨by simp, none, 0, rfl, fun h => absurd rfl h⟩, ⟨by simp, none, 0, rfl, fun h => absurd rfl h⟩, fun _ h => by cases h⟩
theorem readQ_of {t : ByteArray} {w : World} {e : Ending} {w' : World} (h : ReadR t w e w') : ReadQ t w e w' := by
  rcases h with ⟨s, pv, nv, hs, hz, rfl, hS, hb⟩ | ⟨hz, rfl, hb⟩ | ⟨hz, hn, rfl, hb⟩
  · obtain ⟨_, pa, pc, rfl, _⟩ := id hS.pts
    obtain ⟨_, na, nc, rfl, _⟩ := id hS.notes
    exact ⟨s, pa, pc, na, nc, 0, .inl ⟨hs, hz, rfl⟩, rfl, hS, hb⟩
  · exact ⟨⟨0, [], []⟩, none, 0, none, 0, 3, .inr (.inl ⟨rfl, hz, rfl⟩), rfl, empty_at w', hb⟩
  · exact ⟨⟨0, [], []⟩, none, 0, none, 0, 6, .inr (.inr ⟨rfl, hz, hn, rfl⟩), rfl, empty_at w', hb⟩

set_option maxRecDepth 100000 in
set_option maxHeartbeats 4000000 in
theorem ltexts_any (s : Sheet) (pv nv : Value) (t : ByteArray) (w : World) (hS : SheetAt w.heap.size w pv nv s) (hcap : CapOk pv) (hz : t.size ≤ 140737488351232) (hT : Tabs w) (hE : Errs w) :
    Calls Tryz.prog 6 #[.agg #[.int .i64 s.iv, pv, nv], .string t] w fun e w' => e = .returned (.bool true) ∧ Below w.heap.size w w' := by
  obtain ⟨iv, pts, notes⟩ := s
  obtain ⟨ln, na, nc, rfl, _⟩ := id hS.notes
  obtain ⟨lp, pa, pc, rfl, _⟩ := id hS.pts
  simp only at hS ln lp ⊢
  have B0 : Below w.heap.size w (w.alloc (Obj.cells #[.int .i64 iv, .slice pa pts.length pc, .slice na notes.length nc] 25)) := by go_grown
  have HS0 : Hid (RndA w w.heap.size (Obj.cells #[.int .i64 iv, .slice pa pts.length pc, .slice na notes.length nc] 25 (0, 0)) (.slice pa pts.length pc) (.slice na notes.length nc) ⟨iv, pts, notes⟩ (w.alloc (Obj.cells #[.int .i64 iv, .slice pa pts.length pc, .slice na notes.length nc] 25))) :=
    ⟨heap_alloc_new w _, (hS.below B0).mono B0.size, hT.below B0, hE.below B0, B0⟩
  clear B0 hS hT hE
  go_enter Tryz.func6, Tryz.ntmps6
  go_wp2_with fail
  generalize (w.alloc (Obj.cells #[.int .i64 iv, .slice pa pts.length pc, .slice na notes.length nc] 25)) = w0 at *
  refine (Write_any ⟨iv, pts, notes⟩ (.slice pa pts.length pc) (.slice na notes.length nc) w0 HS0.out.s HS0.out.T).mono ?_
  rintro e w1 ⟨rfl, hb⟩
  have HS1 := Lib.hid (HS0.out.up hb)
  obtain ⟨z, HZ⟩ : ∃ z, Hid (errS ⟨iv, pts, notes⟩ = z) := ⟨_, rfl⟩
  obtain ⟨S, HSS⟩ : ∃ S, Hid (bs (writeS ⟨iv, pts, notes⟩) = S) := ⟨_, rfl⟩
  have HVL := Lib.hid (rwrite_any ⟨iv, pts, notes⟩ (.slice pa pts.length pc) (.slice na notes.length nc) w1 HS1.out.s hcap)
  rw [HZ.out, HSS.out] at HVL ⊢
  clear hb HS0
  have a0 := cellOf HS1.out.a 0 _ rfl
  have a1 := cellOf HS1.out.a 1 _ rfl
  have a2 := cellOf HS1.out.a 2 _ rfl
  go_wp2_with fail
  refine HVL.out.mono ?_
  rintro e w2 ⟨rfl, hb⟩
  have HS2 := Lib.hid (HS1.out.up hb)
  have tt : (S.toList == S.toList) = true := by simp
  clear hb HS1 HVL a0 a1 a2
  go_wp2_with fail
  refine (pread_any t w2 hz HS2.out.T HS2.out.E).mono ?_
  rintro e w3 hq
  obtain ⟨⟨iv1, pts1, notes1⟩, pa1, pc1, na1, nc1, z1, hr1, rfl, hs1, hb⟩ := readQ_of hq
  simp only at hs1
  clear hq
  have HR1 := Lib.hid hr1
  have HS3 := Lib.hid (HS2.out.up hb)
  have HB3 : Hid (Below w3.heap.size w3 (w3.alloc (Obj.cells #[.int .i64 iv1, (.slice pa1 pts1.length pc1), (.slice na1 notes1.length nc1)] 25))) := (Below.refl _ _).alloc (Nat.le_refl _) _
  have HX := Lib.hid (heap_alloc_new w3 (Obj.cells #[.int .i64 iv1, (.slice pa1 pts1.length pc1), (.slice na1 notes1.length nc1)] 25))
  have HS4 := Lib.hid (HS3.out.up HB3.out)
  have HX1 := Lib.hid ((hs1.below HB3.out).mono HB3.out.size)
  clear hb hs1 hr1 HS2 HS3 HB3
  go_wp2_with fail
  generalize (w3.alloc (Obj.cells #[.int .i64 iv1, (.slice pa1 pts1.length pc1), (.slice na1 notes1.length nc1)] 25)) = w4 at *
  refine (rread_any t w4 hz).mono ?_
  rintro e w5 hq
  obtain ⟨⟨iv2, pts2, notes2⟩, pa2, pc2, na2, nc2, z2, hr2, rfl, hs2, hb⟩ := readQ_of hq
  obtain ⟨e1, rfl⟩ := HR1.out.one hr2
  simp only [Sheet.mk.injEq] at e1
  obtain ⟨rfl, rfl, rfl⟩ := e1
  simp only at hs2
  clear hq hr2 HR1
  have HS5 := Lib.hid (HS4.out.up hb)
  have HY := Lib.hid ((hb.block _ (lt_of_block HX.out)).trans HX.out)
  have HY1 := Lib.hid ((HX1.out.below hb).mono hb.size)
  have HB5 : Hid (Below w5.heap.size w5 (w5.alloc (Obj.cells #[.int .i64 iv1, (.slice pa2 pts1.length pc2), (.slice na2 notes1.length nc2)] 25))) := (Below.refl _ _).alloc (Nat.le_refl _) _
  have HU := Lib.hid (heap_alloc_new w5 (Obj.cells #[.int .i64 iv1, (.slice pa2 pts1.length pc2), (.slice na2 notes1.length nc2)] 25))
  have HS6 := Lib.hid (HS5.out.up HB5.out)
  have HV := Lib.hid ((HB5.out.block _ (lt_of_block HY.out)).trans HY.out)
  have HV1 := Lib.hid ((HY1.out.below HB5.out).mono HB5.out.size)
  have HU1 := Lib.hid ((hs2.below HB5.out).mono HB5.out.size)
  have HSM := Lib.hid (same_eq ⟨iv1, pts1, notes1⟩ (.slice pa1 pts1.length pc1) (.slice na1 notes1.length nc1) (.slice pa2 pts1.length pc2) (.slice na2 notes1.length nc2) (w5.alloc (Obj.cells #[.int .i64 iv1, (.slice pa2 pts1.length pc2), (.slice na2 notes1.length nc2)] 25)) HV1.out.pts HV1.out.notes HU1.out.pts HU1.out.notes)
  have x0 := cellOf HV.out 0 _ rfl
  have x1 := cellOf HV.out 1 _ rfl
  have x2 := cellOf HV.out 2 _ rfl
  have y0 := cellOf HU.out 0 _ rfl
  have y1 := cellOf HU.out 1 _ rfl
  have y2 := cellOf HU.out 2 _ rfl
  clear hb hs2 HS4 HS5 HX HX1 HY HY1 HB5
  go_wp2_with fail
  refine HSM.out.mono ?_
  rintro e w7 ⟨rfl, hb⟩
  have HS7 := Lib.hid (HS6.out.up hb)
  have tz : (z1 == z1) = true := by simp
  clear hb HSM HS6 HV HV1 HU HU1 x0 x1 x2 y0 y1 y2
  go_wp2_with fail
  refine (awake_any _ HS7.out.T).mono ?_
  rintro e wA ⟨rfl, hb⟩
  have HBA := Lib.hid (HS7.out.B.trans (hb.mono HS7.out.B.size))
  clear hb
  go_wp2
  go_ret
  exact ⟨rfl, HBA.out⟩
end Go.Proofs.YtacmaddjpaebfaaGreatDoor
