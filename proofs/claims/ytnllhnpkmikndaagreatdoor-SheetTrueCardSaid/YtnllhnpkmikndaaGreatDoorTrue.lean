/- SheetTrue: the call returns true. Condition: the tables of Go's library are laid. -/
import Derived.Test.YtnllhnpkmikndaaGreatDoorTold
import Derived.StillTailTactics
import Derived.BigQuiet
import Derived.Deep.CutRange
set_option linter.unusedSimpArgs false
set_option linter.unusedVariables false
namespace Go.Proofs.YtnllhnpkmikndaaGreatDoor
open Go Go.RowKit Hs Fct

/-- What stands until Told has been called. -/
structure TruA (w0 : World) (bA : Nat) (oA oX oW : Obj) (pv nv xv yv : Value) (s : Sheet) (l1 l2 : List Nat) (w : World) : Prop where
  a : w.heap[bA]? = some oA
  x : w.heap[bA + 1]? = some oX
  wh : w.heap[bA + 2]? = some oW
  s : SheetAt w.heap.size w pv nv s
  u1 : U16At w xv l1
  u2 : U16At w yv l2
  T : Tabs w
  B : Below w0.heap.size w0 w
theorem TruA.up {w0 : World} {bA : Nat} {oA oX oW : Obj} {pv nv xv yv : Value} {s : Sheet} {l1 l2 : List Nat} {w w' : World} (h : TruA w0 bA oA oX oW pv nv xv yv s l1 l2 w) (hb : Below w.heap.size w w') : TruA w0 bA oA oX oW pv nv xv yv s l1 l2 w' :=
  ⟨(hb.block _ (lt_of_block h.a)).trans h.a, (hb.block _ (lt_of_block h.x)).trans h.x, (hb.block _ (lt_of_block h.wh)).trans h.wh, h.s.up hb, h.u1.below hb, h.u2.below hb, h.T.below hb, h.B.trans (hb.mono h.B.size)⟩
/-- What stands behind it. -/
structure TruB (w0 : World) (bW bT : Nat) (oW oT : Obj) (pv nv hv : Value) (t : Sheet) (h : List Int) (w : World) : Prop where
  wh : w.heap[bW]? = some oW
  o : w.heap[bT]? = some oT
  t : SheetAt w.heap.size w pv nv t
  h : IntsAt w hv h
  T : Tabs w
  B : Below w0.heap.size w0 w
theorem TruB.up {w0 : World} {bW bT : Nat} {oW oT : Obj} {pv nv hv : Value} {t : Sheet} {h : List Int} {w w' : World} (k : TruB w0 bW bT oW oT pv nv hv t h w) (hb : Below w.heap.size w w') : TruB w0 bW bT oW oT pv nv hv t h w' :=
  ⟨(hb.block _ (lt_of_block k.wh)).trans k.wh, (hb.block _ (lt_of_block k.o)).trans k.o, k.t.up hb, k.h.below hb, k.T.below hb, k.B.trans (hb.mono k.B.size)⟩
theorem truth_ok (l : List Nat) (n : Nat) (hn : n ≤ 8) : HtsOk (truthS l n) := by
  refine ⟨by rw [truthS_len]; exact hn, fun z hz => ?_⟩
  unfold truthS at hz
  obtain ⟨i, _, rfl⟩ := List.mem_map.1 hz
  omega

set_option maxRecDepth 100000 in
set_option maxHeartbeats 8000000 in
theorem ltrue_any (s : Sheet) (pv nv xv yv : Value) (l1 l2 : List Nat) (x y : Nat) (w : World) (hS : SheetAt w.heap.size w pv nv s) (hcap : CapOk pv) (h1 : U16At w xv l1) (h2 : U16At w yv l2) (hx : x ≤ 255) (hy : y ≤ 255) (hT : Tabs w) :
    Calls Tryz.prog 7 #[.agg #[.int .i64 s.iv, pv, nv], .agg #[xv, yv], .agg #[.int .u8 x, .int .u8 y]] w fun e w' => e = .returned (.bool true) ∧ Below w.heap.size w w' := by
  obtain ⟨iv, pts, notes⟩ := s
  obtain ⟨ln, na, nc, rfl, _⟩ := id hS.notes
  obtain ⟨lp, pa, pc, rfl, _⟩ := id hS.pts
  obtain ⟨lx, xa, xc, rfl, _⟩ := id h1
  obtain ⟨ly, ya, yc, rfl, _⟩ := id h2
  simp only at hS ln lp ⊢
  have B0 : Below w.heap.size w (((w.alloc (Obj.cells #[.int .i64 iv, .slice pa pts.length pc, .slice na notes.length nc] 25)).alloc (Obj.cells #[.slice xa l1.length xc, .slice ya l2.length yc] 57)).alloc (Obj.cells #[.int .u8 x, .int .u8 y] 58)) := by go_grown
  have HS0 : Hid (TruA w w.heap.size (Obj.cells #[.int .i64 iv, .slice pa pts.length pc, .slice na notes.length nc] 25 (0, 0)) (Obj.cells #[.slice xa l1.length xc, .slice ya l2.length yc] 57 (0, 0)) (Obj.cells #[.int .u8 x, .int .u8 y] 58 (0, 0)) (.slice pa pts.length pc) (.slice na notes.length nc) (.slice xa l1.length xc) (.slice ya l2.length yc) ⟨iv, pts, notes⟩ l1 l2 (((w.alloc (Obj.cells #[.int .i64 iv, .slice pa pts.length pc, .slice na notes.length nc] 25)).alloc (Obj.cells #[.slice xa l1.length xc, .slice ya l2.length yc] 57)).alloc (Obj.cells #[.int .u8 x, .int .u8 y] 58))) := by
    refine ⟨(Below.heap_alloc _ _ _ (by simp; omega)).trans (heap_alloc2_old w _ _), (Below.heap_alloc _ _ _ (by simp)).trans (heap_alloc2_new w _ _), ?_, hS.up B0, h1.below B0, h2.below B0, hT.below B0, B0⟩
    have := heap_alloc_new ((w.alloc (Obj.cells #[.int .i64 iv, .slice pa pts.length pc, .slice na notes.length nc] 25)).alloc (Obj.cells #[.slice xa l1.length xc, .slice ya l2.length yc] 57)) (Obj.cells #[.int .u8 x, .int .u8 y] 58)
    simpa using this
  clear B0 hS h1 h2 hT
  go_enter Tryz.func7, Tryz.ntmps7
  go_wp2_with fail
  generalize (((w.alloc (Obj.cells #[.int .i64 iv, .slice pa pts.length pc, .slice na notes.length nc] 25)).alloc (Obj.cells #[.slice xa l1.length xc, .slice ya l2.length yc] 57)).alloc (Obj.cells #[.int .u8 x, .int .u8 y] 58)) = w0 at *
  refine (valid_any ⟨iv, pts, notes⟩ _ _ w0 HS0.out.s hcap).mono ?_
  rintro e w1 ⟨rfl, hb⟩
  have HS1 := Lib.hid (HS0.out.up hb)
  clear hb HS0
  clear w0
  have a0 := cellOf HS1.out.a 0 _ rfl
  have a1 := cellOf HS1.out.a 1 _ rfl
  have a2 := cellOf HS1.out.a 2 _ rfl
  by_cases hv : errS ⟨iv, pts, notes⟩ = 0
  · have HV := Lib.hid ((check_valid _).1 hv)
    have tv : (errS ⟨iv, pts, notes⟩ == 0) = true := by simp [hv]
    rw [tv]
    clear tv hv
    have np8 : pts.length ≤ 8 := HV.out.np8
    have np1 : 1 ≤ pts.length := HV.out.np1
    have b0 := cellOf HS1.out.x 0 _ rfl
    have b1 := cellOf HS1.out.x 1 _ rfl
    go_wp2_with fail
    refine (truth_any ⟨iv, pts, notes⟩ (.slice pa pts.length pc) (.slice na notes.length nc) (.slice xa l1.length xc) l1 w1 HS1.out.s HS1.out.u1 np8).mono ?_
    rintro e w2 ⟨hvl, rfl, hH, hb⟩
    simp only at hH
    have HS2 := Lib.hid (HS1.out.up hb)
    clear hb HS1 a0 a1 a2 b0 b1
    have hlen := truthS_len l1 pts.length
    have hok := truth_ok l1 pts.length np8
    generalize truthS l1 pts.length = h at *
    obtain ⟨_, ha, hc, rfl, _⟩ := id hH
    have HH := Lib.hid hH
    have HL := Lib.hid hlen
    have HOK := Lib.hid hok
    clear hH hlen hok
    have a0 := cellOf HS2.out.a 0 _ rfl
    have a1 := cellOf HS2.out.a 1 _ rfl
    have a2 := cellOf HS2.out.a 2 _ rfl
    have b0 := cellOf HS2.out.x 0 _ rfl
    have b1 := cellOf HS2.out.x 1 _ rfl
    go_wp2_with fail
    refine (told_any ⟨iv, pts, notes⟩ (.slice pa pts.length pc) (.slice na notes.length nc) (.slice ha h.length hc) (.slice ya l2.length yc) h l2 w2 HS2.out.s hcap HV.out HH.out HS2.out.u2 HL.out HOK.out).mono ?_
    rintro e w3 ⟨nt, rfl, hown, hb⟩
    have HTR0 := truth_of (t := toldS ⟨iv, pts, notes⟩ h l2) (told_valid HV.out h l2) HOK.out (told_tr HV.out HOK.out l2)
    have hS3 := HS2.out.s.up hb
    have hTW := HS2.out.wh
    have hTT := HS2.out.T.below hb
    have hTB := HS2.out.B.trans (hb.mono HS2.out.B.size)
    have hHH := HH.out.below hb
    have hwh := (hb.block _ (lt_of_block HS2.out.wh)).trans HS2.out.wh
    obtain ⟨N, hN⟩ : ∃ N, N = toldL iv pts notes h l2 notes.length := ⟨_, rfl⟩
    have e1 : toldS ⟨iv, pts, notes⟩ h l2 = ⟨iv, pts, N⟩ := by rw [hN]; rfl
    rw [e1] at hown HTR0
    simp only at hown
    have nn := HTR0.valid.nn
    simp only at nn
    have HTR := Lib.hid HTR0
    obtain ⟨sa, sc, rfl⟩ := own_slice hown
    have hNA := notesAt_own hown (by omega)
    have hB4 : Below w3.heap.size w3 (w3.alloc (Obj.cells #[.int .i64 iv, .slice pa pts.length pc, .slice sa N.length sc] 25)) := (Below.refl _ _).alloc (Nat.le_refl _) _
    have HB4 : Hid (TruB w (w.heap.size + 2) w3.heap.size (Obj.cells #[.int .u8 x, .int .u8 y] 58 (0, 0)) (Obj.cells #[.int .i64 iv, .slice pa pts.length pc, .slice sa N.length sc] 25 (0, 0)) (.slice pa pts.length pc) (.slice sa N.length sc) (.slice ha h.length hc) ⟨iv, pts, N⟩ h (w3.alloc (Obj.cells #[.int .i64 iv, .slice pa pts.length pc, .slice sa N.length sc] 25))) :=
      ⟨(hB4.block _ (lt_of_block hwh)).trans hwh, heap_alloc_new _ _, ⟨hS3.pts.below hB4 |>.mono hB4.size, hNA.below hB4 |>.mono hB4.size, hS3.sz⟩, hHH.below hB4, hTT.below hB4, hTB.trans (hB4.mono hTB.size)⟩
    clear hb HS2 HH hown hNA a0 a1 a2 b0 b1 HTR0 hS3 hTW hTT hTB hHH hwh e1 hN nn hB4
    have hfit := Fits_any ⟨iv, pts, N⟩ (.slice pa pts.length pc) (.slice sa N.length sc) _ HB4.out.t
    rw [errS_zero HTR.out.valid, fitsS_of HTR.out.valid, HTR.out.fit] at hfit
    have HC := Lib.hid hfit
    clear hfit
    go_wp2_with fail
    generalize w3.alloc (Obj.cells #[.int .i64 iv, .slice pa pts.length pc, .slice sa N.length sc] 25) = w4 at *
    generalize w3.heap.size = bT at *
    refine HC.out.mono ?_
    rintro e w5 ⟨rfl, hb⟩
    have HB5 := Lib.hid (HB4.out.up hb)
    clear HC hb HB4
    have o0 := cellOf HB5.out.o 0 _ rfl
    have o1 := cellOf HB5.out.o 1 _ rfl
    have o2 := cellOf HB5.out.o 2 _ rfl
    have hh := Heights_any ⟨iv, pts, N⟩ (.slice pa pts.length pc) (.slice sa N.length sc) w5 HB5.out.t
    rw [(meas_fit HTR.out.valid HTR.out.fit).2] at hh
    have HC := Lib.hid hh
    clear hh
    go_wp2_with fail
    refine HC.out.mono ?_
    rintro e w6 ⟨vl, rfl, hsp, _, hb⟩
    have HB6 := Lib.hid (HB5.out.up hb)
    obtain ⟨gs, rfl, hspm⟩ := spm_of (hsp (by trivial))
    have HSP6 := Lib.hid hspm
    clear hsp hspm
    clear HC hb HB5 o0 o1 o2
    have o0 := cellOf HB6.out.o 0 _ rfl
    have o1 := cellOf HB6.out.o 1 _ rfl
    have o2 := cellOf HB6.out.o 2 _ rfl
    have hh := Highest_any ⟨iv, pts, N⟩ (.slice pa pts.length pc) (.slice sa N.length sc) w6 HB6.out.t
    rw [(meas_fit HTR.out.valid HTR.out.fit).2] at hh
    have HC := Lib.hid hh
    clear hh
    go_wp2_with fail
    refine HC.out.mono ?_
    rintro e w7 ⟨vh, rfl, hown, _, hb⟩
    have HB7 := Lib.hid (HB6.out.up hb)
    have hl8 := highS_len ⟨iv, pts, N⟩
    simp only at hl8
    have HI7 := Lib.hid (intsAt_own hown (by omega))
    have HSP7 := Lib.hid (HSP6.out.below hb)
    clear hown hl8 HSP6
    obtain ⟨_, qa, qc, rfl, _⟩ := id HI7.out
    clear HC hb HB6 o0 o1 o2
    have o0 := cellOf HB7.out.o 0 _ rfl
    have o1 := cellOf HB7.out.o 1 _ rfl
    have o2 := cellOf HB7.out.o 2 _ rfl
    have hh := Wrong_any ⟨iv, pts, N⟩ (.slice pa pts.length pc) (.slice sa N.length sc) w7 HB7.out.t
    rw [errS_zero HTR.out.valid, HTR.out.wrong] at hh
    have HC := Lib.hid hh
    clear hh
    go_wp2_with fail
    refine HC.out.mono ?_
    rintro e w8 ⟨vw, rfl, hown, hb⟩
    have HB8 := Lib.hid (HB7.out.up hb)
    obtain ⟨wa, wc, rfl⟩ := own_slice hown
    have HSP8 := Lib.hid (HSP7.out.below hb)
    have HI8 := Lib.hid (HI7.out.below hb)
    clear hown HSP7 HI7
    clear HC hb HB7 o0 o1 o2
    have o0 := cellOf HB8.out.o 0 _ rfl
    have o1 := cellOf HB8.out.o 1 _ rfl
    have o2 := cellOf HB8.out.o 2 _ rfl
    have hh := Wider_any ⟨iv, pts, N⟩ (.slice pa pts.length pc) (.slice sa N.length sc) w8 HB8.out.t
    rw [errS_zero HTR.out.valid] at hh
    have HC := Lib.hid hh
    clear hh
    go_wp2_with fail
    refine HC.out.mono ?_
    rintro e w9 ⟨rw', rfl, hwp, hb⟩
    have HB9 := Lib.hid (HB8.out.up hb)
    have hr0 : rw' = 0 := HTR.out.wid rw' (by unfold WidPost at hwp; rw [if_pos (errS_zero HTR.out.valid)] at hwp; exact hwp)
    subst hr0
    have HSP9 := Lib.hid (HSP8.out.below hb)
    have HI9 := Lib.hid (HI8.out.below hb)
    clear hwp HSP8 HI8
    clear HC hb HB8 o0 o1 o2
    have tl : ((pts.length : Int) != (h.length : Int)) = false := by have := HL.out; simp; omega
    have hl8 : h.length ≤ 8 := by rw [HL.out]; exact np8
    have h8I : (h.length : Int) ≤ 8 := by omega
    go_wp2_with fail
    go_loopw [21, 22] (fun bv kv wr => ∃ (k : Nat) (m : Int), k ≤ h.length ∧ kv = .int .i64 k ∧ bv = .int .i64 m ∧ Hid ((∀ q, q < k → hF h q ≤ m) ∧ 0 ≤ m ∧ m ≤ 9000 ∧ Below w9.heap.size w9 wr)) (fun _ kv _ => h.length - (intOf kv).toNat)
    case atStart => exact ⟨0, 0, Nat.zero_le _, rfl, rfl, fun q hq => by omega, by decide, by decide, Below.refl _ _⟩
    case round =>
      obtain ⟨k, m, hk, rfl, rfl, HM⟩ := hrel
      by_cases hlt : k < h.length
      · as_aux_lemma =>
        obtain ⟨_, a', c', e', hcc⟩ := HB9.out.h
        simp only [Value.slice.injEq, true_and] at e'
        obtain ⟨rfl, rfl⟩ := e'
        obtain ⟨bh, oh, rfl, hd⟩ := hcc (by rintro rfl; simp at hlt)
        have hck := hd k hlt
        have hb9 := HM.out.2.2.2
        have c1 := (hb9.cell (World.block_lt_of_cell? w9 _ hck)).trans hck
        have hz : h.getD k 0 = hF h k := rfl
        have hbd := HOK.out.bd k
        have hlo := HTR.out.lo k (by omega)
        have hhi := HTR.out.hi k (by omega)
        have hsp := (HSP9.out.below hb9) k (by rw [← HL.out]; exact hlt)
        obtain ⟨s1, s2⟩ := hsp
        rw [hz] at c1
        have kl : (k : Int) < (h.length : Int) := by omega
        have kp : (k : Int) < (pts.length : Int) := by have := HL.out; omega
        have HN : Hid ((∀ q, q < k + 1 → hF h q ≤ max m (hF h k)) ∧ 0 ≤ max m (hF h k) ∧ max m (hF h k) ≤ 9000) := by
          refine ⟨fun q hq => ?_, by have := HM.out.2.1; omega, by have := HM.out.2.2.1; omega⟩
          rcases Nat.lt_or_ge q k with g | g
          · have := HM.out.1 q g; omega
          · obtain rfl : q = k := by omega
            omega
        have HBr := Lib.hid hb9
        clear hcc hd hck hz hb9 HM
        generalize hF h k = z at *
        have d1 : decide (-(ent (measM ⟨iv, pts, N⟩) 8 k) ≤ z) = true := by simp; omega
        have d2 : decide (z ≤ ent (measM ⟨iv, pts, N⟩) k 8) = true := by simp; omega
        generalize -(ent (measM ⟨iv, pts, N⟩) 8 k) = u at *
        generalize ent (measM ⟨iv, pts, N⟩) k 8 = v at *
        have hin := inside_any z u v
        rw [d1, d2] at hin
        have HIN := Lib.hid hin
        clear hin d1 d2 hlo hhi
        go_wp2_with fail
        go_still_tail 8, (by kernel_rfl)
        have HBd : Hid (Below w9.heap.size w9 wr.drew) := HBr.out.drew
        change wpList _ _ _ _ _ wr.drew
        clear c1 s1 s2 HBr
        generalize wr.drew = w10 at *
        go_wp2_with fail
        refine (HIN.out w10).mono ?_
        rintro e w11 ⟨rfl, hb⟩
        have HBn := Lib.hid (HBd.out.trans (hb.mono HBd.out.size))
        clear hb HIN HBd
        simp only [Bool.and_self]
        go_wp2
        go_roundw
        case rel => exact ⟨k + 1, max m z, by omega, by go_num, by first | rfl | rw [if_min], HN.out.1, HN.out.2.1, HN.out.2.2, HBn.out⟩
        case measure => simp [intOf]; omega
      · as_aux_lemma =>
        have HM2 := Lib.hid (show ∀ q, q < h.length → hF h q ≤ m from fun q hq => HM.out.1 q (by omega))
        have hb9 := HM.out.2.2.2
        have HB10 := Lib.hid (HB9.out.up hb9)
        have HI10 := Lib.hid (HI9.out.below hb9)
        clear HM hb9 HB9 HI9 HSP9
        go_wp2_with fail
        generalize wr = w10 at *
        go_loopw [23] (fun kv wr => ∃ k : Nat, k ≤ h.length ∧ kv = .int .i64 k ∧ Hid (Below w10.heap.size w10 wr)) (fun kv _ => h.length - (intOf kv).toNat)
        case atStart => exact ⟨0, Nat.zero_le _, rfl, Below.refl _ _⟩
        case round =>
          obtain ⟨k, hk, rfl, HBk⟩ := hrel
          by_cases hlt : k < h.length
          · as_aux_lemma =>
            obtain ⟨_, a', c', e', hcc⟩ := HB10.out.h
            simp only [Value.slice.injEq, true_and] at e'
            obtain ⟨rfl, rfl⟩ := e'
            obtain ⟨bh, oh, rfl, hd⟩ := hcc (by rintro rfl; simp at hlt)
            have hck := hd k hlt
            have c1 := (HBk.out.cell (World.block_lt_of_cell? w10 _ hck)).trans hck
            have hz : h.getD k 0 = hF h k := rfl
            rw [hz] at c1
            have HTOP : Hid (hF h k = m → (k : Int) ∈ highS ⟨iv, pts, N⟩) := fun e => HTR.out.top (by rw [← HL.out]; exact hlt) (fun q hq => by rw [e]; exact HM2.out q (by rw [HL.out]; exact hq))
            have kl : (k : Int) < (h.length : Int) := by omega
            have hhas := has_any (k : Int) _ (highS ⟨iv, pts, N⟩) wr (HI10.out.below HBk.out)
            have HHAS := Lib.hid hhas
            clear hcc hd hck hz hhas
            generalize hF h k = z at *
            by_cases hzm : z = m
            · have tz : (z == m) = true := by simp [hzm]
              have hdec : decide ((k : Int) ∈ highS ⟨iv, pts, N⟩) = true := decide_eq_true (HTOP.out hzm)
              rw [hdec] at HHAS
              clear hzm hdec HTOP
              go_wp2_with fail
              refine HHAS.out.mono ?_
              rintro e w' ⟨rfl, rfl⟩
              go_wp2
              go_roundw
              case rel => exact ⟨k + 1, by omega, by go_num, HBk.out⟩
              case measure => simp [intOf]; omega
            · have tz : (z == m) = false := by simp [hzm]
              clear hzm HTOP HHAS
              go_wp2
              go_roundw
              case rel => exact ⟨k + 1, by omega, by go_num, HBk.out⟩
              case measure => simp [intOf]; omega
          · as_aux_lemma =>
            have HB11 := Lib.hid (HB10.out.up HBk.out)
            have u0 := cellOf HB11.out.wh 0 _ rfl
            have u1 := cellOf HB11.out.wh 1 _ rfl
            have e1 := mod_nat x h.length
            have e2 := mod_nat y h.length
            have z0 : ((h.length : Int) == 0) = false := by rw [beq_eq_false_iff_ne]; have := HL.out; omega
            have pl1 : (1 : Int) ≤ (h.length : Int) := by have := HL.out; omega
            have bx : (x : Int) ≤ 255 := by omega
            have by' : (y : Int) ≤ 255 := by omega
            have hla : x % h.length < h.length := Nat.mod_lt _ (by have := HL.out; omega)
            have hlb : y % h.length < h.length := Nat.mod_lt _ (by have := HL.out; omega)
            clear HM2 HI10 HB10 HBk
            generalize x % h.length = a at *
            generalize y % h.length = b at *
            go_wp2_with fail
            go_quiet (fail)
            have hbq : Below wr.heap.size wr (wr.drewN nq) := ⟨rfl, rfl, rfl, Nat.le_refl _, fun _ _ => rfl⟩
            have HB12 := Lib.hid (HB11.out.up hbq)
            clear hbq HB11 u0 u1 e1 e2 z0
            go_upto_region 26 with fail
            generalize wr.drewN nq = w12 at *
            have o0 := cellOf HB12.out.o 0 _ rfl
            have o1 := cellOf HB12.out.o 1 _ rfl
            have o2 := cellOf HB12.out.o 2 _ rfl
            obtain ⟨lo, hi, o, hap, q1, q2, q3, q4, q5, q6, q7⟩ := HTR.out.apart (a := a) (b := b) (by rw [← HL.out]; exact hla) (by rw [← HL.out]; exact hlb)
            have hc := Apart_any ⟨iv, pts, N⟩ (.slice pa pts.length pc) (.slice sa N.length sc) (a : Int) (b : Int) w12 HB12.out.t
            rw [hap] at hc
            have HC := Lib.hid hc
            clear hc hap
            go_wp2_with fail
            refine HC.out.mono ?_
            rintro e w13 ⟨rfl, hb⟩
            have HB13 := Lib.hid (HB12.out.up hb)
            clear hb HC HB12 o0 o1 o2
            have hB14 : Below w13.heap.size w13 (w13.alloc (Obj.cells #[.int .i64 lo, .int .i64 hi] 40)) := (Below.refl _ _).alloc (Nat.le_refl _) _
            have HB14 := Lib.hid (HB13.out.up hB14)
            have HY14 := Lib.hid (heap_alloc_new w13 (Obj.cells #[.int .i64 lo, .int .i64 hi] 40))
            obtain ⟨_, a', c', e', hcc⟩ := HB14.out.h
            simp only [Value.slice.injEq, true_and] at e'
            obtain ⟨rfl, rfl⟩ := e'
            obtain ⟨bh, oh, rfl, hd⟩ := hcc (by rintro rfl; simp at hla)
            have ca := hd a hla
            have cb := hd b hlb
            have hz1 : h.getD a 0 = hF h a := rfl
            have hz2 : h.getD b 0 = hF h b := rfl
            rw [hz1] at ca
            rw [hz2] at cb
            have ba := HOK.out.bd a
            have bb := HOK.out.bd b
            have al : (a : Int) < (h.length : Int) := by omega
            have bl : (b : Int) < (h.length : Int) := by omega
            clear hcc hd hz1 hz2 hB14 HB13
            generalize hF h a = za at *
            generalize hF h b = zb at *
            obtain ⟨ba0, ba9⟩ := ba
            obtain ⟨bb0, bb9⟩ := bb
            have d1 : decide (lo ≤ za - zb) = true := by simp; omega
            have d2 : decide (za - zb ≤ hi) = true := by simp; omega
            have hin := inside_any (za - zb) lo hi
            rw [d1, d2] at hin
            have HIN := Lib.hid hin
            clear hin d1 d2
            go_upto_region 27 with fail
            generalize w13.alloc (Obj.cells #[.int .i64 lo, .int .i64 hi] 40) = w14 at *
            generalize w13.heap.size = by0 at *
            go_quiet (fail)
            have hbq : Below w14.heap.size w14 (w14.drewN nq) := ⟨rfl, rfl, rfl, Nat.le_refl _, fun _ _ => rfl⟩
            have HB15 := Lib.hid (HB14.out.up hbq)
            have hY15 := (hbq.block _ (lt_of_block HY14.out)).trans HY14.out
            have HY15 := Lib.hid hY15
            have y0 := cellOf hY15 0 _ rfl
            have y1 := cellOf hY15 1 _ rfl
            clear hbq HB14 HY14 hY15 ca cb
            go_upto_region 28 with fail
            generalize w14.drewN nq = w15 at *
            generalize za - zb = d at *
            have ho : o = 0 ∨ o = 1 ∨ o = 2 ∨ o = 3 := by omega
            rcases ho with rfl | rfl | rfl | rfl
            case' inr.inl => have ds : decide (d < 0) = true := by have := q4 rfl; simp; omega
            case' inr.inr.inl => have ds : decide (0 < d) = true := by have := q3 rfl; simp; omega
            case' inr.inr.inr => have ds : (d == 0) = true := by have := q5 rfl; simp; omega
            all_goals
              clear q1 q2 q3 q4 q5 q6 q7
              go_wp2_with fail
              refine (HIN.out w15).mono ?_
              rintro e w16 ⟨rfl, hb⟩
              have HB16 := Lib.hid (HB15.out.up hb)
              clear hb HIN HB15
              simp only [Bool.and_self]
              go_wp2_with fail
              refine (awake_any _ HB16.out.T).mono ?_
              rintro e wA ⟨rfl, hb⟩
              have HBA := Lib.hid (HB16.out.B.trans (hb.mono HB16.out.B.size))
              clear hb
              go_wp2
              go_ret
              exact ⟨rfl, HBA.out⟩
  · have tv : (errS ⟨iv, pts, notes⟩ == 0) = false := by simp [hv]
    rw [tv]
    have tn : (errS ⟨iv, pts, notes⟩ != 0) = true := by simp [hv]
    have hc := Heights_any ⟨iv, pts, notes⟩ (.slice pa pts.length pc) (.slice na notes.length nc) w1 HS1.out.s
    have he : measE ⟨iv, pts, notes⟩ = errS ⟨iv, pts, notes⟩ := by unfold measE; rw [if_neg hv]
    rw [he] at hc
    generalize errS ⟨iv, pts, notes⟩ = r at *
    have hr := hc.mono (R' := fun e w' => e = .returned (.tuple #[.slice none 0 0, .int .i64 r]) ∧ Below w1.heap.size w1 w') (by
      rintro e w' ⟨v, rfl, _, h0, hb⟩
      obtain rfl := h0 hv
      exact ⟨rfl, hb⟩)
    have HC := Lib.hid hr
    clear hc hr he tv hv
    go_wp2_with fail
    refine HC.out.mono ?_
    rintro e w2 ⟨rfl, hb⟩
    have HS2 := Lib.hid (HS1.out.up hb)
    clear hb HC HS1 a0 a1 a2
    go_wp2_with fail
    refine (awake_any _ HS2.out.T).mono ?_
    rintro e wA ⟨rfl, hb⟩
    have HBA := Lib.hid (HS2.out.B.trans (hb.mono HS2.out.B.size))
    clear hb
    go_wp2
    go_ret
    exact ⟨rfl, HBA.out⟩
end Go.Proofs.YtnllhnpkmikndaaGreatDoor
