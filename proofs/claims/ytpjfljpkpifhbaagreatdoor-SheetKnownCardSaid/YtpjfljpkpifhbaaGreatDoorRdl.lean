/- The reader of package sheet: a line. -/
import Derived.Test.YtpjfljpkpifhbaaGreatDoorRdt
set_option linter.unusedSimpArgs false
set_option linter.unusedVariables false
namespace Go.Proofs.YtpjfljpkpifhbaaGreatDoor
open Go Go.RowKit Go.Maps Go.WideMaps Hs

/-- Another interval. -/
theorem RdSt.setIv {B0 B1 B2 Br Bm : Nat} {r : Rd} {ws : List ByteArray} {w : World} (h : RdSt B0 B1 B2 Br Bm r ws w) (n : Int) : RdB B0 B1 Br Bm ⟨n, r.pts, r.notes⟩ (w.setCell ⟨Br, 0, none⟩ (.int .i64 n)) := by
  obtain ⟨pa, pc, na, nc, wa, wc, h1, h2, h3, _, _, _⟩ := h.row
  exact ⟨⟨pa, pc, na, nc, _, heap_setCell_same w Br 0 _ _ _ h1, own_other h2 _ h.r1 _, own_other h3 _ h.r1 _⟩, h.map.kept (grown_setAt w Br 0 _) (by have := h.ne; simpa using fun e => this e.symm), h.b0r, h.b0m, h.r1, h.m1, h.ne, by simpa using h.b1, h.small⟩

set_option maxRecDepth 100000 in
set_option maxHeartbeats 2000000 in
theorem rline_sheet (B0 B1 B2 Br Bm : Nat) (r : Rd) (sn : ByteArray) (n : Int) (ws : List ByteArray) (w : World) (h : RdSt B0 B1 B2 Br Bm r ((⟨#[115, 104, 101, 101, 116]⟩ : ByteArray) :: sn :: ws) w) (hs : sn.size ≤ 2000) (hn : Lib.atoiAll sn.data.toList = .ok n) :
    Calls Tryz.prog 51 #[.pointer (some ⟨Br, 0, none⟩)] w fun e w' => e = .returned (.tuple #[]) ∧ RdB B0 B1 Br Bm ⟨n, r.pts, r.notes⟩ w' ∧ Kb B1 Br Bm w w' := by
  have hw := word_any B0 B1 B2 Br Bm r (⟨#[115, 104, 101, 101, 116]⟩ : ByteArray) (sn :: ws) w h
  have HW := Lib.hid hw
  have h0 : B0 ≤ Br := h.b0r
  have h01 : Br < B1 := h.r1
  have hb1 := h.b1
  clear h hw
  go_enter Tryz.func51, Tryz.ntmps51
  go_wp2_with fail
  refine HW.out.mono ?_
  rintro e w1 ⟨rfl, st1, gr1⟩
  have g1 : Kb B1 Br Bm w w1 := (Kb.refl w).grown gr1 hb1 (fun k hk => by simp at hk; omega)
  have hw1 := g1.size
  have hc := number_any B0 B1 B2 Br Bm r sn ws n w1 st1 hs hn
  have HC := Lib.hid hc
  have G1 := Lib.hid g1
  clear hc st1 gr1 g1 hn HW
  go_wp2_with fail
  refine HC.out.mono ?_
  rintro e w2 ⟨rfl, st2, gr2⟩
  obtain ⟨pa, pc, na, nc, wa, wc, r1, _, _, _, _, _⟩ := st2.row
  have c0 := cellOf r1 0 _ rfl
  have f0 := frozen_of_row _ Br 0 _ _ r1
  have HB := Lib.hid (st2.setIv n)
  have G2 : Hid (Kb B1 Br Bm w (w2.setCell ⟨Br, 0, none⟩ (.int .i64 n))) := (G1.out.grown gr2 (by omega) (fun k hk => by simp at hk; omega)).setCell (.inr (.inl rfl)) _
  clear st2 gr2 r1 HC
  go_wp2
  go_end0
  exact ⟨rfl, HB.out, G2.out⟩

set_option maxRecDepth 100000 in
set_option maxHeartbeats 2000000 in
theorem rline_point (B0 B1 B2 Br Bm : Nat) (r : Rd) (s : ByteArray) (ws : List ByteArray) (w : World) (h : RdSt B0 B1 B2 Br Bm r ((⟨#[112, 111, 105, 110, 116]⟩ : ByteArray) :: s :: ws) w) (hs : s.size ≤ 2000) (hl : r.pts.length < 2000) :
    Calls Tryz.prog 51 #[.pointer (some ⟨Br, 0, none⟩)] w fun e w' => e = .returned (.tuple #[]) ∧ RdB B0 B1 Br Bm ⟨r.iv, r.pts ++ [s], r.notes⟩ w' ∧ Kb B1 Br Bm w w' := by
  have hw := word_any B0 B1 B2 Br Bm r (⟨#[112, 111, 105, 110, 116]⟩ : ByteArray) (s :: ws) w h
  have HW := Lib.hid hw
  have h0 : B0 ≤ Br := h.b0r
  have h01 : Br < B1 := h.r1
  have hb1 := h.b1
  clear h hw
  go_enter Tryz.func51, Tryz.ntmps51
  go_wp2_with fail
  refine HW.out.mono ?_
  rintro e w1 ⟨rfl, st1, gr1⟩
  have g1 : Kb B1 Br Bm w w1 := (Kb.refl w).grown gr1 hb1 (fun k hk => by simp at hk; omega)
  have hw1 := g1.size
  have hc := rname_any B0 B1 B2 Br Bm r s ws w1 st1 hs hl
  have HC := Lib.hid hc
  have G1 := Lib.hid g1
  clear hc st1 gr1 g1 HW   
  go_wp2_with fail
  refine HC.out.mono ?_
  rintro e w2 ⟨rfl, st2, gr2⟩
  have HB := Lib.hid st2
  have G2 := Lib.hid (G1.out.trans gr2)
  clear st2 gr2 HC
  go_wp2
  go_end0
  exact ⟨rfl, HB.out, G2.out⟩

set_option maxRecDepth 100000 in
set_option maxHeartbeats 2000000 in
theorem rline_spot (B0 B1 B2 Br Bm : Nat) (r : Rd) (sa : ByteArray) (ia : Nat) (sl sh : ByteArray) (lo hi : Int) (ws : List ByteArray) (w : World) (h : RdSt B0 B1 B2 Br Bm r ((⟨#[115, 112, 111, 116]⟩ : ByteArray) :: sa :: sl :: sh :: ws) w) (hsa : sa.size ≤ 2000) (ha : idxOf r.pts sa.data.toList = some ia) (hsl : sl.size ≤ 2000) (hsh : sh.size ≤ 2000) (hl : Lib.atoiAll sl.data.toList = .ok lo) (hh : Lib.atoiAll sh.data.toList = .ok hi) (hn : r.notes.length < 2000) :
    Calls Tryz.prog 51 #[.pointer (some ⟨Br, 0, none⟩)] w fun e w' => e = .returned (.tuple #[]) ∧ RdB B0 B1 Br Bm ⟨r.iv, r.pts, r.notes ++ [⟨1, ia, 0, lo, hi⟩]⟩ w' ∧ Kb B1 Br Bm w w' := by
  have hw := word_any B0 B1 B2 Br Bm r (⟨#[115, 112, 111, 116]⟩ : ByteArray) (sa :: sl :: sh :: ws) w h
  have HW := Lib.hid hw
  have h0 : B0 ≤ Br := h.b0r
  have h01 : Br < B1 := h.r1
  have hb1 := h.b1
  clear h hw
  go_enter Tryz.func51, Tryz.ntmps51
  go_wp2_with fail
  refine HW.out.mono ?_
  rintro e w1 ⟨rfl, st1, gr1⟩
  have g1 : Kb B1 Br Bm w w1 := (Kb.refl w).grown gr1 hb1 (fun k hk => by simp at hk; omega)
  have hw1 := g1.size
  have hc := rnote_1 B0 B1 B2 Br Bm r sa ia sl sh lo hi ws w1 st1 hsa ha hsl hsh hl hh hn
  have HC := Lib.hid hc
  have G1 := Lib.hid g1
  clear hc st1 gr1 g1 HW ha  hl hh
  go_wp2_with fail
  refine HC.out.mono ?_
  rintro e w2 ⟨rfl, st2, gr2⟩
  have HB := Lib.hid st2
  have G2 := Lib.hid (G1.out.trans gr2)
  clear st2 gr2 HC
  go_wp2
  go_end0
  exact ⟨rfl, HB.out, G2.out⟩

set_option maxRecDepth 100000 in
set_option maxHeartbeats 2000000 in
theorem rline_contour (B0 B1 B2 Br Bm : Nat) (r : Rd) (sa : ByteArray) (ia : Nat) (sl sh : ByteArray) (lo hi : Int) (ws : List ByteArray) (w : World) (h : RdSt B0 B1 B2 Br Bm r ((⟨#[99, 111, 110, 116, 111, 117, 114]⟩ : ByteArray) :: sa :: sl :: sh :: ws) w) (hsa : sa.size ≤ 2000) (ha : idxOf r.pts sa.data.toList = some ia) (hsl : sl.size ≤ 2000) (hsh : sh.size ≤ 2000) (hl : Lib.atoiAll sl.data.toList = .ok lo) (hh : Lib.atoiAll sh.data.toList = .ok hi) (hn : r.notes.length < 2000) :
    Calls Tryz.prog 51 #[.pointer (some ⟨Br, 0, none⟩)] w fun e w' => e = .returned (.tuple #[]) ∧ RdB B0 B1 Br Bm ⟨r.iv, r.pts, r.notes ++ [⟨2, ia, 0, lo, hi⟩]⟩ w' ∧ Kb B1 Br Bm w w' := by
  have hw := word_any B0 B1 B2 Br Bm r (⟨#[99, 111, 110, 116, 111, 117, 114]⟩ : ByteArray) (sa :: sl :: sh :: ws) w h
  have HW := Lib.hid hw
  have h0 : B0 ≤ Br := h.b0r
  have h01 : Br < B1 := h.r1
  have hb1 := h.b1
  clear h hw
  go_enter Tryz.func51, Tryz.ntmps51
  go_wp2_with fail
  refine HW.out.mono ?_
  rintro e w1 ⟨rfl, st1, gr1⟩
  have g1 : Kb B1 Br Bm w w1 := (Kb.refl w).grown gr1 hb1 (fun k hk => by simp at hk; omega)
  have hw1 := g1.size
  have hc := rnote_2 B0 B1 B2 Br Bm r sa ia sl sh lo hi ws w1 st1 hsa ha hsl hsh hl hh hn
  have HC := Lib.hid hc
  have G1 := Lib.hid g1
  clear hc st1 gr1 g1 HW ha  hl hh
  go_wp2_with fail
  refine HC.out.mono ?_
  rintro e w2 ⟨rfl, st2, gr2⟩
  have HB := Lib.hid st2
  have G2 := Lib.hid (G1.out.trans gr2)
  clear st2 gr2 HC
  go_wp2
  go_end0
  exact ⟨rfl, HB.out, G2.out⟩

set_option maxRecDepth 100000 in
set_option maxHeartbeats 2000000 in
theorem rline_lake (B0 B1 B2 Br Bm : Nat) (r : Rd) (sa : ByteArray) (ia : Nat) (sb : ByteArray) (ib : Nat) (ws : List ByteArray) (w : World) (h : RdSt B0 B1 B2 Br Bm r ((⟨#[108, 97, 107, 101]⟩ : ByteArray) :: sa :: sb :: ws) w) (hsa : sa.size ≤ 2000) (ha : idxOf r.pts sa.data.toList = some ia) (hsb : sb.size ≤ 2000) (hb : idxOf r.pts sb.data.toList = some ib) (hn : r.notes.length < 2000) :
    Calls Tryz.prog 51 #[.pointer (some ⟨Br, 0, none⟩)] w fun e w' => e = .returned (.tuple #[]) ∧ RdB B0 B1 Br Bm ⟨r.iv, r.pts, r.notes ++ [⟨3, ia, ib, 0, 0⟩]⟩ w' ∧ Kb B1 Br Bm w w' := by
  have hw := word_any B0 B1 B2 Br Bm r (⟨#[108, 97, 107, 101]⟩ : ByteArray) (sa :: sb :: ws) w h
  have HW := Lib.hid hw
  have h0 : B0 ≤ Br := h.b0r
  have h01 : Br < B1 := h.r1
  have hb1 := h.b1
  clear h hw
  go_enter Tryz.func51, Tryz.ntmps51
  go_wp2_with fail
  refine HW.out.mono ?_
  rintro e w1 ⟨rfl, st1, gr1⟩
  have g1 : Kb B1 Br Bm w w1 := (Kb.refl w).grown gr1 hb1 (fun k hk => by simp at hk; omega)
  have hw1 := g1.size
  have hc := rnote_3 B0 B1 B2 Br Bm r sa ia sb ib ws w1 st1 hsa ha hsb hb hn
  have HC := Lib.hid hc
  have G1 := Lib.hid g1
  clear hc st1 gr1 g1 HW ha hb 
  go_wp2_with fail
  refine HC.out.mono ?_
  rintro e w2 ⟨rfl, st2, gr2⟩
  have HB := Lib.hid st2
  have G2 := Lib.hid (G1.out.trans gr2)
  clear st2 gr2 HC
  go_wp2
  go_end0
  exact ⟨rfl, HB.out, G2.out⟩

set_option maxRecDepth 100000 in
set_option maxHeartbeats 2000000 in
theorem rline_slope (B0 B1 B2 Br Bm : Nat) (r : Rd) (sa : ByteArray) (ia : Nat) (sb : ByteArray) (ib : Nat) (sl sh : ByteArray) (lo hi : Int) (ws : List ByteArray) (w : World) (h : RdSt B0 B1 B2 Br Bm r ((⟨#[115, 108, 111, 112, 101]⟩ : ByteArray) :: sa :: sb :: sl :: sh :: ws) w) (hsa : sa.size ≤ 2000) (ha : idxOf r.pts sa.data.toList = some ia) (hsb : sb.size ≤ 2000) (hb : idxOf r.pts sb.data.toList = some ib) (hsl : sl.size ≤ 2000) (hsh : sh.size ≤ 2000) (hl : Lib.atoiAll sl.data.toList = .ok lo) (hh : Lib.atoiAll sh.data.toList = .ok hi) (hn : r.notes.length < 2000) :
    Calls Tryz.prog 51 #[.pointer (some ⟨Br, 0, none⟩)] w fun e w' => e = .returned (.tuple #[]) ∧ RdB B0 B1 Br Bm ⟨r.iv, r.pts, r.notes ++ [⟨4, ia, ib, lo, hi⟩]⟩ w' ∧ Kb B1 Br Bm w w' := by
  have hw := word_any B0 B1 B2 Br Bm r (⟨#[115, 108, 111, 112, 101]⟩ : ByteArray) (sa :: sb :: sl :: sh :: ws) w h
  have HW := Lib.hid hw
  have h0 : B0 ≤ Br := h.b0r
  have h01 : Br < B1 := h.r1
  have hb1 := h.b1
  clear h hw
  go_enter Tryz.func51, Tryz.ntmps51
  go_wp2_with fail
  refine HW.out.mono ?_
  rintro e w1 ⟨rfl, st1, gr1⟩
  have g1 : Kb B1 Br Bm w w1 := (Kb.refl w).grown gr1 hb1 (fun k hk => by simp at hk; omega)
  have hw1 := g1.size
  have hc := rnote_4 B0 B1 B2 Br Bm r sa ia sb ib sl sh lo hi ws w1 st1 hsa ha hsb hb hsl hsh hl hh hn
  have HC := Lib.hid hc
  have G1 := Lib.hid g1
  clear hc st1 gr1 g1 HW ha hb hl hh
  go_wp2_with fail
  refine HC.out.mono ?_
  rintro e w2 ⟨rfl, st2, gr2⟩
  have HB := Lib.hid st2
  have G2 := Lib.hid (G1.out.trans gr2)
  clear st2 gr2 HC
  go_wp2
  go_end0
  exact ⟨rfl, HB.out, G2.out⟩
end Go.Proofs.YtpjfljpkpifhbaaGreatDoor
