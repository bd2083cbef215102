/- The reader of package sheet: a line. -/
import Derived.Test.YtacmaddjpaebfaaGreatDoorRdt
import Derived.Test.YtacmaddjpaebfaaGreatDoorWr
set_option linter.unusedSimpArgs false
set_option linter.unusedVariables false
namespace Go.Proofs.YtacmaddjpaebfaaGreatDoor
open Go Go.RowKit Go.Maps Go.WideMaps Hs

/-- Another interval. -/
theorem RdSt.setIv {B0 B1 B2 Br Bm : Nat} {r : Rd} {ws : List ByteArray} {w : World} (h : RdSt B0 B1 B2 Br Bm r ws w) (n : Int) : RdB B0 B1 Br Bm ⟨n, r.pts, r.notes⟩ (w.setCell ⟨Br, 0, none⟩ (.int .i64 n)) := by
  obtain ⟨pa, pc, na, nc, wa, wc, h1, h2, h3, _, _, _⟩ := h.row
  exact ⟨⟨pa, pc, na, nc, _, heap_setCell_same w Br 0 _ _ _ h1, own_other h2 _ h.r1 _, own_other h3 _ h.r1 _⟩, h.map.kept (grown_setAt w Br 0 _) (by have := h.ne; simpa using fun e => this e.symm), h.b0r, h.b0m, h.r1, h.m1, h.ne, by simpa using h.b1, h.small⟩

set_option maxRecDepth 100000 in
set_option maxHeartbeats 2000000 in
theorem rline_sheet (B0 B1 B2 Br Bm : Nat) (r : Rd) (sn : ByteArray) (n : Int) (ws : List ByteArray) (w : World) (h : RdSt B0 B1 B2 Br Bm r ((⟨#[115, 104, 101, 101, 116]⟩ : ByteArray) :: sn :: ws) w) (hs : sn.size ≤ 2000) (hn : Lib.atoiAll sn.data.toList = .ok n) :
    Calls Tryz.prog 89 #[.pointer (some ⟨Br, 0, none⟩)] w fun e w' => e = .returned (.tuple #[]) ∧ RdB B0 B1 Br Bm ⟨n, r.pts, r.notes⟩ w' ∧ Kb B1 Br Bm w w' := by
  have hw := word_any B0 B1 B2 Br Bm r (⟨#[115, 104, 101, 101, 116]⟩ : ByteArray) (sn :: ws) w h
  have HW := Lib.hid hw
  have h0 : B0 ≤ Br := h.b0r
  have h01 : Br < B1 := h.r1
  have hb1 := h.b1
  clear h hw
  go_enter Tryz.func89, Tryz.ntmps89
  go_wp2_with fail
  refine HW.out.mono ?_
  rintro e w1 ⟨rfl, st1, gr1⟩
  have g1 : Kb B1 Br Bm w w1 := (Kb.refl w).grown gr1 hb1 (fun k hk => by simp at hk; omega)
  have hw1 := g1.size
  have hc := number_any B0 B1 B2 Br Bm r sn ws n w1 st1 hs hn
  have HC := Lib.hid hc
  have G1 := Lib.hid g1
  clear hc st1 gr1 g1 hn HW
  go_wp2_with fail
  refine HC.out.mono ?_
  rintro e w2 ⟨rfl, st2, gr2⟩
  obtain ⟨pa, pc, na, nc, wa, wc, r1, _, _, _, _, _⟩ := st2.row
  have c0 := cellOf r1 0 _ rfl
  have f0 := frozen_of_row _ Br 0 _ _ r1
  have HB := Lib.hid (st2.setIv n)
  have G2 : Hid (Kb B1 Br Bm w (w2.setCell ⟨Br, 0, none⟩ (.int .i64 n))) := (G1.out.grown gr2 (by omega) (fun k hk => by simp at hk; omega)).setCell (.inr (.inl rfl)) _
  clear st2 gr2 r1 HC
  go_wp2
  go_end0
  exact ⟨rfl, HB.out, G2.out⟩

set_option maxRecDepth 100000 in
set_option maxHeartbeats 2000000 in
theorem rline_point (B0 B1 B2 Br Bm : Nat) (r : Rd) (s : ByteArray) (ws : List ByteArray) (w : World) (h : RdSt B0 B1 B2 Br Bm r ((⟨#[112, 111, 105, 110, 116]⟩ : ByteArray) :: s :: ws) w) (hs : s.size ≤ 2000) (hl : r.pts.length < 2000) :
    Calls Tryz.prog 89 #[.pointer (some ⟨Br, 0, none⟩)] w fun e w' => e = .returned (.tuple #[]) ∧ RdB B0 B1 Br Bm ⟨r.iv, r.pts ++ [s], r.notes⟩ w' ∧ Kb B1 Br Bm w w' := by
  have hw := word_any B0 B1 B2 Br Bm r (⟨#[112, 111, 105, 110, 116]⟩ : ByteArray) (s :: ws) w h
  have HW := Lib.hid hw
  have h0 : B0 ≤ Br := h.b0r
  have h01 : Br < B1 := h.r1
  have hb1 := h.b1
  clear h hw
  go_enter Tryz.func89, Tryz.ntmps89
  go_wp2_with fail
  refine HW.out.mono ?_
  rintro e w1 ⟨rfl, st1, gr1⟩
  have g1 : Kb B1 Br Bm w w1 := (Kb.refl w).grown gr1 hb1 (fun k hk => by simp at hk; omega)
  have hw1 := g1.size
  have hc := rname_any B0 B1 B2 Br Bm r s ws w1 st1 hs hl
  have HC := Lib.hid hc
  have G1 := Lib.hid g1
  clear hc st1 gr1 g1 HW   
  go_wp2_with fail
  refine HC.out.mono ?_
  rintro e w2 ⟨rfl, st2, gr2⟩
  have HB := Lib.hid st2
  have G2 := Lib.hid (G1.out.trans gr2)
  clear st2 gr2 HC
  go_wp2
  go_end0
  exact ⟨rfl, HB.out, G2.out⟩

set_option maxRecDepth 100000 in
set_option maxHeartbeats 2000000 in
theorem rline_spot (B0 B1 B2 Br Bm : Nat) (r : Rd) (sa : ByteArray) (ia : Nat) (sl sh : ByteArray) (lo hi : Int) (ws : List ByteArray) (w : World) (h : RdSt B0 B1 B2 Br Bm r ((⟨#[115, 112, 111, 116]⟩ : ByteArray) :: sa :: sl :: sh :: ws) w) (hsa : sa.size ≤ 2000) (ha : idxOf r.pts sa.data.toList = some ia) (hsl : sl.size ≤ 2000) (hsh : sh.size ≤ 2000) (hl : Lib.atoiAll sl.data.toList = .ok lo) (hh : Lib.atoiAll sh.data.toList = .ok hi) (hn : r.notes.length < 2000) :
    Calls Tryz.prog 89 #[.pointer (some ⟨Br, 0, none⟩)] w fun e w' => e = .returned (.tuple #[]) ∧ RdB B0 B1 Br Bm ⟨r.iv, r.pts, r.notes ++ [⟨1, ia, 0, lo, hi⟩]⟩ w' ∧ Kb B1 Br Bm w w' := by
  have hw := word_any B0 B1 B2 Br Bm r (⟨#[115, 112, 111, 116]⟩ : ByteArray) (sa :: sl :: sh :: ws) w h
  have HW := Lib.hid hw
  have h0 : B0 ≤ Br := h.b0r
  have h01 : Br < B1 := h.r1
  have hb1 := h.b1
  clear h hw
  go_enter Tryz.func89, Tryz.ntmps89
  go_wp2_with fail
  refine HW.out.mono ?_
  rintro e w1 ⟨rfl, st1, gr1⟩
  have g1 : Kb B1 Br Bm w w1 := (Kb.refl w).grown gr1 hb1 (fun k hk => by simp at hk; omega)
  have hw1 := g1.size
  have hc := rnote_1 B0 B1 B2 Br Bm r sa ia sl sh lo hi ws w1 st1 hsa ha hsl hsh hl hh hn
  have HC := Lib.hid hc
  have G1 := Lib.hid g1
  clear hc st1 gr1 g1 HW ha  hl hh
  go_wp2_with fail
  refine HC.out.mono ?_
  rintro e w2 ⟨rfl, st2, gr2⟩
  have HB := Lib.hid st2
  have G2 := Lib.hid (G1.out.trans gr2)
  clear st2 gr2 HC
  go_wp2
  go_end0
  exact ⟨rfl, HB.out, G2.out⟩

set_option maxRecDepth 100000 in
set_option maxHeartbeats 2000000 in
theorem rline_contour (B0 B1 B2 Br Bm : Nat) (r : Rd) (sa : ByteArray) (ia : Nat) (sl sh : ByteArray) (lo hi : Int) (ws : List ByteArray) (w : World) (h : RdSt B0 B1 B2 Br Bm r ((⟨#[99, 111, 110, 116, 111, 117, 114]⟩ : ByteArray) :: sa :: sl :: sh :: ws) w) (hsa : sa.size ≤ 2000) (ha : idxOf r.pts sa.data.toList = some ia) (hsl : sl.size ≤ 2000) (hsh : sh.size ≤ 2000) (hl : Lib.atoiAll sl.data.toList = .ok lo) (hh : Lib.atoiAll sh.data.toList = .ok hi) (hn : r.notes.length < 2000) :
    Calls Tryz.prog 89 #[.pointer (some ⟨Br, 0, none⟩)] w fun e w' => e = .returned (.tuple #[]) ∧ RdB B0 B1 Br Bm ⟨r.iv, r.pts, r.notes ++ [⟨2, ia, 0, lo, hi⟩]⟩ w' ∧ Kb B1 Br Bm w w' := by
  have hw := word_any B0 B1 B2 Br Bm r (⟨#[99, 111, 110, 116, 111, 117, 114]⟩ : ByteArray) (sa :: sl :: sh :: ws) w h
  have HW := Lib.hid hw
  have h0 : B0 ≤ Br := h.b0r
  have h01 : Br < B1 := h.r1
  have hb1 := h.b1
  clear h hw
  go_enter Tryz.func89, Tryz.ntmps89
  go_wp2_with fail
  refine HW.out.mono ?_
  rintro e w1 ⟨rfl, st1, gr1⟩
  have g1 : Kb B1 Br Bm w w1 := (Kb.refl w).grown gr1 hb1 (fun k hk => by simp at hk; omega)
  have hw1 := g1.size
  have hc := rnote_2 B0 B1 B2 Br Bm r sa ia sl sh lo hi ws w1 st1 hsa ha hsl hsh hl hh hn
  have HC := Lib.hid hc
  have G1 := Lib.hid g1
  clear hc st1 gr1 g1 HW ha  hl hh
  go_wp2_with fail
  refine HC.out.mono ?_
  rintro e w2 ⟨rfl, st2, gr2⟩
  have HB := Lib.hid st2
  have G2 := Lib.hid (G1.out.trans gr2)
  clear st2 gr2 HC
  go_wp2
  go_end0
  exact ⟨rfl, HB.out, G2.out⟩

set_option maxRecDepth 100000 in
set_option maxHeartbeats 2000000 in
theorem rline_lake (B0 B1 B2 Br Bm : Nat) (r : Rd) (sa : ByteArray) (ia : Nat) (sb : ByteArray) (ib : Nat) (ws : List ByteArray) (w : World) (h : RdSt B0 B1 B2 Br Bm r ((⟨#[108, 97, 107, 101]⟩ : ByteArray) :: sa :: sb :: ws) w) (hsa : sa.size ≤ 2000) (ha : idxOf r.pts sa.data.toList = some ia) (hsb : sb.size ≤ 2000) (hb : idxOf r.pts sb.data.toList = some ib) (hn : r.notes.length < 2000) :
    Calls Tryz.prog 89 #[.pointer (some ⟨Br, 0, none⟩)] w fun e w' => e = .returned (.tuple #[]) ∧ RdB B0 B1 Br Bm ⟨r.iv, r.pts, r.notes ++ [⟨3, ia, ib, 0, 0⟩]⟩ w' ∧ Kb B1 Br Bm w w' := by
  have hw := word_any B0 B1 B2 Br Bm r (⟨#[108, 97, 107, 101]⟩ : ByteArray) (sa :: sb :: ws) w h
  have HW := Lib.hid hw
  have h0 : B0 ≤ Br := h.b0r
  have h01 : Br < B1 := h.r1
  have hb1 := h.b1
  clear h hw
  go_enter Tryz.func89, Tryz.ntmps89
  go_wp2_with fail
  refine HW.out.mono ?_
  rintro e w1 ⟨rfl, st1, gr1⟩
  have g1 : Kb B1 Br Bm w w1 := (Kb.refl w).grown gr1 hb1 (fun k hk => by simp at hk; omega)
  have hw1 := g1.size
  have hc := rnote_3 B0 B1 B2 Br Bm r sa ia sb ib ws w1 st1 hsa ha hsb hb hn
  have HC := Lib.hid hc
  have G1 := Lib.hid g1
  clear hc st1 gr1 g1 HW ha hb 
  go_wp2_with fail
  refine HC.out.mono ?_
  rintro e w2 ⟨rfl, st2, gr2⟩
  have HB := Lib.hid st2
  have G2 := Lib.hid (G1.out.trans gr2)
  clear st2 gr2 HC
  go_wp2
  go_end0
  exact ⟨rfl, HB.out, G2.out⟩

set_option maxRecDepth 100000 in
set_option maxHeartbeats 2000000 in
theorem rline_slope (B0 B1 B2 Br Bm : Nat) (r : Rd) (sa : ByteArray) (ia : Nat) (sb : ByteArray) (ib : Nat) (sl sh : ByteArray) (lo hi : Int) (ws : List ByteArray) (w : World) (h : RdSt B0 B1 B2 Br Bm r ((⟨#[115, 108, 111, 112, 101]⟩ : ByteArray) :: sa :: sb :: sl :: sh :: ws) w) (hsa : sa.size ≤ 2000) (ha : idxOf r.pts sa.data.toList = some ia) (hsb : sb.size ≤ 2000) (hb : idxOf r.pts sb.data.toList = some ib) (hsl : sl.size ≤ 2000) (hsh : sh.size ≤ 2000) (hl : Lib.atoiAll sl.data.toList = .ok lo) (hh : Lib.atoiAll sh.data.toList = .ok hi) (hn : r.notes.length < 2000) :
    Calls Tryz.prog 89 #[.pointer (some ⟨Br, 0, none⟩)] w fun e w' => e = .returned (.tuple #[]) ∧ RdB B0 B1 Br Bm ⟨r.iv, r.pts, r.notes ++ [⟨4, ia, ib, lo, hi⟩]⟩ w' ∧ Kb B1 Br Bm w w' := by
  have hw := word_any B0 B1 B2 Br Bm r (⟨#[115, 108, 111, 112, 101]⟩ : ByteArray) (sa :: sb :: sl :: sh :: ws) w h
  have HW := Lib.hid hw
  have h0 : B0 ≤ Br := h.b0r
  have h01 : Br < B1 := h.r1
  have hb1 := h.b1
  clear h hw
  go_enter Tryz.func89, Tryz.ntmps89
  go_wp2_with fail
  refine HW.out.mono ?_
  rintro e w1 ⟨rfl, st1, gr1⟩
  have g1 : Kb B1 Br Bm w w1 := (Kb.refl w).grown gr1 hb1 (fun k hk => by simp at hk; omega)
  have hw1 := g1.size
  have hc := rnote_4 B0 B1 B2 Br Bm r sa ia sb ib sl sh lo hi ws w1 st1 hsa ha hsb hb hsl hsh hl hh hn
  have HC := Lib.hid hc
  have G1 := Lib.hid g1
  clear hc st1 gr1 g1 HW ha hb hl hh
  go_wp2_with fail
  refine HC.out.mono ?_
  rintro e w2 ⟨rfl, st2, gr2⟩
  have HB := Lib.hid st2
  have G2 := Lib.hid (G1.out.trans gr2)
  clear st2 gr2 HC
  go_wp2
  go_end0
  exact ⟨rfl, HB.out, G2.out⟩
end Go.Proofs.YtacmaddjpaebfaaGreatDoor
/- What the reader of package sheet makes of lines. -/
namespace Go.Proofs.YtacmaddjpaebfaaGreatDoor
open Go Go.RowKit Hs

def rdNum (s : ByteArray) : Option Int := match Lib.atoiAll s.data.toList with | .ok n => some n | _ => none
theorem rdNum_ok {s : ByteArray} {n : Int} (h : rdNum s = some n) : Lib.atoiAll s.data.toList = .ok n := by
  unfold rdNum at h
  split at h
  · rename_i e; simp at h; rw [e, h]
  · cases h
/-- A note of a kind, out of the words behind it. -/
def rdNote (r : Rd) (k : Int) (ws : List ByteArray) : Option Rd :=
  if k = 3 then
    match ws with
    | sa :: sb :: _ => match idxOf r.pts sa.data.toList, idxOf r.pts sb.data.toList with
      | some ia, some ib => some ⟨r.iv, r.pts, r.notes ++ [⟨3, ia, ib, 0, 0⟩]⟩
      | _, _ => none
    | _ => none
  else if k = 4 then
    match ws with
    | sa :: sb :: sl :: sh :: _ => match idxOf r.pts sa.data.toList, idxOf r.pts sb.data.toList, rdNum sl, rdNum sh with
      | some ia, some ib, some lo, some hi => some ⟨r.iv, r.pts, r.notes ++ [⟨4, ia, ib, lo, hi⟩]⟩
      | _, _, _, _ => none
    | _ => none
  else
    match ws with
    | sa :: sl :: sh :: _ => match idxOf r.pts sa.data.toList, rdNum sl, rdNum sh with
      | some ia, some lo, some hi => some ⟨r.iv, r.pts, r.notes ++ [⟨k, ia, 0, lo, hi⟩]⟩
      | _, _, _ => none
    | _ => none
/-- A line. -/
def rdLine (r : Rd) (ws : List ByteArray) : Option Rd :=
  match ws with
  | [] => none
  | k :: rest =>
    if k.data.toList = wSheet then
      match rest with
      | s :: _ => match rdNum s with
        | some n => some ⟨n, r.pts, r.notes⟩
        | none => none
      | [] => none
    else if k.data.toList = wPoint then
      match rest with
      | s :: _ => some ⟨r.iv, r.pts ++ [s], r.notes⟩
      | [] => none
    else if k.data.toList = wSpot then rdNote r 1 rest
    else if k.data.toList = wContour then rdNote r 2 rest
    else if k.data.toList = wLake then rdNote r 3 rest
    else if k.data.toList = wSlope then rdNote r 4 rest
    else none
theorem word_is {k : ByteArray} {l : List UInt8} (h : k.data.toList = l) : k = ⟨l.toArray⟩ := by
  subst h
  exact (bs_of k).symm

theorem rline_any (B0 B1 B2 Br Bm : Nat) (r r' : Rd) (ws : List ByteArray) (w : World) (h : RdSt B0 B1 B2 Br Bm r ws w) (hl : rdLine r ws = some r') (hsz : ∀ x, x ∈ ws → x.size ≤ 2000) (hp : r.pts.length < 2000) (hn : r.notes.length < 2000) :
    Calls Tryz.prog 89 #[.pointer (some ⟨Br, 0, none⟩)] w fun e w' => e = .returned (.tuple #[]) ∧ RdB B0 B1 Br Bm r' w' ∧ Kb B1 Br Bm w w' := by
  unfold rdLine at hl
  cases ws with
  | nil => cases hl
  | cons k rest =>
    simp only at hl
    split at hl
    · rename_i hk
      obtain rfl := word_is hk
      cases rest with
      | nil => cases hl
      | cons s ws =>
        simp only at hl
        split at hl
        · rename_i n en
          simp only [Option.some.injEq] at hl
          subst hl
          exact rline_sheet B0 B1 B2 Br Bm r s n ws w h (hsz s (by simp)) (rdNum_ok en)
        · cases hl
    split at hl
    · rename_i hk
      obtain rfl := word_is hk
      cases rest with
      | nil => cases hl
      | cons s ws =>
        simp only [Option.some.injEq] at hl
        subst hl
        exact rline_point B0 B1 B2 Br Bm r s ws w h (hsz s (by simp)) hp
    split at hl
    · rename_i hk
      obtain rfl := word_is hk
      unfold rdNote at hl
      rw [if_neg (by decide), if_neg (by decide)] at hl
      split at hl
      · split at hl
        · rename_i sa sl sh ws _ _ _ ia lo hi e1 e2 e3
          simp only [Option.some.injEq] at hl
          subst hl
          exact rline_spot B0 B1 B2 Br Bm r sa ia sl sh lo hi ws w h (hsz _ (by simp)) e1 (hsz _ (by simp)) (hsz _ (by simp)) (rdNum_ok e2) (rdNum_ok e3) hn
        · cases hl
      · cases hl
    split at hl
    · rename_i hk
      obtain rfl := word_is hk
      unfold rdNote at hl
      rw [if_neg (by decide), if_neg (by decide)] at hl
      split at hl
      · split at hl
        · rename_i sa sl sh ws _ _ _ ia lo hi e1 e2 e3
          simp only [Option.some.injEq] at hl
          subst hl
          exact rline_contour B0 B1 B2 Br Bm r sa ia sl sh lo hi ws w h (hsz _ (by simp)) e1 (hsz _ (by simp)) (hsz _ (by simp)) (rdNum_ok e2) (rdNum_ok e3) hn
        · cases hl
      · cases hl
    split at hl
    · rename_i hk
      obtain rfl := word_is hk
      unfold rdNote at hl
      rw [if_pos rfl] at hl
      split at hl
      · split at hl
        · rename_i sa sb ws _ _ ia ib e1 e2
          simp only [Option.some.injEq] at hl
          subst hl
          exact rline_lake B0 B1 B2 Br Bm r sa ia sb ib ws w h (hsz _ (by simp)) e1 (hsz _ (by simp)) e2 hn
        · cases hl
      · cases hl
    split at hl
    · rename_i hk
      obtain rfl := word_is hk
      unfold rdNote at hl
      rw [if_neg (by decide), if_pos rfl] at hl
      split at hl
      · split at hl
        · rename_i sa sb sl sh ws _ _ _ _ ia ib lo hi e1 e2 e3 e4
          simp only [Option.some.injEq] at hl
          subst hl
          exact rline_slope B0 B1 B2 Br Bm r sa ia sb ib sl sh lo hi ws w h (hsz _ (by simp)) e1 (hsz _ (by simp)) e2 (hsz _ (by simp)) (hsz _ (by simp)) (rdNum_ok e3) (rdNum_ok e4) hn
        · cases hl
      · cases hl
    · cases hl
end Go.Proofs.YtacmaddjpaebfaaGreatDoor
