/- What the reader of package sheet makes of lines. -/
import Derived.Test.YtpjfljpkpifhbaaGreatDoorRdl
import Derived.Test.YtpjfljpkpifhbaaGreatDoorWr
set_option linter.unusedSimpArgs false
set_option linter.unusedVariables false
namespace Go.Proofs.YtpjfljpkpifhbaaGreatDoor
open Go Go.RowKit Hs

def rdNum (s : ByteArray) : Option Int := match Lib.atoiAll s.data.toList with | .ok n => some n | _ => none
theorem rdNum_ok {s : ByteArray} {n : Int} (h : rdNum s = some n) : Lib.atoiAll s.data.toList = .ok n := by
  unfold rdNum at h
  split at h
  · rename_i e; simp at h; rw [e, h]
  · cases h
/-- A note of a kind, out of the words behind it. -/
def rdNote (r : Rd) (k : Int) (ws : List ByteArray) : Option Rd :=
  if k = 3 then
    match ws with
    | sa :: sb :: _ => match idxOf r.pts sa.data.toList, idxOf r.pts sb.data.toList with
      | some ia, some ib => some ⟨r.iv, r.pts, r.notes ++ [⟨3, ia, ib, 0, 0⟩]⟩
      | _, _ => none
    | _ => none
  else if k = 4 then
    match ws with
    | sa :: sb :: sl :: sh :: _ => match idxOf r.pts sa.data.toList, idxOf r.pts sb.data.toList, rdNum sl, rdNum sh with
      | some ia, some ib, some lo, some hi => some ⟨r.iv, r.pts, r.notes ++ [⟨4, ia, ib, lo, hi⟩]⟩
      | _, _, _, _ => none
    | _ => none
  else
    match ws with
    | sa :: sl :: sh :: _ => match idxOf r.pts sa.data.toList, rdNum sl, rdNum sh with
      | some ia, some lo, some hi => some ⟨r.iv, r.pts, r.notes ++ [⟨k, ia, 0, lo, hi⟩]⟩
      | _, _, _ => none
    | _ => none
/-- A line. -/
def rdLine (r : Rd) (ws : List ByteArray) : Option Rd :=
  match ws with
  | [] => none
  | k :: rest =>
    if k.data.toList = wSheet then
      match rest with
      | s :: _ => match rdNum s with
        | some n => some ⟨n, r.pts, r.notes⟩
        | none => none
      | [] => none
    else if k.data.toList = wPoint then
      match rest with
      | s :: _ => some ⟨r.iv, r.pts ++ [s], r.notes⟩
      | [] => none
    else if k.data.toList = wSpot then rdNote r 1 rest
    else if k.data.toList = wContour then rdNote r 2 rest
    else if k.data.toList = wLake then rdNote r 3 rest
    else if k.data.toList = wSlope then rdNote r 4 rest
    else none
theorem word_is {k : ByteArray} {l : List UInt8} (h : k.data.toList = l) : k = ⟨l.toArray⟩ := by
  subst h
  exact (bs_of k).symm

theorem rline_any (B0 B1 B2 Br Bm : Nat) (r r' : Rd) (ws : List ByteArray) (w : World) (h : RdSt B0 B1 B2 Br Bm r ws w) (hl : rdLine r ws = some r') (hsz : ∀ x, x ∈ ws → x.size ≤ 2000) (hp : r.pts.length < 2000) (hn : r.notes.length < 2000) :
    Calls Tryz.prog 51 #[.pointer (some ⟨Br, 0, none⟩)] w fun e w' => e = .returned (.tuple #[]) ∧ RdB B0 B1 Br Bm r' w' ∧ Kb B1 Br Bm w w' := by
  unfold rdLine at hl
  cases ws with
  | nil => cases hl
  | cons k rest =>
    simp only at hl
    split at hl
    · rename_i hk
      obtain rfl := word_is hk
      cases rest with
      | nil => cases hl
      | cons s ws =>
        simp only at hl
        split at hl
        · rename_i n en
          simp only [Option.some.injEq] at hl
          subst hl
          exact rline_sheet B0 B1 B2 Br Bm r s n ws w h (hsz s (by simp)) (rdNum_ok en)
        · cases hl
    split at hl
    · rename_i hk
      obtain rfl := word_is hk
      cases rest with
      | nil => cases hl
      | cons s ws =>
        simp only [Option.some.injEq] at hl
        subst hl
        exact rline_point B0 B1 B2 Br Bm r s ws w h (hsz s (by simp)) hp
    split at hl
    · rename_i hk
      obtain rfl := word_is hk
      unfold rdNote at hl
      rw [if_neg (by decide), if_neg (by decide)] at hl
      split at hl
      · split at hl
        · rename_i sa sl sh ws _ _ _ ia lo hi e1 e2 e3
          simp only [Option.some.injEq] at hl
          subst hl
          exact rline_spot B0 B1 B2 Br Bm r sa ia sl sh lo hi ws w h (hsz _ (by simp)) e1 (hsz _ (by simp)) (hsz _ (by simp)) (rdNum_ok e2) (rdNum_ok e3) hn
        · cases hl
      · cases hl
    split at hl
    · rename_i hk
      obtain rfl := word_is hk
      unfold rdNote at hl
      rw [if_neg (by decide), if_neg (by decide)] at hl
      split at hl
      · split at hl
        · rename_i sa sl sh ws _ _ _ ia lo hi e1 e2 e3
          simp only [Option.some.injEq] at hl
          subst hl
          exact rline_contour B0 B1 B2 Br Bm r sa ia sl sh lo hi ws w h (hsz _ (by simp)) e1 (hsz _ (by simp)) (hsz _ (by simp)) (rdNum_ok e2) (rdNum_ok e3) hn
        · cases hl
      · cases hl
    split at hl
    · rename_i hk
      obtain rfl := word_is hk
      unfold rdNote at hl
      rw [if_pos rfl] at hl
      split at hl
      · split at hl
        · rename_i sa sb ws _ _ ia ib e1 e2
          simp only [Option.some.injEq] at hl
          subst hl
          exact rline_lake B0 B1 B2 Br Bm r sa ia sb ib ws w h (hsz _ (by simp)) e1 (hsz _ (by simp)) e2 hn
        · cases hl
      · cases hl
    split at hl
    · rename_i hk
      obtain rfl := word_is hk
      unfold rdNote at hl
      rw [if_neg (by decide), if_pos rfl] at hl
      split at hl
      · split at hl
        · rename_i sa sb sl sh ws _ _ _ _ ia ib lo hi e1 e2 e3 e4
          simp only [Option.some.injEq] at hl
          subst hl
          exact rline_slope B0 B1 B2 Br Bm r sa ia sb ib sl sh lo hi ws w h (hsz _ (by simp)) e1 (hsz _ (by simp)) e2 (hsz _ (by simp)) (hsz _ (by simp)) (rdNum_ok e3) (rdNum_ok e4) hn
        · cases hl
      · cases hl
    · cases hl
end Go.Proofs.YtpjfljpkpifhbaaGreatDoor
