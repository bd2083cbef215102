/- The examples of the document, reckoned. -/
import Derived.Test.YtacmaddjpaebfaaGreatDoorCmp
import Derived.Test.YtacmaddjpaebfaaGreatDoorPw
import Derived.Test.YtacmaddjpaebfaaGreatDoorWid
import Derived.Test.YtacmaddjpaebfaaGreatDoorApt
set_option linter.unusedSimpArgs false
set_option linter.unusedVariables false
namespace Go.Proofs.YtacmaddjpaebfaaGreatDoor
open Go Go.RowKit Hs Dc

def exPts : List ByteArray := [⟨#[116, 111, 114]⟩, ⟨#[109, 101, 114, 101]⟩, ⟨#[102, 111, 114, 100]⟩, ⟨#[100, 97, 109]⟩]
def exNotes : List Note := [⟨1, 0, 0, 1180, 1200⟩, ⟨2, 1, 0, 9, 10⟩, ⟨3, 3, 1, 0, 0⟩, ⟨4, 0, 2, 250, 300⟩]
def exLess : List Note := [⟨2, 1, 0, 9, 10⟩, ⟨3, 3, 1, 0, 0⟩, ⟨4, 0, 2, 250, 300⟩]
def exGentle : Note := ⟨4, 1, 2, -40, -10⟩
def exSteep : Note := ⟨4, 1, 0, 0, 10⟩
def exS : Sheet := ⟨100, exPts, exNotes⟩
def exT : Sheet := ⟨100, exPts, exNotes ++ [exGentle]⟩
def exB : Sheet := ⟨100, exPts, exNotes ++ [exSteep]⟩
def exL : Sheet := ⟨100, exPts, exLess⟩

theorem stopN_eq {m : List Int} {N : Nat} (h : StopsAt m N) : stopN m = N := by
  have hex : ∃ N, StopsAt m N := ⟨N, h⟩
  have h2 : StopsAt m (stopN m) := by unfold stopN; rw [dif_pos hex]; exact Classical.choose_spec hex
  rcases Nat.lt_trichotomy (stopN m) N with hl | he | hl
  · obtain ⟨a, b⟩ := h.1 _ hl
    rcases h2.2 with c | c
    · rw [a] at c; cases c
    · exact absurd c b
  · exact he
  · obtain ⟨a, b⟩ := h2.1 _ hl
    rcases h.2 with c | c
    · rw [a] at c; cases c
    · exact absurd c b
def mS0 : List Int := [0, 9000, 300, 9000, 9000, 9000, 9000, 9000, 1200, 9000, 0, 9000, 0, 9000, 9000, 9000, 9000, 1000, -250, 9000, 0, 9000, 9000, 9000, 9000, 9000, 9000, 9000, 0, 9000, 0, 9000, 9000, 9000, 9000, 9000, 9000, 9000, 9000, 9000, 0, 9000, 9000, 9000, 9000, 9000, 9000, 9000, 9000, 9000, 0, 9000, 9000, 9000, 9000, 9000, 9000, 9000, 9000, 9000, 0, 9000, 9000, 9000, 9000, 9000, 9000, 9000, 9000, 9000, 0, 9000, -1180, -900, 0, 0, 0, 0, 0, 0, 0]
def mS1 : List Int := [0, 300, 300, 1200, 1200, 1200, 1200, 1200, 1200, -180, 0, 1000, 0, 1000, 1000, 1000, 1000, 1000, -250, 8100, 0, 8750, 8750, 8750, 8750, 8750, 950, 7820, 0, 9000, 0, 9000, 9000, 9000, 9000, 1000, 7820, 8100, 9000, 9000, 0, 9000, 9000, 9000, 9000, 7820, 8100, 9000, 9000, 9000, 0, 9000, 9000, 9000, 7820, 8100, 9000, 9000, 9000, 9000, 0, 9000, 9000, 7820, 8100, 9000, 9000, 9000, 9000, 9000, 0, 9000, -1180, -900, -880, -900, 0, 0, 0, 0, 0]
def mS2 : List Int := [0, 300, 300, 300, 1200, 1200, 1200, 1200, 1200, -180, 0, 120, 0, 1000, 1000, 1000, 1000, 1000, -250, 50, 0, 50, 950, 950, 950, 950, 950, -180, 0, 120, 0, 1000, 1000, 1000, 1000, 1000, 7820, 8100, 8120, 8100, 0, 9000, 9000, 9000, 9000, 7820, 8100, 8120, 8100, 9000, 0, 9000, 9000, 9000, 7820, 8100, 8120, 8100, 9000, 9000, 0, 9000, 9000, 7820, 8100, 8120, 8100, 9000, 9000, 9000, 0, 9000, -1180, -900, -880, -900, 0, 0, 0, 0, 0]
theorem eS0 : apL (bdsL 100 0 exNotes) = mS0 := by decide +kernel
theorem eS1 : chained mS0 = mS1 := by decide +kernel
theorem eS2 : chained mS1 = mS2 := by decide +kernel
theorem eS3 : chained mS2 = mS2 := by decide +kernel
theorem itS0 : itM (apL (bdsL 100 0 exNotes)) 0 = mS0 := by rw [itM, eS0]
theorem itS1 : itM (apL (bdsL 100 0 exNotes)) 1 = mS1 := by rw [itM, itS0, eS1]
theorem itS2 : itM (apL (bdsL 100 0 exNotes)) 2 = mS2 := by rw [itM, itS1, eS2]
theorem itS3 : itM (apL (bdsL 100 0 exNotes)) 3 = mS2 := by rw [itM, itS2, eS3]
theorem stopS : StopsAt (apL (bdsL 100 0 exNotes)) 2 := by
  refine ⟨fun k hk => ?_, .inr (by rw [itS3, itS2])⟩
  match k, hk with
  | 0, _ => exact ⟨by rw [itS1]; decide +kernel, by rw [itS1, itS0]; decide +kernel⟩
  | 1, _ => exact ⟨by rw [itS2]; decide +kernel, by rw [itS2, itS1]; decide +kernel⟩
theorem fitS : fitB 100 0 exNotes = true := by unfold fitB tightB; rw [stopN_eq stopS, itS3]; decide +kernel
theorem farS : farM 100 0 exNotes = mS2 := by unfold farM tightR; rw [stopN_eq stopS, itS3, if_neg (by decide +kernel), itS2]
def mT0 : List Int := [0, 9000, 300, 9000, 9000, 9000, 9000, 9000, 1200, 9000, 0, -10, 0, 9000, 9000, 9000, 9000, 1000, -250, 40, 0, 9000, 9000, 9000, 9000, 9000, 9000, 9000, 0, 9000, 0, 9000, 9000, 9000, 9000, 9000, 9000, 9000, 9000, 9000, 0, 9000, 9000, 9000, 9000, 9000, 9000, 9000, 9000, 9000, 0, 9000, 9000, 9000, 9000, 9000, 9000, 9000, 9000, 9000, 0, 9000, 9000, 9000, 9000, 9000, 9000, 9000, 9000, 9000, 0, 9000, -1180, -900, 0, 0, 0, 0, 0, 0, 0]
def mT1 : List Int := [0, 300, 300, 1200, 1200, 1200, 1200, 1200, 1200, -260, 0, -10, 0, 1000, 1000, 1000, 1000, 1000, -250, 40, 0, 40, 8750, 8750, 8750, 8750, 950, 7820, 0, -10, 0, 9000, 9000, 9000, 9000, 1000, 7820, 8100, 8990, 9000, 0, 9000, 9000, 9000, 9000, 7820, 8100, 8990, 9000, 9000, 0, 9000, 9000, 9000, 7820, 8100, 8990, 9000, 9000, 9000, 0, 9000, 9000, 7820, 8100, 8990, 9000, 9000, 9000, 9000, 0, 9000, -1180, -900, -910, -900, 0, 0, 0, 0, 0]
def mT2 : List Int := [0, 300, 290, 300, 1200, 1200, 1200, 1200, 1200, -260, 0, -10, 0, 940, 940, 940, 940, 940, -250, 40, 0, 40, 950, 950, 950, 950, 950, -260, 0, -10, 0, 1000, 1000, 1000, 1000, 940, 7820, 8100, 8090, 8100, 0, 9000, 9000, 9000, 9000, 7820, 8100, 8090, 8100, 9000, 0, 9000, 9000, 9000, 7820, 8100, 8090, 8100, 9000, 9000, 0, 9000, 9000, 7820, 8100, 8090, 8100, 9000, 9000, 9000, 0, 9000, -1180, -900, -910, -900, 0, 0, 0, 0, 0]
def mT3 : List Int := [0, 300, 290, 300, 1200, 1200, 1200, 1200, 1200, -260, 0, -10, 0, 940, 940, 940, 940, 940, -250, 40, 0, 40, 950, 950, 950, 950, 950, -260, 0, -10, 0, 940, 940, 940, 940, 940, 7820, 8100, 8090, 8100, 0, 9000, 9000, 9000, 9000, 7820, 8100, 8090, 8100, 9000, 0, 9000, 9000, 9000, 7820, 8100, 8090, 8100, 9000, 9000, 0, 9000, 9000, 7820, 8100, 8090, 8100, 9000, 9000, 9000, 0, 9000, -1180, -900, -910, -900, 0, 0, 0, 0, 0]
theorem eT0 : apL (bdsL 100 0 (exNotes ++ [exGentle])) = mT0 := by decide +kernel
theorem eT1 : chained mT0 = mT1 := by decide +kernel
theorem eT2 : chained mT1 = mT2 := by decide +kernel
theorem eT3 : chained mT2 = mT3 := by decide +kernel
theorem eT4 : chained mT3 = mT3 := by decide +kernel
theorem itT0 : itM (apL (bdsL 100 0 (exNotes ++ [exGentle]))) 0 = mT0 := by rw [itM, eT0]
theorem itT1 : itM (apL (bdsL 100 0 (exNotes ++ [exGentle]))) 1 = mT1 := by rw [itM, itT0, eT1]
theorem itT2 : itM (apL (bdsL 100 0 (exNotes ++ [exGentle]))) 2 = mT2 := by rw [itM, itT1, eT2]
theorem itT3 : itM (apL (bdsL 100 0 (exNotes ++ [exGentle]))) 3 = mT3 := by rw [itM, itT2, eT3]
theorem itT4 : itM (apL (bdsL 100 0 (exNotes ++ [exGentle]))) 4 = mT3 := by rw [itM, itT3, eT4]
theorem stopT : StopsAt (apL (bdsL 100 0 (exNotes ++ [exGentle]))) 3 := by
  refine ⟨fun k hk => ?_, .inr (by rw [itT4, itT3])⟩
  match k, hk with
  | 0, _ => exact ⟨by rw [itT1]; decide +kernel, by rw [itT1, itT0]; decide +kernel⟩
  | 1, _ => exact ⟨by rw [itT2]; decide +kernel, by rw [itT2, itT1]; decide +kernel⟩
  | 2, _ => exact ⟨by rw [itT3]; decide +kernel, by rw [itT3, itT2]; decide +kernel⟩
theorem fitT : fitB 100 0 (exNotes ++ [exGentle]) = true := by unfold fitB tightB; rw [stopN_eq stopT, itT4]; decide +kernel
theorem farT : farM 100 0 (exNotes ++ [exGentle]) = mT3 := by unfold farM tightR; rw [stopN_eq stopT, itT4, if_neg (by decide +kernel), itT3]
def mL0 : List Int := [0, 9000, 300, 9000, 9000, 9000, 9000, 9000, 9000, 9000, 0, 9000, 0, 9000, 9000, 9000, 9000, 1000, -250, 9000, 0, 9000, 9000, 9000, 9000, 9000, 9000, 9000, 0, 9000, 0, 9000, 9000, 9000, 9000, 9000, 9000, 9000, 9000, 9000, 0, 9000, 9000, 9000, 9000, 9000, 9000, 9000, 9000, 9000, 0, 9000, 9000, 9000, 9000, 9000, 9000, 9000, 9000, 9000, 0, 9000, 9000, 9000, 9000, 9000, 9000, 9000, 9000, 9000, 0, 9000, 0, -900, 0, 0, 0, 0, 0, 0, 0]
def mL1 : List Int := [0, 8100, 300, 9000, 9000, 9000, 9000, 9000, 9000, 1000, 0, 1000, 0, 1000, 1000, 1000, 1000, 1000, -250, 8100, 0, 8750, 8750, 8750, 8750, 8750, 8750, 8750, 0, 9000, 0, 9000, 9000, 9000, 9000, 1000, 8750, 8100, 9000, 9000, 0, 9000, 9000, 9000, 9000, 8750, 8100, 9000, 9000, 9000, 0, 9000, 9000, 9000, 8750, 8100, 9000, 9000, 9000, 9000, 0, 9000, 9000, 8750, 8100, 9000, 9000, 9000, 9000, 9000, 0, 9000, -250, -900, 0, -900, 0, 0, 0, 0, 0]
def mL2 : List Int := [0, 8100, 300, 8100, 9000, 9000, 9000, 9000, 9000, 750, 0, 1000, 0, 1000, 1000, 1000, 1000, 1000, -250, 7850, 0, 7850, 8750, 8750, 8750, 8750, 8750, 750, 0, 1000, 0, 1000, 1000, 1000, 1000, 1000, 8750, 8100, 9000, 8100, 0, 9000, 9000, 9000, 9000, 8750, 8100, 9000, 8100, 9000, 0, 9000, 9000, 9000, 8750, 8100, 9000, 8100, 9000, 9000, 0, 9000, 9000, 8750, 8100, 9000, 8100, 9000, 9000, 9000, 0, 9000, -250, -900, 0, -900, 0, 0, 0, 0, 0]
theorem eL0 : apL (bdsL 100 0 exLess) = mL0 := by decide +kernel
theorem eL1 : chained mL0 = mL1 := by decide +kernel
theorem eL2 : chained mL1 = mL2 := by decide +kernel
theorem eL3 : chained mL2 = mL2 := by decide +kernel
theorem itL0 : itM (apL (bdsL 100 0 exLess)) 0 = mL0 := by rw [itM, eL0]
theorem itL1 : itM (apL (bdsL 100 0 exLess)) 1 = mL1 := by rw [itM, itL0, eL1]
theorem itL2 : itM (apL (bdsL 100 0 exLess)) 2 = mL2 := by rw [itM, itL1, eL2]
theorem itL3 : itM (apL (bdsL 100 0 exLess)) 3 = mL2 := by rw [itM, itL2, eL3]
theorem stopL : StopsAt (apL (bdsL 100 0 exLess)) 2 := by
  refine ⟨fun k hk => ?_, .inr (by rw [itL3, itL2])⟩
  match k, hk with
  | 0, _ => exact ⟨by rw [itL1]; decide +kernel, by rw [itL1, itL0]; decide +kernel⟩
  | 1, _ => exact ⟨by rw [itL2]; decide +kernel, by rw [itL2, itL1]; decide +kernel⟩
theorem fitL : fitB 100 0 exLess = true := by unfold fitB tightB; rw [stopN_eq stopL, itL3]; decide +kernel
theorem farL : farM 100 0 exLess = mL2 := by unfold farM tightR; rw [stopN_eq stopL, itL3, if_neg (by decide +kernel), itL2]
theorem errExS : errS exS = 0 := by decide +kernel
theorem errExT : errS exT = 0 := by decide +kernel
theorem errExB : errS exB = 0 := by decide +kernel
theorem errExL : errS exL = 0 := by decide +kernel
theorem measES : measE exS = 0 := by unfold measE; rw [if_pos errExS]; exact if_pos fitS
theorem measET : measE exT = 0 := by unfold measE; rw [if_pos errExT]; exact if_pos fitT
theorem measEL : measE exL = 0 := by unfold measE; rw [if_pos errExL]; exact if_pos fitL
theorem measMS : measM exS = mS2 := by unfold measM; rw [if_pos errExS]; exact (if_pos fitS).trans farS
theorem measMT : measM exT = mT3 := by unfold measM; rw [if_pos errExT]; exact (if_pos fitT).trans farT
theorem measML : measM exL = mL2 := by unfold measM; rw [if_pos errExL]; exact (if_pos fitL).trans farL
theorem heightT : heightS exT = [(1180, 1200), (900, 940), (910, 950), (900, 940)] := by unfold heightS; rw [measMT]; decide +kernel
theorem heightSS : heightS exS = [(1180, 1200), (900, 1000), (880, 950), (900, 1000)] := by unfold heightS; rw [measMS]; decide +kernel
theorem apartT : apartS exT 2 1 = ((10, 40), 2, 0) := by
  unfold apartS; rw [if_neg (by simp [errExT]), if_neg (by decide +kernel), if_neg (by simp [measET]), measMT]; decide +kernel
theorem apartS01 : apartS exS 0 1 = ((180, 300), 2, 0) := by
  unfold apartS; rw [if_neg (by simp [errExS]), if_neg (by decide +kernel), if_neg (by simp [measES]), measMS]; decide +kernel
theorem apartS31 : apartS exS 3 1 = ((0, 0), 3, 0) := by
  unfold apartS; rw [if_neg (by simp [errExS]), if_neg (by decide +kernel), if_neg (by simp [measES]), measMS]; decide +kernel
theorem highSS : highS exS = [0] := by unfold highS; rw [if_pos measES, measMS]; decide +kernel
theorem highLL : highS exL = [0, 1, 3] := by unfold highS; rw [if_pos measEL, measML]; decide +kernel
theorem fitsSS : fitsS exS = true := by unfold fitsS; rw [if_pos errExS]; exact fitS
end Go.Proofs.YtacmaddjpaebfaaGreatDoor
