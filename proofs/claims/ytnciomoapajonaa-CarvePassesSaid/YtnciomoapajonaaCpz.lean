/- CarvePasses: the call returns true, whatever its arguments and the memory in which it begins; its arguments read as they did. -/
import Derived.Test.YtnciomoapajonaaRgc
import Derived.Test.YtnciomoapajonaaCvx
import Derived.Test.YtnciomoapajonaaCvw
import Derived.BigQuiet
import Derived.Deep.DeepCutAuto
import Derived.Test.YtnciomoapajonaaRgb
import Derived.Test.YtnciomoapajonaaCwh
import Derived.Test.YtnciomoapajonaaByt
import Derived.Test.YtnciomoapajonaaCxf
import Derived.Test.YtnciomoapajonaaHeld
import Derived.Maps.AppendAt
import Derived.OwnWalk
import Derived.Test.YtnciomoapajonaaCwn
import Derived.Laws.AppendOwn
import Derived.Test.YtnciomoapajonaaCxg
import Derived.Test.YtnciomoapajonaaLasti
import Derived.BigRegion
import Derived.Test.YtnciomoapajonaaRows
import Derived.Test.YtnciomoapajonaaCar
import Derived.ProofKit
import Derived.JoinedOf
import Derived.JoinedAt
set_option linter.unusedSimpArgs false
set_option linter.unusedVariables false
namespace Go.Proofs.Ytnciomoapajonaa
open Go Go.RowKit Cv

set_option maxRecDepth 100000 in
set_option maxHeartbeats 4000000 in
theorem rwhy_any (r : Row) (pv sv : Value) (s : List Int) (w : World) (hP : PtsAt w pv r.pts) (hS : IntsAt w sv s) :
    Calls Try.prog 27 #[.agg #[.int .i64 r.st, pv], sv] w fun e w' => e = .returned (.tuple #[.int .i64 (whyR r s).1, .int .i64 (whyR r s).2.1, .int .i64 (whyR r s).2.2]) ∧ Below w.heap.size w w' := by
  obtain ⟨st, pts⟩ := r
  simp only at hP ⊢
  obtain ⟨lp, pa, pc, rfl, _, _⟩ := id hP
  obtain ⟨ls, sa, sc, rfl, _, _⟩ := id hS
  have hB : Below w.heap.size w (w.alloc (Obj.cells #[.int .i64 st, .slice pa pts.length pc] 24)) := by go_grown
  have HB := Lib.hid hB
  have HP := Lib.hid (hP.below hB)
  have HS := Lib.hid (hS.below hB)
  have HA := Lib.hid (heap_alloc_new w (Obj.cells #[.int .i64 st, .slice pa pts.length pc] 24))
  clear hP hS hB
  obtain ⟨z, HZ⟩ : ∃ z, Hid (surfR ⟨st, pts⟩ s = z) := ⟨_, rfl⟩
  go_enter Try.func27, Try.ntmps27
  go_wp2_with fail
  generalize w.alloc (Obj.cells #[.int .i64 st, .slice pa pts.length pc] 24) = w0 at *
  have hcall := surface_any ⟨st, pts⟩ _ _ s w0 HP.out HS.out
  rw [HZ.out] at hcall
  refine hcall.mono ?_
  clear hcall
  rintro e w1 ⟨rfl, hb⟩
  have HB1 := Lib.hid (HB.out.trans (hb.mono HB.out.size))
  have HP1 := Lib.hid (HP.out.below hb)
  have HS1 := Lib.hid (HS.out.below hb)
  have HA1 := Lib.hid ((hb.block _ (lt_of_block HA.out)).trans HA.out)
  clear hb HB HP HS HA
  have ra := cellOf HA1.out 0 _ rfl
  have rb := cellOf HA1.out 1 _ rfl
  have rl := lt_of_block HA1.out
  by_cases hz : z = 0
  · subst hz
    obtain ⟨hv, hl, hs9⟩ := surfR_ok HZ.out
    have HV := Lib.hid hv
    have HL := Lib.hid hl
    have HS9 := Lib.hid hs9
    clear hv hl hs9
    go_wp2_with fail
    have HF : Hid (whyR ⟨st, pts⟩ s = ((firstW (whyAt st pts s) 0 s.length).1, (firstW (whyAt st pts s) 0 s.length).2, 0)) := by show _ = _; unfold whyR; rw [if_pos HZ.out]
    obtain ⟨q, HQ⟩ : ∃ q, Hid (firstW (whyAt st pts s) 0 s.length = q) := ⟨_, rfl⟩
    rw [HQ.out] at HF
    have hcall := first_any ⟨st, pts⟩ _ _ s w1 HP1.out HS1.out HV.out HL.out HS9.out
    simp only at hcall
    rw [HQ.out] at hcall
    refine hcall.mono ?_
    clear hcall
    rintro e w2 ⟨rfl, hb⟩
    have HB2 := Lib.hid (HB1.out.trans (hb.mono HB1.out.size))
    clear hb ra rb rl
    go_wp2
    go_ret3
    exact ⟨by rw [HF.out]; rfl, HB2.out⟩
  · have HF : Hid (whyR ⟨st, pts⟩ s = (0, 0, z)) := by show _ = _; unfold whyR; rw [if_neg (by rw [HZ.out]; exact hz), HZ.out]
    have tz : (z != 0) = true := by simp [hz]
    clear ra rb rl
    go_wp2
    go_ret3
    exact ⟨by rw [HF.out]; rfl, HB1.out⟩

set_option maxRecDepth 100000 in
set_option maxHeartbeats 4000000 in
theorem rplaster_any (r : Row) (pv sv : Value) (s : List Int) (w : World) (hP : PtsAt w pv r.pts) (hS : IntsAt w sv s) :
    Calls Try.prog 29 #[.agg #[.int .i64 r.st, pv], sv] w fun e w' => e = .returned (.tuple #[.int .i64 (plasterR r s).1, .int .i64 (plasterR r s).2]) ∧ Below w.heap.size w w' := by
  obtain ⟨st, pts⟩ := r
  simp only at hP ⊢
  obtain ⟨lp, pa, pc, rfl, _, _⟩ := id hP
  obtain ⟨ls, sa, sc, rfl, _, _⟩ := id hS
  have hB : Below w.heap.size w (w.alloc (Obj.cells #[.int .i64 st, .slice pa pts.length pc] 24)) := by go_grown
  have HB := Lib.hid hB
  have HP := Lib.hid (hP.below hB)
  have HS := Lib.hid (hS.below hB)
  have HA := Lib.hid (heap_alloc_new w (Obj.cells #[.int .i64 st, .slice pa pts.length pc] 24))
  clear hP hS hB
  obtain ⟨z, HZ⟩ : ∃ z, Hid (surfR ⟨st, pts⟩ s = z) := ⟨_, rfl⟩
  go_enter Try.func29, Try.ntmps29
  go_wp2_with fail
  generalize w.alloc (Obj.cells #[.int .i64 st, .slice pa pts.length pc] 24) = w0 at *
  have hcall := surface_any ⟨st, pts⟩ _ _ s w0 HP.out HS.out
  rw [HZ.out] at hcall
  refine hcall.mono ?_
  clear hcall
  rintro e w1 ⟨rfl, hb⟩
  have HB1 := Lib.hid (HB.out.trans (hb.mono HB.out.size))
  have HP1 := Lib.hid (HP.out.below hb)
  have HS1 := Lib.hid (HS.out.below hb)
  have HA1 := Lib.hid ((hb.block _ (lt_of_block HA.out)).trans HA.out)
  clear hb HB HP HS HA
  have ra := cellOf HA1.out 0 _ rfl
  have rb := cellOf HA1.out 1 _ rfl
  have rl := lt_of_block HA1.out
  by_cases hz : z = 0
  · subst hz
    obtain ⟨hv, hl, hs9⟩ := surfR_ok HZ.out
    have HV := Lib.hid hv
    have HL := Lib.hid hl
    have HS9 := Lib.hid hs9
    clear hv hl hs9
    go_wp2_with fail
    have HF : Hid (plasterR ⟨st, pts⟩ s = (fillsN pts s pts.length, 0)) := by
      show _ = _
      have hl : s.length = pts.length := HL.out
      unfold plasterR
      rw [if_pos HZ.out, hl]
    obtain ⟨q, HQ⟩ : ∃ q, Hid (fillsN pts s pts.length = q) := ⟨_, rfl⟩
    rw [HQ.out] at HF
    have hcall := rfills_any ⟨st, pts⟩ _ _ s w1 HP1.out HS1.out HV.out HL.out HS9.out
    simp only at hcall
    rw [HQ.out] at hcall
    refine hcall.mono ?_
    clear hcall
    rintro e w2 ⟨rfl, hb⟩
    have HB2 := Lib.hid (HB1.out.trans (hb.mono HB1.out.size))
    clear hb ra rb rl
    go_wp2
    go_ret2
    exact ⟨by rw [HF.out]; rfl, HB2.out⟩
  · have HF : Hid (plasterR ⟨st, pts⟩ s = (0, z)) := by show _ = _; unfold plasterR; rw [if_neg (by rw [HZ.out]; exact hz), HZ.out]
    have tz : (z != 0) = true := by simp [hz]
    clear ra rb rl
    go_wp2
    go_ret2
    exact ⟨by rw [HF.out]; rfl, HB1.out⟩
end Go.Proofs.Ytnciomoapajonaa
namespace Go.Proofs.Ytnciomoapajonaa
open Go Go.RowKit Go.Shelf Cv

def LoweredP (n : Nat) (ps : List (Int × Int)) (w : World) (e : Ending) (w' : World) : Prop := ∃ v, e = .returned v ∧ w'.ownsRow w.heap.size 3 1 v n (((List.range n).map fun (a : Nat) => cntN ps a ps.length).map (Value.int .i64)) ∧ Below w.heap.size w w'
set_option maxRecDepth 100000 in
set_option maxHeartbeats 4000000 in
theorem rlowered_any (r : Row) (pv qv : Value) (ps : List (Int × Int)) (w : World) (hP : PtsAt w pv r.pts) (hQ : PassAt w qv ps) (h10 : r.pts.length ≤ 10) (h60 : ps.length ≤ 60) (hps : ∀ p, p ∈ ps → 0 ≤ p.1 ∧ p.1 ≤ p.2 ∧ p.2 ≤ (r.pts.length : Int) - 1) :
    Calls Try.prog 69 #[.agg #[.int .i64 r.st, pv], qv] w (LoweredP r.pts.length ps w) := by
  obtain ⟨i0, hi⟩ := info_of_underlying Try.underlying3
  have HI : Hid (i0.zero = some (.int .i64 0) ∧ i0.size = 1 ∧ i0.bytes = 8) := by
    have h := intInfo
    rw [hi] at h
    simp at h
    exact h
  obtain ⟨st, pts⟩ := r
  simp only at hP h10 hps ⊢
  obtain ⟨lp, pa, pc, rfl, _, _⟩ := id hP
  obtain ⟨lq, qa, qc, rfl, _, _⟩ := id hQ
  have h60I : (ps.length : Int) ≤ 60 := by omega
  have l10 : (pts.length : Int) ≤ 10 := by omega
  have hB : Below w.heap.size w (w.alloc (Obj.cells #[.int .i64 st, .slice pa pts.length pc] 24)) := by go_grown
  have HB := Lib.hid hB
  have HQ := Lib.hid (hQ.below hB)
  have HA := Lib.hid (heap_alloc_new w (Obj.cells #[.int .i64 st, .slice pa pts.length pc] 24))
  have HW0 : Hid (Below w.heap.size w (w.alloc (Obj.cells #[.int .i64 st, .slice pa pts.length pc] 24)) ∧ (w.alloc (Obj.cells #[.int .i64 st, .slice pa pts.length pc] 24)).heap.size = w.heap.size + 1) := ⟨hB, by simp⟩
  have HPS := Lib.hid hps
  clear hP hQ hB hps
  go_enter Try.func69, Try.ntmps69
  go_wp2_with (at_make; refine wpList_make_full _ rfl _ _ 36 rfl (w.heap.size + 1) 3 i0 (.int .i64 0) 1 Try.underlying36 hi HI.out.1 HI.out.2.1 .i64 .i64 _ _ pts.length rfl rfl rfl rfl ?c1 ?c2 (Nat.le_of_eq HW0.out.2.symm) ?_)
  case c1 => rw [HI.out.2.2]; omega
  case c2 => unfold maxLen; omega
  intro w3 hown0 hgr
  have HB0 : Hid (Below (w.heap.size + 1) (w.alloc (Obj.cells #[.int .i64 st, .slice pa pts.length pc] 24)) w3) := (Below.refl (w.heap.size + 1) _).grown hgr (Nat.le_of_eq HW0.out.2.symm) (by simp)
  have HL0 : Hid (LowTo ps (madeCells #[Value.int IntKind.i64 0] pts.length).toList 0) := by
    intro a ha
    rw [made_int] at ha ⊢
    rw [List.length_replicate] at ha
    rw [List.getElem?_replicate, if_pos ha]
    rfl
  generalize (madeCells #[Value.int IntKind.i64 0] pts.length).toList = cur0 at hown0 HL0
  generalize w.alloc (Obj.cells #[.int .i64 st, .slice pa pts.length pc] 24) = w0 at *
  clear hgr HI
  go_wp2
  go_loopg [6] ps.length (fun g i wr => ∃ (k : Nat) (cur : List Value), g + k = ps.length ∧ i = .int .i64 k ∧ wr.ownsRow (w.heap.size + 1) 3 1 (.slice (some ⟨w.heap.size + 1, 0, none⟩) pts.length pts.length) pts.length cur ∧ Hid (LowTo ps cur k) ∧ Hid (Below (w.heap.size + 1) w0 wr))
  case atStart => exact ⟨0, cur0, rfl, rfl, hown0, HL0, HB0⟩
  case round =>
    clear hown0 HL0 HB0
    obtain ⟨k, cur, hk, rfl, hown, HL, HR⟩ := hrel
    by_cases hlt : k < ps.length
    · have kI : (k : Int) < (ps.length : Int) := by omega
      have k60 : k ≤ 60 := by omega
      obtain ⟨bq, oq, rfl, c0, c1⟩ := HQ.out.get hlt
      have hq0 : bq < w0.heap.size := World.block_lt_of_cell? w0 ⟨bq, oq + k * 2, none⟩ c0
      have hqD : bq < w.heap.size + 1 := by have := HW0.out.2; omega
      have c0w := (HR.out.cell (p := ⟨bq, oq + k * 2, none⟩) hqD).trans c0
      have HD : Hid (ps.getD k (0, 0) = ps[k]) := by show _ = _; simp [List.getD_eq_getElem?_getD, hlt]
      have hpk := HPS.out ps[k] (List.getElem_mem hlt)
      obtain ⟨fr, HFR⟩ : ∃ x : Int, Hid (ps[k].1 = x) := ⟨ps[k].1, rfl⟩
      obtain ⟨tt, HTT⟩ : ∃ x : Int, Hid (ps[k].2 = x) := ⟨ps[k].2, rfl⟩
      have HD2 : Hid (ps.getD k (0, 0) = (fr, tt)) := by show _ = _; rw [HD.out, ← HFR.out, ← HTT.out]
      rw [HFR.out] at c0w hpk
      rw [HTT.out] at c1 hpk
      clear HD HFR HTT c0
      obtain ⟨g', rfl⟩ : ∃ g', gk = g' + 1 := ⟨gk - 1, by omega⟩
      obtain ⟨n, rfl⟩ : ∃ n : Nat, fr = n := ⟨fr.toNat, by omega⟩
      obtain ⟨m, rfl⟩ : ∃ m : Nat, tt = (n : Int) + m := ⟨(tt - n).toNat, by omega⟩
      obtain ⟨wo, hwo⟩ : ∃ wo, wo = wr := ⟨_, rfl⟩
      subst hwo
      go_wp2_with fail
      have hm : n + m < pts.length := by omega
      clear hpk c0w
      go_loopg [7] (m + 1) (fun g v wr => ∃ (i : Nat) (cur : List Value), g + i = n + m + 1 ∧ n ≤ i ∧ v = .int .i64 i ∧ wr.ownsRow (w.heap.size + 1) 3 1 (.slice (some ⟨w.heap.size + 1, 0, none⟩) pts.length pts.length) pts.length cur ∧ Hid (LowIn ps n cur k (i - n)) ∧ Hid (Below (w.heap.size + 1) w0 wr))
      case atStart => exact ⟨n, cur, by omega, Nat.le_refl _, rfl, hown, by rw [Nat.sub_self]; exact HL.out.start n, HR⟩
      case round =>
        obtain ⟨i, cur2, hi2, hni, rfl, hownI, HLI, HRI⟩ := hrel
        have x1 := (HRI.out.cell (p := ⟨bq, oq + k * 2 + 1, none⟩) hqD).trans c1
        by_cases hlt2 : i < n + m + 1
        · have iI : (i : Int) ≤ (n : Int) + m := by omega
          have iP : (i : Int) < (pts.length : Int) := by omega
          have i10 : i ≤ 10 := by omega
          have hl2 := hownI.1
          have d0 : wr.cell? ⟨w.heap.size + 1, i * 1, none⟩ = some (.int .i64 (cntN ps i k)) := (hownI.cellAt (i * 1) (by omega)).trans ((congrArg (fun q => cur2[q]?) (Nat.mul_one i)).trans (HLI.out.at_ (by omega) hni))
          have f0 := hownI.frozenAt (i * 1)
          have hcb := cntN_bd ps i k
          obtain ⟨x, HXC⟩ : ∃ x, Hid (cntN ps i k = x) := ⟨_, rfl⟩
          rw [HXC.out] at d0 hcb
          have s1 := hownI.stored (i * 1) (.int .i64 (x + 1))
          have HO := Lib.hid s1.1
          have HB3 : Hid (Below (w.heap.size + 1) w0 (wr.setCell ⟨w.heap.size + 1, i * 1, none⟩ (.int .i64 (x + 1)))) := HRI.out.setCell (p := ⟨w.heap.size + 1, i * 1, none⟩) (Nat.le_refl _) _
          have HL3 := Lib.hid (HLI.out.next (by omega) hni HXC.out)
          simp only [Nat.mul_one] at d0 f0 HO HB3
          have x0' : 0 ≤ x := hcb.1
          have x60 : x ≤ 60 := by omega
          clear s1 hownI hcb
          go_wp2
          go_roundg (gk - 1)
          case measure => omega
          case rel => exact ⟨i + 1, _, by omega, by omega, by go_num, HO.out, HL3, HB3⟩
        · obtain rfl : i = n + m + 1 := by omega
          have HLD : Hid (LowTo ps cur2 (k + 1)) := HLI.out.done (by rw [HD2.out]) (by rw [HD2.out]; simp; omega)
          clear hlt2 hi2 HLI
          have iI : ¬ ((n : Int) + m + 1 ≤ (n : Int) + m) := by omega
          go_wp2
          go_roundg g'
          case measure => omega
          case rel => exact ⟨k + 1, cur2, by omega, by go_num, hownI, HLD, HRI⟩
    · obtain rfl : k = ps.length := by omega
      have hl := hown.1
      have e : cur.length = pts.length := by omega
      have hfin := HL.out.all
      rw [e] at hfin
      have HO : Hid (wr.ownsRow w.heap.size 3 1 (.slice (some ⟨w.heap.size + 1, 0, none⟩) pts.length pts.length) pts.length (((List.range pts.length).map fun (a : Nat) => cntN ps a ps.length).map (Value.int .i64))) := by
        show World.ownsRow _ _ _ _ _ _ _
        rw [← hfin]
        exact own_base hown (by omega)
      have HBB : Hid (Below w.heap.size w wr) := HW0.out.1.trans (HR.out.mono (by omega))
      clear hlt hk hown hl e hfin
      go_wp2
      go_ret
      exact ⟨_, rfl, HO.out, HBB.out⟩
end Go.Proofs.Ytnciomoapajonaa
namespace Go.Proofs.Ytnciomoapajonaa
open Go Go.RowKit Go.Shelf Cv

theorem passE_no {n : Nat} {f t : Int} (h : okIn 0 ((n : Int) - 1) f = false ∨ okIn 0 ((n : Int) - 1) t = false) : passE n (f, t) = 4 := by
  unfold passE
  rw [if_pos (by rcases h with h | h <;> simp [h])]
theorem passE_yes {n : Nat} {f t : Int} (h1 : okIn 0 ((n : Int) - 1) f = true) (h2 : okIn 0 ((n : Int) - 1) t = true) : passE n (f, t) = if t < f then 2 else 0 := by
  unfold passE
  rw [if_neg (by simp [h1, h2])]
theorem firstW_at (f : Nat → Int) : ∀ (n k : Nat), k < n → (∀ j, j < k → f j = 0) → ∀ y, f k = y → y ≠ 0 → (firstW f 0 n).2 = y := by
  have key : ∀ (k a g : Nat), k < a + g → a ≤ k → (∀ j, j < k → f j = 0) → ∀ y, f k = y → y ≠ 0 → (firstW f a g).2 = y := by
    intro k a g
    induction g generalizing a with
    | zero => intro h1 h2; omega
    | succ g ih =>
      intro h1 h2 hz y hy h0
      rw [firstW]
      by_cases e : a = k
      · subst e
        rw [if_neg (by rw [hy]; exact h0)]
        exact hy
      · rw [if_pos (hz a (by omega))]
        exact ih (a + 1) (by omega) (by omega) hz y hy h0
  intro n k hk
  exact key k 0 n (by omega) (Nat.zero_le _)
set_option maxRecDepth 100000 in
set_option maxHeartbeats 8000000 in
theorem rcarved_any (r : Row) (pv qv : Value) (ps : List (Int × Int)) (w : World) (hP : PtsAt w pv r.pts) (hQ : PassAt w qv ps) :
    Calls Try.prog 34 #[.agg #[.int .i64 r.st, pv], qv] w (CarvedP w (carvedR r ps)) := by
  obtain ⟨st, pts⟩ := r
  simp only at hP ⊢
  obtain ⟨lp, pa, pc, rfl, _, _⟩ := id hP
  obtain ⟨lq, qa, qc, rfl, _, _⟩ := id hQ
  have lqI : (ps.length : Int) ≤ 4611686018427387904 := by omega
  have lpI : (pts.length : Int) ≤ 4611686018427387904 := by omega
  have hB : Below w.heap.size w (w.alloc (Obj.cells #[.int .i64 st, .slice pa pts.length pc] 24)) := by go_grown
  have HB := Lib.hid hB
  have HP := Lib.hid (hP.below hB)
  have HQ := Lib.hid (hQ.below hB)
  have HA := Lib.hid (heap_alloc_new w (Obj.cells #[.int .i64 st, .slice pa pts.length pc] 24))
  clear hP hQ hB
  go_enter Try.func34, Try.ntmps34
  go_wp2_with fail
  generalize w.alloc (Obj.cells #[.int .i64 st, .slice pa pts.length pc] 24) = w0 at *
  refine (rcheck_any ⟨st, pts⟩ (.slice pa pts.length pc) w0 HP.out).mono ?_
  rintro e w1 ⟨rfl, hb⟩
  have HB1 := Lib.hid (HB.out.trans (hb.mono HB.out.size))
  have HP1 := Lib.hid (HP.out.below hb)
  have HQ1 := Lib.hid (HQ.out.below hb)
  have HA1 := Lib.hid ((hb.block _ (lt_of_block HA.out)).trans HA.out)
  obtain ⟨z, HE⟩ : ∃ z, Hid ((checkR ⟨st, pts⟩).2.2 = z) := ⟨_, rfl⟩
  have HER : Hid (errR ⟨st, pts⟩ = z) := HE.out
  rw [HE.out]
  generalize (checkR ⟨st, pts⟩).1 = y1 at *
  generalize (checkR ⟨st, pts⟩).2.1 = y2 at *
  clear hb HB HP HQ HA HE
  have ra := cellOf HA1.out 0 _ rfl
  have rb := cellOf HA1.out 1 _ rfl
  have rl := lt_of_block HA1.out
  by_cases hz : z = 0
  · subst hz
    by_cases h6 : 60 < ps.length
    · have HF : Hid (carvedR ⟨st, pts⟩ ps = ([], 3)) := by show _ = _; unfold carvedR; rw [if_neg (by simp [HER.out]), if_pos h6]
      have h6I : (60 : Int) < (ps.length : Int) := by omega
      clear h6
      go_wp2_with fail
      clear ra rb rl
      go_loopg [8, 9] 1 (fun g v i wr => v = .int .i64 3 ∧ i = .int .i64 0 ∧ Hid (w1 = wr))
      case atStart => exact ⟨rfl, rfl, rfl⟩
      case round =>
        obtain ⟨rfl, rfl, HWR⟩ := hrel
        obtain rfl := HWR.out
        by_cases hlt : (0 : Int) < (ps.length : Int)
        · go_wp2
          go_ret2
          exact carvedP_no HF.out HB1.out
        · omega
    · have h6I : (ps.length : Int) ≤ 60 := by omega
      have HV := Lib.hid ((check_valid ⟨st, pts⟩).1 HER.out)
      have h10 : pts.length ≤ 10 := HV.out.n10
      have l10 : (pts.length : Int) ≤ 10 := by omega
      have l1 : (1 : Int) ≤ (pts.length : Int) := by have : 1 ≤ pts.length := HV.out.n1; omega
      obtain ⟨f, HFF⟩ : ∃ f, Hid ((fun k => passE pts.length (ps.getD k (0, 0))) = f) := ⟨_, rfl⟩
      have HF : Hid (carvedR ⟨st, pts⟩ ps = if (firstW f 0 ps.length).2 ≠ 0 then ([], (firstW f 0 ps.length).2) else ((List.range pts.length).map fun a => cntN ps (a : Nat) ps.length, 0)) := by
        show _ = _
        unfold carvedR passErr
        rw [if_neg (by simp [HER.out]), if_neg h6, HFF.out]
      have hp60 : ps.length ≤ 60 := by omega
      clear h6
      go_wp2_with fail
      clear ra rb rl
      go_loopg [8, 9] ps.length (fun g v i wr => ∃ (k : Nat) (ev : Int), g + k = ps.length ∧ i = .int .i64 k ∧ v = .int .i64 ev ∧ Hid (ev = 0 → ∀ j, j < k → f j = 0) ∧ Hid (ev ≠ 0 → carvedR ⟨st, pts⟩ ps = ([], ev)) ∧ Hid (Below w1.heap.size w1 wr))
      case atStart => exact ⟨0, 0, rfl, rfl, rfl, fun _ j hj => absurd hj (Nat.not_lt_zero _), fun h => absurd rfl h, Below.refl _ _⟩
      case round =>
        obtain ⟨k, ev, hk, rfl, rfl, HZ, HC, HR⟩ := hrel
        have HBw := Lib.hid (HB1.out.trans (HR.out.mono HB1.out.size))
        have HAr := Lib.hid ((HR.out.block _ (lt_of_block HA1.out)).trans HA1.out)
        have ra := cellOf HAr.out 0 _ rfl
        have rb := cellOf HAr.out 1 _ rfl
        have rl := lt_of_block HAr.out
        by_cases he : ev = 0
        · subst he
          by_cases hlt : k < ps.length
          · have kI : (k : Int) < (ps.length : Int) := by omega
            obtain ⟨bq, oq, rfl, c0, c1⟩ := (HQ1.out.below HR.out).get hlt
            have HD : Hid (f k = passE pts.length (ps[k].1, ps[k].2)) := by show _ = _; rw [← HFF.out]; simp [List.getD_eq_getElem?_getD, hlt]
            generalize ps[k] = p at *
            obtain ⟨fr, tt⟩ := p
            simp only at c0 c1 HD
            have HN : Hid (f k = 0 → ∀ j, j < k + 1 → f j = 0) := fun h j hj => by
              by_cases e : j = k
              · rw [e]; exact h
              · exact HZ.out rfl j (by omega)
            have HX : Hid (∀ y, f k = y → y ≠ 0 → carvedR ⟨st, pts⟩ ps = ([], y)) := fun y hy h0 => by
              have hw : (firstW f 0 ps.length).2 = y := firstW_at f ps.length k hlt (HZ.out rfl) y hy h0
              rw [HF.out, hw, if_pos h0]
            obtain ⟨B1, HB1'⟩ : ∃ B, Hid (okIn 0 ((pts.length : Int) - 1) fr = B) := ⟨_, rfl⟩
            obtain ⟨B2, HB2'⟩ : ∃ B, Hid (okIn 0 ((pts.length : Int) - 1) tt = B) := ⟨_, rfl⟩
            have HC1 : Hid (∀ n, Calls Try.prog 51 #[.int .i64 fr, .int .i64 0, .int .i64 ((pts.length : Int) - 1)] (wr.drewN n) fun e w'' => e = .returned (.bool B1) ∧ ∃ m, w'' = wr.drewN m) := fun n => (rin_any fr 0 ((pts.length : Int) - 1) (wr.drewN n)).mono fun e w' ⟨h1, h2⟩ => ⟨by rw [h1, HB1'.out], n, h2.symm⟩
            have HC2 : Hid (∀ n, Calls Try.prog 51 #[.int .i64 tt, .int .i64 0, .int .i64 ((pts.length : Int) - 1)] (wr.drewN n) fun e w'' => e = .returned (.bool B2) ∧ ∃ m, w'' = wr.drewN m) := fun n => (rin_any tt 0 ((pts.length : Int) - 1) (wr.drewN n)).mono fun e w' ⟨h1, h2⟩ => ⟨by rw [h1, HB2'.out], n, h2.symm⟩
            have HRN : Hid (∀ n, Below w1.heap.size w1 (wr.drewN n)) := fun n => HR.out.trans (Below.mono (B := wr.heap.size) (w' := wr.drewN n) ⟨rfl, rfl, rfl, Nat.le_refl _, fun _ _ => rfl⟩ HR.out.size)
            clear HC HZ
            cases B1
            · have HY := Lib.hid (HX.out 4 (by rw [HD.out]; exact passE_no (.inl HB1'.out)) (by decide))
              clear HX HN
              go_wp2_with fail
              go_quiet ((go_at_call 51; exact HC1.out _))
              go_wp2
              go_roundg (gk - 1)
              case measure => omega
              case rel => exact ⟨k + 1, 4, by omega, by go_num, rfl, fun h => by (cases h), fun _ => HY.out, HRN.out _⟩
            · cases B2
              · have HY := Lib.hid (HX.out 4 (by rw [HD.out]; exact passE_no (.inr HB2'.out)) (by decide))
                clear HX HN
                go_wp2_with fail
                go_quiet ((first | (go_at_call_of 51 fr; exact HC1.out _) | (go_at_call 51; exact HC2.out _)))
                go_wp2
                go_roundg (gk - 1)
                case measure => omega
                case rel => exact ⟨k + 1, 4, by omega, by go_num, rfl, fun h => by (cases h), fun _ => HY.out, HRN.out _⟩
              · have hp := passE_yes HB1'.out HB2'.out
                by_cases hft : tt < fr
                · have HY := Lib.hid (HX.out 2 (by rw [HD.out, hp, if_pos hft]) (by decide))
                  clear HX HN hp
                  go_wp2_with fail
                  go_quiet ((first | (go_at_call_of 51 fr; exact HC1.out _) | (go_at_call 51; exact HC2.out _)))
                  go_wp2_with fail
                  go_quiet (fail)
                  go_wp2
                  go_roundg (gk - 1)
                  case measure => omega
                  case rel => exact ⟨k + 1, 2, by omega, by go_num, rfl, fun h => by (cases h), fun _ => HY.out, HRN.out _⟩
                · have HY := Lib.hid (HN.out (by rw [HD.out, hp, if_neg hft]))
                  have hft' : fr ≤ tt := by omega
                  clear HX HN hp
                  go_wp2_with fail
                  go_quiet ((first | (go_at_call_of 51 fr; exact HC1.out _) | (go_at_call 51; exact HC2.out _)))
                  go_wp2_with fail
                  go_quiet (fail)
                  go_wp2
                  go_roundg (gk - 1)
                  case measure => omega
                  case rel => exact ⟨k + 1, 0, by omega, by go_num, rfl, fun _ => HY.out, fun h => absurd rfl h, HRN.out _⟩
          · obtain rfl : k = ps.length := by omega
            have hall := HZ.out rfl
            have HFN : Hid (carvedR ⟨st, pts⟩ ps = ((List.range pts.length).map fun a => cntN ps (a : Nat) ps.length, 0)) := by
              show _ = _
              rw [HF.out, if_neg (by rw [(firstW_zero f ps.length 0).2 (fun j _ hj => hall j (by omega))]; simp)]
            have hps : ∀ p, p ∈ ps → 0 ≤ p.1 ∧ p.1 ≤ p.2 ∧ p.2 ≤ (pts.length : Int) - 1 := fun p hp => by
              obtain ⟨i, hi, rfl⟩ := List.mem_iff_getElem.1 hp
              have h := hall i hi
              rw [← HFF.out] at h
              simp only [List.getD_eq_getElem?_getD, List.getElem?_eq_getElem hi, Option.getD_some] at h
              unfold passE okIn at h
              split at h
              · cases h
              · split at h
                · cases h
                · rename_i h1 h2
                  simp at h1
                  omega
            have HPS := Lib.hid hps
            clear hps hall HZ HC hlt hk
            go_wp2_with fail
            refine (rlowered_any ⟨st, pts⟩ _ _ ps wr (HP1.out.below HR.out) (HQ1.out.below HR.out) h10 hp60 HPS.out).mono ?_
            rintro e w2 ⟨v, rfl, hown, hb⟩
            have HBB := Lib.hid (HBw.out.trans (hb.mono HBw.out.size))
            have HO := Lib.hid (own_base hown HBw.out.size)
            clear hb hown ra rb rl
            go_wp2
            go_ret2
            refine ⟨v, by rw [HFN.out]; rfl, ?_, HBB.out⟩
            rw [HFN.out]
            show World.ownsRow _ _ _ _ _ ((List.range pts.length).map fun (a : Nat) => cntN ps a ps.length).length _
            rw [List.length_map, List.length_range]
            exact HO.out
        · have te : (ev == 0) = false := by simp [he]
          have te2 : (ev != 0) = true := by simp [he]
          have HCE := Lib.hid (HC.out he)
          clear HC HZ
          by_cases hlt : (k : Int) < (ps.length : Int)
          · go_wp2
            go_ret2
            exact carvedP_no HCE.out HBw.out
          · go_wp2
            go_ret2
            exact carvedP_no HCE.out HBw.out
  · have tz : (z == 0) = false := by simp [hz]
    have tz2 : (z != 0) = true := by simp [hz]
    have HF : Hid (carvedR ⟨st, pts⟩ ps = ([], z)) := by show _ = _; unfold carvedR; rw [if_pos (by rw [HER.out]; exact hz), HER.out]
    go_wp2_with fail
    clear ra rb rl
    go_loopg [8, 9] 1 (fun g v i wr => v = .int .i64 z ∧ i = .int .i64 0 ∧ Hid (w1 = wr))
    case atStart => exact ⟨rfl, rfl, rfl⟩
    case round =>
      obtain ⟨rfl, rfl, HWR⟩ := hrel
      obtain rfl := HWR.out
      by_cases hlt : (0 : Int) < (ps.length : Int)
      · go_wp2
        go_ret2
        exact carvedP_no HF.out HB1.out
      · go_wp2
        go_ret2
        exact carvedP_no HF.out HB1.out
end Go.Proofs.Ytnciomoapajonaa
namespace Go.Proofs.Ytnciomoapajonaa
open Go Go.RowKit Cv

/-- How many of some passes lower a point. -/
def covL (a : Int) : List (Int × Int) → Int
  | [] => 0
  | p :: l => (if p.1 ≤ a ∧ a ≤ p.2 then 1 else 0) + covL a l
theorem covL_append (a : Int) (l m : List (Int × Int)) : covL a (l ++ m) = covL a l + covL a m := by
  induction l with
  | nil => simp [covL]
  | cons p l ih =>
    rw [List.cons_append, covL, covL, ih]
    omega
theorem cntN_cov (ps : List (Int × Int)) (a : Int) : cntN ps a ps.length = covL a ps := by
  have h : ∀ k, k ≤ ps.length → cntN ps a k = covL a (ps.take k) := by
    intro k
    induction k with
    | zero => intro _; simp [cntN, covL]
    | succ k ih =>
      intro hk
      have e : ps.getD k (0, 0) = ps[k] := by simp [List.getD_eq_getElem?_getD, show k < ps.length by omega]
      rw [cntN, ih (by omega), e, List.take_succ_eq_append_getElem (by omega), covL_append, covL, covL]
      omega
  rw [h _ (Nat.le_refl _), List.take_length]
theorem runL_le (L : Int) : ∀ l : List Int, runL L l ≤ l.length := by
  intro l
  induction l with
  | nil => simp [runL]
  | cons x l ih =>
    rw [runL]
    split
    · omega
    · simp only [List.length_cons]; omega
theorem runL_gt (L : Int) : ∀ (l : List Int) (j : Nat), j < runL L l → L < l.getD j 0 := by
  intro l
  induction l with
  | nil => intro j h; simp [runL] at h
  | cons x l ih =>
    intro j h
    rw [runL] at h
    by_cases hx : x ≤ L
    · rw [if_pos hx] at h; omega
    · rw [if_neg hx] at h
      cases j with
      | zero => show L < x; omega
      | succ j => exact ih j (by omega)
theorem lvl_in (L : Int) : ∀ (l : List Int) (b : Bool) (i : Nat) (p : Int × Int), p ∈ lvlR L b i l → (i : Int) ≤ p.1 ∧ p.1 ≤ p.2 ∧ p.2 ≤ (i : Int) + l.length - 1 := by
  intro l
  induction l with
  | nil => intro b i p h; simp [lvlR] at h
  | cons x l ih =>
    intro b i p h
    have hr := runL_le L l
    rw [lvlR] at h
    simp only [List.length_cons]
    split at h
    · have := ih _ _ _ h
      omega
    · split at h
      · have := ih _ _ _ h
        omega
      · rcases List.mem_cons.1 h with rfl | h
        · simp only
          omega
        · have := ih _ _ _ h
          omega
theorem lvl_cov (L : Int) : ∀ (l : List Int) (i a : Nat),
    covL a (lvlR L false i l) = (if i ≤ a ∧ a < i + l.length ∧ L < l.getD (a - i) 0 then 1 else 0) ∧
    covL a (lvlR L true i l) = (if i + runL L l ≤ a ∧ a < i + l.length ∧ L < l.getD (a - i) 0 then 1 else 0) := by
  intro l
  induction l with
  | nil =>
    intro i a
    simp only [lvlR, covL, List.length_nil]
    exact ⟨by rw [if_neg (by omega)], by rw [if_neg (by omega)]⟩
  | cons x l ih =>
    intro i a
    obtain ⟨h1, h2⟩ := ih (i + 1) a
    have hr := runL_gt L l (a - (i + 1))
    have hrl := runL_le L l
    have hg : i < a → (x :: l).getD (a - i) 0 = l.getD (a - (i + 1)) 0 := fun h => by
      obtain ⟨k, rfl⟩ : ∃ k, a = i + 1 + k := ⟨a - (i + 1), by omega⟩
      rw [show i + 1 + k - i = k + 1 by omega, show i + 1 + k - (i + 1) = k by omega, List.getD_cons_succ]
    have h0 : a = i → (x :: l).getD (a - i) 0 = x := fun h => by subst h; simp
    generalize hG : (x :: l).getD (a - i) 0 = G at hg h0 ⊢
    generalize l.getD (a - (i + 1)) 0 = F at *
    simp only [List.length_cons]
    by_cases hx : x ≤ L
    · have e1 : lvlR L false i (x :: l) = lvlR L false (i + 1) l := by rw [lvlR, if_pos hx]
      have e2 : lvlR L true i (x :: l) = lvlR L false (i + 1) l := by rw [lvlR, if_pos hx]
      have e3 : runL L (x :: l) = 0 := by rw [runL, if_pos hx]
      rw [e1, e2, e3, h1]
      rcases Nat.lt_trichotomy a i with h | h | h
      · constructor <;> (split <;> split <;> omega)
      · have := h0 h
        constructor <;> (split <;> split <;> omega)
      · have := hg h
        constructor <;> (split <;> split <;> omega)
    · have e1 : lvlR L false i (x :: l) = ((i : Int), (i : Int) + (runL L l : Int)) :: lvlR L true (i + 1) l := by rw [lvlR, if_neg hx]; rfl
      have e2 : lvlR L true i (x :: l) = lvlR L true (i + 1) l := by rw [lvlR, if_neg hx]; rfl
      have e3 : runL L (x :: l) = runL L l + 1 := by rw [runL, if_neg hx]
      rw [e1, e2, e3, covL, h2]
      rcases Nat.lt_trichotomy a i with h | h | h
      · constructor
        · split <;> split <;> split <;> omega
        · split <;> split <;> omega
      · have := h0 h
        constructor
        · split <;> split <;> split <;> omega
        · split <;> split <;> omega
      · have := hg h
        by_cases hq : a - (i + 1) < runL L l
        · have := hr hq
          constructor
          · split <;> split <;> split <;> omega
          · split <;> split <;> omega
        · constructor
          · split <;> split <;> split <;> omega
          · split <;> split <;> omega
theorem passOut_in (d : List Int) : ∀ (M : Nat) (p : Int × Int), p ∈ passOut d M → 0 ≤ p.1 ∧ p.1 ≤ p.2 ∧ p.2 ≤ (d.length : Int) - 1 := by
  intro M
  induction M with
  | zero => intro p h; simp [passOut] at h
  | succ M ih =>
    intro p h
    rw [show passOut d (M + 1) = passIn d (M : Int) (passOut d M) d.length from rfl, passIn_lvl] at h
    rcases List.mem_append.1 h with h | h
    · exact ih p h
    · have := lvl_in _ _ _ _ _ h
      omega
theorem passOut_cov (d : List Int) (a : Nat) (ha : a < d.length) (h0 : 0 ≤ d.getD a 0) : ∀ M : Nat, covL a (passOut d M) = min (d.getD a 0) M := by
  intro M
  induction M with
  | zero => show (0 : Int) = min (d.getD a 0) ((0 : Nat) : Int); omega
  | succ M ih =>
    rw [show passOut d (M + 1) = passIn d (M : Int) (passOut d M) d.length from rfl, passIn_lvl, covL_append, ih, (lvl_cov _ _ _ _).1, Nat.sub_zero]
    split <;> (push_cast; omega)
theorem manyL_add : ∀ (l m : List Int) (y z : Int), l.length = m.length → manyL (y + z) (List.zipWith (· + ·) l m) ≤ manyL y l + manyL z m := by
  intro l
  induction l with
  | nil => intro m y z h; cases m with | nil => simp [manyL] | cons _ _ => simp at h
  | cons a l ih =>
    intro m y z h
    cases m with
    | nil => simp at h
    | cons b m =>
      have := ih m a b (by simpa using h)
      simp only [List.zipWith_cons_cons, manyL]
      omega
theorem manyL_ind (f t : Int) (hft : f ≤ t) : ∀ (m i : Nat),
    ((i : Int) ≤ f → manyL 0 ((List.range' i m).map fun (a : Nat) => if f ≤ (a : Int) ∧ (a : Int) ≤ t then (1 : Int) else 0) ≤ 1) ∧
    (f < (i : Int) → manyL 1 ((List.range' i m).map fun (a : Nat) => if f ≤ (a : Int) ∧ (a : Int) ≤ t then (1 : Int) else 0) = 0) ∧
    (t < (i : Int) → manyL 0 ((List.range' i m).map fun (a : Nat) => if f ≤ (a : Int) ∧ (a : Int) ≤ t then (1 : Int) else 0) = 0) := by
  intro m
  induction m with
  | zero => intro i; simp [manyL]
  | succ m ih =>
    intro i
    obtain ⟨h1, h2, h3⟩ := ih (i + 1)
    simp only [List.range'_succ, List.map_cons, manyL]
    by_cases hi : f ≤ (i : Int) ∧ (i : Int) ≤ t
    · simp only [if_pos hi]
      refine ⟨fun h => ?_, fun h => ?_, fun h => by omega⟩
      · have := h2 (by push_cast; omega)
        omega
      · have := h2 (by push_cast; omega)
        omega
    · simp only [if_neg hi]
      refine ⟨fun h => ?_, fun h => ?_, fun h => ?_⟩
      · have := h1 (by push_cast; omega)
        omega
      · have := h3 (by push_cast; omega)
        omega
      · have := h3 (by push_cast; omega)
        omega
theorem zip_maps {α : Type} (f g : α → Int) (l : List α) : List.zipWith (· + ·) (l.map f) (l.map g) = l.map fun a => f a + g a := by
  induction l with
  | nil => rfl
  | cons x l ih => simp [ih]
theorem manyL_zero : ∀ (l : List Nat), manyL 0 (l.map fun _ => (0 : Int)) = 0 := by
  intro l
  induction l with
  | nil => rfl
  | cons x l ih => rw [List.map_cons, manyL, ih]; rfl
theorem many_cov (n : Nat) : ∀ ps : List (Int × Int), (∀ p, p ∈ ps → 0 ≤ p.1 ∧ p.1 ≤ p.2) → manyL 0 ((List.range n).map fun (a : Nat) => covL a ps) ≤ ps.length := by
  intro ps
  rw [List.range_eq_range']
  induction ps with
  | nil =>
    intro _
    simp only [covL]
    rw [manyL_zero]
    simp
  | cons p ps ih =>
    intro h
    have hp := h p (by simp)
    have h1 := ih fun q hq => h q (List.mem_cons_of_mem _ hq)
    have h2 := (manyL_ind p.1 p.2 hp.2 n 0).1 (by simpa using hp.1)
    simp only [covL]
    have h3 := manyL_add ((List.range' 0 n).map fun (a : Nat) => if p.1 ≤ (a : Int) ∧ (a : Int) ≤ p.2 then (1 : Int) else 0) ((List.range' 0 n).map fun (a : Nat) => covL a ps) 0 0 (by simp)
    rw [zip_maps] at h3
    simp only [List.length_cons]
    push_cast
    simp only [Int.add_zero] at h3
    omega
theorem passErr_zero {n : Nat} {ps : List (Int × Int)} (h : ∀ p, p ∈ ps → 0 ≤ p.1 ∧ p.1 ≤ p.2 ∧ p.2 ≤ (n : Int) - 1) : passErr n ps = 0 := by
  unfold passErr
  rw [firstW_zero]
  intro j _ hj
  have hj' : j < ps.length := by omega
  have e : ps.getD j (0, 0) = ps[j] := by simp [List.getD_eq_getElem?_getD, hj']
  obtain ⟨h1, h2, h3⟩ := h ps[j] (List.getElem_mem hj')
  rw [e]
  have : passE n (ps[j].1, ps[j].2) = if ps[j].2 < ps[j].1 then 2 else 0 := passE_yes (by unfold okIn; simp; omega) (by unfold okIn; simp; omega)
  rw [show (ps[j].1, ps[j].2) = ps[j] from rfl] at this
  rw [this, if_neg (by omega)]
/-- By how much passes lower each point. -/
def lowL (n : Nat) (ps : List (Int × Int)) : List Int := (List.range n).map fun (a : Nat) => cntN ps a ps.length
theorem carved_ok {r : Row} {ps : List (Int × Int)} (hv : errR r = 0) (h60 : ps.length ≤ 60) (h : ∀ p, p ∈ ps → 0 ≤ p.1 ∧ p.1 ≤ p.2 ∧ p.2 ≤ (r.pts.length : Int) - 1) : carvedR r ps = (lowL r.pts.length ps, 0) := by
  unfold carvedR
  rw [if_neg (by simp [hv]), if_neg (by omega), if_neg (by rw [passErr_zero h]; simp)]
  rfl
/-- The row from whose boards passes leave a surface, and this surface. -/
def leftP (pts : List Pt) (d : List Int) : List Pt := (List.range pts.length).map fun i => ⟨max (d.getD i 0) (pts.getD i default).bd, (pts.getD i default).lo, (pts.getD i default).hi⟩
def leftS (pts : List Pt) (d : List Int) : List Int := (List.range pts.length).map fun i => max (d.getD i 0) (pts.getD i default).bd - d.getD i 0
theorem leftP_length (pts : List Pt) (d : List Int) : (leftP pts d).length = pts.length := by simp [leftP]
theorem leftS_length (pts : List Pt) (d : List Int) : (leftS pts d).length = pts.length := by simp [leftS]
theorem left_passes (st : Int) (pts : List Pt) (ps : List (Int × Int)) (hv : errR ⟨st, pts⟩ = 0) (h60 : ps.length ≤ 60) (h : ∀ p, p ∈ ps → 0 ≤ p.1 ∧ p.1 ≤ p.2 ∧ p.2 ≤ (pts.length : Int) - 1) :
    ∃ l, passesR ⟨st, leftP pts (lowL pts.length ps)⟩ (leftS pts (lowL pts.length ps)) = (l, 0) ∧ l.length ≤ ps.length ∧ carvedR ⟨st, leftP pts (lowL pts.length ps)⟩ l = (lowL pts.length ps, 0) := by
  have hV := (check_valid _).1 hv
  have hn1 : 1 ≤ pts.length := hV.n1
  have hn10 : pts.length ≤ 10 := hV.n10
  obtain ⟨d, hd⟩ : ∃ d, lowL pts.length ps = d := ⟨_, rfl⟩
  have hdl : d.length = pts.length := by rw [← hd]; simp [lowL]
  have hdg : ∀ i, i < pts.length → d.getD i 0 = covL i ps := fun i hi => by
    rw [← hd, lowL]
    simp [List.getD_eq_getElem?_getD, hi, cntN_cov]
  have hdb : ∀ i, i < pts.length → 0 ≤ d.getD i 0 ∧ d.getD i 0 ≤ 60 := fun i hi => by
    have := cntN_bd ps i ps.length
    rw [hdg i hi, ← cntN_cov]
    omega
  have hpb : ∀ i, i < pts.length → PtOk (pts.getD i default) := fun i hi => by
    have e : pts.getD i default = pts[i] := by simp [List.getD_eq_getElem?_getD, hi]
    rw [e]
    exact hV.ok _ (List.getElem_mem hi)
  rw [hd]
  have hV2 : Valid ⟨st, leftP pts d⟩ := by
    refine ⟨hV.s0, hV.s200, by show 1 ≤ (leftP pts d).length; rw [leftP_length]; exact hn1, by show (leftP pts d).length ≤ 10; rw [leftP_length]; exact hn10, ?_⟩
    intro p hp
    obtain ⟨i, hi, rfl⟩ := List.mem_map.1 hp
    have hi' := List.mem_range.1 hi
    have h1 := hpb i hi'
    have h2 := hdb i hi'
    exact ⟨by have := h1.b0; simp only; omega, by have := h1.b9; simp only; omega, h1.l0, h1.l9, h1.h0, h1.h9, h1.le, h1.wide⟩
  have hs9 : ∀ x, x ∈ leftS pts d → 0 ≤ x ∧ x ≤ 9000 := by
    intro x hx
    obtain ⟨i, hi, rfl⟩ := List.mem_map.1 hx
    have hi' := List.mem_range.1 hi
    have h1 := (hpb i hi').b9
    have h3 := (hpb i hi').b0
    have h2 := hdb i hi'
    omega
  have hz : surfR ⟨st, leftP pts d⟩ (leftS pts d) = 0 := surfR_good hV2 (by show _ = (leftP pts d).length; rw [leftS_length, leftP_length]) hs9
  have hdeep : deepN (leftP pts d) (leftS pts d) pts.length = d := by
    apply List.ext_getElem?
    intro i
    rcases Nat.lt_or_ge i pts.length with hi | hi
    · have h2 := hdb i hi
      have e1 : d[i]? = some (d.getD i 0) := by simp [List.getD_eq_getElem?_getD, show i < d.length by omega]
      rw [e1]
      simp only [deepN, leftP, leftS, List.getElem?_map, List.getElem?_range hi, Option.map_some, Option.some.injEq, List.getD_eq_getElem?_getD, Option.getD_some]
      simp only [← List.getD_eq_getElem?_getD]
      omega
    · rw [List.getElem?_eq_none (by rw [deepN_length]; exact hi), List.getElem?_eq_none (by omega)]
  have hdm : ∀ x, x ∈ d → 0 ≤ x ∧ x ≤ 60 := fun x hx => by
    obtain ⟨i, hi, rfl⟩ := List.getElem_of_mem hx
    have := hdb i (by omega)
    rw [List.getD_eq_getElem?_getD, List.getElem?_eq_getElem hi] at this
    exact this
  have hm := maxOf_mem d (by omega)
  have hm0 := hdm _ hm.1
  have hmany := passOut_many d (Lib.maxOf d).toNat (fun x hx => ⟨(hdm x hx).1, by have := hm.2 x hx; omega⟩)
  have hcov : manyL 0 d ≤ ps.length := by
    rw [← hd, lowL]
    simp only [cntN_cov]
    exact many_cov _ ps fun p hp => ⟨(h p hp).1, (h p hp).2.1⟩
  have hpl : passL d = passOut d (Lib.maxOf d).toNat := rfl
  refine ⟨passL d, ?_, by rw [hpl]; omega, ?_⟩
  · unfold passesR
    rw [if_pos hz]
    show (if 60 < manyL 0 (deepN (leftP pts d) (leftS pts d) (leftS pts d).length) then _ else (passL (deepN (leftP pts d) (leftS pts d) (leftS pts d).length), 0)) = _
    rw [leftS_length, hdeep, if_neg (by omega)]
  · rw [carved_ok ((check_valid _).2 hV2) (by rw [hpl]; omega) (fun p hp => by
      have := passOut_in d _ p hp
      show _ ∧ _ ∧ p.2 ≤ ((leftP pts d).length : Int) - 1
      rw [leftP_length]
      omega)]
    have : lowL (leftP pts d).length (passL d) = d := by
      rw [leftP_length]
      apply List.ext_getElem?
      intro i
      rcases Nat.lt_or_ge i pts.length with hi | hi
      · have h2 := hdb i hi
        have e1 : d[i]? = some (d.getD i 0) := by simp [List.getD_eq_getElem?_getD, show i < d.length by omega]
        have e2 : d.getD i 0 = d[i]'(by omega) := by simp [List.getD_eq_getElem?_getD, show i < d.length by omega]
        have h3 := hm.2 (d[i]'(by omega)) (List.getElem_mem _)
        rw [e1]
        simp only [lowL, List.getElem?_map, List.getElem?_range hi, Option.map_some, Option.some.injEq]
        rw [cntN_cov, hpl, passOut_cov d i (by omega) h2.1]
        omega
      · rw [List.getElem?_eq_none (by simp [lowL]; exact hi), List.getElem?_eq_none (by omega)]
    show (lowL (leftP pts d).length (passL d), 0) = _
    rw [this]
/-- ANY passes, by numbers. -/
def strokeN (n : Nat) (l : List Nat) (j : Nat) : Int × Int := (((l.getD (2 * j) 0 % n : Nat) : Int), ((l.getD (2 * j) 0 % n + l.getD (2 * j + 1) 0 % (n - l.getD (2 * j) 0 % n) : Nat) : Int))
def strokesN (n : Nat) (l : List Nat) (k : Nat) : List (Int × Int) := (List.range k).map (strokeN n l)
theorem strokesN_length (n : Nat) (l : List Nat) (k : Nat) : (strokesN n l k).length = k := by simp [strokesN]
theorem strokesN_succ (n : Nat) (l : List Nat) (k : Nat) : strokesN n l (k + 1) = strokesN n l k ++ [strokeN n l k] := by simp [strokesN, List.range_succ]
theorem strokesN_in (n : Nat) (hn : 1 ≤ n) (l : List Nat) (k : Nat) : ∀ p, p ∈ strokesN n l k → 0 ≤ p.1 ∧ p.1 ≤ p.2 ∧ p.2 ≤ (n : Int) - 1 := by
  intro p hp
  obtain ⟨j, _, rfl⟩ := List.mem_map.1 hp
  have h1 := Nat.mod_lt (l.getD (2 * j) 0) (show 0 < n by omega)
  have h2 := Nat.mod_lt (l.getD (2 * j + 1) 0) (show 0 < n - l.getD (2 * j) 0 % n by omega)
  unfold strokeN
  simp only
  omega
end Go.Proofs.Ytnciomoapajonaa
namespace Go.Proofs.Ytnciomoapajonaa
open Go Go.RowKit Cv

theorem step_app {ops : Array Oper} {o : Oper} {a : Act} {K : Act → World → Prop} {Q : Exit → Act → World → Prop} {E : Prop} {w : World} (hgd : o.guard = none) (s x : Operand) (t e : TypeId)
    (ho : o.op = .call { callee := .builtin .append, args := #[s, x], argTypes := #[t, t] })
    (i0 : TypeInfo) (z : Value) (size bytes : Nat) (ht : Try.prog.underlying t = some (.slice e)) (hi : Try.prog.info? e = some i0) (hz : i0.zero = some z) (h1 : i0.size = size) (h2 : i0.bytes = bytes) (h3 : z.cells.size = size) (h4 : 0 < size)
    (base n : Nat) (v : Value) (xs : List Value) (ad : Addr) (m c : Nat) (news : List Value) (hs : a.eval s = v) (hx : a.eval x = .slice (some ad) m c) (hown : w.ownsRow base e size v n xs)
    (hl : news.length = m * size) (hnews : ∀ j u, news[j]? = some u → w.cell? (ad.add j) = some u) (hone : ∀ u ∈ news, u.oneCell' = true) (hb : base ≤ w.heap.size) (h63 : n + m ≤ maxLen) (hbytes : (n + m) * bytes ≤ 140737488355328)
    (h : ∀ v' w', w'.ownsRow base e size v' (n + m) (xs ++ news) → w.grownBy w' v.ownBlock → (∀ k, v.ownBlock = some k → base ≤ k ∧ k < w.heap.size) → (v'.ownBlock = v.ownBlock ∨ v'.ownBlock = some w.heap.size) → K (a.put o.dst v') w') :
    if Region.wanted o (yielded ops a.tmps) = true then Oper.wp Try.prog o a w K Q else E := by
  rw [if_pos (by simp [Region.wanted, hgd])]
  obtain ⟨v', w', hrun, h5, h6, _, h7⟩ := run_append_own_at (P := Try.prog) w base t o.type e i0 z size bytes ht hi hz h1 h2 h3 h4 v n xs hown ad m c news hl hnews hone h63 hbytes hb
  unfold Oper.wp execOp
  simp only [ho, resolve, invoke, builtin, Sem.run_bind, Sem.run_pure, Result.andThen_ok, List.map_toArray, List.map_cons, List.map_nil, hs, hx, hrun]
  exact h v' w' h5 h6 (fun k hk => hown.lt k hk) h7
theorem keepK {w w' : World} {b q : Nat} {v : Value} (h : w.cell? ⟨b, q, none⟩ = some v) (hb : Below w.heap.size w w') : w'.cell? ⟨b, q, none⟩ = some v :=
  (hb.cell (p := ⟨b, q, none⟩) (World.block_lt_of_cell? w _ h)).trans h
theorem passInfoK : (Try.prog.info? 90).map (fun i => (i.zero, i.size, i.bytes)) = some (some (.agg #[.int .i64 0, .int .i64 0]), 2, 16) := by kernel_rfl
/-- How many passes numbers tell. -/
def strokeK (l : List Nat) : Nat := min 60 (l.length / 2)
set_option maxRecDepth 100000 in
set_option maxHeartbeats 4000000 in
theorem strokes_any (r : Row) (pv xv : Value) (l : List Nat) (w : World) (hP : PtsAt w pv r.pts) (hU : U8At w xv l) (hv : Valid r) :
    Calls Try.prog 46 #[.agg #[.int .i64 r.st, pv], xv] w fun e w' => ∃ v, e = .returned v ∧ w'.ownsRow w.heap.size 90 2 v (strokeK l) (passC (strokesN r.pts.length l (strokeK l))) ∧ Below w.heap.size w w' := by
  obtain ⟨i0, hi0⟩ := info_of_underlying Try.underlying90
  have HI : Hid (i0.zero = some (.agg #[.int .i64 0, .int .i64 0]) ∧ i0.size = 2 ∧ i0.bytes = 16) := by
    have h := passInfoK
    rw [hi0] at h
    simp at h
    exact h
  obtain ⟨st, pts⟩ := r
  simp only at hP ⊢
  obtain ⟨lp, pa, pc, rfl, _, _⟩ := id hP
  obtain ⟨lu, xa, xc, rfl, hxc⟩ := id hU
  have hB : Below w.heap.size w (w.alloc (Obj.cells #[.int .i64 st, .slice pa pts.length pc] 24)) := by go_grown
  have HB := Lib.hid hB
  have HU := Lib.hid (hU.below hB)
  have HA := Lib.hid (heap_alloc_new w (Obj.cells #[.int .i64 st, .slice pa pts.length pc] 24))
  have n1 : 1 ≤ pts.length := hv.n1
  have n10 : pts.length ≤ 10 := hv.n10
  obtain ⟨n, hn⟩ : ∃ n, pts.length = n := ⟨_, rfl⟩
  rw [hn] at HA HB HU n1 n10 ⊢
  have HN := Lib.hid hn
  have nI : (n : Int) ≤ 10 := by omega
  have nI1 : (1 : Int) ≤ (n : Int) := by omega
  have z0 : ((n : Int) == 0) = false := by rw [beq_eq_false_iff_ne]; omega
  obtain ⟨K, hK⟩ : ∃ K, strokeK l = K := ⟨_, rfl⟩
  have k60 : K ≤ 60 := by rw [← hK]; unfold strokeK; omega
  have HK : Hid (K = 60 ∨ l.length < 2 * K + 2) := by show _ ∨ _; rw [← hK]; unfold strokeK; omega
  have HKL : Hid (2 * K ≤ l.length) := by show _ ≤ _; rw [← hK]; unfold strokeK; omega
  have lI : (l.length : Int) ≤ 4611686018427387904 := by omega
  rw [hK]
  clear hP hU hB hv hxc hK
  go_enter Try.func46, Try.ntmps46
  go_wp2_with fail
  clear hn
  generalize w.alloc (Obj.cells #[.int .i64 st, .slice pa n pc] 24) = w0 at *
  go_loopg [5, 6] K (fun g v i wr => ∃ (k j : Nat) (oa : Option Addr) (oc : Nat), g + k = K ∧ i = .int .i64 j ∧ v = .slice oa k oc ∧ Hid (j = 2 * k) ∧ wr.ownsRow w0.heap.size 90 2 (.slice oa k oc) k (passC (strokesN n l k)) ∧ Hid (Below w0.heap.size w0 wr))
  case atStart => exact ⟨0, 0, none, 0, by omega, rfl, rfl, rfl, World.ownsRow_nil _ _ _ _, Below.refl _ _⟩
  case round =>
    obtain ⟨k, j, oa, oc, hk, rfl, rfl, HJ, hown, HR⟩ := hrel
    obtain ⟨wq, hwq⟩ : ∃ wq, wr = wq := ⟨_, rfl⟩
    rw [hwq] at hown HR ⊢
    clear hwq
    have HOWN := Lib.hid hown
    clear hown
    have hkI : (k : Int) ≤ 60 := by omega
    have hjI : (j : Int) ≤ 120 := by have := HJ.out; omega
    by_cases hlt : k < K
    · obtain ⟨j1, hj1e⟩ : ∃ j1, j + 1 = j1 := ⟨_, rfl⟩
      have hj1 : j1 < l.length := by have := HJ.out; have := HKL.out; omega
      have jI : (j : Int) + 1 < (l.length : Int) := by omega
      have j1I : (j1 : Int) < (l.length : Int) := by omega
      have jI0 : (j : Int) < (l.length : Int) := by omega
      have kI : (k : Int) < 60 := by omega
      obtain ⟨_, xa', xc', e, hxx⟩ := HU.out
      simp only [Value.slice.injEq] at e
      obtain ⟨rfl, _, rfl⟩ := e
      obtain ⟨b, o, rfl, hyy⟩ := hxx (by rintro rfl; simp at hj1)
      obtain ⟨c0w, c0b⟩ := hyy j (by omega)
      obtain ⟨c1w, c1b⟩ := hyy j1 hj1
      have hbl := World.block_lt_of_cell? w0 ⟨b, o + j, none⟩ c0w
      have c0 := (HR.out.cell (p := ⟨b, o + j, none⟩) hbl).trans c0w
      have c1 := (HR.out.cell (p := ⟨b, o + j1, none⟩) hbl).trans c1w
      have HC1 := Lib.hid c1w
      have HBL := Lib.hid hbl
      have HRA := Lib.hid (cellOf HA.out 1 _ rfl)
      have HRL := Lib.hid (lt_of_block HA.out)
      clear c0w c1w hbl
      have HST : Hid (strokeN n l k = (((l.getD j 0 % n : Nat) : Int), ((l.getD j 0 % n + l.getD (j + 1) 0 % (n - l.getD j 0 % n) : Nat) : Int))) := by show _ = _; unfold strokeN; rw [HJ.out]
      generalize l.getD j 0 = z at *
      rw [hj1e] at HST
      generalize l.getD j1 0 = y at *
      have zI : (z : Int) ≤ 255 := by omega
      have yI : (y : Int) ≤ 255 := by omega
      have e1 := tmod_nat z n
      have hf : z % n < n := Nat.mod_lt _ (by omega)
      generalize z % n = f at *
      have fI : (f : Int) < (n : Int) := by omega
      obtain ⟨m, hm⟩ : ∃ m, n - f = m := ⟨_, rfl⟩
      rw [hm] at HST
      have e2 := tmod_nat y m
      have ht : y % m < m := Nat.mod_lt _ (by omega)
      generalize y % m = t at *
      have tI : (t : Int) < (m : Int) := by omega
      have mI : (m : Int) ≤ 10 := by omega
      have mI1 : (1 : Int) ≤ (m : Int) := by omega
      have m0 : ((m : Int) == 0) = false := by rw [beq_eq_false_iff_ne]; omega
      have m00 : ¬ m = 0 := by omega
      have s0 : IntKind.i64.wrap (y : Int) = (y : Int) := by rw [IntKind.wrap_i64] <;> omega
      have s1 : IntKind.i64.wrap ((n : Int) - (f : Int)) = (m : Int) := by rw [IntKind.wrap_i64] <;> omega
      obtain ⟨u, hu⟩ : ∃ u, f + t = u := ⟨_, rfl⟩
      have s2 : IntKind.i64.wrap ((f : Int) + (t : Int)) = (u : Int) := by rw [IntKind.wrap_i64] <;> omega
      have s3 : IntKind.i64.wrap ((j : Int) + 1) = (j1 : Int) := by rw [IntKind.wrap_i64] <;> omega
      have HJ1 := Lib.hid hj1e
      clear hj1e
      rw [hu] at HST
      have HSU : Hid (strokesN n l (k + 1) = strokesN n l k ++ [((f : Int), (u : Int))]) := by show _ = _; rw [strokesN_succ, HST.out]
      have HUF : Hid (u ≤ 100) := by show _ ≤ _; omega
      clear hxx hyy c0b c1b hf hm ht hu HST
      have ra := cellOf ((HR.out.block _ (lt_of_block HA.out)).trans HA.out) 1 _ rfl
      have rl := lt_of_block ((HR.out.block _ (lt_of_block HA.out)).trans HA.out)
      go_wp2_with fail
      go_quiet (fail)
      go_wp2_with fail
      refine wp_region_noPanic ?_
      refine wp_region_held_drew (S := (fun W' => W'.cell? ⟨w.heap.size, 1, none⟩ = some (.slice pa n pc) ∧ W'.cell? ⟨b, o + j1, none⟩ = some (.int .u8 y))) (by kernel_rfl) ?_ (fun hh0 => ?_)
      · try dsimp only
        exact ⟨ra, c1⟩
      refine wpAnyH_take (i := 0) (v := ?_) rfl (by as_aux_lemma => kernel_rfl) (by as_aux_lemma => kernel_rfl) (by as_aux_lemma => kernel_rfl) (fun _ _ _ h => h) (Or.inl ⟨by rfl, ?_⟩) (by assumption) ?_
      rotate_left
      · intro w hSw
        try dsimp only at hSw
        go_simp
        try with_reducible rfl
      try simp only [Act.put, List.getElem_toArray, List.getElem_cons_succ, List.getElem_cons_zero, List.setIfInBounds_toArray, List.set_cons_zero, List.set_cons_succ]
      refine wpAnyH_take (i := 1) (v := ?_) rfl (by as_aux_lemma => kernel_rfl) (by as_aux_lemma => kernel_rfl) (by as_aux_lemma => kernel_rfl) (fun _ _ _ h => h) (Or.inl ⟨by rfl, ?_⟩) (by assumption) ?_
      rotate_left
      · intro w hSw
        try dsimp only at hSw
        go_simp
        try with_reducible rfl
      try simp only [Act.put, List.getElem_toArray, List.getElem_cons_succ, List.getElem_cons_zero, List.setIfInBounds_toArray, List.set_cons_zero, List.set_cons_succ]
      refine wpAnyH_take (i := 2) (v := ?_) rfl (by as_aux_lemma => kernel_rfl) (by as_aux_lemma => kernel_rfl) (by as_aux_lemma => kernel_rfl) (fun _ _ _ h => h) (Or.inl ⟨by rfl, ?_⟩) (by assumption) ?_
      rotate_left
      · intro w hSw
        try dsimp only at hSw
        go_simp
        try with_reducible rfl
      try simp only [Act.put, List.getElem_toArray, List.getElem_cons_succ, List.getElem_cons_zero, List.setIfInBounds_toArray, List.set_cons_zero, List.set_cons_succ]
      refine wpAnyH_take (i := 3) (v := ?_) rfl (by as_aux_lemma => kernel_rfl) (by as_aux_lemma => kernel_rfl) (by as_aux_lemma => kernel_rfl) (fun _ _ _ h => h) (Or.inl ⟨by rfl, ?_⟩) (by assumption) ?_
      rotate_left
      · intro w hSw
        try dsimp only at hSw
        go_simp
        try with_reducible rfl
      try simp only [Act.put, List.getElem_toArray, List.getElem_cons_succ, List.getElem_cons_zero, List.setIfInBounds_toArray, List.set_cons_zero, List.set_cons_succ]
      refine wpAnyH_take (i := 4) (v := ?_) rfl (by as_aux_lemma => kernel_rfl) (by as_aux_lemma => kernel_rfl) (by as_aux_lemma => kernel_rfl) (fun _ _ _ h => h) (Or.inl ⟨by rfl, ?_⟩) (by assumption) ?_
      rotate_left
      · intro w hSw
        try dsimp only at hSw
        go_simp
        try with_reducible rfl
      try simp only [Act.put, List.getElem_toArray, List.getElem_cons_succ, List.getElem_cons_zero, List.setIfInBounds_toArray, List.set_cons_zero, List.set_cons_succ]
      refine wpAnyH_take (i := 5) (v := ?_) rfl (by as_aux_lemma => kernel_rfl) (by as_aux_lemma => kernel_rfl) (by as_aux_lemma => kernel_rfl) (fun _ _ _ h => h) (Or.inl ⟨by rfl, ?_⟩) (by assumption) ?_
      rotate_left
      · intro w hSw
        try dsimp only at hSw
        go_simp
        try with_reducible rfl
      try simp only [Act.put, List.getElem_toArray, List.getElem_cons_succ, List.getElem_cons_zero, List.setIfInBounds_toArray, List.set_cons_zero, List.set_cons_succ]
      refine wpAnyH_take (i := 6) (v := ?_) rfl (by as_aux_lemma => kernel_rfl) (by as_aux_lemma => kernel_rfl) (by as_aux_lemma => kernel_rfl) (fun _ _ _ h => h) (Or.inl ⟨by rfl, ?_⟩) (by assumption) ?_
      rotate_left
      · intro w hSw
        try dsimp only at hSw
        go_simp
        try with_reducible rfl
      try simp only [Act.put, List.getElem_toArray, List.getElem_cons_succ, List.getElem_cons_zero, List.setIfInBounds_toArray, List.set_cons_zero, List.set_cons_succ]
      refine wpAnyH_take (i := 7) (v := ?_) rfl (by as_aux_lemma => kernel_rfl) (by as_aux_lemma => kernel_rfl) (by as_aux_lemma => kernel_rfl) (fun _ _ _ h => h) (Or.inl ⟨by rfl, ?_⟩) (by assumption) ?_
      rotate_left
      · intro w hSw
        try dsimp only at hSw
        go_simp
        try with_reducible rfl
      try simp only [Act.put, List.getElem_toArray, List.getElem_cons_succ, List.getElem_cons_zero, List.setIfInBounds_toArray, List.set_cons_zero, List.set_cons_succ]
      refine wpAnyH_take (i := 8) (v := ?_) rfl (by as_aux_lemma => kernel_rfl) (by as_aux_lemma => kernel_rfl) (by as_aux_lemma => kernel_rfl) (fun _ _ _ h => h) (Or.inl ⟨by rfl, ?_⟩) (by assumption) ?_
      rotate_left
      · intro w hSw
        try dsimp only at hSw
        go_simp
        try with_reducible rfl
      try simp only [Act.put, List.getElem_toArray, List.getElem_cons_succ, List.getElem_cons_zero, List.setIfInBounds_toArray, List.set_cons_zero, List.set_cons_succ]
      refine wpAnyH_take (i := 9) (v := ?_) rfl (by as_aux_lemma => kernel_rfl) (by as_aux_lemma => kernel_rfl) (by as_aux_lemma => kernel_rfl) (fun _ _ _ h => h) (Or.inl ⟨by rfl, ?_⟩) (by assumption) ?_
      rotate_left
      · intro w hSw
        try dsimp only at hSw
        go_simp
        try with_reducible rfl
      try simp only [Act.put, List.getElem_toArray, List.getElem_cons_succ, List.getElem_cons_zero, List.setIfInBounds_toArray, List.set_cons_zero, List.set_cons_succ]
      refine wpAnyH_take (i := 10) (v := ?_) rfl (by as_aux_lemma => kernel_rfl) (by as_aux_lemma => kernel_rfl) (by as_aux_lemma => kernel_rfl) (fun _ _ _ h => h) (Or.inl ⟨by rfl, ?_⟩) (by assumption) ?_
      rotate_left
      · intro w hSw
        try dsimp only at hSw
        go_simp
        try with_reducible rfl
      try simp only [Act.put, List.getElem_toArray, List.getElem_cons_succ, List.getElem_cons_zero, List.setIfInBounds_toArray, List.set_cons_zero, List.set_cons_succ]
      refine wpAnyH_take (i := 11) (v := ?_) rfl (by as_aux_lemma => kernel_rfl) (by as_aux_lemma => kernel_rfl) (by as_aux_lemma => kernel_rfl) (fun _ _ _ h => h) (Or.inl ⟨by rfl, ?_⟩) (by assumption) ?_
      rotate_left
      · intro w hSw
        try dsimp only at hSw
        go_simp
        try with_reducible rfl
      try simp only [Act.put, List.getElem_toArray, List.getElem_cons_succ, List.getElem_cons_zero, List.setIfInBounds_toArray, List.set_cons_zero, List.set_cons_succ]
      refine wpAnyH_take (i := 12) (v := ?_) rfl (by as_aux_lemma => kernel_rfl) (by as_aux_lemma => kernel_rfl) (by as_aux_lemma => kernel_rfl) (fun _ _ _ h => h) (Or.inl ⟨by rfl, ?_⟩) (by assumption) ?_
      rotate_left
      · intro w hSw
        try dsimp only at hSw
        go_simp
        try with_reducible rfl
      try simp only [Act.put, List.getElem_toArray, List.getElem_cons_succ, List.getElem_cons_zero, List.setIfInBounds_toArray, List.set_cons_zero, List.set_cons_succ]
      refine wpAnyH_take (i := 13) (v := ?_) rfl (by as_aux_lemma => kernel_rfl) (by as_aux_lemma => kernel_rfl) (by as_aux_lemma => kernel_rfl) (fun _ _ _ h => h) (Or.inl ⟨by rfl, ?_⟩) (by assumption) ?_
      rotate_left
      · intro w hSw
        try dsimp only at hSw
        go_simp
        try with_reducible rfl
      try simp only [Act.put, List.getElem_toArray, List.getElem_cons_succ, List.getElem_cons_zero, List.setIfInBounds_toArray, List.set_cons_zero, List.set_cons_succ]
      refine wpAnyH_take (i := 14) (v := ?_) rfl (by as_aux_lemma => kernel_rfl) (by as_aux_lemma => kernel_rfl) (by as_aux_lemma => kernel_rfl) (fun _ _ _ h => h) (Or.inl ⟨by rfl, ?_⟩) (by assumption) ?_
      rotate_left
      · intro w hSw
        try dsimp only at hSw
        go_simp
        try with_reducible rfl
      try simp only [Act.put, List.getElem_toArray, List.getElem_cons_succ, List.getElem_cons_zero, List.setIfInBounds_toArray, List.set_cons_zero, List.set_cons_succ]
      refine wpAnyH_take (i := 15) (v := ?_) rfl (by as_aux_lemma => kernel_rfl) (by as_aux_lemma => kernel_rfl) (by as_aux_lemma => kernel_rfl) (fun _ _ _ h => h) (Or.inl ⟨by rfl, ?_⟩) (by assumption) ?_
      rotate_left
      · intro w hSw
        try dsimp only at hSw
        go_simp
        try with_reducible rfl
      try simp only [Act.put, List.getElem_toArray, List.getElem_cons_succ, List.getElem_cons_zero, List.setIfInBounds_toArray, List.set_cons_zero, List.set_cons_succ]
      refine wpAnyH_ready (rs := [16]) (by as_aux_lemma => kernel_rfl) (by simp) ?_
      refine AllReadyH.cons rfl (fun K hK => ?_) AllReadyH.nil
      go_simp
      refine (lpass_any _ _ _).mono ?_
      rintro e wg ⟨rfl, hbg⟩
      have HBW : Hid (Below wq.heap.size wq wg) := Below.trans (b := (wq.drewN nq).drew) ⟨rfl, rfl, rfl, Nat.le_refl _, fun _ _ => rfl⟩ hbg
      refine hK.out _ _ ?_ (fun hh1 => ?_)
      · try dsimp only
        exact ⟨keepK hh0.1 hbg, keepK hh0.2 hbg⟩
      clear hK K hh0
      try simp only [Act.put, List.getElem_toArray, List.getElem_cons_succ, List.getElem_cons_zero, List.setIfInBounds_toArray, List.set_cons_zero, List.set_cons_succ]
      refine wpAnyH_ready (rs := [17]) (by as_aux_lemma => kernel_rfl) (by simp) ?_
      refine AllReadyH.cons rfl (fun K hK => ?_) AllReadyH.nil
      go_simp
      have hbn : Below wg.heap.size wg (wg.alloc (Obj.cells #[.int .i64 f, .int .i64 u] 90)) := by go_grown
      refine hK.out _ _ ?_ (fun hh2 => ?_)
      · try dsimp only
        exact ⟨keepK hh1.1 hbn, keepK hh1.2 hbn⟩
      clear hK K hh1
      try simp only [Act.put, List.getElem_toArray, List.getElem_cons_succ, List.getElem_cons_zero, List.setIfInBounds_toArray, List.set_cons_zero, List.set_cons_succ]
      refine wpAnyH_ready (rs := [18]) (by as_aux_lemma => kernel_rfl) (by simp) ?_
      refine AllReadyH.cons rfl (fun K hK => ?_) AllReadyH.nil
      refine step_app (by rfl) _ _ 37 90 (by rfl) i0 (.agg #[.int .i64 0, .int .i64 0]) 2 16 Try.underlying37 hi0 HI.out.1 HI.out.2.1 HI.out.2.2 rfl (by decide) w0.heap.size k _ _ ⟨wg.heap.size, 0, none⟩ 1 1 [.int .i64 f, .int .i64 u] (by rfl) (by rfl) (own_below HOWN.out (HBW.out.trans (Below.mono (B := wg.heap.size) (by go_grown) HBW.out.size))) rfl ?pa1 ?pa2 (by have h1 := HR.out.size; have h2 := HBW.out.size; simp; omega) (by unfold maxLen; omega) (by omega) ?_
      case pa1 =>
        intro j' u' hj
        match j', hj with
        | 0, hj => simp at hj; subst hj; exact cellOf (heap_alloc_new wg (Obj.cells #[.int .i64 f, .int .i64 u] 90)) 0 _ rfl
        | 1, hj => simp at hj; subst hj; exact cellOf (heap_alloc_new wg (Obj.cells #[.int .i64 f, .int .i64 u] 90)) 1 _ rfl
        | j' + 2, hj => simp at hj
      case pa2 =>
        intro u' hu'
        simp at hu'
        rcases hu' with rfl | rfl <;> rfl
      intro v1 w1 ho1 hg1 hl1 _
      have HB1 : Hid (Below w0.heap.size w0 w1) := ((HR.out.trans (HBW.out.mono HR.out.size)).trans (Below.mono (B := wg.heap.size) (by go_grown) (Nat.le_trans HR.out.size HBW.out.size))).grown hg1 (by have h1 := HR.out.size; have h2 := HBW.out.size; simp; omega) (fun q hq => (hl1 q hq).1)
      refine hK.out _ _ ?_ (fun hh3 => ?_)
      · try dsimp only
        exact ⟨(HB1.out.cell (p := ⟨w.heap.size, 1, none⟩) HRL.out).trans HRA.out, (HB1.out.cell (p := ⟨b, o + j1, none⟩) HBL.out).trans HC1.out⟩
      clear hK K hh2
      try simp only [Act.put, List.getElem_toArray, List.getElem_cons_succ, List.getElem_cons_zero, List.setIfInBounds_toArray, List.set_cons_zero, List.set_cons_succ]
      refine wpAnyH_ready (rs := [19]) (by as_aux_lemma => kernel_rfl) (by simp) ?_
      refine AllReadyH.cons rfl (fun K hK => ?_) AllReadyH.nil
      refine hK.out _ _ ?_ (fun hh4 => ?_)
      · try dsimp only
        exact hh3
      clear hK K hh3
      try simp only [Act.put, List.getElem_toArray, List.getElem_cons_succ, List.getElem_cons_zero, List.setIfInBounds_toArray, List.set_cons_zero, List.set_cons_succ]
      refine wpAnyH_done (by as_aux_lemma => kernel_rfl) ?_ _
      refine NoPanic.normal ?_
      obtain ⟨sa', sc', rfl⟩ := own_slice ho1
      have ho3 : Hid (w1.ownsRow w0.heap.size 90 2 (.slice sa' (k + 1) sc') (k + 1) (passC (strokesN n l (k + 1)))) := by
        show World.ownsRow _ _ _ _ _ _ _
        rw [HSU.out, passC_append]
        exact ho1
      have HJ2 : Hid (j + 2 = 2 * (k + 1)) := by show _ = _; have := HJ.out; omega
      clear ho1 hg1 hl1 HOWN HBW hbg
      go_wp2
      go_roundg (gk - 1)
      case measure => omega
      case rel => exact ⟨k + 1, j + 2, sa', sc', by omega, by go_num, rfl, HJ2, ho3.out, HB1⟩
    · obtain rfl : k = K := by omega
      have HF : Hid (∃ v, Value.slice oa k oc = v ∧ wq.ownsRow w.heap.size 90 2 v k (passC (strokesN n l k))) := ⟨_, rfl, own_base HOWN.out HB.out.size⟩
      have HE : Hid (Below w.heap.size w wq) := HB.out.trans (HR.out.mono HB.out.size)
      have hx : (¬ (j : Int) + 1 < (l.length : Int)) ∨ ((j : Int) + 1 < (l.length : Int) ∧ ¬ (k : Int) < 60) := by
        have := HJ.out
        rcases HK.out with h | h
        · by_cases q : (j : Int) + 1 < (l.length : Int)
          · exact .inr ⟨q, by omega⟩
          · exact .inl q
        · exact .inl (by omega)
      clear hlt hk HOWN HR HK HKL
      rcases hx with q | ⟨q, q2⟩
      · go_wp2
        go_ret
        obtain ⟨v, hv, ho⟩ := HF.out
        exact ⟨_, rfl, by rw [hv]; exact ho, HE.out⟩
      · go_wp2
        go_ret
        obtain ⟨v, hv, ho⟩ := HF.out
        exact ⟨_, rfl, by rw [hv]; exact ho, HE.out⟩
end Go.Proofs.Ytnciomoapajonaa
namespace Go.Proofs.Ytnciomoapajonaa
open Go Go.RowKit Cv

def ptC (l : List Pt) : List Value := l.flatMap fun p => [.int .i64 p.bd, .int .i64 p.lo, .int .i64 p.hi]
theorem ptC_append (a b : List Pt) : ptC (a ++ b) = ptC a ++ ptC b := by simp [ptC]
theorem ptC_one (p : Pt) : ptC [p] = [.int .i64 p.bd, .int .i64 p.lo, .int .i64 p.hi] := rfl
theorem ptC_get : ∀ (l : List Pt) (k : Nat) (h : k < l.length), (ptC l)[k * 3]? = some (.int .i64 l[k].bd) ∧ (ptC l)[k * 3 + 1]? = some (.int .i64 l[k].lo) ∧ (ptC l)[k * 3 + 2]? = some (.int .i64 l[k].hi) := by
  intro l
  induction l with
  | nil => intro k h; exact absurd h (Nat.not_lt_zero _)
  | cons p l ih =>
    intro k h
    cases k with
    | zero => exact ⟨rfl, rfl, rfl⟩
    | succ k =>
      have := ih k (by simpa using h)
      have e : ptC (p :: l) = .int .i64 p.bd :: .int .i64 p.lo :: .int .i64 p.hi :: ptC l := rfl
      rw [e, show (k + 1) * 3 = k * 3 + 1 + 1 + 1 by omega, show k * 3 + 1 + 1 + 1 + 1 = (k * 3 + 1) + 1 + 1 + 1 by omega, show k * 3 + 1 + 1 + 1 + 2 = (k * 3 + 2) + 1 + 1 + 1 by omega]
      simp only [List.getElem?_cons_succ, List.getElem_cons_succ]
      exact this
theorem ptsAt_own {w : World} {base e : Nat} {v : Value} {l : List Pt} (h : w.ownsRow base e 3 v l.length (ptC l)) (hl : l.length ≤ 4611686018427387904) : PtsAt w v l := by
  rcases h.2 with ⟨rfl, h0⟩ | ⟨g, cap, cur, rfl, hb, hg, hnc, hcm, hcs, htake⟩
  · have : l = [] := List.length_eq_zero_iff.1 h0
    subst this
    exact ⟨by simp, none, 0, rfl, by simp, fun hne => absurd rfl hne⟩
  · refine ⟨hl, _, cap, rfl, hnc, fun _ => ⟨g, 0, rfl, fun k hk => ?_⟩⟩
    have e1 := ptC_get l k hk
    rw [Nat.zero_add]
    exact ⟨(h.cellAt (k * 3) (by omega)).trans e1.1, (h.cellAt (k * 3 + 1) (by omega)).trans e1.2.1, (h.cellAt (k * 3 + 2) (by omega)).trans e1.2.2⟩
theorem own_other {w : World} {base e size n : Nat} {v : Value} {xs : List Value} (h : w.ownsRow base e size v n xs) (p : Addr) (hp : p.block < base) (u : Value) : (w.setCell p u).ownsRow base e size v n xs := by
  obtain ⟨h0, h⟩ := h
  refine ⟨h0, ?_⟩
  rcases h with h | ⟨g, cap, cur, r1, r2, r3, r4⟩
  · exact .inl h
  · exact .inr ⟨g, cap, cur, r1, r2, (heap_setCell_other w p g u (by omega)).trans r3, r4⟩
theorem ptInfo : (Try.prog.info? 58).map (fun i => (i.zero, i.size, i.bytes)) = some (some (.agg #[.int .i64 0, .int .i64 0, .int .i64 0]), 3, 24) := by kernel_rfl
set_option maxRecDepth 100000 in
set_option maxHeartbeats 4000000 in
theorem rturned_any (r : Row) (pv : Value) (w : World) (hP : PtsAt w pv r.pts) (h10 : r.pts.length ≤ 10) :
    Calls Try.prog 47 #[.agg #[.int .i64 r.st, pv]] w fun e w' => ∃ v, e = .returned (.agg #[.int .i64 r.st, v]) ∧ PtsAt w' v r.pts.reverse ∧ Below w.heap.size w w' := by
  obtain ⟨i0, hi0⟩ := info_of_underlying Try.underlying58
  have HI : Hid (i0.zero = some (.agg #[.int .i64 0, .int .i64 0, .int .i64 0]) ∧ i0.size = 3 ∧ i0.bytes = 24) := by
    have h := ptInfo
    rw [hi0] at h
    simp at h
    exact h
  obtain ⟨st, pts⟩ := r
  simp only at hP h10 ⊢
  obtain ⟨lp, pa, pc, rfl, _, _⟩ := id hP
  obtain ⟨W, hW, HA0, HZ0, hB0, hsz⟩ := al2 w (Obj.cells #[.int .i64 st, .slice pa pts.length pc] 24) (Obj.cells #[.int .i64 0, .slice none 0 0] 24)
  have HP := Lib.hid (hP.below hB0)
  have HA := Lib.hid HA0
  have HZ := Lib.hid HZ0
  have HB := Lib.hid hB0
  have HW := Lib.hid hW
  have HSZ := Lib.hid hsz
  clear hP HA0 HZ0 hB0 hW hsz
  have l10 : (pts.length : Int) ≤ 10 := by omega
  go_enter Try.func47, Try.ntmps47
  go_wp2_with fail
  rw [HW.out]
  clear HW
  go_loopg [3, 4] pts.length (fun g v i wr => ∃ (k : Nat) (j : Int) (oa : Option Addr) (oc : Nat), g + k = pts.length ∧ j + k + 1 = pts.length ∧ i = .int .i64 j ∧ v = .slice oa k oc ∧ wr.ownsRow W.heap.size 58 3 v k (ptC (pts.reverse.take k)) ∧ Hid (Below W.heap.size W wr))
  case atStart => exact ⟨0, (pts.length : Int) - 1, none, 0, by omega, by omega, rfl, rfl, World.ownsRow_nil _ _ _ _, Below.refl _ _⟩
  case round =>
    obtain ⟨k, j, oa, oc, hk, hj, rfl, rfl, hown, HR⟩ := hrel
    have hs2 := HR.out.size
    by_cases hlt : k < pts.length
    · obtain ⟨m, rfl⟩ : ∃ m : Nat, j = m := ⟨j.toNat, by omega⟩
      have hm : m < pts.length := by omega
      have l0 := cellOf ((HR.out.block _ (lt_of_block HA.out)).trans HA.out) 0 _ rfl
      have l1 := cellOf ((HR.out.block _ (lt_of_block HA.out)).trans HA.out) 1 _ rfl
      have ll := lt_of_block ((HR.out.block _ (lt_of_block HA.out)).trans HA.out)
      obtain ⟨b, o, rfl, c0, c1, c2⟩ := (HP.out.below HR.out).get hm
      have HT : Hid (ptC (pts.reverse.take (k + 1)) = ptC (pts.reverse.take k) ++ [.int .i64 pts[m].bd, .int .i64 pts[m].lo, .int .i64 pts[m].hi]) := by
        show _ = _
        have hkr : k < pts.reverse.length := by simpa using hlt
        rw [List.take_succ_eq_append_getElem hkr, ptC_append, ptC_one, List.getElem_reverse]
        have e : pts.length - 1 - k = m := by omega
        simp only [e]
      generalize pts[m] = p at *
      obtain ⟨bd, lo, hi⟩ := p
      simp only at c0 c1 c2 HT
      have mI : (m : Int) < (pts.length : Int) := by omega
      have m9 : (m : Int) ≤ 9 := by omega
      have hownA := Lib.hid (hown.alloc (Obj.cells #[.int .i64 bd, .int .i64 lo, .int .i64 hi] 58))
      have HBq : Hid (Below W.heap.size W (wr.alloc (Obj.cells #[.int .i64 bd, .int .i64 lo, .int .i64 hi] 58))) := HR.out.alloc hs2 _
      clear hown
      go_wp2_with (at_builtin; refine wpList_append_own _ rfl _ _ 22 rfl W.heap.size 58 i0 (.agg #[.int .i64 0, .int .i64 0, .int .i64 0]) 3 24 Try.underlying22 hi0 HI.out.1 HI.out.2.1 HI.out.2.2 rfl (by decide) _ _ _ rfl hownA.out ⟨wr.heap.size, 0, none⟩ 1 1 [.int .i64 bd, .int .i64 lo, .int .i64 hi] rfl rfl ?pa1 ?pa2 ?pa3 ?pa4 ?pa5 ?_)
      case pa1 =>
        intro j u hj
        match j, hj with
        | 0, hj => simp at hj; subst hj; simp [Addr.add]
        | 1, hj => simp at hj; subst hj; simp [Addr.add]
        | 2, hj => simp at hj; subst hj; simp [Addr.add]
        | j + 3, hj => simp at hj
      case pa2 =>
        intro u hu
        simp at hu
        rcases hu with rfl | rfl | rfl <;> rfl
      case pa3 => unfold maxLen; omega
      case pa4 => omega
      case pa5 => exact HBq.out.size
      · intro v' w3 hown3 hgrow _
        have hB3 : Hid (Below W.heap.size W w3) := HBq.out.grown hgrow HBq.out.size (fun g hg => (hownA.out.lt g hg).1)
        obtain ⟨sa', sc', rfl⟩ := own_slice hown3
        clear hgrow hownA
        go_wp2
        go_roundg (gk - 1)
        case measure => omega
        case rel => exact ⟨k + 1, (m : Int) - 1, sa', sc', by omega, by omega, by go_num, rfl, by rw [HT.out]; exact hown3, hB3⟩
    · obtain rfl : j = -1 := by omega
      have hkn : k = pts.length := by omega
      have hown : wr.ownsRow W.heap.size 58 3 (.slice oa k oc) pts.reverse.length (ptC pts.reverse) := by
        rw [show pts.reverse.take k = pts.reverse from List.take_of_length_le (by simp; omega)] at hown
        rw [show pts.reverse.length = k by simp; omega]
        exact hown
      have HO := Lib.hid hown
      have HAr := Lib.hid ((HR.out.block _ (lt_of_block HA.out)).trans HA.out)
      have HZr := Lib.hid ((HR.out.block _ (lt_of_block HZ.out)).trans HZ.out)
      have l0 := cellOf HAr.out 0 _ rfl
      have l1 := cellOf HAr.out 1 _ rfl
      have f0 := frozen_of_row _ _ 0 _ _ HAr.out
      have f1 := frozen_of_row _ _ 1 _ _ HAr.out
      have g0 := cellOf HZr.out 0 _ rfl
      have g1 := cellOf HZr.out 1 _ rfl
      have h0 := frozen_of_row _ _ 0 _ _ HZr.out
      have h1 := frozen_of_row _ _ 1 _ _ HZr.out
      clear hown hlt hk hkn
      go_wp2
      have z1 : (wr.setCell ⟨w.heap.size, 1, none⟩ (.slice oa k oc)).heap[w.heap.size + 1]? = some (.cells #[.int .i64 0, .slice none 0 0] 24 (0, 0)) := (heap_setCell_other wr (⟨w.heap.size, 1, none⟩ : Addr) _ _ (by simp)).trans HZr.out
      have z2 := two_set (x := .int .i64 st) (y := .slice oa k oc) z1
      have hz := HSZ.out
      refine bodyPost_ret (row_result rfl _ _ (w.heap.size + 1) _ _ rfl z2) rfl ⟨_, rfl, ?_, ?_⟩
      · exact ptsAt_own (own_other (own_other (own_other HO.out ⟨w.heap.size, 1, none⟩ (by show w.heap.size < _; omega) _) ⟨w.heap.size + 1, 0, none⟩ (by show w.heap.size + 1 < _; omega) _) ⟨w.heap.size + 1, 1, none⟩ (by show w.heap.size + 1 < _; omega) _) (by simp; omega)
      · exact two_below ((HB.out.trans (HR.out.mono HB.out.size)).setCell (p := ⟨w.heap.size, 1, none⟩) (Nat.le_refl _) _) (by omega)
end Go.Proofs.Ytnciomoapajonaa
namespace Go.Proofs.Ytnciomoapajonaa
open Go Go.RowKit Go.Shelf Cv

/-- The copy of the points, so far as boards have been set. -/
structure CurOk (pts : List Pt) (d : List Int) (cur : Array Value) (cap k : Nat) : Prop where
  size : cur.size = cap * 3
  nc : pts.length ≤ cap
  at0 : ∀ j, j < pts.length → cur[j * 3]? = some (.int .i64 (if j < k then max (d.getD j 0) (pts.getD j default).bd else (pts.getD j default).bd))
  at1 : ∀ j, j < pts.length → cur[j * 3 + 1]? = some (.int .i64 (pts.getD j default).lo)
  at2 : ∀ j, j < pts.length → cur[j * 3 + 2]? = some (.int .i64 (pts.getD j default).hi)
theorem CurOk.next {pts : List Pt} {d : List Int} {cur : Array Value} {cap k : Nat} {x : Int} (h : CurOk pts d cur cap k) (hk : k < pts.length) (hx : max (d.getD k 0) (pts.getD k default).bd = x) : CurOk pts d (cur.setIfInBounds (k * 3) (.int .i64 x)) cap (k + 1) := by
  have hsz : ∀ i, i < pts.length * 3 → i < cur.size := fun i hi => by rw [h.size]; have := h.nc; omega
  refine ⟨by rw [Array.size_setIfInBounds]; exact h.size, h.nc, fun j hj => ?_, fun j hj => ?_, fun j hj => ?_⟩
  · by_cases e : j = k
    · subst e
      rw [Array.getElem?_setIfInBounds_self_of_lt (hsz _ (by omega)), if_pos (by omega), hx]
    · rw [Array.getElem?_setIfInBounds_ne (by omega), h.at0 j hj]
      by_cases q : j < k
      · rw [if_pos q, if_pos (by omega)]
      · rw [if_neg q, if_neg (by omega)]
  · rw [Array.getElem?_setIfInBounds_ne (by omega), h.at1 j hj]
  · rw [Array.getElem?_setIfInBounds_ne (by omega), h.at2 j hj]
theorem CurOk.pts {pts : List Pt} {d : List Int} {cur : Array Value} {cap g : Nat} {t : TypeId} {w : World} (h : CurOk pts d cur cap pts.length) (hg : w.heap[g]? = some (.cells cur t (0, 0))) (hl : pts.length ≤ 4611686018427387904) : PtsAt w (.slice (some ⟨g, 0, none⟩) pts.length cap) (leftP pts d) := by
  refine ⟨by rw [leftP_length]; exact hl, some ⟨g, 0, none⟩, cap, by rw [leftP_length], by rw [leftP_length]; exact h.nc, fun _ => ⟨g, 0, rfl, fun k hk => ?_⟩⟩
  have hk' : k < pts.length := by rw [← leftP_length pts d]; exact hk
  have e : (leftP pts d)[k] = ⟨max (d.getD k 0) (pts.getD k default).bd, (pts.getD k default).lo, (pts.getD k default).hi⟩ := by simp [leftP]
  rw [e, Nat.zero_add]
  have h0 := h.at0 k hk'
  rw [if_pos hk'] at h0
  exact ⟨cellOf hg _ _ h0, cellOf hg _ _ (h.at1 k hk'), cellOf hg _ _ (h.at2 k hk')⟩
theorem leftS_take (pts : List Pt) (d : List Int) (k : Nat) (hk : k < pts.length) : (leftS pts d).take (k + 1) = (leftS pts d).take k ++ [max (d.getD k 0) (pts.getD k default).bd - d.getD k 0] := by
  have hk' : k < (leftS pts d).length := by rw [leftS_length]; exact hk
  rw [List.take_succ_eq_append_getElem hk']
  simp [leftS]
theorem ptC_length (l : List Pt) : (ptC l).length = l.length * 3 := by
  induction l with
  | nil => rfl
  | cons p l ih =>
    have e : ptC (p :: l) = .int .i64 p.bd :: .int .i64 p.lo :: .int .i64 p.hi :: ptC l := rfl
    rw [e]
    simp only [List.length_cons, ih]
    omega
theorem pts_cells {w : World} {b o n cap : Nat} {l : List Pt} (h : PtsAt w (.slice (some ⟨b, o, none⟩) n cap) l) : ∀ j u, (ptC l)[j]? = some u → w.cell? ((⟨b, o, none⟩ : Addr).add j) = some u := by
  intro j u hu
  have hj : j < l.length * 3 := by rw [← ptC_length]; exact (List.getElem?_eq_some_iff.1 hu).1
  have hk : j / 3 < l.length := by omega
  obtain ⟨b', o', e, c0, c1, c2⟩ := h.get hk
  simp only [Option.some.injEq, Addr.mk.injEq, and_true] at e
  obtain ⟨rfl, rfl⟩ := e
  have g := ptC_get l (j / 3) hk
  rw [Go.WideShapes.add_plain]
  have hr : j % 3 = 0 ∨ j % 3 = 1 ∨ j % 3 = 2 := by omega
  rcases hr with q | q | q
  · have e : j = j / 3 * 3 := by omega
    rw [e] at hu ⊢
    rw [g.1] at hu
    rw [← hu]
    exact c0
  · have e : j = j / 3 * 3 + 1 := by omega
    have e2 : o + j = o + j / 3 * 3 + 1 := by omega
    rw [e2]
    rw [e, g.2.1] at hu
    rw [← hu]
    exact c1
  · have e : j = j / 3 * 3 + 2 := by omega
    have e2 : o + j = o + j / 3 * 3 + 2 := by omega
    rw [e2]
    rw [e, g.2.2] at hu
    rw [← hu]
    exact c2
theorem ptC_cell (l : List Pt) : ∀ u ∈ ptC l, u.oneCell' = true := by
  intro u hu
  obtain ⟨p, _, h⟩ := List.mem_flatMap.1 hu
  simp only [List.mem_cons, List.not_mem_nil, or_false] at h
  rcases h with rfl | rfl | rfl <;> rfl
theorem cur_get {cur : Array Value} {m : Nat} {xs : List Value} (h : cur.toList.take m = xs) {i : Nat} (hi : i < m) : cur[i]? = xs[i]? := by
  rw [← h, List.getElem?_take, if_pos hi, Array.getElem?_toList]
theorem two_new (w : World) (x y : Obj) : ((w.alloc x).alloc y).drew.heap[w.heap.size]? = some x ∧ ((w.alloc x).alloc y).drew.heap[w.heap.size + 1]? = some y ∧ Below w.heap.size w ((w.alloc x).alloc y).drew := by
  have h1 := heap_alloc_new w x
  have h2 := heap_alloc_new (w.alloc x) y
  rw [show (w.alloc x).heap.size = w.heap.size + 1 by simp] at h2
  have b2 := Below.heap_alloc (w.alloc x) y
  refine ⟨(b2 _ (lt_of_block h1)).trans h1, h2, ?_⟩
  go_grown
theorem fix_pts {w : World} {g n cap j : Nat} {cur : Array Value} {t : TypeId} {pts : List Pt} {bd nn : Int} (hg : w.heap[g]? = some (.cells ((cur.setIfInBounds (j * 3 + 1) (.int .i64 nn)).setIfInBounds (j * 3 + 2) (.int .i64 nn)) t (0, 0))) (htk : cur.toList.take (n * 3) = ptC pts) (hcs : cur.size = cap * 3) (hnc : n ≤ cap)
    (hj : j < pts.length) (hbd : (pts.getD j default).bd = bd) (hn : n = pts.length ∧ n ≤ 4611686018427387904) : PtsAt w (.slice (some ⟨g, 0, none⟩) n cap) (pts.set j ⟨bd, nn, nn⟩) := by
  obtain ⟨rfl, hn⟩ := hn
  refine ⟨by simpa using hn, some ⟨g, 0, none⟩, cap, by simp, by simpa using hnc, fun _ => ⟨g, 0, rfl, fun k hk => ?_⟩⟩
  have hk' : k < pts.length := by simpa using hk
  have old := ptC_get pts k hk'
  have o0 := (cur_get htk (show k * 3 < pts.length * 3 by omega)).trans old.1
  have o1 := (cur_get htk (show k * 3 + 1 < pts.length * 3 by omega)).trans old.2.1
  have o2 := (cur_get htk (show k * 3 + 2 < pts.length * 3 by omega)).trans old.2.2
  rw [Nat.zero_add]
  have sz : ∀ i, i < pts.length * 3 → i < cur.size := fun i hi => by rw [hcs]; omega
  rw [List.getElem_set]
  by_cases e : j = k
  · subst e
    rw [if_pos rfl]
    have hb : pts[j].bd = bd := by rw [← hbd]; simp [List.getD_eq_getElem?_getD, hj]
    refine ⟨cellOf hg _ _ ?_, cellOf hg _ _ ?_, cellOf hg _ _ ?_⟩
    · rw [Array.getElem?_setIfInBounds_ne (by omega), Array.getElem?_setIfInBounds_ne (by omega), o0, hb]
    · rw [Array.getElem?_setIfInBounds_ne (by omega), Array.getElem?_setIfInBounds_self_of_lt (sz _ (by omega))]
    · rw [Array.getElem?_setIfInBounds_self_of_lt (by rw [Array.size_setIfInBounds]; exact sz _ (by omega))]
  · rw [if_neg e]
    refine ⟨cellOf hg _ _ ?_, cellOf hg _ _ ?_, cellOf hg _ _ ?_⟩
    · rw [Array.getElem?_setIfInBounds_ne (by omega), Array.getElem?_setIfInBounds_ne (by omega), o0]
    · rw [Array.getElem?_setIfInBounds_ne (by omega), Array.getElem?_setIfInBounds_ne (by omega), o1]
    · rw [Array.getElem?_setIfInBounds_ne (by omega), Array.getElem?_setIfInBounds_ne (by omega), o2]
theorem PtsAt.take {w : World} {sa : Option Addr} {n sc : Nat} {l : List Pt} (h : PtsAt w (.slice sa n sc) l) (k : Nat) (hk : k ≤ l.length) : PtsAt w (.slice sa k sc) (l.take k) := by
  obtain ⟨h1, a, cap, e, hc, h2⟩ := h
  simp only [Value.slice.injEq] at e
  obtain ⟨rfl, rfl, rfl⟩ := e
  have hl : (l.take k).length = k := by simp; omega
  refine ⟨by omega, sa, sc, by rw [hl], by omega, fun hne => ?_⟩
  obtain ⟨b, o, rfl, hk'⟩ := h2 (by rintro rfl; simp at hne)
  refine ⟨b, o, rfl, fun j hj => ?_⟩
  rw [hl] at hj
  have := hk' j (by omega)
  simpa [List.getElem_take] using this
theorem PtsAt.drop {w : World} {b o n sc : Nat} {l : List Pt} (h : PtsAt w (.slice (some ⟨b, o, none⟩) n sc) l) (k : Nat) (hk : k ≤ l.length) : PtsAt w (.slice (some ⟨b, o + k * 3, none⟩) (l.length - k) (sc - k)) (l.drop k) := by
  obtain ⟨h1, a, cap, e, hc, h2⟩ := h
  simp only [Value.slice.injEq] at e
  obtain ⟨rfl, rfl, rfl⟩ := e
  have hl : (l.drop k).length = l.length - k := by simp
  refine ⟨by omega, some ⟨b, o + k * 3, none⟩, sc - k, by rw [hl], by omega, fun hne => ?_⟩
  obtain ⟨b', o', e, hk'⟩ := h2 (by rintro rfl; simp at hne)
  simp only [Option.some.injEq, Addr.mk.injEq, and_true] at e
  obtain ⟨rfl, rfl⟩ := e
  refine ⟨b, o + k * 3, rfl, fun j hj => ?_⟩
  rw [hl] at hj
  have := hk' (k + j) (by omega)
  rw [show o + (k + j) * 3 = o + k * 3 + j * 3 by omega] at this
  simpa [List.getElem_drop] using this
theorem own_made (w : World) (e : TypeId) (size : Nat) : (w.alloc (.cells #[] e)).ownsRow w.heap.size e size (.slice (some ⟨w.heap.size, 0, none⟩) 0 0) 0 [] :=
  ⟨by simp, .inr ⟨w.heap.size, 0, #[], rfl, Nat.le_refl _, heap_alloc_new w _, Nat.le_refl _, Nat.zero_le _, by simp, by simp⟩⟩

set_option maxRecDepth 100000 in
set_option maxHeartbeats 16000000 in
theorem lpss_no (st : Int) (pts : List Pt) (pa : Option Addr) (pc : Nat) (xv : Value) (l : List Nat) (w : World) (hP : PtsAt w (.slice pa pts.length pc) pts) (hU : U8At w xv l) (hv : ¬ errR ⟨st, pts⟩ = 0) :
    Calls Try.prog 10 #[.agg #[.int .i64 st, .slice pa pts.length pc], xv] w fun e w' => e = .returned (.bool true) ∧ Below w.heap.size w w' := by
  generalize HE : errR ⟨st, pts⟩ = er at *
  have t1 : (er == 0) = false := by simp [hv]
  have HP := Lib.hid hP
  clear hP
  have HB := Lib.hid (Below.refl w.heap.size w)
  obtain ⟨_, xa, xc, rfl, _⟩ := id hU
  have HU := Lib.hid hU
  clear hU
  go_enter Try.func10, Try.ntmps10
  go_wp2_with fail
  have hb := (Below.refl w.heap.size w).alloc (Nat.le_refl _) (Obj.cells #[.int .i64 st, .slice pa pts.length pc] 24)
  have HR := Lib.hid (heap_alloc_new w (Obj.cells #[.int .i64 st, .slice pa pts.length pc] 24))
  have hz1 : (w.alloc (Obj.cells #[.int .i64 st, .slice pa pts.length pc] 24)).heap.size = w.heap.size + 1 := by simp
  have HB' := Lib.hid (HB.out.trans (hb.mono HB.out.size))
  have HP' := Lib.hid (HP.out.below hb)
  have HU' := Lib.hid (HU.out.below hb)
  clear HB
  have HB := HB'
  clear HB'
  clear HP
  have HP := HP'
  clear HP'
  clear HU
  have HU := HU'
  clear HU'
  clear hb
  generalize w.alloc (Obj.cells #[.int .i64 st, .slice pa pts.length pc] 24) = w1 at *
  have ra := cellOf HR.out 0 _ rfl
  have rb := cellOf HR.out 1 _ rfl
  have rl := lt_of_block HR.out
  clear ra rb rl
  have hcall := valid_any ⟨st, pts⟩ _ w1 HP.out
  rw [HE, t1] at hcall
  refine hcall.mono ?_
  clear hcall
  rintro e w2 ⟨rfl, hb⟩
  have HB' := Lib.hid (HB.out.trans (hb.mono HB.out.size))
  have HP' := Lib.hid (HP.out.below hb)
  have HU' := Lib.hid (HU.out.below hb)
  have HR' := Lib.hid ((hb.block _ (lt_of_block HR.out)).trans HR.out)
  clear HB
  have HB := HB'
  clear HB'
  clear HP
  have HP := HP'
  clear HP'
  clear HU
  have HU := HU'
  clear HU'
  clear HR
  have HR := HR'
  clear HR'
  clear hb
  go_wp2_with fail
  have hcall := awake_any w2
  refine hcall.mono ?_
  clear hcall
  rintro e w3 ⟨rfl, hb⟩
  have HB' := Lib.hid (HB.out.trans (hb.mono HB.out.size))
  have HP' := Lib.hid (HP.out.below hb)
  have HU' := Lib.hid (HU.out.below hb)
  have HR' := Lib.hid ((hb.block _ (lt_of_block HR.out)).trans HR.out)
  clear HB
  have HB := HB'
  clear HB'
  clear HP
  have HP := HP'
  clear HP'
  clear HU
  have HU := HU'
  clear HU'
  clear HR
  have HR := HR'
  clear HR'
  clear hb
  go_wp2
  go_ret
  exact ⟨rfl, HB.out⟩

set_option maxRecDepth 100000 in
set_option maxHeartbeats 16000000 in
theorem lpss_ok (st : Int) (pts : List Pt) (pb po : Nat) (pc : Nat) (xv : Value) (l : List Nat) (w : World) (hP : PtsAt w (.slice (some ⟨pb, po, none⟩) pts.length pc) pts) (hU : U8At w xv l) (HE : Hid (errR ⟨st, pts⟩ = 0)) (K : Nat) (hK60 : K ≤ 60) (HK : Hid (strokeK l = K)) (qs : List (Int × Int)) (HQS : Hid (strokesN pts.length l (strokeK l) = qs)) (HQL : Hid (qs.length = K)) (d : List Int) (HCV : Hid (carvedR ⟨st, pts⟩ qs = (d, 0))) (HDL : Hid (d.length = pts.length)) (HDB : Hid (∀ x, x ∈ d → 0 ≤ x ∧ x ≤ 60)) (ql : List (Int × Int)) (M : Nat) (HPS : Hid (passesR ⟨st, leftP pts d⟩ (leftS pts d) = (ql, 0))) (HQM : Hid (ql.length = M)) (hMK : M ≤ K) (HCW : Hid (carvedR ⟨st, leftP pts d⟩ ql = (d, 0))) :
    Calls Try.prog 10 #[.agg #[.int .i64 st, .slice (some ⟨pb, po, none⟩) pts.length pc], xv] w fun e w' => e = .returned (.bool true) ∧ Below w.heap.size w w' := by
  obtain ⟨i0, hi0⟩ := info_of_underlying Try.underlying58
  have HI : Hid (i0.zero = some (.agg #[.int .i64 0, .int .i64 0, .int .i64 0]) ∧ i0.size = 3 ∧ i0.bytes = 24) := by
    have h := ptInfo
    rw [hi0] at h
    simp at h
    exact h
  obtain ⟨j0, hj0⟩ := info_of_underlying Try.underlying3
  have HJI : Hid (j0.zero = some (.int .i64 0) ∧ j0.size = 1 ∧ j0.bytes = 8) := by
    have h := intInfo
    rw [hj0] at h
    simp at h
    exact h
  have HVV : Hid (Valid ⟨st, pts⟩) := (check_valid _).1 HE.out
  have h10 : pts.length ≤ 10 := HVV.out.n10
  have h1 : 1 ≤ pts.length := HVV.out.n1
  have l10 : (pts.length : Int) ≤ 10 := by omega
  have l1 : (1 : Int) ≤ (pts.length : Int) := by omega
  have HOK := Lib.hid HVV.out.ok
  have kI60 : (K : Int) ≤ 60 := by omega
  have HP := Lib.hid hP
  clear hP
  have HB := Lib.hid (Below.refl w.heap.size w)
  obtain ⟨_, xa, xc, rfl, _⟩ := id hU
  have HU := Lib.hid hU
  clear hU
  go_enter Try.func10, Try.ntmps10
  go_wp2_with fail
  have hb := (Below.refl w.heap.size w).alloc (Nat.le_refl _) (Obj.cells #[.int .i64 st, .slice (some ⟨pb, po, none⟩) pts.length pc] 24)
  have HR := Lib.hid (heap_alloc_new w (Obj.cells #[.int .i64 st, .slice (some ⟨pb, po, none⟩) pts.length pc] 24))
  have hz1 : (w.alloc (Obj.cells #[.int .i64 st, .slice (some ⟨pb, po, none⟩) pts.length pc] 24)).heap.size = w.heap.size + 1 := by simp
  have HB' := Lib.hid (HB.out.trans (hb.mono HB.out.size))
  have HP' := Lib.hid (HP.out.below hb)
  have HU' := Lib.hid (HU.out.below hb)
  clear HB
  have HB := HB'
  clear HB'
  clear HP
  have HP := HP'
  clear HP'
  clear HU
  have HU := HU'
  clear HU'
  clear hb
  generalize w.alloc (Obj.cells #[.int .i64 st, .slice (some ⟨pb, po, none⟩) pts.length pc] 24) = w1 at *
  have hcall := valid_any ⟨st, pts⟩ _ w1 HP.out
  rw [HE.out] at hcall
  have e0 : ((0 : Int) == 0) = true := rfl
  rw [e0] at hcall
  clear e0
  refine hcall.mono ?_
  clear hcall
  rintro e w2 ⟨rfl, hb⟩
  have HB' := Lib.hid (HB.out.trans (hb.mono HB.out.size))
  have HP' := Lib.hid (HP.out.below hb)
  have HU' := Lib.hid (HU.out.below hb)
  have HR' := Lib.hid ((hb.block _ (lt_of_block HR.out)).trans HR.out)
  clear HB
  have HB := HB'
  clear HB'
  clear HP
  have HP := HP'
  clear HP'
  clear HU
  have HU := HU'
  clear HU'
  clear HR
  have HR := HR'
  clear HR'
  clear hb
  have ra := cellOf HR.out 0 _ rfl
  have rb := cellOf HR.out 1 _ rfl
  have rl := lt_of_block HR.out
  go_wp2_with fail
  clear ra rb rl
  have hcall := strokes_any ⟨st, pts⟩ _ _ l w2 HP.out HU.out HVV.out
  simp only at hcall
  rw [HQS.out, HK.out] at hcall
  refine hcall.mono ?_
  clear hcall
  rintro e w3 ⟨qv, rfl, hown, hb⟩
  have HB' := Lib.hid (HB.out.trans (hb.mono HB.out.size))
  have HP' := Lib.hid (HP.out.below hb)
  have HU' := Lib.hid (HU.out.below hb)
  have HR' := Lib.hid ((hb.block _ (lt_of_block HR.out)).trans HR.out)
  clear HB
  have HB := HB'
  clear HB'
  clear HP
  have HP := HP'
  clear HP'
  clear HU
  have HU := HU'
  clear HU'
  clear HR
  have HR := HR'
  clear HR'
  clear hb
  have hpa := passAt_own (l := qs) (by rw [HQL.out]; exact hown) (by rw [HQL.out]; omega)
  obtain ⟨qa, qc, rfl⟩ := own_slice hown
  have HQ := Lib.hid hpa
  clear hown hpa HU
  have ra := cellOf HR.out 0 _ rfl
  have rb := cellOf HR.out 1 _ rfl
  have rl := lt_of_block HR.out
  go_wp2_with fail
  clear ra rb rl
  have hcall := Carved_any ⟨st, pts⟩ _ _ qs w3 HP.out HQ.out
  unfold CarvedP at hcall
  rw [HCV.out] at hcall
  simp only at hcall
  refine hcall.mono ?_
  clear hcall
  rintro e w4 ⟨dv, rfl, hown, hb⟩
  have HB' := Lib.hid (HB.out.trans (hb.mono HB.out.size))
  have HP' := Lib.hid (HP.out.below hb)
  have HR' := Lib.hid ((hb.block _ (lt_of_block HR.out)).trans HR.out)
  have HQ' := Lib.hid (HQ.out.below hb)
  clear HB
  have HB := HB'
  clear HB'
  clear HP
  have HP := HP'
  clear HP'
  clear HR
  have HR := HR'
  clear HR'
  clear HQ
  have HQ := HQ'
  clear HQ'
  clear hb
  have hpa := intsAt_own hown (by rw [HDL.out]; omega)
  obtain ⟨da, dc, rfl⟩ := own_slice hown
  rw [HDL.out] at hpa ⊢
  have HD := Lib.hid hpa
  clear hown hpa
  have HBj := HB
  have HPj := HP
  have HRj := HR
  have HQj := HQ
  have HDj := HD
  have HJ0 := Lib.hid (heap_alloc_new w4 (Obj.cells #[.int .i64 st, .slice (some ⟨pb, po, none⟩) pts.length pc] 24))
  have HSZ : Hid ((w4.alloc (Obj.cells #[.int .i64 st, .slice (some ⟨pb, po, none⟩) pts.length pc] 24)).heap.size = w4.heap.size + 1) := by show _ = _; simp
  have hownA := Lib.hid (own_made (w4.alloc (Obj.cells #[.int .i64 st, .slice (some ⟨pb, po, none⟩) pts.length pc] 24)) 58 3)
  have HBq : Hid (Below (w4.alloc (Obj.cells #[.int .i64 st, .slice (some ⟨pb, po, none⟩) pts.length pc] 24)).heap.size (w4.alloc (Obj.cells #[.int .i64 st, .slice (some ⟨pb, po, none⟩) pts.length pc] 24)) ((w4.alloc (Obj.cells #[.int .i64 st, .slice (some ⟨pb, po, none⟩) pts.length pc] 24)).alloc (Obj.cells #[] 58))) := (Below.refl _ _).alloc (Nat.le_refl _) _
  have HSQ : Hid (((w4.alloc (Obj.cells #[.int .i64 st, .slice (some ⟨pb, po, none⟩) pts.length pc] 24)).alloc (Obj.cells #[] 58)).heap.size = w4.heap.size + 2) := by show _ = _; simp
  have hbJ := Lib.hid ((Below.refl w4.heap.size w4).alloc (Nat.le_refl _) (Obj.cells #[.int .i64 st, .slice (some ⟨pb, po, none⟩) pts.length pc] 24))
  have HPJ := Lib.hid ((HP.out.below hbJ.out).below HBq.out)
  rw [HSZ.out] at hownA HBq
  have hpl : pb < w4.heap.size := by obtain ⟨b', o', e, c0, _, _⟩ := HP.out.get (show 0 < pts.length by omega); simp only [Option.some.injEq, Addr.mk.injEq, and_true] at e; obtain ⟨rfl, rfl⟩ := e; exact World.block_lt_of_cell? _ _ c0
  have ra := cellOf HR.out 0 _ rfl
  have rb := cellOf HR.out 1 _ rfl
  have rl := lt_of_block HR.out
  go_wp2_with (at_builtin; refine wpList_append_own _ rfl _ _ 22 rfl (w4.heap.size + 1) 58 i0 (.agg #[.int .i64 0, .int .i64 0, .int .i64 0]) 3 24 Try.underlying22 hi0 HI.out.1 HI.out.2.1 HI.out.2.2 rfl (by decide) _ 0 [] rfl hownA.out ⟨pb, po, none⟩ pts.length pc (ptC pts) rfl (ptC_length pts) (pts_cells HPJ.out) ?pa2 ?pa3 ?pa4 ?pa5 ?_)
  case pa2 => exact ptC_cell pts
  case pa3 => unfold maxLen; omega
  case pa4 => omega
  case pa5 => rw [HSQ.out]; omega
  intro v' wz hown3 hgrow _
  have hB3 : Below (w4.heap.size + 1) (w4.alloc (Obj.cells #[.int .i64 st, .slice (some ⟨pb, po, none⟩) pts.length pc] 24)) wz := HBq.out.grown hgrow (by rw [HSQ.out]; omega) (fun g hg => (hownA.out.lt g hg).1)
  obtain ⟨g, cap, cur, rfl, hgb, hgh, hnc, hcm, hcs, htk⟩ := (hown3.2).resolve_left (fun h => by have := h.2; omega)
  have HTK := Lib.hid htk
  clear htk hown3 hgrow hownA HPJ
  have HJ3 := Lib.hid ((hB3.block _ (show w4.heap.size < _ by omega)).trans HJ0.out)
  have hb : Below w4.heap.size w4 (wz.setCell ⟨w4.heap.size, 1, none⟩ (.slice (some ⟨g, 0, none⟩) pts.length cap)) := (hbJ.out.trans (hB3.mono (by omega))).setCell (p := ⟨w4.heap.size, 1, none⟩) (Nat.le_refl _) _
  have HJ : Hid ((wz.setCell ⟨w4.heap.size, 1, none⟩ (.slice (some ⟨g, 0, none⟩) pts.length cap)).heap[w4.heap.size]? = some (.cells #[.int .i64 st, (.slice (some ⟨g, 0, none⟩) pts.length cap)] 24 (0, 0))) := heap_setCell_same wz w4.heap.size 1 _ _ _ HJ3.out
  have HG : Hid ((wz.setCell ⟨w4.heap.size, 1, none⟩ (.slice (some ⟨g, 0, none⟩) pts.length cap)).heap[g]? = some (.cells cur 58 (0, 0))) := (heap_setCell_other wz (⟨w4.heap.size, 1, none⟩ : Addr) g _ (by show g ≠ w4.heap.size; omega)).trans hgh
  have HL := Lib.hid hb
  clear ra rb rl
  have jb := cellOf HJ3.out 1 _ rfl
  have fJ := frozen_of_row _ _ 1 _ _ HJ3.out
  have HCO : Hid (CurOk pts d cur cap 0) := by
    refine ⟨hcs, hnc, fun j hj => ?_, fun j hj => ?_, fun j hj => ?_⟩
    · have e : pts.getD j default = pts[j] := by simp [List.getD_eq_getElem?_getD, hj]
      rw [e, if_neg (Nat.not_lt_zero _)]
      exact (cur_get HTK.out (show j * 3 < pts.length * 3 by omega)).trans (ptC_get pts j hj).1
    · have e : pts.getD j default = pts[j] := by simp [List.getD_eq_getElem?_getD, hj]
      rw [e]
      exact (cur_get HTK.out (show j * 3 + 1 < pts.length * 3 by omega)).trans (ptC_get pts j hj).2.1
    · have e : pts.getD j default = pts[j] := by simp [List.getD_eq_getElem?_getD, hj]
      rw [e]
      exact (cur_get HTK.out (show j * 3 + 2 < pts.length * 3 by omega)).trans (ptC_get pts j hj).2.2
  clear HTK
  go_wp2_with fail
  clear jb fJ HJ3 hB3 HBq hgh HJ0 hbJ hb HB HP HR HQ HD
  generalize HWK : wz.setCell ⟨w4.heap.size, 1, none⟩ (.slice (some ⟨g, 0, none⟩) pts.length cap) = wk at *
  clear HWK
  have hgj : w4.heap.size < g := by omega
  have hgk := lt_of_block HG.out
  have HGK := Lib.hid hgk
  clear hgk
  go_loopg [9, 10] pts.length (fun gg sv iv wr => ∃ (k : Nat) (sa : Option Addr) (sc : Nat) (cur : Array Value), gg + k = pts.length ∧ iv = .int .i64 k ∧ sv = .slice sa k sc ∧ Hid (wr.heap[g]? = some (.cells cur 58 (0, 0))) ∧ Hid (CurOk pts d cur cap k) ∧ Hid (wr.heap[w4.heap.size]? = some (.cells #[.int .i64 st, (.slice (some ⟨g, 0, none⟩) pts.length cap)] 24 (0, 0))) ∧ Hid (wr.ownsRow wk.heap.size 3 1 (.slice sa k sc) k (((leftS pts d).take k).map (Value.int .i64))) ∧ Hid (Below w4.heap.size w4 wr) ∧ Hid (wk.heap.size ≤ wr.heap.size))
  case atStart => exact ⟨0, none, 0, cur, by omega, rfl, rfl, HG, HCO, HJ, World.ownsRow_nil _ _ _ _, HL, Nat.le_refl _⟩
  case round =>
    clear HG HCO HJ HL
    obtain ⟨k, sa, sc, cur, hk, rfl, rfl, HG, HCO, HJ, HO, HL, HK2⟩ := hrel
    obtain ⟨wq, hwq⟩ : ∃ wq, wr = wq := ⟨_, rfl⟩
    rw [hwq] at HG HJ HO HL HK2 ⊢
    clear hwq
    have HB := Lib.hid (HBj.out.trans (HL.out.mono HBj.out.size))
    have HR := Lib.hid ((HL.out.block _ (lt_of_block HRj.out)).trans HRj.out)
    have HP := Lib.hid (HPj.out.below HL.out)
    have HQ := Lib.hid (HQj.out.below HL.out)
    have HD := Lib.hid (HDj.out.below HL.out)
    by_cases hlt : k < pts.length
    · skip
      have kI : (k : Int) < (pts.length : Int) := by omega
      have k9 : (k : Int) ≤ 9 := by omega
      obtain ⟨b1, o1, rfl, djk⟩ := HDj.out.get (show k < d.length by rw [HDL.out]; exact hlt)
      have hb1 := World.block_lt_of_cell? _ ⟨b1, o1 + k, none⟩ djk
      have HB1 := Lib.hid hb1
      have dk := (HL.out.cell (p := ⟨b1, o1 + k, none⟩) hb1).trans djk
      have HDK := Lib.hid djk
      clear djk hb1
      have HJK : Hid (w4.heap.size < wk.heap.size) := by show _ < _; have := HGK.out; omega
      have HB1K : Hid (b1 < wk.heap.size) := Nat.lt_trans HB1.out HJK.out
      obtain ⟨pb', po', e, c0, _, _⟩ := HP.out.get hlt
      simp only [Option.some.injEq, Addr.mk.injEq, and_true] at e
      obtain ⟨rfl, rfl⟩ := e
      have hdb := HDB.out (d[k]'(by rw [HDL.out]; exact hlt)) (List.getElem_mem _)
      have ok := HOK.out pts[k] (List.getElem_mem _)
      have e1 : d.getD k 0 = d[k]'(by rw [HDL.out]; exact hlt) := by simp [List.getD_eq_getElem?_getD, show k < d.length by rw [HDL.out]; exact hlt]
      have e2 : pts.getD k default = pts[k] := by simp [List.getD_eq_getElem?_getD, hlt]
      have b0 := ok.b0
      have b9 := ok.b9
      obtain ⟨mx, hmx⟩ : ∃ mx, max (d.getD k 0) (pts.getD k default).bd = mx := ⟨_, rfl⟩
      have HCN := Lib.hid (HCO.out.next hlt hmx)
      have HST : Hid ((leftS pts d).take (k + 1) = (leftS pts d).take k ++ [mx - d.getD k 0]) := by show _ = _; rw [leftS_take pts d k hlt, hmx]
      have hksz : k * 3 < cur.size := by have := HCO.out.size; have := HCO.out.nc; omega
      rw [e1] at HST
      rw [e1, e2] at hmx
      generalize d[k]'(by rw [HDL.out]; exact hlt) = dd at *
      generalize pts[k].bd = bd at *
      obtain ⟨d0, d60⟩ := hdb
      clear e1 e2 ok
      have mx0 : 0 ≤ mx := by omega
      have mx9 : mx ≤ 9000 := by omega
      have mxd : dd ≤ mx := by omega
      have s1 : IntKind.i64.wrap (mx - dd) = mx - dd := by rw [IntKind.wrap_i64] <;> omega
      have q1 : decide (dd < 0) = false := by simp; omega
      have q2 : decide (60 < dd) = false := by simp; omega
      have ra := cellOf HR.out 0 _ rfl
      have rb := cellOf HR.out 1 _ rfl
      have rl := lt_of_block HR.out
      have jb := cellOf HJ.out 1 _ rfl
      have jl := lt_of_block HJ.out
      go_wp2_with fail
      have HMX := Lib.hid hmx
      have f0 := frozen_of_row _ _ (k * 3) _ _ HG.out
      have gl := lt_of_block HG.out
      have g0 := cellOf HG.out (k * 3) _ (Array.getElem?_eq_getElem hksz)
      refine wp_region_noPanic ?_
      refine wp_region_last (S := (fun W' => W'.cell? ⟨w4.heap.size, 1, none⟩ = some (.slice (some ⟨g, 0, none⟩) pts.length cap) ∧ W'.cell? ⟨b1, o1 + k, none⟩ = some (.int .i64 dd) ∧ W'.cell? ⟨w.heap.size, 1, none⟩ = some (.slice (some ⟨pb, po, none⟩) pts.length pc) ∧ W'.cell? ⟨pb, po + k * 3, none⟩ = some (.int .i64 bd))) 16 (by kernel_rfl) (by decide) (fun inv0 => ?_)
      have hh0 := (show _ ∧ _ ∧ _ ∧ _ from ⟨jb, dk, rb, c0⟩)
      refine wpAnyZ_take (i := 0) (v := ?_) rfl (Lib.hid ⟨by as_aux_lemma => kernel_rfl, by as_aux_lemma => kernel_rfl, by as_aux_lemma => kernel_rfl, rfl⟩) (by decide) inv0 (by as_aux_lemma => kernel_rfl) (by as_aux_lemma => kernel_rfl) (fun _ _ _ h => h) (Or.inl ⟨by rfl, ?_⟩) hh0 (fun inv1 => ?_)
      rotate_left
      · intro w hSw
        try dsimp only at hSw
        go_simp
        try with_reducible rfl
      clear inv0
      try simp only [Act.put, List.getElem_toArray, List.getElem_cons_succ, List.getElem_cons_zero, List.setIfInBounds_toArray, List.set_cons_zero, List.set_cons_succ]
      refine wpAnyZ_take (i := 1) (v := ?_) rfl (Lib.hid ⟨by as_aux_lemma => kernel_rfl, by as_aux_lemma => kernel_rfl, by as_aux_lemma => kernel_rfl, rfl⟩) (by decide) inv1 (by as_aux_lemma => kernel_rfl) (by as_aux_lemma => kernel_rfl) (fun _ _ _ h => h) (Or.inl ⟨by rfl, ?_⟩) hh0 (fun inv2 => ?_)
      rotate_left
      · intro w hSw
        try dsimp only at hSw
        go_simp
        try with_reducible rfl
      clear inv1
      try simp only [Act.put, List.getElem_toArray, List.getElem_cons_succ, List.getElem_cons_zero, List.setIfInBounds_toArray, List.set_cons_zero, List.set_cons_succ]
      refine wpAnyZ_take (i := 2) (v := ?_) rfl (Lib.hid ⟨by as_aux_lemma => kernel_rfl, by as_aux_lemma => kernel_rfl, by as_aux_lemma => kernel_rfl, rfl⟩) (by decide) inv2 (by as_aux_lemma => kernel_rfl) (by as_aux_lemma => kernel_rfl) (fun _ _ _ h => h) (Or.inl ⟨by rfl, ?_⟩) hh0 (fun inv3 => ?_)
      rotate_left
      · intro w hSw
        try dsimp only at hSw
        go_simp
        try with_reducible rfl
      clear inv2
      try simp only [Act.put, List.getElem_toArray, List.getElem_cons_succ, List.getElem_cons_zero, List.setIfInBounds_toArray, List.set_cons_zero, List.set_cons_succ]
      refine wpAnyZ_take (i := 3) (v := ?_) rfl (Lib.hid ⟨by as_aux_lemma => kernel_rfl, by as_aux_lemma => kernel_rfl, by as_aux_lemma => kernel_rfl, rfl⟩) (by decide) inv3 (by as_aux_lemma => kernel_rfl) (by as_aux_lemma => kernel_rfl) (fun _ _ _ h => h) (Or.inl ⟨by rfl, ?_⟩) hh0 (fun inv4 => ?_)
      rotate_left
      · intro w hSw
        try dsimp only at hSw
        go_simp
        try with_reducible rfl
      clear inv3
      try simp only [Act.put, List.getElem_toArray, List.getElem_cons_succ, List.getElem_cons_zero, List.setIfInBounds_toArray, List.set_cons_zero, List.set_cons_succ]
      refine wpAnyZ_take (i := 4) (v := ?_) rfl (Lib.hid ⟨by as_aux_lemma => kernel_rfl, by as_aux_lemma => kernel_rfl, by as_aux_lemma => kernel_rfl, rfl⟩) (by decide) inv4 (by as_aux_lemma => kernel_rfl) (by as_aux_lemma => kernel_rfl) (fun _ _ _ h => h) (Or.inl ⟨by rfl, ?_⟩) hh0 (fun inv5 => ?_)
      rotate_left
      · intro w hSw
        try dsimp only at hSw
        go_simp
        try with_reducible rfl
      clear inv4
      try simp only [Act.put, List.getElem_toArray, List.getElem_cons_succ, List.getElem_cons_zero, List.setIfInBounds_toArray, List.set_cons_zero, List.set_cons_succ]
      refine wpAnyZ_take (i := 5) (v := ?_) rfl (Lib.hid ⟨by as_aux_lemma => kernel_rfl, by as_aux_lemma => kernel_rfl, by as_aux_lemma => kernel_rfl, rfl⟩) (by decide) inv5 (by as_aux_lemma => kernel_rfl) (by as_aux_lemma => kernel_rfl) (fun _ _ _ h => h) (Or.inl ⟨by rfl, ?_⟩) hh0 (fun inv6 => ?_)
      rotate_left
      · intro w hSw
        try dsimp only at hSw
        go_simp
        try with_reducible rfl
      clear inv5
      try simp only [Act.put, List.getElem_toArray, List.getElem_cons_succ, List.getElem_cons_zero, List.setIfInBounds_toArray, List.set_cons_zero, List.set_cons_succ]
      refine wpAnyZ_take (i := 6) (v := ?_) rfl (Lib.hid ⟨by as_aux_lemma => kernel_rfl, by as_aux_lemma => kernel_rfl, by as_aux_lemma => kernel_rfl, rfl⟩) (by decide) inv6 (by as_aux_lemma => kernel_rfl) (by as_aux_lemma => kernel_rfl) (fun _ _ _ h => h) (Or.inl ⟨by rfl, ?_⟩) hh0 (fun inv7 => ?_)
      rotate_left
      · intro w hSw
        try dsimp only at hSw
        go_simp
        try with_reducible rfl
      clear inv6
      try simp only [Act.put, List.getElem_toArray, List.getElem_cons_succ, List.getElem_cons_zero, List.setIfInBounds_toArray, List.set_cons_zero, List.set_cons_succ]
      refine wpAnyZ_take (i := 7) (v := ?_) rfl (Lib.hid ⟨by as_aux_lemma => kernel_rfl, by as_aux_lemma => kernel_rfl, by as_aux_lemma => kernel_rfl, rfl⟩) (by decide) inv7 (by as_aux_lemma => kernel_rfl) (by as_aux_lemma => kernel_rfl) (fun _ _ _ h => h) (Or.inl ⟨by rfl, ?_⟩) hh0 (fun inv8 => ?_)
      rotate_left
      · intro w hSw
        try dsimp only at hSw
        go_simp
        try with_reducible rfl
      clear inv7
      try simp only [Act.put, List.getElem_toArray, List.getElem_cons_succ, List.getElem_cons_zero, List.setIfInBounds_toArray, List.set_cons_zero, List.set_cons_succ]
      refine wpAnyZ_take (i := 8) (v := ?_) rfl (Lib.hid ⟨by as_aux_lemma => kernel_rfl, by as_aux_lemma => kernel_rfl, by as_aux_lemma => kernel_rfl, rfl⟩) (by decide) inv8 (by as_aux_lemma => kernel_rfl) (by as_aux_lemma => kernel_rfl) (fun _ _ _ h => h) (Or.inl ⟨by rfl, ?_⟩) hh0 (fun inv9 => ?_)
      rotate_left
      · intro w hSw
        try dsimp only at hSw
        go_simp
        try with_reducible rfl
      clear inv8
      try simp only [Act.put, List.getElem_toArray, List.getElem_cons_succ, List.getElem_cons_zero, List.setIfInBounds_toArray, List.set_cons_zero, List.set_cons_succ]
      refine wpAnyZ_take (i := 9) (v := ?_) rfl (Lib.hid ⟨by as_aux_lemma => kernel_rfl, by as_aux_lemma => kernel_rfl, by as_aux_lemma => kernel_rfl, rfl⟩) (by decide) inv9 (by as_aux_lemma => kernel_rfl) (by as_aux_lemma => kernel_rfl) (fun _ _ _ h => h) (Or.inl ⟨by rfl, ?_⟩) hh0 (fun inv10 => ?_)
      rotate_left
      · intro w hSw
        try dsimp only at hSw
        go_simp
        try with_reducible rfl
      clear inv9
      try simp only [Act.put, List.getElem_toArray, List.getElem_cons_succ, List.getElem_cons_zero, List.setIfInBounds_toArray, List.set_cons_zero, List.set_cons_succ]
      refine wpAnyZ_take (i := 10) (v := ?_) rfl (Lib.hid ⟨by as_aux_lemma => kernel_rfl, by as_aux_lemma => kernel_rfl, by as_aux_lemma => kernel_rfl, rfl⟩) (by decide) inv10 (by as_aux_lemma => kernel_rfl) (by as_aux_lemma => kernel_rfl) (fun _ _ _ h => h) (Or.inl ⟨by rfl, ?_⟩) hh0 (fun inv11 => ?_)
      rotate_left
      · intro w hSw
        try dsimp only at hSw
        go_simp
        try with_reducible rfl
      clear inv10
      try simp only [Act.put, List.getElem_toArray, List.getElem_cons_succ, List.getElem_cons_zero, List.setIfInBounds_toArray, List.set_cons_zero, List.set_cons_succ]
      refine wpAnyZ_take (i := 11) (v := ?_) rfl (Lib.hid ⟨by as_aux_lemma => kernel_rfl, by as_aux_lemma => kernel_rfl, by as_aux_lemma => kernel_rfl, rfl⟩) (by decide) inv11 (by as_aux_lemma => kernel_rfl) (by as_aux_lemma => kernel_rfl) (fun _ _ _ h => h) (Or.inl ⟨by rfl, ?_⟩) hh0 (fun inv12 => ?_)
      rotate_left
      · intro w hSw
        try dsimp only at hSw
        go_simp
        try with_reducible rfl
      clear inv11
      try simp only [Act.put, List.getElem_toArray, List.getElem_cons_succ, List.getElem_cons_zero, List.setIfInBounds_toArray, List.set_cons_zero, List.set_cons_succ]
      refine wpAnyZ_take (i := 12) (v := ?_) rfl (Lib.hid ⟨by as_aux_lemma => kernel_rfl, by as_aux_lemma => kernel_rfl, by as_aux_lemma => kernel_rfl, rfl⟩) (by decide) inv12 (by as_aux_lemma => kernel_rfl) (by as_aux_lemma => kernel_rfl) (fun _ _ _ h => h) (Or.inl ⟨by rfl, ?_⟩) hh0 (fun inv13 => ?_)
      rotate_left
      · intro w hSw
        try dsimp only at hSw
        go_simp
        try with_reducible rfl
      clear inv12
      try simp only [Act.put, List.getElem_toArray, List.getElem_cons_succ, List.getElem_cons_zero, List.setIfInBounds_toArray, List.set_cons_zero, List.set_cons_succ]
      refine wpAnyZ_take (i := 13) (v := ?_) rfl (Lib.hid ⟨by as_aux_lemma => kernel_rfl, by as_aux_lemma => kernel_rfl, by as_aux_lemma => kernel_rfl, rfl⟩) (by decide) inv13 (by as_aux_lemma => kernel_rfl) (by as_aux_lemma => kernel_rfl) (fun _ _ _ h => h) (Or.inl ⟨by rfl, ?_⟩) hh0 (fun inv14 => ?_)
      rotate_left
      · intro w hSw
        try dsimp only at hSw
        go_simp
        try with_reducible rfl
      clear inv13
      try simp only [Act.put, List.getElem_toArray, List.getElem_cons_succ, List.getElem_cons_zero, List.setIfInBounds_toArray, List.set_cons_zero, List.set_cons_succ]
      refine wpAnyZ_take (i := 14) (v := ?_) rfl (Lib.hid ⟨by as_aux_lemma => kernel_rfl, by as_aux_lemma => kernel_rfl, by as_aux_lemma => kernel_rfl, rfl⟩) (by decide) inv14 (by as_aux_lemma => kernel_rfl) (by as_aux_lemma => kernel_rfl) (fun _ _ _ h => h) (Or.inl ⟨by rfl, ?_⟩) hh0 (fun inv15 => ?_)
      rotate_left
      · intro w hSw
        try dsimp only at hSw
        go_simp
        try with_reducible rfl
      clear inv14
      try simp only [Act.put, List.getElem_toArray, List.getElem_cons_succ, List.getElem_cons_zero, List.setIfInBounds_toArray, List.set_cons_zero, List.set_cons_succ]
      refine wpAnyZ_take (i := 15) (v := ?_) rfl (Lib.hid ⟨by as_aux_lemma => kernel_rfl, by as_aux_lemma => kernel_rfl, by as_aux_lemma => kernel_rfl, rfl⟩) (by decide) inv15 (by as_aux_lemma => kernel_rfl) (by as_aux_lemma => kernel_rfl) (fun _ _ _ h => h) (Or.inl ⟨by rfl, ?_⟩) hh0 (fun inv16 => ?_)
      rotate_left
      · intro w hSw
        try dsimp only at hSw
        go_simp
        try with_reducible rfl
      clear inv15
      try simp only [Act.put, List.getElem_toArray, List.getElem_cons_succ, List.getElem_cons_zero, List.setIfInBounds_toArray, List.set_cons_zero, List.set_cons_succ]
      refine wpAnyZ_all (rs := [16]) (by as_aux_lemma => kernel_rfl) (by simp) ?_
      intro i hi
      obtain rfl : i = 16 := by simpa using hi
      refine step_Z rfl (fun K hK => ?_)
      go_simp
      refine hK.out _ _ (fun h => absurd rfl h) ?_
      clear hK K
      try simp only [Act.put, List.getElem_toArray, List.getElem_cons_succ, List.getElem_cons_zero, List.setIfInBounds_toArray, List.set_cons_zero, List.set_cons_succ]
      refine wpAnyZ_done (by as_aux_lemma => kernel_rfl) ?_ _
      refine NoPanic.normal ?_
      go_wp2_with fail
      have HG1 : Hid (((wq.setCell ⟨g, k * 3, none⟩ (.int .i64 mx)).drew).heap[g]? = some (.cells (cur.setIfInBounds (k * 3) (.int .i64 mx)) 58 (0, 0))) := heap_setCell_same wq g (k * 3) _ _ _ HG.out
      have HJ1 : Hid (((wq.setCell ⟨g, k * 3, none⟩ (.int .i64 mx)).drew).heap[w4.heap.size]? = some (.cells #[.int .i64 st, (.slice (some ⟨g, 0, none⟩) pts.length cap)] 24 (0, 0))) := (heap_setCell_other wq (⟨g, k * 3, none⟩ : Addr) w4.heap.size _ (by show w4.heap.size ≠ g; omega)).trans HJ.out
      have HL1 : Hid (Below w4.heap.size w4 ((wq.setCell ⟨g, k * 3, none⟩ (.int .i64 mx)).drew)) := (HL.out.setCell (p := ⟨g, k * 3, none⟩) (show w4.heap.size ≤ g by omega) _).trans ⟨rfl, rfl, rfl, Nat.le_refl _, fun _ _ => rfl⟩
      have HO1 : Hid (((wq.setCell ⟨g, k * 3, none⟩ (.int .i64 mx)).drew).ownsRow wk.heap.size 3 1 (.slice sa k sc) k (((leftS pts d).take k).map (Value.int .i64))) := own_other HO.out ⟨g, k * 3, none⟩ HGK.out _
      have HKS : Hid (wk.heap.size ≤ ((wq.setCell ⟨g, k * 3, none⟩ (.int .i64 mx)).drew).heap.size) := by show _ ≤ _; have := HK2.out; simpa using this
      clear ra rb rl jb jl f0 gl g0 HG HJ HL HO HK2 dk c0 HB HR HP HQ HD HCO
      generalize HWP : (wq.setCell ⟨g, k * 3, none⟩ (.int .i64 mx)).drew = wp at *
      clear HWP
      have HDW := Lib.hid (HDj.out.below HL1.out)
      have jb := cellOf HJ1.out 1 _ rfl
      have jl := lt_of_block HJ1.out
      have hsz2 : k * 3 < (cur.setIfInBounds (k * 3) (.int .i64 mx)).size := by rw [Array.size_setIfInBounds]; exact hksz
      have g0 := cellOf HG1.out (k * 3) (.int .i64 mx) (by rw [Array.getElem?_setIfInBounds_self_of_lt hksz])
      have dk : wp.cell? ⟨b1, o1 + k, none⟩ = some (.int .i64 dd) := (HL1.out.cell (p := ⟨b1, o1 + k, none⟩) HB1.out).trans HDK.out
      refine wp_region_noPanic ?_
      refine wp_region_held_drew (S := (fun W' => W'.cell? ⟨w4.heap.size, 1, none⟩ = some (.slice (some ⟨g, 0, none⟩) pts.length cap) ∧ W'.cell? ⟨g, k * 3, none⟩ = some (.int .i64 mx) ∧ W'.cell? ⟨b1, o1 + k, none⟩ = some (.int .i64 dd))) (by kernel_rfl) ?_ (fun hh0 => ?_)
      · try dsimp only
        exact ⟨jb, g0, dk⟩
      refine wpAnyH_take (i := 0) (v := ?_) rfl (by as_aux_lemma => kernel_rfl) (by as_aux_lemma => kernel_rfl) (by as_aux_lemma => kernel_rfl) (fun _ _ _ h => h) (Or.inl ⟨by rfl, ?_⟩) (by assumption) ?_
      rotate_left
      · intro w hSw
        try dsimp only at hSw
        go_simp
        try with_reducible rfl
      try simp only [Act.put, List.getElem_toArray, List.getElem_cons_succ, List.getElem_cons_zero, List.setIfInBounds_toArray, List.set_cons_zero, List.set_cons_succ]
      refine wpAnyH_take (i := 1) (v := ?_) rfl (by as_aux_lemma => kernel_rfl) (by as_aux_lemma => kernel_rfl) (by as_aux_lemma => kernel_rfl) (fun _ _ _ h => h) (Or.inl ⟨by rfl, ?_⟩) (by assumption) ?_
      rotate_left
      · intro w hSw
        try dsimp only at hSw
        go_simp
        try with_reducible rfl
      try simp only [Act.put, List.getElem_toArray, List.getElem_cons_succ, List.getElem_cons_zero, List.setIfInBounds_toArray, List.set_cons_zero, List.set_cons_succ]
      refine wpAnyH_take (i := 2) (v := ?_) rfl (by as_aux_lemma => kernel_rfl) (by as_aux_lemma => kernel_rfl) (by as_aux_lemma => kernel_rfl) (fun _ _ _ h => h) (Or.inl ⟨by rfl, ?_⟩) (by assumption) ?_
      rotate_left
      · intro w hSw
        try dsimp only at hSw
        go_simp
        try with_reducible rfl
      try simp only [Act.put, List.getElem_toArray, List.getElem_cons_succ, List.getElem_cons_zero, List.setIfInBounds_toArray, List.set_cons_zero, List.set_cons_succ]
      refine wpAnyH_take (i := 3) (v := ?_) rfl (by as_aux_lemma => kernel_rfl) (by as_aux_lemma => kernel_rfl) (by as_aux_lemma => kernel_rfl) (fun _ _ _ h => h) (Or.inl ⟨by rfl, ?_⟩) (by assumption) ?_
      rotate_left
      · intro w hSw
        try dsimp only at hSw
        go_simp
        try with_reducible rfl
      try simp only [Act.put, List.getElem_toArray, List.getElem_cons_succ, List.getElem_cons_zero, List.setIfInBounds_toArray, List.set_cons_zero, List.set_cons_succ]
      refine wpAnyH_take (i := 4) (v := ?_) rfl (by as_aux_lemma => kernel_rfl) (by as_aux_lemma => kernel_rfl) (by as_aux_lemma => kernel_rfl) (fun _ _ _ h => h) (Or.inl ⟨by rfl, ?_⟩) (by assumption) ?_
      rotate_left
      · intro w hSw
        try dsimp only at hSw
        go_simp
        try with_reducible rfl
      try simp only [Act.put, List.getElem_toArray, List.getElem_cons_succ, List.getElem_cons_zero, List.setIfInBounds_toArray, List.set_cons_zero, List.set_cons_succ]
      refine wpAnyH_take (i := 5) (v := ?_) rfl (by as_aux_lemma => kernel_rfl) (by as_aux_lemma => kernel_rfl) (by as_aux_lemma => kernel_rfl) (fun _ _ _ h => h) (Or.inl ⟨by rfl, ?_⟩) (by assumption) ?_
      rotate_left
      · intro w hSw
        try dsimp only at hSw
        go_simp
        try with_reducible rfl
      try simp only [Act.put, List.getElem_toArray, List.getElem_cons_succ, List.getElem_cons_zero, List.setIfInBounds_toArray, List.set_cons_zero, List.set_cons_succ]
      refine wpAnyH_take (i := 6) (v := ?_) rfl (by as_aux_lemma => kernel_rfl) (by as_aux_lemma => kernel_rfl) (by as_aux_lemma => kernel_rfl) (fun _ _ _ h => h) (Or.inl ⟨by rfl, ?_⟩) (by assumption) ?_
      rotate_left
      · intro w hSw
        try dsimp only at hSw
        go_simp
        try with_reducible rfl
      try simp only [Act.put, List.getElem_toArray, List.getElem_cons_succ, List.getElem_cons_zero, List.setIfInBounds_toArray, List.set_cons_zero, List.set_cons_succ]
      refine wpAnyH_take (i := 7) (v := ?_) rfl (by as_aux_lemma => kernel_rfl) (by as_aux_lemma => kernel_rfl) (by as_aux_lemma => kernel_rfl) (fun _ _ _ h => h) (Or.inl ⟨by rfl, ?_⟩) (by assumption) ?_
      rotate_left
      · intro w hSw
        try dsimp only at hSw
        go_simp
        try with_reducible rfl
      try simp only [Act.put, List.getElem_toArray, List.getElem_cons_succ, List.getElem_cons_zero, List.setIfInBounds_toArray, List.set_cons_zero, List.set_cons_succ]
      refine wpAnyH_take (i := 8) (v := ?_) rfl (by as_aux_lemma => kernel_rfl) (by as_aux_lemma => kernel_rfl) (by as_aux_lemma => kernel_rfl) (fun _ _ _ h => h) (Or.inl ⟨by rfl, ?_⟩) (by assumption) ?_
      rotate_left
      · intro w hSw
        try dsimp only at hSw
        go_simp
        try with_reducible rfl
      try simp only [Act.put, List.getElem_toArray, List.getElem_cons_succ, List.getElem_cons_zero, List.setIfInBounds_toArray, List.set_cons_zero, List.set_cons_succ]
      refine wpAnyH_take (i := 9) (v := ?_) rfl (by as_aux_lemma => kernel_rfl) (by as_aux_lemma => kernel_rfl) (by as_aux_lemma => kernel_rfl) (fun _ _ _ h => h) (Or.inl ⟨by rfl, ?_⟩) (by assumption) ?_
      rotate_left
      · intro w hSw
        try dsimp only at hSw
        go_simp
        try with_reducible rfl
      try simp only [Act.put, List.getElem_toArray, List.getElem_cons_succ, List.getElem_cons_zero, List.setIfInBounds_toArray, List.set_cons_zero, List.set_cons_succ]
      refine wpAnyH_take (i := 10) (v := ?_) rfl (by as_aux_lemma => kernel_rfl) (by as_aux_lemma => kernel_rfl) (by as_aux_lemma => kernel_rfl) (fun _ _ _ h => h) (Or.inl ⟨by rfl, ?_⟩) (by assumption) ?_
      rotate_left
      · intro w hSw
        try dsimp only at hSw
        go_simp
        try with_reducible rfl
      try simp only [Act.put, List.getElem_toArray, List.getElem_cons_succ, List.getElem_cons_zero, List.setIfInBounds_toArray, List.set_cons_zero, List.set_cons_succ]
      refine wpAnyH_take (i := 11) (v := ?_) rfl (by as_aux_lemma => kernel_rfl) (by as_aux_lemma => kernel_rfl) (by as_aux_lemma => kernel_rfl) (fun _ _ _ h => h) (Or.inl ⟨by rfl, ?_⟩) (by assumption) ?_
      rotate_left
      · intro w hSw
        try dsimp only at hSw
        go_simp
        try with_reducible rfl
      try simp only [Act.put, List.getElem_toArray, List.getElem_cons_succ, List.getElem_cons_zero, List.setIfInBounds_toArray, List.set_cons_zero, List.set_cons_succ]
      refine wpAnyH_ready (rs := [12]) (by as_aux_lemma => kernel_rfl) (by simp) ?_
      refine AllReadyH.cons rfl (fun K hK => ?_) AllReadyH.nil
      go_simp
      have hbn : Below wp.heap.size wp ((wp.alloc (Obj.cells #[.int .i64 (mx - dd)] 3)).drew) := by go_grown
      refine hK.out _ _ ?_ (fun hh1 => ?_)
      · try dsimp only
        exact ⟨keepK jb hbn, keepK g0 hbn, keepK dk hbn⟩
      clear hK K hh0
      try simp only [Act.put, List.getElem_toArray, List.getElem_cons_succ, List.getElem_cons_zero, List.setIfInBounds_toArray, List.set_cons_zero, List.set_cons_succ]
      refine wpAnyH_ready (rs := [13]) (by as_aux_lemma => kernel_rfl) (by simp) ?_
      refine AllReadyH.cons rfl (fun K hK => ?_) AllReadyH.nil
      refine step_app (by rfl) _ _ 36 3 (by rfl) j0 (.int .i64 0) 1 8 Try.underlying36 hj0 HJI.out.1 HJI.out.2.1 HJI.out.2.2 rfl (by decide) wk.heap.size k _ _ ⟨wp.heap.size, 0, none⟩ 1 1 [.int .i64 (mx - dd)] (by rfl) (by rfl) (own_below HO1.out hbn) rfl ?pa1 ?pa2 (by have h1 := HKS.out; simp; omega) (by unfold maxLen; omega) (by omega) ?_
      case pa1 =>
        intro j' u' hj
        match j', hj with
        | 0, hj => simp at hj; subst hj; exact cellOf (heap_alloc_new wp (Obj.cells #[.int .i64 (mx - dd)] 3)) 0 _ rfl
        | j' + 1, hj => simp at hj
      case pa2 =>
        intro u' hu'
        simp at hu'
        subst hu'
        rfl
      intro v1 w1 ho1 hg1 hl1 _
      have HB2 : Hid (Below wk.heap.size wp w1) := (Below.mono hbn HKS.out).grown hg1 (by have h1 := HKS.out; simp; omega) (fun q hq => (hl1 q hq).1)
      refine hK.out _ _ ?_ (fun hh2 => ?_)
      · try dsimp only
        exact ⟨(HB2.out.cell (p := ⟨w4.heap.size, 1, none⟩) HJK.out).trans jb, (HB2.out.cell (p := ⟨g, k * 3, none⟩) HGK.out).trans g0, (HB2.out.cell (p := ⟨b1, o1 + k, none⟩) HB1K.out).trans dk⟩
      clear hK K hh1
      try simp only [Act.put, List.getElem_toArray, List.getElem_cons_succ, List.getElem_cons_zero, List.setIfInBounds_toArray, List.set_cons_zero, List.set_cons_succ]
      refine wpAnyH_ready (rs := [14]) (by as_aux_lemma => kernel_rfl) (by simp) ?_
      refine AllReadyH.cons rfl (fun K hK => ?_) AllReadyH.nil
      refine hK.out _ _ ?_ (fun hh3 => ?_)
      · try dsimp only
        exact hh2
      clear hK K hh2
      try simp only [Act.put, List.getElem_toArray, List.getElem_cons_succ, List.getElem_cons_zero, List.setIfInBounds_toArray, List.set_cons_zero, List.set_cons_succ]
      refine wpAnyH_done (by as_aux_lemma => kernel_rfl) ?_ _
      refine NoPanic.normal ?_
      obtain ⟨sa', sc', rfl⟩ := own_slice ho1
      have HO2 : Hid (w1.ownsRow wk.heap.size 3 1 (.slice sa' (k + 1) sc') (k + 1) (((leftS pts d).take (k + 1)).map (Value.int .i64))) := by show World.ownsRow _ _ _ _ _ _ _; rw [HST.out, List.map_append]; exact ho1
      have HG2 := Lib.hid ((HB2.out.block _ HGK.out).trans HG1.out)
      have HJ2 := Lib.hid ((HB2.out.block _ HJK.out).trans HJ1.out)
      have HL2 := Lib.hid (HL1.out.trans (HB2.out.mono (Nat.le_of_lt HJK.out)))
      have HKS2 : Hid (wk.heap.size ≤ w1.heap.size) := Nat.le_trans HKS.out HB2.out.size
      clear ho1 hg1 hl1 HO1 HB2 HG1 HJ1 HL1 hbn jb jl g0 dk
      go_wp2
      go_roundg (gk - 1)
      case measure => omega
      case rel => exact ⟨k + 1, sa', sc', _, by omega, by go_num, rfl, HG2, HCN, HJ2, HO2, HL2, HKS2⟩
    · obtain rfl : k = pts.length := by omega
      have HPP := Lib.hid (HCO.out.pts HG.out (by omega))
      have hll : (leftS pts d).length = pts.length := leftS_length pts d
      have HSI : Hid (IntsAt wq (.slice sa pts.length sc) (leftS pts d)) := by
        have h := HO.out
        rw [List.take_of_length_le (by rw [hll]; exact Nat.le_refl _)] at h
        exact intsAt_own (by rw [hll]; exact h) (by rw [hll]; omega)
      clear hlt hk HO HCO HG hll
      have lI : ¬ ((M : Int) > (K : Int)) := by omega
      have lq : decide ((K : Int) < (M : Int)) = false := by simp; omega
      have ja := cellOf HJ.out 0 _ rfl
      have jb := cellOf HJ.out 1 _ rfl
      have jl := lt_of_block HJ.out
      go_wp2_with fail
      clear ja jb jl
      have hcall := passes_any ⟨st, leftP pts d⟩ _ _ (leftS pts d) wq HPP.out HSI.out
      rw [HPS.out] at hcall
      simp only at hcall
      refine hcall.mono ?_
      clear hcall
      rintro e w5 ⟨v2, rfl, hown, hb⟩
      have HB' := Lib.hid (HB.out.trans (hb.mono HB.out.size))
      have HR' := Lib.hid ((hb.block _ (lt_of_block HR.out)).trans HR.out)
      have HP' := Lib.hid (HP.out.below hb)
      have HQ' := Lib.hid (HQ.out.below hb)
      have HD' := Lib.hid (HD.out.below hb)
      have HJ' := Lib.hid ((hb.block _ (lt_of_block HJ.out)).trans HJ.out)
      have HPP' := Lib.hid (HPP.out.below hb)
      have HSI' := Lib.hid (HSI.out.below hb)
      clear HB
      have HB := HB'
      clear HB'
      clear HR
      have HR := HR'
      clear HR'
      clear HP
      have HP := HP'
      clear HP'
      clear HQ
      have HQ := HQ'
      clear HQ'
      clear HD
      have HD := HD'
      clear HD'
      clear HJ
      have HJ := HJ'
      clear HJ'
      clear HPP
      have HPP := HPP'
      clear HPP'
      clear HSI
      have HSI := HSI'
      clear HSI'
      clear hb
      have hpa := passAt_own hown (by rw [HQM.out]; omega)
      rw [HQM.out] at hown
      obtain ⟨la, lc, rfl⟩ := own_slice hown
      have HX := Lib.hid hpa
      clear hown hpa
      have ja := cellOf HJ.out 0 _ rfl
      have jb := cellOf HJ.out 1 _ rfl
      have jl := lt_of_block HJ.out
      go_wp2_with fail
      clear ja jb jl
      have hcall := Carved_any ⟨st, leftP pts d⟩ _ _ ql w5 HPP.out HX.out
      unfold CarvedP at hcall
      rw [HCW.out] at hcall
      simp only at hcall
      refine hcall.mono ?_
      clear hcall
      rintro e w6 ⟨v3, rfl, hown, hb⟩
      have HB' := Lib.hid (HB.out.trans (hb.mono HB.out.size))
      have HR' := Lib.hid ((hb.block _ (lt_of_block HR.out)).trans HR.out)
      have HP' := Lib.hid (HP.out.below hb)
      have HQ' := Lib.hid (HQ.out.below hb)
      have HD' := Lib.hid (HD.out.below hb)
      have HJ' := Lib.hid ((hb.block _ (lt_of_block HJ.out)).trans HJ.out)
      have HPP' := Lib.hid (HPP.out.below hb)
      have HSI' := Lib.hid (HSI.out.below hb)
      have HX' := Lib.hid (HX.out.below hb)
      clear HB
      have HB := HB'
      clear HB'
      clear HR
      have HR := HR'
      clear HR'
      clear HP
      have HP := HP'
      clear HP'
      clear HQ
      have HQ := HQ'
      clear HQ'
      clear HD
      have HD := HD'
      clear HD'
      clear HJ
      have HJ := HJ'
      clear HJ'
      clear HPP
      have HPP := HPP'
      clear HPP'
      clear HSI
      have HSI := HSI'
      clear HSI'
      clear HX
      have HX := HX'
      clear HX'
      clear hb
      have hpa := intsAt_own hown (by rw [HDL.out]; omega)
      obtain ⟨ea, ec, rfl⟩ := own_slice hown
      rw [HDL.out] at hpa ⊢
      have HY := Lib.hid hpa
      clear hown hpa
      go_wp2_with fail
      have hcall := ints_eq _ _ d _ HY.out HD.out
      refine hcall.mono ?_
      clear hcall
      rintro e w7 ⟨rfl, hb⟩
      have HB' := Lib.hid (HB.out.trans (hb.mono HB.out.size))
      have HR' := Lib.hid ((hb.block _ (lt_of_block HR.out)).trans HR.out)
      have HP' := Lib.hid (HP.out.below hb)
      have HQ' := Lib.hid (HQ.out.below hb)
      have HD' := Lib.hid (HD.out.below hb)
      have HJ' := Lib.hid ((hb.block _ (lt_of_block HJ.out)).trans HJ.out)
      have HPP' := Lib.hid (HPP.out.below hb)
      have HSI' := Lib.hid (HSI.out.below hb)
      have HX' := Lib.hid (HX.out.below hb)
      have HY' := Lib.hid (HY.out.below hb)
      clear HB
      have HB := HB'
      clear HB'
      clear HR
      have HR := HR'
      clear HR'
      clear HP
      have HP := HP'
      clear HP'
      clear HQ
      have HQ := HQ'
      clear HQ'
      clear HD
      have HD := HD'
      clear HD'
      clear HJ
      have HJ := HJ'
      clear HJ'
      clear HPP
      have HPP := HPP'
      clear HPP'
      clear HSI
      have HSI := HSI'
      clear HSI'
      clear HX
      have HX := HX'
      clear HX'
      clear HY
      have HY := HY'
      clear HY'
      clear hb
      clear HX HY
      go_wp2_with fail
      have hcall := awake_any w7
      refine hcall.mono ?_
      clear hcall
      rintro e w8 ⟨rfl, hb⟩
      have HB' := Lib.hid (HB.out.trans (hb.mono HB.out.size))
      have HR' := Lib.hid ((hb.block _ (lt_of_block HR.out)).trans HR.out)
      have HP' := Lib.hid (HP.out.below hb)
      have HQ' := Lib.hid (HQ.out.below hb)
      have HD' := Lib.hid (HD.out.below hb)
      have HJ' := Lib.hid ((hb.block _ (lt_of_block HJ.out)).trans HJ.out)
      have HPP' := Lib.hid (HPP.out.below hb)
      have HSI' := Lib.hid (HSI.out.below hb)
      clear HB
      have HB := HB'
      clear HB'
      clear HR
      have HR := HR'
      clear HR'
      clear HP
      have HP := HP'
      clear HP'
      clear HQ
      have HQ := HQ'
      clear HQ'
      clear HD
      have HD := HD'
      clear HD'
      clear HJ
      have HJ := HJ'
      clear HJ'
      clear HPP
      have HPP := HPP'
      clear HPP'
      clear HSI
      have HSI := HSI'
      clear HSI'
      clear hb
      go_wp2
      go_ret
      exact ⟨rfl, HB.out⟩

set_option maxRecDepth 100000 in
set_option maxHeartbeats 16000000 in
theorem lpss_any (r : Row) (pv xv : Value) (l : List Nat) (w : World) (hP : PtsAt w pv r.pts) (hU : U8At w xv l) :
    Calls Try.prog 10 #[.agg #[.int .i64 r.st, pv], xv] w fun e w' => e = .returned (.bool true) ∧ Below w.heap.size w w' := by
  obtain ⟨st, pts⟩ := r
  simp only at hP ⊢
  obtain ⟨lp, pa, pc, rfl, _, _⟩ := id hP
  by_cases hv : errR ⟨st, pts⟩ = 0
  · have h1 : 1 ≤ pts.length := ((check_valid _).1 hv).n1
    obtain ⟨pb, po, rfl, _⟩ := hP.get (show 0 < pts.length by omega)
    have hk : strokeK l ≤ 60 := by unfold strokeK; omega
    have hin := strokesN_in pts.length h1 l (strokeK l)
    have hql : (strokesN pts.length l (strokeK l)).length = strokeK l := strokesN_length _ _ _
    obtain ⟨ql, p1, p2, p3⟩ := left_passes st pts _ hv (by rw [hql]; exact hk) hin
    refine lpss_ok st pts pb po pc xv l w hP hU hv (strokeK l) hk rfl _ rfl hql _ (carved_ok hv (by rw [hql]; exact hk) hin) (by show _ = _; simp [lowL]) (fun x hx => ?_) ql _ p1 rfl (by rw [← hql]; exact p2) p3
    obtain ⟨a, _, rfl⟩ := List.mem_map.1 hx
    have := cntN_bd (strokesN pts.length l (strokeK l)) a (strokesN pts.length l (strokeK l)).length
    omega
  · exact lpss_no st pts pa pc xv l w hP hU hv

end Go.Proofs.Ytnciomoapajonaa
namespace Go.Proofs.Ytnciomoapajonaa
namespace ClaimCarvePasses
open Go.ChangeShapes Go.WideShapes Go.ChangeAt Go.RowKit

theorem own : ownKnob Try.prog.godebug = none := by kernel_rfl
theorem laidOutP : laidOutB Try.prog = true := by kernel_rfl

set_option maxRecDepth 100000 in
theorem contract (H : Type) (enc : TypeId × Value → H) (W : World) (base : Nat) (args : Array Value) (ds gs : List (DataW H)) (before : List MemPlace)
    (hval : ∀ (j : Nat) t v, Try.f10.params[j]? = some t → args[j]? = some v → Value.okWide Try.prog W .any base t v)
    (hW : DataW.Whole enc Try.prog Try.f10.params.toList Rows.carvePassesSpec.vars false W args.toList ds gs before)
    (hsz : (DataW.weightsEach Try.prog (Try.f10.params.toList ++ Rows.carvePassesSpec.plain.varTypes Try.prog) (ds ++ gs)).all (· ≤ reachBytes) = true) :
    Calls Try.prog 10 args W fun e W' => ∃ v, e = .returned v ∧ Rows.carvePassesSpec.post enc Try.prog Try.f10 false true false false W args v W' := by
  have hW' := hW
  obtain ⟨p, q, hA0, hV, rfl, hfz, hnd⟩ := hW
  have hA : DataW.TrodAll enc Try.prog W 0 (fun _ => true) true Try.f10.params.toList args.toList ds p := hA0
  rw [Try.params10] at hA hval hsz
  obtain ⟨v0, vs0, d0, ds0, p0, q0, hargs, rfl, rfl, h0, r0⟩ := trodAll_cons hA
  obtain ⟨v1, vs1, d1, ds1, p1, q1, rfl, rfl, rfl, h1, r1⟩ := trodAll_cons r0
  obtain ⟨rfl, rfl, rfl⟩ := trodAll_nil r1
  obtain rfl : args = #[v0, v1] := by cases args; simp_all
  obtain ⟨rfl, rfl⟩ := trodVars_none hV
  have w0 : ∀ x ∈ d0.weights Try.prog 24, x ≤ reachBytes := fun x hx => of_decide_eq_true (List.all_eq_true.1 hsz _ (DataW.weights_mem_each (j := 0) (t := 24) (d := d0) rfl rfl x hx))
  obtain ⟨r, pv, rfl, hP, hs0, hs9⟩ := open_row (hval 0 24 v0 rfl rfl) h0 w0
  have w1 : ∀ x ∈ d1.weights Try.prog 51, x ≤ reachBytes := fun x hx => of_decide_eq_true (List.all_eq_true.1 hsz _ (DataW.weights_mem_each (j := 1) (t := 51) (d := d1) rfl rfl x hx))
  obtain ⟨l1, hU1⟩ := open_u8s (hval 1 51 v1 rfl rfl) h1 w1
  clear hA0
  refine (lpss_any r pv v1 l1 W hP hU1).mono fun e W' ⟨he, hb⟩ => ?_
  subst he
  exact ⟨_, rfl, post_law laidOutP (by rw [Try.params10]; intro t ht; simp at ht; rcases ht with rfl | rfl <;> exact ⟨by kernel_rfl, of_decide_eq_true (by kernel_rfl)⟩) rfl rfl Try.underlying4 rfl hW' hb⟩

set_option maxRecDepth 100000 in
theorem lifted (os : Os) (started : os.Started) (H : Type) (enc : TypeId × Value → H) :
    ReturnsInHanded {} Try.checked os 10 .any (Rows.carvePassesSpec.pre6 enc Try.prog Try.f10 Rows.carvePassesRow.domain false) (Rows.carvePassesSpec.post enc Try.prog Try.f10 false true false false) := by
  refine returnsInHanded_of_change_sized (C := Try.checked) own started (by kernel_rfl) Try.func10
    (ChangeSpec.witness6 (enc := enc) (C := Try.checked) false ⟨#[], #[.agg #[.int .i64 0, .slice none 0 0], .slice none 0 0], []⟩ 8 (by kernel_rfl) (by kernel_rfl) (by kernel_rfl) (by kernel_rfl)) ?_
  intro W base args ds gs before hval hW _ hsz _
  exact contract H enc W base args ds gs before hval hW hsz

theorem over : Rows.CarvePassesSaid :=
  OpenClaim.holds_of_wide 10 Try.f10 rfl rfl rfl rfl rfl rfl rfl ⟨rfl, rfl, rfl, rfl, rfl⟩ rfl rfl rfl rfl rfl (by kernel_rfl) Try.func10 (by kernel_rfl)
    (of_decide_eq_true (by kernel_rfl)) (by unfold Func.isWrapper; first | (rw [if_pos (by decide +kernel)]; kernel_rfl) | (rw [if_neg (by decide +kernel)]; exact ⟨rfl, rfl⟩))
    (fun os started H enc _ => lifted os started H enc)
end ClaimCarvePasses

theorem carvePasses_holds : Rows.CarvePassesSaid := ClaimCarvePasses.over
end Go.Proofs.Ytnciomoapajonaa
