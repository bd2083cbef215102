/- Package carve: the walk of Carved. -/
import Derived.Test.YtnciomoapajonaaCvw
set_option linter.unusedSimpArgs false
set_option linter.unusedVariables false
namespace Go.Proofs.Ytnciomoapajonaa
open Go Go.RowKit Cv

theorem made_int (n : Nat) : (madeCells #[Value.int IntKind.i64 0] n).toList = List.replicate n (.int .i64 0) := by
  apply List.ext_getElem
  · simp [madeCells]
  · intro i h1 h2
    simp [madeCells, Nat.mod_one]
theorem LowIn.next {ps : List (Int × Int)} {cur : List Value} {k f i : Nat} {x : Int} (h : LowIn ps f cur k (i - f)) (hl : i < cur.length) (hf : f ≤ i) (hx : cntN ps i k = x) : LowIn ps f (cur.set i (.int .i64 (x + 1))) k (i + 1 - f) := by
  have := h.more (by omega)
  rw [show f + (i - f) = i by omega, hx] at this
  rw [show i + 1 - f = i - f + 1 by omega]
  exact this
theorem LowIn.at_ {ps : List (Int × Int)} {cur : List Value} {k f i : Nat} (h : LowIn ps f cur k (i - f)) (hl : i < cur.length) (hf : f ≤ i) : cur[i]? = some (.int .i64 (cntN ps i k)) := by
  rw [h i hl, if_neg (by omega), Int.add_zero]
set_option maxRecDepth 100000 in
set_option maxHeartbeats 4000000 in
theorem Carved_any (r : Row) (pv qv : Value) (ps : List (Int × Int)) (w : World) (hP : PtsAt w pv r.pts) (hQ : PassAt w qv ps) :
    Calls Try.prog 33 #[.agg #[.int .i64 r.st, pv], qv] w (CarvedP w (carvedR r ps)) := by
  obtain ⟨i0, hi⟩ := info_of_underlying Try.underlying3
  have HI : Hid (i0.zero = some (.int .i64 0) ∧ i0.size = 1 ∧ i0.bytes = 8) := by
    have h := intInfo
    rw [hi] at h
    simp at h
    exact h
  obtain ⟨st, pts⟩ := r
  simp only at hP ⊢
  obtain ⟨lp, pa, pc, rfl, _, _⟩ := id hP
  obtain ⟨lq, qa, qc, rfl, _, _⟩ := id hQ
  have lqI : (ps.length : Int) ≤ 4611686018427387904 := by omega
  have lpI : (pts.length : Int) ≤ 4611686018427387904 := by omega
  have hB : Below w.heap.size w (w.alloc (Obj.cells #[.int .i64 st, .slice pa pts.length pc] 24)) := by go_grown
  have HB := Lib.hid hB
  have HP := Lib.hid (hP.below hB)
  have HQ := Lib.hid (hQ.below hB)
  have HA := Lib.hid (heap_alloc_new w (Obj.cells #[.int .i64 st, .slice pa pts.length pc] 24))
  have a0 := cellOf HA.out 0 _ rfl
  have a1 := cellOf HA.out 1 _ rfl
  clear hP hQ hB
  go_enter Try.func33, Try.ntmps33
  go_wp2_with fail
  generalize w.alloc (Obj.cells #[.int .i64 st, .slice pa pts.length pc] 24) = w0 at *
  refine (check_any ⟨st, pts⟩ (.slice pa pts.length pc) w0 HP.out).mono ?_
  rintro e w1 ⟨rfl, hb⟩
  have HB1 := Lib.hid (HB.out.trans (hb.mono HB.out.size))
  have HP1 := Lib.hid (HP.out.below hb)
  have HQ1 := Lib.hid (HQ.out.below hb)
  have HA1 := Lib.hid ((hb.block _ (lt_of_block HA.out)).trans HA.out)
  obtain ⟨z, HE⟩ : ∃ z, Hid ((checkR ⟨st, pts⟩).2.2 = z) := ⟨_, rfl⟩
  have HER : Hid (errR ⟨st, pts⟩ = z) := HE.out
  rw [HE.out]
  generalize (checkR ⟨st, pts⟩).1 = y1 at *
  generalize (checkR ⟨st, pts⟩).2.1 = y2 at *
  clear hb HB HP HQ HA a0 a1
  by_cases hz : z = 0
  · subst hz
    have hv := check_valid ⟨st, pts⟩ |>.1 HER.out
    have hn10 : pts.length ≤ 10 := hv.n10
    clear hv
    have a1 := cellOf HA1.out 1 _ rfl
    have hAlt := lt_of_block HA1.out
    by_cases h60 : 60 < ps.length
    · have HF : Hid (carvedR ⟨st, pts⟩ ps = ([], 3)) := by show _ = _; unfold carvedR; rw [if_neg (by simp [HER.out]), if_pos h60]
      have h60I : (60 : Int) < (ps.length : Int) := by omega
      clear h60 HER HE
      go_wp2_with fail
      go_ret2
      exact carvedP_no HF.out HB1.out
    · have h60I : (ps.length : Int) ≤ 60 := by omega
      obtain ⟨f, HFF⟩ : ∃ f, Hid ((fun k => passE pts.length (ps.getD k (0, 0))) = f) := ⟨_, rfl⟩
      have HF : Hid (carvedR ⟨st, pts⟩ ps = if (firstW f 0 ps.length).2 ≠ 0 then ([], (firstW f 0 ps.length).2) else ((List.range pts.length).map fun a => cntN ps (a : Nat) ps.length, 0)) := by
        show _ = _
        unfold carvedR passErr
        rw [if_neg (by simp [HER.out]), if_neg h60, HFF.out]
      have hp60 : ps.length ≤ 60 := by omega
      clear h60 HER HE
      go_wp2_with (at_make; refine wpList_make_full _ rfl _ _ 36 rfl w1.heap.size 3 i0 (.int .i64 0) 1 Try.underlying36 hi HI.out.1 HI.out.2.1 .i64 .i64 _ _ pts.length rfl rfl rfl rfl ?c1 ?c2 (Nat.le_refl _) ?_)
      case c1 => rw [HI.out.2.2]; omega
      case c2 => unfold maxLen; omega
      intro w3 hown0 hgr
      have HB0 : Hid (Below w1.heap.size w1 w3) := (Below.refl w1.heap.size w1).grown hgr (Nat.le_refl _) (by simp)
      have HL0 : Hid (LowTo ps (madeCells #[Value.int IntKind.i64 0] pts.length).toList 0) := by
        intro a ha
        rw [made_int] at ha ⊢
        rw [List.length_replicate] at ha
        rw [List.getElem?_replicate, if_pos ha]
        rfl
      generalize (madeCells #[Value.int IntKind.i64 0] pts.length).toList = cur0 at hown0 HL0
      clear hgr HI a1
      go_wp2
      have hg0 : w1.heap.size < w3.heap.size := (hown0.lt w1.heap.size rfl).2
      go_loopg [32] ps.length (fun g i wr => ∃ (k : Nat) (cur : List Value), g + k = ps.length ∧ i = .int .i64 k ∧ wr.ownsRow w1.heap.size 3 1 (.slice (some ⟨w1.heap.size, 0, none⟩) pts.length pts.length) pts.length cur ∧ Hid (LowTo ps cur k) ∧ Hid (firstW f 0 ps.length = firstW f k g) ∧ Hid (Below w1.heap.size w1 wr))
      case atStart => exact ⟨0, cur0, rfl, rfl, hown0, HL0, rfl, HB0⟩
      case round =>
        obtain ⟨k, cur, hk, rfl, hown, HL, HW, HR⟩ := hrel
        by_cases hlt : k < ps.length
        · have kI : (k : Int) < (ps.length : Int) := by omega
          have k60 : k ≤ 60 := by omega
          obtain ⟨bq, oq, rfl, c0, c1⟩ := (HQ1.out.below HR.out).get hlt
          have HA2 := Lib.hid ((HR.out.block _ hAlt).trans HA1.out)
          have l1 := cellOf HA2.out 1 _ rfl
          have hA2 := lt_of_block HA2.out
          have HD : Hid (ps.getD k (0, 0) = ps[k]) := by show _ = _; simp [List.getD_eq_getElem?_getD, hlt]
          obtain ⟨fr, HFR⟩ : ∃ x : Int, Hid (ps[k].1 = x) := ⟨ps[k].1, rfl⟩
          obtain ⟨tt, HTT⟩ : ∃ x : Int, Hid (ps[k].2 = x) := ⟨ps[k].2, rfl⟩
          have HD2 : Hid (ps.getD k (0, 0) = (fr, tt)) := by show _ = _; rw [HD.out, ← HFR.out, ← HTT.out]
          rw [HFR.out] at c0
          rw [HTT.out] at c1
          obtain ⟨g', rfl⟩ : ∃ g', gk = g' + 1 := ⟨gk - 1, by omega⟩
          obtain ⟨y, HY⟩ : ∃ y, Hid (passE pts.length (fr, tt) = y) := ⟨_, rfl⟩
          have HY2 : Hid (f k = y) := by show _ = _; rw [← HFF.out, ← HY.out, ← HD2.out]
          have HW2 : Hid (firstW f 0 ps.length = if f k = 0 then firstW f (k + 1) g' else (k, f k)) := HW.out
          rw [HY2.out] at HW2
          have HQN : Hid (Below wr.heap.size wr (wr.alloc (Obj.cells #[.int .i64 fr, .int .i64 tt] 90))) := by show Below _ _ _; go_grown
          have HX := Lib.hid (heap_alloc_new wr (Obj.cells #[.int .i64 fr, .int .i64 tt] 90))
          clear HD HFR HTT HW
          go_wp2_with fail
          refine (passFault_any fr tt pts.length (wr.alloc (Obj.cells #[.int .i64 fr, .int .i64 tt] 90)) lp).mono ?_
          rintro e w4 ⟨rfl, hb4⟩
          have hx4 := (hb4.block _ (lt_of_block HX.out)).trans HX.out
          have HB4 : Hid (Below wr.heap.size wr w4) := HQN.out.trans (hb4.mono HQN.out.size)
          have hown4 := own_below hown HB4.out
          have HA4 := Lib.hid ((HB4.out.block _ hA2).trans HA2.out)
          have HR4 : Hid (Below w1.heap.size w1 w4) := HR.out.trans (HB4.out.mono HR.out.size)
          have hq4 : w1.heap.size < wr.heap.size := by have := (hown.lt w1.heap.size rfl).2; exact this
          rw [HY.out]
          generalize wr.heap.size = q at *
          clear hown HA2 l1 hA2 c0 c1 HQN HX hb4
          by_cases hy : y = 0
          · subst hy
            have HW3 : Hid (firstW f 0 ps.length = firstW f (k + 1) g') := by show _ = _; rw [HW2.out, if_pos rfl]
            have hfr : 0 ≤ fr ∧ fr ≤ tt ∧ tt ≤ (pts.length : Int) - 1 := by
              have h := HY.out
              unfold passE okIn at h
              split at h
              · cases h
              · split at h
                · cases h
                · rename_i h1 h2
                  simp at h1
                  omega
            obtain ⟨n, rfl⟩ : ∃ n : Nat, fr = n := ⟨fr.toNat, by omega⟩
            obtain ⟨m, rfl⟩ : ∃ m : Nat, tt = (n : Int) + m := ⟨(tt - n).toNat, by omega⟩
            have x0 := cellOf hx4 0 _ rfl
            clear HW2
            go_wp2_with fail
            have hm : n + m < pts.length := by omega
            clear hfr
            go_loopg [13] (m + 1) (fun g v wr => ∃ (i : Nat) (cur : List Value), g + i = n + m + 1 ∧ n ≤ i ∧ v = .int .i64 i ∧ wr.ownsRow w1.heap.size 3 1 (.slice (some ⟨w1.heap.size, 0, none⟩) pts.length pts.length) pts.length cur ∧ Hid (LowIn ps n cur k (i - n)) ∧ Hid (wr.heap[q]? = some (Obj.cells #[.int .i64 n, .int .i64 ((n : Int) + m)] 90 (0, 0))) ∧ Hid (Below w1.heap.size w1 wr))
            case atStart => exact ⟨n, cur, by omega, Nat.le_refl _, rfl, hown4, by rw [Nat.sub_self]; exact HL.out.start n, hx4, HR4⟩
            case round =>
              obtain ⟨i, cur2, hi2, hni, rfl, hownI, HLI, HXI, HRI⟩ := hrel
              have x1 := cellOf HXI.out 1 _ rfl
              by_cases hlt2 : i < n + m + 1
              · have iI : (i : Int) ≤ (n : Int) + m := by omega
                have iP : (i : Int) < (pts.length : Int) := by omega
                have i10 : i ≤ 10 := by omega
                have hl2 := hownI.1
                have d0 : wr.cell? ⟨w1.heap.size, i * 1, none⟩ = some (.int .i64 (cntN ps i k)) := (hownI.cellAt (i * 1) (by omega)).trans ((congrArg (fun q => cur2[q]?) (Nat.mul_one i)).trans (HLI.out.at_ (by omega) hni))
                have f0 := hownI.frozenAt (i * 1)
                have hcb := cntN_bd ps i k
                obtain ⟨x, HXC⟩ : ∃ x, Hid (cntN ps i k = x) := ⟨_, rfl⟩
                rw [HXC.out] at d0 hcb
                have s1 := hownI.stored (i * 1) (.int .i64 (x + 1))
                have HO := Lib.hid s1.1
                have HB3 : Hid (Below w1.heap.size w1 (wr.setCell ⟨w1.heap.size, i * 1, none⟩ (.int .i64 (x + 1)))) := HRI.out.setCell (Nat.le_refl _) _
                have HX3 := Lib.hid ((heap_setCell_other wr (⟨w1.heap.size, i * 1, none⟩ : Addr) q (.int .i64 (x + 1)) (by show q ≠ w1.heap.size; omega)).trans HXI.out)
                have HL3 := Lib.hid (HLI.out.next (by omega) hni HXC.out)
                simp only [Nat.mul_one] at d0 f0 HO HB3 HX3
                have x0' : 0 ≤ x := hcb.1
                have x60 : x ≤ 60 := by omega
                clear s1 hownI hcb
                go_wp2
                go_roundg (gk - 1)
                case measure => omega
                case rel => exact ⟨i + 1, _, by omega, by omega, by go_num, HO.out, HL3, HX3, HB3⟩
              · obtain rfl : i = n + m + 1 := by omega
                have HLD : Hid (LowTo ps cur2 (k + 1)) := HLI.out.done (by rw [HD2.out]) (by rw [HD2.out]; simp; omega)
                clear hlt2 hi2 HLI
                have iI : ¬ ((n : Int) + m + 1 ≤ (n : Int) + m) := by omega
                go_wp2
                go_roundg g'
                case measure => omega
                case rel => exact ⟨k + 1, cur2, by omega, by go_num, hownI, HLD, HW3, HRI⟩
          · have HW3 : Hid (firstW f 0 ps.length = ((k : Int), y)) := by show _ = _; rw [HW2.out, if_neg hy]
            have HF3 : Hid (carvedR ⟨st, pts⟩ ps = ([], y)) := by show _ = _; rw [HF.out, HW3.out, if_pos hy]
            have ty : (y != 0) = true := by simp [hy]
            clear HW2 hy hown4
            go_wp2_with fail
            go_ret2
            exact carvedP_no HF3.out (HB1.out.trans (HR4.out.mono HB1.out.size))
        · obtain rfl : k = ps.length := by omega
          obtain rfl : gk = 0 := by omega
          clear hlt hk
          go_wp2
          go_ret2
          have hl := hown.1
          have e : cur.length = pts.length := by omega
          refine ⟨_, by rw [HF.out, HW.out]; rfl, ?_, HB1.out.trans (HR.out.mono HB1.out.size)⟩
          have e2 := HL.out.all
          rw [e] at e2
          have hq : carvedR ⟨st, pts⟩ ps = ((List.range pts.length).map fun a => cntN ps (a : Nat) ps.length, 0) := by rw [HF.out, HW.out]; rfl
          rw [hq]
          simp only [List.length_map, List.length_range]
          rw [← e2]
          exact own_base hown HB1.out.size
  · have HF : Hid (carvedR ⟨st, pts⟩ ps = ([], z)) := by show _ = _; unfold carvedR; rw [if_pos (by rw [HER.out]; exact hz), HER.out]
    have tz : (z != 0) = true := by simp [hz]
    clear hz HA1 HP1 HQ1
    go_wp2_with fail
    go_ret2
    exact carvedP_no HF.out HB1.out
end Go.Proofs.Ytnciomoapajonaa
