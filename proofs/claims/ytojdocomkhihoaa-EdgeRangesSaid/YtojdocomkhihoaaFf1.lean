/- Package edge: highest. -/
import Derived.Test.YtojdocomkhihoaaFe1
set_option linter.unusedSimpArgs false
set_option linter.unusedVariables false
namespace Go.Proofs.Ytojdocomkhihoaa
open Go Go.RowKit Ed

theorem one_other {w : World} {g b i : Nat} {x : Value} {X : Obj} (h : w.heap[b]? = some X) (hne : b ≠ g) : (w.setCell ⟨g, i, none⟩ x).heap[b]? = some X :=
  (heap_setCell_other w (⟨g, i, none⟩ : Addr) b x (by show b ≠ g; exact hne)).trans h
theorem chBuilt0 : Try.prog.built 96 [] = some (chC z5) := by kernel_rfl
theorem ch_result2 {fn : Func} {p u : Tmp} (h : fn.results = #[.cell p 96, .tmp u]) (tmps : Array Value) (w : World) (g : Nat) (x : List Int)
    (hp : tmps.getD p undef = .pointer (some ⟨g, 0, none⟩)) (hF : ChBlk w g x) (hm : x.length = 5) : (results fn tmps).run Try.prog w = .ok (.tuple #[.agg (chC x), tmps.getD u undef]) w := by
  rw [results_cell_tmp h, hp]
  have := run_loadVar_row (P := Try.prog) w g 96 96 (chC x) (0, 0) _ hF Try.underlying96 rfl (by rw [chSize, ch_size, hm])
  simp [asAddr, this, Result.andThen]
set_option maxRecDepth 100000 in
set_option maxHeartbeats 8000000 in
theorem highest_any (c : Cas) (sv ev : Value) (ws : List Int) (hw : ws.length = 16) (hsb : SpBd ws) (w : World) (hC : CasAt w c sv ev) (hv : Valid c) :
    Calls Try.prog 62 #[.agg (lkC c.tol sv ev ws)] w fun e w' => e = .returned (.tuple #[.agg (chC (highC c ws).1), .bool (highC c ws).2]) ∧ Below w.heap.size w w' := by
  obtain ⟨hS, hE⟩ := id hC
  obtain ⟨ls, sa, sc, rfl, lsc, hsn, _⟩ := id hS
  obtain ⟨le, ea, ec, rfl, lec, _⟩ := id hE
  have n5 : c.shs.length ≤ 5 := hv.n5
  have m8 : c.eds.length ≤ 8 := hv.m8
  have HOK := Lib.hid hv.sh
  have HV := Lib.hid hv
  have HCC := Lib.hid hC
  have HRS : Hid (highC c ws = highGo c ws 5 (mostTo c.shs c.shs.length)) := rfl
  obtain ⟨tol, htol⟩ : ∃ t, c.tol = t := ⟨_, rfl⟩
  have HTOL := Lib.hid htol
  rw [htol]
  obtain ⟨n, hn⟩ : ∃ n, c.shs.length = n := ⟨_, rfl⟩
  obtain ⟨m, hm⟩ : ∃ m, c.eds.length = m := ⟨_, rfl⟩
  rw [hn] at ls lsc hS n5 HRS HCC ⊢
  rw [hm] at le lec hE m8 HCC ⊢
  have HNN := Lib.hid hn
  have HMM := Lib.hid hm
  have HS := Lib.hid hS
  have HW := Lib.hid hw
  have HSB := Lib.hid hsb
  have nI : (n : Int) ≤ 5 := by omega
  obtain ⟨W, hW, q1, q2, q3, hb, hsz⟩ := al3 w (Obj.cells (lkC tol (.slice sa n sc) (.slice ea m ec) ws) 89) (Obj.cells (chC z5) 96) (Obj.cells (chC z5) 96)
  have HK : Hid (LkBlk W w.heap.size tol (.slice sa n sc) (.slice ea m ec) ws) := q1
  have HK2 : Hid (ChBlk W (w.heap.size + 1) z5) := q2
  have HKX : Hid (ChBlk W (w.heap.size + 1 + 1) z5) := q3
  have HB := Lib.hid hb
  have HWW := Lib.hid hW
  have c1 : (((w.alloc (Obj.cells (lkC tol (.slice sa n sc) (.slice ea m ec) ws) 89)).alloc (Obj.cells (chC z5) 96)).alloc (Obj.cells (chC z5) 96)).cell? ⟨w.heap.size, 1, none⟩ = some (.slice sa n sc) := by rw [hW]; exact HK.out.c1
  have hz := (zero_of_info chZero).1
  have HZ := Lib.hid hz
  clear hW q1 q2 q3 hb hsz hS hE hv hn hm hsn hw hsb le lec ls lsc htol hC
  go_enter Try.func62, Try.ntmps62
  go_wp2_with fail
  go_step3
  go_wp2_with fail
  clear c1 hz
  rw [HWW.out]
  clear HWW
  go_loopg [12] n (fun g v wr => ∃ k : Nat, g + k = n ∧ v = .int .i64 k ∧ Hid (LkBlk wr w.heap.size tol (.slice sa n sc) (.slice ea m ec) ws) ∧ Hid (ChBlk wr (w.heap.size + 1) z5) ∧ Hid (ChBlk wr (w.heap.size + 1 + 1) (mostTo c.shs k)) ∧ Hid (Below w.heap.size w wr))
  case atStart => exact ⟨0, by omega, rfl, HK, HK2, by rw [mostTo_zero]; exact HKX, HB⟩
  case round =>
    clear HK HK2 HKX HB
    obtain ⟨k, hk, rfl, HK, HK2, HKX, HB⟩ := hrel
    by_cases hkn : k < n
    · have kI : (k : Int) < (n : Int) := by omega
      have k5 : (k : Int) < 5 := by omega
      have hk' : k < c.shs.length := by rw [HNN.out]; exact hkn
      obtain ⟨sb, so, rfl, d0, d1, d2⟩ := (HS.out.below HB.out).get hk'
      have hget : c.shs.getD k default = c.shs[k] := by simp [List.getD_eq_getElem?_getD, hk']
      have HST := Lib.hid (mostTo_succ c.shs k (by omega))
      rw [hget] at HST
      have HML := Lib.hid (mostTo_length c.shs k)
      generalize c.shs[k] = s at *
      obtain ⟨nm, wt, most⟩ := s
      simp only at d0 d1 d2 HST
      have hsl := World.block_lt_of_cell? wr ⟨sb, so + k * 3, none⟩ d0
      have y0 := HKX.out.cell k (by rw [HML.out]; omega)
      have fz := frozen_of_row _ _ k _ _ HKX.out
      have gl := HKX.out.lt
      have hba : Below (wr.setCell ⟨w.heap.size + 1 + 1, k, none⟩ (.int .i64 most)).heap.size (wr.setCell ⟨w.heap.size + 1 + 1, k, none⟩ (.int .i64 most)) ((wr.setCell ⟨w.heap.size + 1 + 1, k, none⟩ (.int .i64 most)).alloc (Obj.cells #[.string nm, .int .i64 wt, .int .i64 most] 66)) := (Below.refl _ _).alloc (Nat.le_refl _) _
      have hsz2 : (wr.setCell ⟨w.heap.size + 1 + 1, k, none⟩ (.int .i64 most)).heap.size = wr.heap.size := by simp
      have KA := Lib.hid (LkBlk.below (one_other HK.out (by omega)) hba (by rw [hsz2]; exact HK.out.lt))
      have KB := Lib.hid (ChBlk.below (one_other HK2.out (by omega)) hba (by rw [hsz2]; exact HK2.out.lt))
      have KC : Hid (ChBlk ((wr.setCell ⟨w.heap.size + 1 + 1, k, none⟩ (.int .i64 most)).alloc (Obj.cells #[.string nm, .int .i64 wt, .int .i64 most] 66)) (w.heap.size + 1 + 1) (mostTo c.shs (k + 1))) := by
        have h := HKX.out.set k most
        rw [HST.out] at h
        exact h.below hba (by rw [hsz2]; exact HKX.out.lt)
      have KD : Hid (Below w.heap.size w ((wr.setCell ⟨w.heap.size + 1 + 1, k, none⟩ (.int .i64 most)).alloc (Obj.cells #[.string nm, .int .i64 wt, .int .i64 most] 66))) := (HB.out.setCell (p := ⟨w.heap.size + 1 + 1, k, none⟩) (show w.heap.size ≤ w.heap.size + 1 + 1 by omega) _).trans (hba.mono (by rw [hsz2]; exact HB.out.size))
      clear hsz2
      clear hba hget hk'
      go_wp2
      go_roundg (gk - 1)
      case measure => omega
      case rel =>
        exact ⟨k + 1, by omega, by go_num, KA, KB, KC, KD⟩
    · obtain rfl : n = k := by omega
      have kI : ¬ (n : Int) < (n : Int) := by omega
      clear hkn hk
      have HX0 : Hid (∀ i, -100000 ≤ (mostTo c.shs n).getD i 0 ∧ (mostTo c.shs n).getD i 0 ≤ 100000) := fun i => by have := mostTo_bd c.shs HOK.out n (by rw [HNN.out]; exact Nat.le_refl _) i; omega
      have HXL0 := Lib.hid (mostTo_length c.shs n)
      go_wp2_with fail
      go_step3
      go_wp2_with fail
      clear kI
      generalize mostTo c.shs n = x0 at *
      go_loopg [22] 5 (fun g v wr => ∃ (t : Nat) (x : List Int), g + t = 5 ∧ v = .int .i64 t ∧ Hid (highC c ws = highGo c ws g x) ∧ Hid (x.length = 5) ∧ Hid (∀ i, -100000 ≤ x.getD i 0 ∧ x.getD i 0 ≤ 100000) ∧ Hid (LkBlk wr w.heap.size tol (.slice sa n sc) (.slice ea m ec) ws) ∧ Hid (ChBlk wr (w.heap.size + 1) z5) ∧ Hid (ChBlk wr (w.heap.size + 1 + 1) (x)) ∧ Hid (Below w.heap.size w wr))
      case atStart => exact ⟨0, x0, by omega, rfl, HRS, HXL0, HX0, HK, HK2, HKX, HB⟩
      case round =>
        clear HK HK2 HKX HB HRS HX0 HXL0
        obtain ⟨t, x, ht, rfl, HRS, HXL, HX, HK, HK2, HKX, HB⟩ := hrel
        obtain ⟨wq, hwq⟩ : ∃ wq, wr = wq := ⟨_, rfl⟩
        rw [hwq] at HK HK2 HKX HB ⊢
        clear hwq
        by_cases ht5 : t < 5
        · obtain ⟨gg, rfl⟩ : ∃ g', gk = g' + 1 := ⟨gk - 1, by omega⟩
          have tI : (t : Int) < 5 := by omega
          have HLO := Lib.hid (lowered_any c _ _ ws HW.out HSB.out x HXL.out HX.out wq (HCC.out.below HB.out) HV.out)
          rw [HTOL.out] at HLO
          have HNL : Hid ((lowTo c.eds ws x c.eds.length).length = 5) := by show _ = _; rw [lowTo_length]; exact HXL.out
          have HHK := Lib.hid (high_keeps c HV.out ws x HSB.out HX.out)
          have HGO : Hid (highC c ws = if lowTo c.eds ws x c.eds.length = x then (x, true) else if lowK c.shs (lowTo c.eds ws x c.eds.length) c.shs.length = true then (z5, false) else highGo c ws gg (lowTo c.eds ws x c.eds.length)) := HRS.out
          have HB9 := Lib.hid (lowTo_bd c.eds ws x HSB.out HX.out c.eds.length)
          generalize lowTo c.eds ws x c.eds.length = nx at *
          clear HRS
          go_wp2_with (first
            | (refine lk_load rfl (.tmp 1) rfl w.heap.size rfl tol (.slice sa n sc) (.slice ea m ec) ws HK.out HW.out ?_)
            | (refine ch_load rfl (.tmp 4) rfl (w.heap.size + 1 + 1) rfl x HKX.out HXL.out ?_))
          refine HLO.out.mono ?_
          rintro e w2 ⟨rfl, hb⟩
          have K1 := Lib.hid (HK.out.below hb HK.out.lt)
          have K2 := Lib.hid (HK2.out.below hb HK2.out.lt)
          have K3 := Lib.hid (HKX.out.below hb HKX.out.lt)
          have K4 := Lib.hid (HB.out.trans (hb.mono HB.out.size))
          clear hb HK HK2 HKX HB HLO
          have hba : Below w2.heap.size w2 (w2.alloc (Obj.cells (chC z5) 96)) := (Below.refl _ _).alloc (Nat.le_refl _) _
          have N0 : Hid (ChBlk (w2.alloc (Obj.cells (chC z5) 96)) w2.heap.size z5) := heap_alloc_new w2 _
          have M1 : Hid (LkBlk ((w2.alloc (Obj.cells (chC z5) 96)).setRow w2.heap.size (chC nx)) w.heap.size tol (.slice sa n sc) (.slice ea m ec) ws) := (setRow_other _ _ _ _ (by have := K1.out.lt; omega)).trans (K1.out.below hba K1.out.lt)
          have M2 : Hid (ChBlk ((w2.alloc (Obj.cells (chC z5) 96)).setRow w2.heap.size (chC nx)) (w.heap.size + 1) z5) := (setRow_other _ _ _ _ (by have := K2.out.lt; omega)).trans (K2.out.below hba K2.out.lt)
          have M3 : Hid (ChBlk ((w2.alloc (Obj.cells (chC z5) 96)).setRow w2.heap.size (chC nx)) (w.heap.size + 1 + 1) x) := (setRow_other _ _ _ _ (by have := K3.out.lt; omega)).trans (K3.out.below hba K3.out.lt)
          have M5 : Hid (ChBlk ((w2.alloc (Obj.cells (chC z5) 96)).setRow w2.heap.size (chC nx)) w2.heap.size nx) := N0.out.put nx
          have M4 : Hid (Below w.heap.size w ((w2.alloc (Obj.cells (chC z5) 96)).setRow w2.heap.size (chC nx))) := below_setRow (K4.out.trans (hba.mono K4.out.size)) K4.out.size _
          have hz := HZ.out
          have hcmp := fun W' => ch_eql nx x HNL.out HXL.out W'
          clear hba K1 K2 K3 K4
          by_cases hq : nx = x
          · have qn : decide (nx = x) = true := by simp [hq]
            rw [if_pos hq] at HGO
            clear hq HHK HB9
            go_wp2_with (first
              | (refine ch_store rfl (.tmp 7) (.tmp 26) rfl w2.heap.size rfl nx z5 rfl N0.out HNL.out rfl rfl ?_; generalize hWS : (w2.alloc (Obj.cells (chC z5) 96)).setRow w2.heap.size (chC nx) = W3 at *; clear hWS)
              | (refine ch_load rfl (.tmp 7) rfl w2.heap.size rfl nx M5.out HNL.out ?_)
              | (refine ch_load rfl (.tmp 4) rfl (w.heap.size + 1 + 1) rfl x M3.out HXL.out ?_)
              | (refine ch_store rfl (.tmp 2) (.tmp 31) rfl (w.heap.size + 1) rfl x z5 rfl M2.out HXL.out rfl rfl ?_))
            try simp only [Exit.noGoto_ret, Exit.noGoto_normal]
            exact bodyPost_ret (ch_result2 rfl _ _ (w.heap.size + 1) x rfl (M2.out.put _) HXL.out) rfl ⟨by rw [HGO.out]; rfl, below_setRow M4.out (by omega) _⟩
          · have qn : decide (nx = x) = false := by simp [hq]
            rw [if_neg hq] at HGO
            clear hq
            have HTL := Lib.hid (fun (W' : World) (hb : Below w.heap.size w W') => tooLow_any c _ _ ws HW.out nx HNL.out (fun i => by have := HB9.out i; have := HMM.out; omega) W' (HCC.out.below hb) HV.out)
            rw [HTOL.out, HNN.out] at HTL
            rw [HNN.out] at HGO HHK
            go_wp2_with (first
              | (refine ch_store rfl (.tmp 7) (.tmp 26) rfl w2.heap.size rfl nx z5 rfl N0.out HNL.out rfl rfl ?_; generalize hWS : (w2.alloc (Obj.cells (chC z5) 96)).setRow w2.heap.size (chC nx) = W3 at *; clear hWS)
              | (refine ch_load rfl (.tmp 7) rfl w2.heap.size rfl nx M5.out HNL.out ?_)
              | (refine ch_load rfl (.tmp 4) rfl (w.heap.size + 1 + 1) rfl x M3.out HXL.out ?_)
              | (refine lk_load rfl (.tmp 1) rfl w.heap.size rfl tol (.slice sa n sc) (.slice ea m ec) ws M1.out HW.out ?_))
            refine (HTL.out _ M4.out).mono ?_
            rintro e w4 ⟨rfl, hb⟩
            have R1 := Lib.hid (M1.out.below hb M1.out.lt)
            have R2 := Lib.hid (M2.out.below hb M2.out.lt)
            have R3 := Lib.hid (M3.out.below hb M3.out.lt)
            have R5 := Lib.hid (M5.out.below hb M5.out.lt)
            have R4 := Lib.hid (M4.out.trans (hb.mono M4.out.size))
            clear hb M1 M2 M3 M4 M5 N0 HTL HB9 hcmp
            cases hl : lowK c.shs nx n
            · have HX2 := Lib.hid (HHK.out hl)
              rw [hl, if_neg (by simp)] at HGO
              clear HHK hl
              have HSE : Hid (w.heap.size + 1 + 1 < w4.heap.size) := R3.out.lt
              go_wp2_with (first
                | (refine ch_load rfl (.tmp 7) rfl w2.heap.size rfl nx R5.out HNL.out ?_)
                | (refine ch_store rfl (.tmp 4) (.tmp 36) rfl (w.heap.size + 1 + 1) rfl nx x rfl R3.out HNL.out HXL.out rfl ?_))
              go_roundg gg
              case measure => omega
              case rel => exact ⟨t + 1, nx, by omega, by go_num, HGO, HNL, HX2, (setRow_other _ _ _ _ (by omega)).trans R1.out, (setRow_other _ _ _ _ (by omega)).trans R2.out, R3.out.put nx, below_setRow R4.out (by omega) _⟩
            · rw [hl, if_pos rfl] at HGO
              clear hl HHK
              go_wp2_with (first
                | (refine wpList_buildTo rfl 96 #[] rfl (some 38) rfl _ chBuilt0 ?_)
                | (refine ch_store rfl (.tmp 2) (.tmp 38) rfl (w.heap.size + 1) rfl z5 z5 rfl R2.out rfl rfl rfl ?_))
              try simp only [Exit.noGoto_ret, Exit.noGoto_normal]
              exact bodyPost_ret (ch_result2 rfl _ _ (w.heap.size + 1) z5 rfl (R2.out.put _) rfl) rfl ⟨by rw [HGO.out]; rfl, below_setRow R4.out (by omega) _⟩
        · obtain rfl : t = 5 := by omega
          have hg0 : gk = 0 := by omega
          subst hg0
          have HGO : Hid (highC c ws = (z5, false)) := HRS.out
          clear HRS ht5 ht
          go_wp2_with (first
            | (refine wpList_buildTo rfl 96 #[] rfl (some 38) rfl _ chBuilt0 ?_)
            | (refine ch_store rfl (.tmp 2) (.tmp 38) rfl (w.heap.size + 1) rfl z5 z5 rfl HK2.out rfl rfl rfl ?_))
          try simp only [Exit.noGoto_ret, Exit.noGoto_normal]
          exact bodyPost_ret (ch_result2 rfl _ _ (w.heap.size + 1) z5 rfl (HK2.out.put _) rfl) rfl ⟨by rw [HGO.out]; rfl, below_setRow HB.out (by omega) _⟩
end Go.Proofs.Ytojdocomkhihoaa
