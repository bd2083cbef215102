/- Package edge: Wants. -/
import Derived.Test.YtojdocomkhihoaaEz
set_option linter.unusedSimpArgs false
set_option linter.unusedVariables false
namespace Go.Proofs.Ytojdocomkhihoaa
open Go Go.RowKit Ed

theorem span_result2 {fn : Func} {p u : Tmp} (h : fn.results = #[.cell p 31, .tmp u]) (tmps : Array Value) (w : World) (g : Nat) (x y : Value)
    (hp : tmps.getD p undef = .pointer (some ⟨g, 0, none⟩)) (hg : w.heap[g]? = some (.cells #[x, y] 31 (0, 0))) :
    (results fn tmps).run Try.prog w = .ok (.tuple #[.agg #[x, y], tmps.getD u undef]) w := by
  have c0 : w.cell? ⟨g, 0, none⟩ = some x := cellOf hg 0 _ rfl
  have c1 : w.cell? ⟨g, 1, none⟩ = some y := cellOf hg 1 _ rfl
  have hp' : tmps[p]?.getD undef = .pointer (some ⟨g, 0, none⟩) := by simpa using hp
  simp only [results, h]
  simp [Sem.run_bind, Result.andThen, hp', asAddr, go_sem, c0, c1]
theorem two_set2 {V : World} {g : Nat} {z0 z1 x y : Value} {T : TypeId} (h : V.heap[g]? = some (.cells #[z0, z1] T (0, 0))) :
    ((V.setCell ⟨g, 0, none⟩ x).setCell ⟨g, 1, none⟩ y).heap[g]? = some (.cells #[x, y] T (0, 0)) := by
  have h0 := heap_setCell_same V g 0 _ _ x h
  exact heap_setCell_same _ g 1 _ _ y h0
/-- What Wants answers. -/
def wantsA (c : Cas) (i : Int) : (Int × Int) × Int :=
  if errC c ≠ 0 then ((0, 0), errC c) else if inB 0 ((c.eds.length : Int) - 1) i = false then ((0, 0), 4) else if (wantF c i.toNat).2 < (wantF c i.toNat).1 then ((0, 0), 9) else (wantF c i.toNat, 0)
set_option maxRecDepth 100000 in
set_option maxHeartbeats 8000000 in
theorem wants_any (c : Cas) (sv ev : Value) (i : Int) (w : World) (hC : CasAt w c sv ev) :
    Calls Try.prog 18 #[.agg #[.int .i64 c.tol, sv, ev], .int .i64 i] w fun e w' => e = .returned (.tuple #[.agg #[.int .i64 (wantsA c i).1.1, .int .i64 (wantsA c i).1.2], .int .i64 (wantsA c i).2]) ∧ Below w.heap.size w w' := by
  obtain ⟨hS, hE⟩ := id hC
  obtain ⟨ls, sa, sc, rfl, lsc, hsn, _⟩ := id hS
  obtain ⟨le, ea, ec, rfl, lec, _⟩ := id hE
  obtain ⟨tol, htol⟩ : ∃ t, c.tol = t := ⟨_, rfl⟩
  have HTOL := Lib.hid htol
  rw [htol]
  obtain ⟨n, hn⟩ : ∃ n, c.shs.length = n := ⟨_, rfl⟩
  obtain ⟨m, hm⟩ : ∃ m, c.eds.length = m := ⟨_, rfl⟩
  rw [hn] at hC ⊢
  rw [hm] at hC le ⊢
  have HMM := Lib.hid hm
  have mI : (m : Int) ≤ 4611686018427387904 := by omega
  have HWA : Hid (wantsA c i = if errC c ≠ 0 then ((0, 0), errC c) else if inB 0 ((m : Int) - 1) i = false then ((0, 0), 4) else if (wantF c i.toNat).2 < (wantF c i.toNat).1 then ((0, 0), 9) else (wantF c i.toNat, 0)) := by show _ = _; rw [← hm]; rfl
  obtain ⟨W, hW, q1, q2, hb, hsz⟩ := al2 w (Obj.cells #[.int .i64 tol, .slice sa n sc, .slice ea m ec] 25) (Obj.cells #[.int .i64 0, .int .i64 0] 31)
  have HCW := Lib.hid (hC.below hb)
  have HLK := Lib.hid (look_any c _ _ W (hC.below hb))
  rw [HTOL.out] at HLK
  have HW := Lib.hid hW
  have Q1 := Lib.hid q1
  have Q2 := Lib.hid q2
  have HB := Lib.hid hb
  have HZ := Lib.hid (zero_of_info lkZero).1
  clear hW q1 q2 hb hsz hS hE hn hm hsn htol hC le ls lsc lec
  go_enter Try.func18, Try.ntmps18
  go_wp2_with fail
  rw [HW.out]
  refine HLK.out.mono ?_
  rintro e w1 ⟨hok, hno, hb⟩
  have HB1 := Lib.hid (HB.out.trans (hb.mono HB.out.size))
  have R1 := Lib.hid ((hb.block _ (lt_of_block Q1.out)).trans Q1.out)
  have R2 := Lib.hid ((hb.block _ (lt_of_block Q2.out)).trans Q2.out)
  clear hb HB Q1 Q2 HW HLK HCW
  have hba : Below w1.heap.size w1 (w1.alloc (Obj.cells (lkC 0 (.slice none 0 0) (.slice none 0 0) z16) 89)) := (Below.refl _ _).alloc (Nat.le_refl _) _
  have N0 : Hid (LkBlk (w1.alloc (Obj.cells (lkC 0 (.slice none 0 0) (.slice none 0 0) z16) 89)) w1.heap.size 0 (.slice none 0 0) (.slice none 0 0) z16) := heap_alloc_new w1 _
  have hz := HZ.out
  by_cases h0 : errC c = 0
  · have he := hok h0
    rw [HTOL.out] at he
    subst he
    have HV := Lib.hid (valid_of h0)
    have m8 : m ≤ 8 := by rw [← HMM.out]; exact HV.out.m8
    have mI8 : (m : Int) ≤ 8 := by omega
    rw [if_neg (by simp [h0])] at HWA
    have M1 : Hid (((w1.alloc (Obj.cells (lkC 0 (.slice none 0 0) (.slice none 0 0) z16) 89)).setRow w1.heap.size (lkC tol (.slice sa n sc) (.slice ea m ec) (wsC c))).heap[w.heap.size]? = some (Obj.cells #[.int .i64 tol, .slice sa n sc, .slice ea m ec] 25)) := (setRow_other _ _ _ _ (by have := lt_of_block R1.out; omega)).trans ((hba.block _ (lt_of_block R1.out)).trans R1.out)
    have M2 : Hid (((w1.alloc (Obj.cells (lkC 0 (.slice none 0 0) (.slice none 0 0) z16) 89)).setRow w1.heap.size (lkC tol (.slice sa n sc) (.slice ea m ec) (wsC c))).heap[w.heap.size + 1]? = some (Obj.cells #[.int .i64 0, .int .i64 0] 31)) := (setRow_other _ _ _ _ (by have := lt_of_block R2.out; omega)).trans ((hba.block _ (lt_of_block R2.out)).trans R2.out)
    have M4 : Hid (Below w.heap.size w ((w1.alloc (Obj.cells (lkC 0 (.slice none 0 0) (.slice none 0 0) z16) 89)).setRow w1.heap.size (lkC tol (.slice sa n sc) (.slice ea m ec) (wsC c)))) := below_setRow (HB1.out.trans (hba.mono HB1.out.size)) HB1.out.size _
    have M3 : Hid (LkBlk ((w1.alloc (Obj.cells (lkC 0 (.slice none 0 0) (.slice none 0 0) z16) 89)).setRow w1.heap.size (lkC tol (.slice sa n sc) (.slice ea m ec) (wsC c))) w1.heap.size tol (.slice sa n sc) (.slice ea m ec) (wsC c)) := N0.out.put _ _ _ _
    have HG := Lib.hid (fun (j : Nat) (hj : j < m) => wsTo_get (wantF c) m j hj m8)
    have HWC : Hid (wsC c = wsTo (wantF c) m) := by show _ = _; rw [← HMM.out]; rfl
    clear hok hno hba R1 R2 HB1 h0
    go_wp2_with (refine lk_store rfl (.tmp 6) (.tmp 11) rfl w1.heap.size rfl tol sa ea n m sc ec (wsC c) 0 (.slice none 0 0) (.slice none 0 0) z16 rfl N0.out (wsC_length _) rfl rfl ?_; generalize hWS : (w1.alloc (Obj.cells (lkC 0 (.slice none 0 0) (.slice none 0 0) z16) 89)).setRow w1.heap.size (lkC tol (.slice sa n sc) (.slice ea m ec) (wsC c)) = W2 at *; clear hWS; have r2 := cellOf M1.out 2 _ rfl; have rl := lt_of_block M1.out)
    have h1 := within_1 0 ((m : Int) - 1) i W2 W2.heap.size 3 rfl
    obtain ⟨B1, hB1⟩ : ∃ B, okIn 0 ((m : Int) - 1) i = B := ⟨_, rfl⟩
    have HB1v : Hid (inB 0 ((m : Int) - 1) i = B1) := hB1
    rw [hB1] at h1
    rw [HB1v.out] at HWA
    have HC1 := Lib.hid h1
    clear h1 hB1
    refine HC1.out.mono ?_
    rintro e w3 ⟨rfl, rfl⟩
    clear HC1 r2 rl
    have hb1 : Below W2.heap.size W2 (W2.alloc (Obj.cells #[.int .i64 i] 3)) := by go_grown
    have L1 := Lib.hid ((hb1.block _ (lt_of_block M1.out)).trans M1.out)
    have L2 := Lib.hid ((hb1.block _ (lt_of_block M2.out)).trans M2.out)
    have L3 := Lib.hid (M3.out.below hb1 M3.out.lt)
    have L4 := Lib.hid (M4.out.trans (hb1.mono M4.out.size))
    generalize W2.alloc (Obj.cells #[.int .i64 i] 3) = W3 at *
    clear hb1 M1 M2 M3 M4 N0 hz
    cases B1
    · rw [if_pos rfl] at HWA
      have s0 := cellOf L2.out 0 _ rfl
      have f0 := frozen_of_row _ _ 0 _ _ L2.out
      have s1 := cellOf L2.out 1 _ rfl
      have f1 := frozen_of_row _ _ 1 _ _ L2.out
      have sl := lt_of_block L2.out
      go_wp2_with fail
      exact bodyPost_ret (span_result2 rfl _ _ (w.heap.size + 1) _ _ rfl (two_set2 L2.out)) rfl ⟨by rw [HWA.out]; rfl, two_below L4.out (by omega)⟩
    · rw [if_neg (by simp)] at HWA
      have hi := HB1v.out
      unfold inB at hi
      simp only [Bool.and_eq_true, decide_eq_true_eq] at hi
      obtain ⟨j, rfl⟩ : ∃ j : Nat, i = j := ⟨i.toNat, by omega⟩
      have hjm : j < m := by omega
      have jI : (j : Int) < (m : Int) := by omega
      have j8 : (j : Int) < 8 := by omega
      simp only [Int.toNat_natCast] at HWA
      have hg := HG.out j hjm
      rw [← HWC.out] at hg
      obtain ⟨x0, x1⟩ := L3.out.span j (by omega) (wsC_length _)
      have hwl : wL (wsC c) j = wantF c j := Prod.ext hg.1 hg.2
      rw [hwl] at x0 x1
      obtain ⟨⟨lo, up⟩, hv⟩ : ∃ v, wantF c j = v := ⟨_, rfl⟩
      rw [hv] at x0 x1 HWA
      simp only at x0 x1 HWA
      have kl := L3.out.lt
      clear hi hg hwl hv HG HWC HB1v
      go_wp2_with fail
      refine (torn_any lo up W3).mono ?_
      rintro e W4 ⟨rfl, hb4⟩
      have G2 := Lib.hid ((hb4.block _ (lt_of_block L2.out)).trans L2.out)
      have G4 := Lib.hid (L4.out.trans (hb4.mono L4.out.size))
      have y0 := keepK x0 hb4
      have y1 := keepK x1 hb4
      have yl : w1.heap.size < W4.heap.size := by have := hb4.size; omega
      clear hb4 x0 x1 kl L1 L2 L3 L4
      have s0 := cellOf G2.out 0 _ rfl
      have f0 := frozen_of_row _ _ 0 _ _ G2.out
      have s1 := cellOf G2.out 1 _ rfl
      have f1 := frozen_of_row _ _ 1 _ _ G2.out
      have sl := lt_of_block G2.out
      by_cases hlt : up < lo
      · rw [if_pos hlt] at HWA
        have qt : decide (up < lo) = true := by simp [hlt]
        rw [qt]
        go_wp2_with fail
        exact bodyPost_ret (span_result2 rfl _ _ (w.heap.size + 1) _ _ rfl (two_set2 G2.out)) rfl ⟨by rw [HWA.out]; rfl, two_below G4.out (by omega)⟩
      · rw [if_neg hlt] at HWA
        have qt : decide (up < lo) = false := by simp; omega
        rw [qt]
        go_wp2_with fail
        exact bodyPost_ret (span_result2 rfl _ _ (w.heap.size + 1) _ _ rfl (two_set2 G2.out)) rfl ⟨by rw [HWA.out]; rfl, two_below G4.out (by omega)⟩
  · have he := hno h0
    subst he
    rw [if_pos h0] at HWA
    obtain ⟨er, her⟩ : ∃ x, errC c = x := ⟨_, rfl⟩
    rw [her] at h0 HWA ⊢
    have te : (er != 0) = true := by simp [h0]
    have M1 : Hid (((w1.alloc (Obj.cells (lkC 0 (.slice none 0 0) (.slice none 0 0) z16) 89)).setRow w1.heap.size (lkC 0 (.slice none 0 0) (.slice none 0 0) z16)).heap[w.heap.size]? = some (Obj.cells #[.int .i64 tol, .slice sa n sc, .slice ea m ec] 25)) := (setRow_other _ _ _ _ (by have := lt_of_block R1.out; omega)).trans ((hba.block _ (lt_of_block R1.out)).trans R1.out)
    have M2 : Hid (((w1.alloc (Obj.cells (lkC 0 (.slice none 0 0) (.slice none 0 0) z16) 89)).setRow w1.heap.size (lkC 0 (.slice none 0 0) (.slice none 0 0) z16)).heap[w.heap.size + 1]? = some (Obj.cells #[.int .i64 0, .int .i64 0] 31)) := (setRow_other _ _ _ _ (by have := lt_of_block R2.out; omega)).trans ((hba.block _ (lt_of_block R2.out)).trans R2.out)
    have M4 : Hid (Below w.heap.size w ((w1.alloc (Obj.cells (lkC 0 (.slice none 0 0) (.slice none 0 0) z16) 89)).setRow w1.heap.size (lkC 0 (.slice none 0 0) (.slice none 0 0) z16))) := below_setRow (HB1.out.trans (hba.mono HB1.out.size)) HB1.out.size _
    clear hok hno hba R1 R2 HB1 h0
    go_wp2_with (refine lk_store rfl (.tmp 6) (.tmp 11) rfl w1.heap.size rfl 0 none none 0 0 0 0 z16 0 (.slice none 0 0) (.slice none 0 0) z16 rfl N0.out rfl rfl rfl ?_; generalize hWS : (w1.alloc (Obj.cells (lkC 0 (.slice none 0 0) (.slice none 0 0) z16) 89)).setRow w1.heap.size (lkC 0 (.slice none 0 0) (.slice none 0 0) z16) = W2 at *; clear hWS; have s0 := cellOf M2.out 0 _ rfl; have s1 := cellOf M2.out 1 _ rfl; have f0 := frozen_of_row _ _ 0 _ _ M2.out; have f1 := frozen_of_row _ _ 1 _ _ M2.out; have sl := lt_of_block M2.out)
    exact bodyPost_ret (span_result2 rfl _ _ (w.heap.size + 1) _ _ rfl (two_set2 M2.out)) rfl ⟨by rw [HWA.out]; rfl, two_below M4.out (by omega)⟩
end Go.Proofs.Ytojdocomkhihoaa
