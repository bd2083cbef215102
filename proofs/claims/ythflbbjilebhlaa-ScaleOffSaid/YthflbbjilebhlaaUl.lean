/- Package scale: look; the model with a scale. -/
import Derived.Test.YthflbbjilebhlaaUk
set_option linter.unusedSimpArgs false
set_option linter.unusedVariables false
namespace Go.Proofs.Ythflbbjilebhlaa
open Go Go.RowKit Sc

theorem al4 (w : World) (A B C D : Obj) : ∃ W, (((w.alloc A).alloc B).alloc C).alloc D = W ∧ W.heap[w.heap.size]? = some A ∧ W.heap[w.heap.size + 1]? = some B ∧ W.heap[w.heap.size + 1 + 1]? = some C ∧ W.heap[w.heap.size + 1 + 1 + 1]? = some D ∧ Below w.heap.size w W ∧ W.heap.size = w.heap.size + 4 := by
  obtain ⟨V, hV, h1, h2, h3, hb, hs⟩ := al3 w A B C
  refine ⟨_, rfl, ?_, ?_, ?_, ?_, ?_, ?_⟩
  · rw [hV]; exact (Below.heap_alloc _ D _ (lt_of_block h1)).trans h1
  · rw [hV]; exact (Below.heap_alloc _ D _ (lt_of_block h2)).trans h2
  · rw [hV]; exact (Below.heap_alloc _ D _ (lt_of_block h3)).trans h3
  · rw [hV]
    have h := heap_alloc_new V D
    rw [show V.heap.size = w.heap.size + 1 + 1 + 1 by omega] at h
    exact h
  · go_grown
  · rw [hV]; simp [hs]
set_option maxRecDepth 100000 in
set_option maxHeartbeats 8000000 in
theorem with_any (c : Cse) (hv rv : Value) (s : Scl) (w : World) (hC : CseAt w c hv rv) (hV : Valid c) (hs : 1 ≤ s.1 ∧ s.1 ≤ 30 ∧ 1 ≤ s.2 ∧ s.2 ≤ 30) :
    Calls Try.prog 98 #[.agg (lkV c hv rv), .agg #[.int .i64 s.1, .int .i64 s.2]] w fun e w' => e = .returned (.agg (mdC (mdP c hv rv s) (cut8 c s))) ∧ Below w.heap.size w w' := by
  obtain ⟨hS, hE⟩ := hC
  obtain ⟨ls, ha, hc, rfl, lsc, _⟩ := id hS
  obtain ⟨le, ra, rc, rfl, lec, _⟩ := id hE
  have HRK := Lib.hid (round_ok c.kind hV.k1 hV.k3)
  have HVV := Lib.hid hV
  unfold lkV mdP
  obtain ⟨n, hn⟩ : ∃ n, c.hs.length = n := ⟨_, rfl⟩
  obtain ⟨m, hm⟩ : ∃ m, c.rds.length = m := ⟨_, rfl⟩
  have n8 : n ≤ 8 := by rw [← hn]; exact hV.n8
  obtain ⟨F, hF⟩ : ∃ F, rnF c.kind = F := ⟨_, rfl⟩
  obtain ⟨kind, hkind⟩ : ∃ x, c.kind = x := ⟨_, rfl⟩
  obtain ⟨base, hbase⟩ : ∃ x, c.base = x := ⟨_, rfl⟩
  obtain ⟨most, hmost⟩ : ∃ x, c.most = x := ⟨_, rfl⟩
  obtain ⟨u, d⟩ := s
  simp only at hs ⊢
  obtain ⟨ua, ub, da, db⟩ := hs
  rw [hF, hkind] at HRK
  rw [hF, hkind, hbase, hmost]
  have HC8 : Hid (cut8 c (u, d) = cutTo c (u, d) n) := by show _ = _; unfold cut8; rw [hn]
  rw [HC8.out]
  have b0 : 0 ≤ base := by rw [← hbase]; exact hV.b0
  have b9 : base ≤ 9000 := by rw [← hbase]; exact hV.b9
  rw [hn] at ls lsc hS ⊢
  rw [hm] at le lec hE ⊢
  have HN := Lib.hid hn
  have HBS := Lib.hid hbase
  have HKD := Lib.hid hkind
  have eg := HRK.out.eg
  have nI : (n : Int) ≤ 8 := by omega
  obtain ⟨W4, hW4, q1, q2, q3, q4, hb4, hs4⟩ := al4 w (Obj.cells (lkC kind base most (.slice ha n hc) (.slice ra m rc) kind (.func (.func F) #[] #[])) 95) (Obj.cells #[.int .i64 u, .int .i64 d] 27) (Obj.cells (mdC pf0 z8) 99) (Obj.cells (mdC pf0 z8) 99)
  have HW4 := Lib.hid hW4
  have HS4 := Lib.hid hs4
  have HP : Hid ((pf kind base most (.slice ha n hc) (.slice ra m rc) kind (.func (.func F) #[] #[]) u d).all (·.oneCell') = true) := rfl
  obtain ⟨p, hp⟩ : ∃ p, pf kind base most (.slice ha n hc) (.slice ra m rc) kind (.func (.func F) #[] #[]) u d = p := ⟨_, rfl⟩
  have hbt := mdBuilt kind base most ha ra n m hc rc kind F u d
  have hpl : p.length = 9 := by rw [← hp]; rfl
  rw [hp] at HP hbt ⊢
  have K1 : Hid ((W4.setRow (w.heap.size + 1 + 1 + 1) (mdC p z8)).heap[w.heap.size]? = some (.cells (lkC kind base most (.slice ha n hc) (.slice ra m rc) kind (.func (.func F) #[] #[])) 95 (0, 0))) := (setRow_other _ _ _ _ (by omega)).trans q1
  have K2 : Hid ((W4.setRow (w.heap.size + 1 + 1 + 1) (mdC p z8)).heap[w.heap.size + 1]? = some (.cells #[.int .i64 u, .int .i64 d] 27 (0, 0))) := (setRow_other _ _ _ _ (by omega)).trans q2
  have K3 : Hid (MdBlk (W4.setRow (w.heap.size + 1 + 1 + 1) (mdC p z8)) (w.heap.size + 1 + 1) pf0 z8) := (setRow_other _ _ _ _ (by omega)).trans q3
  have Q4 : Hid (MdBlk W4 (w.heap.size + 1 + 1 + 1) pf0 z8) := q4
  have K4 : Hid (MdBlk (W4.setRow (w.heap.size + 1 + 1 + 1) (mdC p z8)) (w.heap.size + 1 + 1 + 1) p z8) := Q4.out.put _ _
  have K5 : Hid (Below w.heap.size w (W4.setRow (w.heap.size + 1 + 1 + 1) (mdC p z8))) := below_setRow hb4 (by omega) _
  have HI := Lib.hid hS
  unfold lkC at hbt K1 HW4 ⊢
  have c0 := cellOf K1.out 0 _ rfl
  have c1 := cellOf K1.out 1 _ rfl
  have c3 := cellOf K1.out 3 _ rfl
  have cl := lt_of_block K1.out
  have hz := (zero_of_info mdZero).1
  have HBT := Lib.hid hbt
  clear hbt
  clear hS hE hn hm hV hF hkind hbase hmost hp q1 q2 q3 q4 hb4 hs4 hW4
  go_enter Try.func98, Try.ntmps98
  iterate 23 go_step
  refine wpList_buildTo rfl 99 #[(0, .tmp 8), (1, .tmp 9)] rfl (some 10) rfl (mdC p z8) ?_ ?_
  · rw [List.map_toArray]
    exact HBT.out
  iterate 3 go_step
  refine md_store rfl (.tmp 5) (.tmp 10) rfl (w.heap.size + 1 + 1 + 1) rfl p z8 pf0 z8 rfl (by rw [HW4.out]; exact Q4.out) hpl rfl rfl rfl HP.out rfl ?_
  rw [HW4.out]
  generalize hWS : W4.setRow (w.heap.size + 1 + 1 + 1) (mdC p z8) = WS at *
  clear hWS hz HBT HW4 Q4
  go_wp2_with fail
  clear c0 c1 c3 cl
  go_loopg [6, 7, 15] n (fun g _ _ v wr => ∃ k : Nat, g + k = n ∧ v = .int .i64 k ∧ Hid (MdBlk wr (w.heap.size + 1 + 1 + 1) p (cutTo c (u, d) k)) ∧ Hid (MdBlk wr (w.heap.size + 1 + 1) pf0 z8) ∧ Hid (wr.heap[w.heap.size]? = some (.cells #[.int .i64 kind, .int .i64 base, .int .i64 most, .slice ha n hc, .slice ra m rc, .int .i64 kind, .func (.func F) #[] #[]] 95 (0, 0))) ∧ Hid (wr.heap[w.heap.size + 1]? = some (.cells #[.int .i64 u, .int .i64 d] 27 (0, 0))) ∧ Hid (Below w.heap.size w wr))
  case atStart => exact ⟨0, by omega, rfl, by rw [cutTo_zero]; exact K4, K3, K1, K2, K5⟩
  case round =>
    clear K1 K2 K3 K4 K5
    obtain ⟨k, hk, rfl, HM, H0, H1, H2, HB⟩ := hrel
    by_cases hkn : k < n
    · have kI : (k : Int) < (n : Int) := by omega
      have kI8 : (k : Int) < 8 := by omega
      have k8 : k < 8 := by omega
      have hk' : k < c.hs.length := by rw [HN.out]; exact hkn
      have hIn := HI.out.below HB.out
      obtain ⟨hb, ho, rfl, d0⟩ := hIn.get hk'
      have hget : c.hs.getD k 0 = c.hs[k] := by simp [List.getD_eq_getElem?_getD, hk']
      obtain ⟨x, hx⟩ : ∃ x, c.hs[k] = x := ⟨_, rfl⟩
      have hxb := HVV.out.hs k hk'
      rw [hget, hx, HBS.out] at hxb
      rw [hx] at d0 hget
      obtain ⟨N, hNN⟩ : ∃ N, (x - base) * u = N := ⟨_, rfl⟩
      have hNb := mul_bd (a := x - base) (b := u) (x := 9000) (y := 30) (by omega) (by omega) (by omega) ub
      rw [hNN] at hNb
      obtain ⟨X, hX⟩ : ∃ X, rndK kind N d = X := ⟨_, rfl⟩
      have hcut : cutH c (u, d) (c.hs.getD k 0) = X := by rw [hget, ← hX, ← hNN, ← HBS.out, ← HKD.out]; rfl
      have hsucc := cutTo_succ c (u, d) k k8
      rw [hcut] at hsucc
      have hcall := HRK.out.ok N d wr hNb.1 (by omega) da (by omega)
      rw [hX] at hcall
      have HCL := Lib.hid hcall
      have w1 : IntKind.i64.wrap (x - base) = x - base := by rw [IntKind.wrap_i64] <;> omega
      have w2 : IntKind.i64.wrap ((x - base) * u) = N := by rw [hNN, IntKind.wrap_i64] <;> omega
      have hsl := World.block_lt_of_cell? wr ⟨hb, ho + k, none⟩ d0
      have c1 := cellOf H1.out 1 _ rfl
      have c6 := cellOf H1.out 6 _ rfl
      have e0 := cellOf H2.out 0 _ rfl
      have e1 := cellOf H2.out 1 _ rfl
      have cl := lt_of_block H1.out
      have el := lt_of_block H2.out
      have m0 := HM.out.cw hpl k (by rw [cutTo_length]; exact k8)
      have f0 := frozen_of_row _ _ (9 + k) _ _ HM.out
      have ml := HM.out.lt
      have M2 := HM.out.set hpl k X
      rw [hsucc] at M2
      have HM2 := Lib.hid M2
      clear hk' hIn hget hx hX hcut hsucc hcall M2 hNN
      go_wp2_with fail
      refine HCL.out.mono ?_
      rintro e wx ⟨rfl, rfl⟩
      have HB2 := Lib.hid (HB.out.setCell (p := ⟨w.heap.size + 1 + 1 + 1, 9 + k, none⟩) (by show w.heap.size ≤ w.heap.size + 1 + 1 + 1; omega) (.int .i64 X))
      have H02 : Hid (MdBlk (wr.setCell ⟨w.heap.size + 1 + 1 + 1, 9 + k, none⟩ (.int .i64 X)) (w.heap.size + 1 + 1) pf0 z8) := (heap_setCell_other _ _ _ _ (by show w.heap.size + 1 + 1 ≠ w.heap.size + 1 + 1 + 1; omega)).trans H0.out
      have H12 := Lib.hid ((heap_setCell_other wr ⟨w.heap.size + 1 + 1 + 1, 9 + k, none⟩ w.heap.size (.int .i64 X) (by show w.heap.size ≠ w.heap.size + 1 + 1 + 1; omega)).trans H1.out)
      have H22 := Lib.hid ((heap_setCell_other wr ⟨w.heap.size + 1 + 1 + 1, 9 + k, none⟩ (w.heap.size + 1) (.int .i64 X) (by show w.heap.size + 1 ≠ w.heap.size + 1 + 1 + 1; omega)).trans H2.out)
      clear HCL HM
      go_wp2_with fail
      go_roundg (gk - 1)
      case measure => omega
      case rel => exact ⟨k + 1, by omega, by go_num, HM2, H02, H12, H22, HB2⟩
    · obtain rfl : k = n := by omega
      have kI : ¬ (k : Int) < (k : Int) := by omega
      have ml := HM.out.lt
      clear hkn hk
      have HK8 := Lib.hid (cutTo_length c (u, d) k)
      have HMO := HM.out
      have HMH := HM
      clear HMO
      go_wp2_with (first
        | (refine md_load rfl (.tmp 5) rfl (w.heap.size + 1 + 1 + 1) rfl p (cutTo c (u, d) k) HM.out hpl HK8.out ?_)
        | (refine md_store rfl (.tmp 4) (.tmp 38) rfl (w.heap.size + 1 + 1) rfl p (cutTo c (u, d) k) pf0 z8 rfl H0.out hpl HK8.out rfl rfl HP.out rfl ?_))
      exact bodyPost_ret (md_result rfl _ _ (w.heap.size + 1 + 1) p (cutTo c (u, d) k) rfl (H0.out.put _ _) hpl HK8.out) rfl ⟨rfl, below_setRow HB.out (by omega) _⟩
end Go.Proofs.Ythflbbjilebhlaa
