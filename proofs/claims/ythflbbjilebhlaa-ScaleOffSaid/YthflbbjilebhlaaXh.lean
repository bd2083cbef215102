/- The small functions of the statements of scale: valid, has, falsest, fits. -/
import Derived.Test.YthflbbjilebhlaaYg
import Derived.Laws.StructEq
set_option linter.unusedSimpArgs false
set_option linter.unusedVariables false
namespace Go.Proofs.Ythflbbjilebhlaa
open Go Go.RowKit Go.Shelf Sc

set_option maxRecDepth 100000 in
set_option maxHeartbeats 4000000 in
theorem valid_any (c : Cse) (hv rv : Value) (w : World) (hC : CseAt w c hv rv) :
    Calls Try.prog 39 #[.agg #[.int .i64 c.kind, .int .i64 c.base, .int .i64 c.most, hv, rv]] w fun e w' => e = .returned (.bool (decide (errC c = 0))) ∧ Below w.heap.size w w' := by
  obtain ⟨ha, n, hc, rfl⟩ : ∃ a n c, hv = .slice a n c := by obtain ⟨_, a, cap, h, _⟩ := hC.hs; exact ⟨_, _, _, h⟩
  obtain ⟨ra, m, rc, rfl⟩ : ∃ a n c, rv = .slice a n c := by obtain ⟨_, a, cap, h, _⟩ := hC.rd; exact ⟨_, _, _, h⟩
  obtain ⟨kind, hkind⟩ : ∃ x, c.kind = x := ⟨_, rfl⟩
  obtain ⟨base, hbase⟩ : ∃ x, c.base = x := ⟨_, rfl⟩
  obtain ⟨most, hmost⟩ : ∃ x, c.most = x := ⟨_, rfl⟩
  obtain ⟨W, hW, q1, hb⟩ : ∃ W, w.alloc (Obj.cells #[.int .i64 kind, .int .i64 base, .int .i64 most, .slice ha n hc, .slice ra m rc] 25) = W ∧ W.heap[w.heap.size]? = some (.cells #[.int .i64 kind, .int .i64 base, .int .i64 most, .slice ha n hc, .slice ra m rc] 25 (0, 0)) ∧ Below w.heap.size w W := ⟨_, rfl, heap_alloc_new _ _, by go_grown⟩
  have h1 := rCheck_any c _ _ W (hC.below hb)
  obtain ⟨er, her⟩ : ∃ er, errC c = er := ⟨_, rfl⟩
  have e3 : (checkC c).2.2 = er := her
  rw [e3, hkind, hbase, hmost] at h1
  have H1 := Lib.hid h1
  have HW := Lib.hid hW
  have HB := Lib.hid hb
  have c0 := cellOf q1 0 (.int .i64 kind) rfl
  have c1 := cellOf q1 1 (.int .i64 base) rfl
  have c2 := cellOf q1 2 (.int .i64 most) rfl
  have c3 := cellOf q1 3 (.slice ha n hc) rfl
  have c4 := cellOf q1 4 (.slice ra m rc) rfl
  have cl := lt_of_block q1
  rw [her, hkind, hbase, hmost]
  clear h1 hW hb hC q1 her e3 hkind hbase hmost
  go_enter Try.func39, Try.ntmps39
  go_wp2_with fail
  rw [HW.out]
  go_wp2_with fail
  refine H1.out.mono ?_
  rintro e w1 ⟨rfl, hb⟩
  have B1 := Lib.hid (HB.out.trans (hb.mono HB.out.size))
  clear hb HB H1 HW c0 c1 c2 c3 c4 cl
  by_cases h0 : er = 0
  · subst h0
    go_wp2_with fail
    go_ret
    exact ⟨rfl, B1.out⟩
  · have tb : (er == 0) = false := by simp [h0]
    have td : decide (er = 0) = false := by simp [h0]
    go_wp2_with fail
    go_ret
    exact ⟨by rw [td]; rfl, B1.out⟩
/-- Has a list this scale? -/
def hasS (l : List Scl) (s : Scl) : Bool := l.any fun y => y.1 == s.1 && y.2 == s.2
theorem hasS_iff (l : List Scl) (s : Scl) : hasS l s = true ↔ s ∈ l := by
  unfold hasS
  rw [List.any_eq_true]
  constructor
  · rintro ⟨y, hy, h⟩
    simp only [Bool.and_eq_true, beq_iff_eq] at h
    obtain rfl : y = s := Prod.ext h.1 h.2
    exact hy
  · intro h
    exact ⟨s, h, by simp⟩
set_option maxRecDepth 100000 in
set_option maxHeartbeats 4000000 in
theorem has_any (l : List Scl) (s : Scl) (v : Value) (w : World) (hi : PairsAt w v l) :
    Calls Try.prog 45 #[v, .agg #[.int .i64 s.1, .int .i64 s.2]] w fun e w' => e = .returned (.bool (hasS l s)) ∧ Below w.heap.size w w' := by
  obtain ⟨s1, s2⟩ := s
  obtain ⟨lm, va, vc, rfl, lvc, _⟩ := id hi
  obtain ⟨n, hn⟩ : ∃ n, l.length = n := ⟨_, rfl⟩
  obtain ⟨R, hR⟩ : ∃ R, hasS l (s1, s2) = R := ⟨_, rfl⟩
  rw [hR]
  unfold hasS at hR
  rw [hn] at lm lvc hi ⊢
  obtain ⟨W, hW, q1, hb⟩ : ∃ W, w.alloc (Obj.cells #[.int .i64 s1, .int .i64 s2] 27) = W ∧ W.heap[w.heap.size]? = some (.cells #[.int .i64 s1, .int .i64 s2] 27 (0, 0)) ∧ Below w.heap.size w W := ⟨_, rfl, heap_alloc_new _ _, by go_grown⟩
  have HI := Lib.hid (hi.below hb)
  have HN := Lib.hid hn
  have HR := Lib.hid hR
  have HW := Lib.hid hW
  have HB := Lib.hid hb
  have HQ := Lib.hid q1
  have nI : (n : Int) ≤ 4611686018427387904 := by omega
  dsimp only at *
  clear hi hn hR hW hb q1
  go_enter Try.func45, Try.ntmps45
  go_upto_region 1 with fail
  rw [HW.out]
  go_wp2
  go_loopg [5] n (fun gh i wr => ∃ (k : Nat), gh + k = n ∧ i = .int .i64 (k : Int) ∧ Hid ((l.take k).any (fun y => y.1 == s1 && y.2 == s2) = false) ∧ Hid (Below W.heap.size W wr))
  case atStart => exact ⟨0, by omega, rfl, rfl, Below.refl _ _⟩
  case round =>
    obtain ⟨k, hk, rfl, HA, HL⟩ := hrel
    by_cases hlt : k < n
    · have kI : (k : Int) < (n : Int) := by omega
      have kz : (0 : Int) ≤ (k : Int) := by omega
      have hk' : k < l.length := by rw [HN.out]; exact hlt
      obtain ⟨b, o, rfl, d0, d1⟩ := (HI.out.below HL.out).get hk'
      have HMO := Lib.hid (any_more (fun y : Scl => y.1 == s1 && y.2 == s2) l k hk' HA.out)
      have HAT := Lib.hid (any_at (fun y : Scl => y.1 == s1 && y.2 == s2) l k hk')
      obtain ⟨⟨y1, y2⟩, hy⟩ : ∃ y, l[k] = y := ⟨_, rfl⟩
      rw [hy] at d0 d1 HMO HAT
      simp only at d0 d1 HMO HAT
      have Q1 := (HL.out.block _ (lt_of_block HQ.out)).trans HQ.out
      have e0 := cellOf Q1 0 (.int .i64 s1) rfl
      have e1 := cellOf Q1 1 (.int .i64 s2) rfl
      have el := lt_of_block Q1
      have dl := World.block_lt_of_cell? wr _ d0
      clear hk' hy Q1
      obtain ⟨t1, ht1⟩ : ∃ t, (y1 == s1) = t := ⟨_, rfl⟩
      obtain ⟨t2, ht2⟩ : ∃ t, (y2 == s2) = t := ⟨_, rfl⟩
      rw [ht1, ht2] at HMO HAT
      rcases (by cases t1 <;> cases t2 <;> simp : (t1 = false ∧ t2 = false) ∨ (t1 = false ∧ t2 = true) ∨ (t1 = true ∧ t2 = false) ∨ (t1 = true ∧ t2 = true)) with ⟨rfl, rfl⟩ | ⟨rfl, rfl⟩ | ⟨rfl, rfl⟩ | ⟨rfl, rfl⟩
      ·  have HM2 := Lib.hid (HMO.out rfl)
         clear HMO HAT
         go_wp2_with fail
         go_quiet (fail)
         have HBN : Hid (Below W.heap.size W (wr.drewN nq)) := HL.out.trans ⟨rfl, rfl, rfl, Nat.le_refl _, fun _ _ => rfl⟩
         clear d0 d1 e0 e1
         go_wp2_with fail
         go_roundg (gk - 1)
         case measure => omega
         case rel => exact ⟨k + 1, by omega, by go_num, HM2, HBN⟩
      ·  have HM2 := Lib.hid (HMO.out rfl)
         clear HMO HAT
         go_wp2_with fail
         go_quiet (fail)
         have HBN : Hid (Below W.heap.size W (wr.drewN nq)) := HL.out.trans ⟨rfl, rfl, rfl, Nat.le_refl _, fun _ _ => rfl⟩
         clear d0 d1 e0 e1
         go_wp2_with fail
         go_roundg (gk - 1)
         case measure => omega
         case rel => exact ⟨k + 1, by omega, by go_num, HM2, HBN⟩
      ·  have HM2 := Lib.hid (HMO.out rfl)
         clear HMO HAT
         go_wp2_with fail
         go_quiet (fail)
         have HBN : Hid (Below W.heap.size W (wr.drewN nq)) := HL.out.trans ⟨rfl, rfl, rfl, Nat.le_refl _, fun _ _ => rfl⟩
         clear d0 d1 e0 e1
         go_wp2_with fail
         go_roundg (gk - 1)
         case measure => omega
         case rel => exact ⟨k + 1, by omega, by go_num, HM2, HBN⟩
      ·  have hr := HAT.out rfl
         rw [HR.out] at hr
         have HRR := Lib.hid hr
         clear hr HMO HAT
         go_wp2_with fail
         go_quiet (fail)
         have HBN : Hid (Below W.heap.size W (wr.drewN nq)) := HL.out.trans ⟨rfl, rfl, rfl, Nat.le_refl _, fun _ _ => rfl⟩
         clear d0 d1 e0 e1
         go_wp2_with fail
         go_ret
         exact ⟨congrArg (fun x => Ending.returned (.bool x)) HRR.out.symm, HB.out.trans (HBN.out.mono HB.out.size)⟩
    · obtain rfl : k = n := by omega
      have kI : ¬ (k : Int) < (k : Int) := by omega
      have hr := HA.out
      rw [List.take_of_length_le (by rw [HN.out]; exact Nat.le_refl _), HR.out] at hr
      have HRR := Lib.hid hr
      clear hlt hk hr
      go_wp2_with fail
      go_ret
      exact ⟨congrArg (fun x => Ending.returned (.bool x)) HRR.out.symm, HB.out.trans (HL.out.mono HB.out.size)⟩
set_option maxRecDepth 100000 in
set_option maxHeartbeats 8000000 in
theorem fits_any2 (c : Cse) (hv rv : Value) (s : Scl) (w : World) (hC : CseAt w c hv rv) (hV : errC c = 0) (hs : sclE s = 0) :
    Calls Try.prog 42 #[.agg #[.int .i64 c.kind, .int .i64 c.base, .int .i64 c.most, hv, rv], .agg #[.int .i64 s.1, .int .i64 s.2]] w fun e w' => e = .returned (.tuple #[.bool (fitsB c s), .bool true]) ∧ Below w.heap.size w w' := by
  obtain ⟨ha, n, hc, rfl⟩ : ∃ a n c, hv = .slice a n c := by obtain ⟨_, a, cap, h, _⟩ := hC.hs; exact ⟨_, _, _, h⟩
  obtain ⟨ra, m, rc, rfl⟩ : ∃ a n c, rv = .slice a n c := by obtain ⟨_, a, cap, h, _⟩ := hC.rd; exact ⟨_, _, _, h⟩
  obtain ⟨kind, hkind⟩ : ∃ x, c.kind = x := ⟨_, rfl⟩
  obtain ⟨base, hbase⟩ : ∃ x, c.base = x := ⟨_, rfl⟩
  obtain ⟨most, hmost⟩ : ∃ x, c.most = x := ⟨_, rfl⟩
  obtain rfl : n = c.hs.length := by obtain ⟨_, a, cap, h, _⟩ := hC.hs; simp only [Value.slice.injEq] at h; exact h.2.1
  obtain rfl : m = c.rds.length := by obtain ⟨_, a, cap, h, _⟩ := hC.rd; simp only [Value.slice.injEq] at h; exact h.2.1
  obtain ⟨n, hn⟩ : ∃ n, c.hs.length = n := ⟨_, rfl⟩
  obtain ⟨m, hm⟩ : ∃ m, c.rds.length = m := ⟨_, rfl⟩
  have hask : askE c s = 0 := by unfold askE; simp [hV, hs]
  obtain ⟨L, hL⟩ : ∃ L, cutsC c s = L := ⟨_, rfl⟩
  have hlen : L.length = n := by rw [← hL]; simp [cutsC, hn]
  have l8 : n ≤ 8 := by rw [← hn]; exact (valid_of hV).n8
  obtain ⟨R, hR⟩ : ∃ R, fitsB c s = R := ⟨_, rfl⟩
  rw [hR]
  unfold fitsB at hR
  rw [hL] at hR
  obtain ⟨s1, s2⟩ := s
  dsimp only at *
  obtain ⟨W, hW, q1, q2, hb, _⟩ := al2 w (Obj.cells #[.int .i64 kind, .int .i64 base, .int .i64 most, .slice ha n hc, .slice ra m rc] 25) (Obj.cells #[.int .i64 s1, .int .i64 s2] 27)
  rw [hn, hm] at hC
  have h1 := cuts_any c _ _ (s1, s2) W (hC.below hb)
  unfold IntsP at h1
  rw [hask, hkind, hbase, hmost, hL, if_pos rfl] at h1
  have H1 := Lib.hid h1
  have HW := Lib.hid hW
  have HB := Lib.hid hb
  have HR := Lib.hid hR
  have HLE := Lib.hid hlen
  have Q1 := Lib.hid q1
  have c0 := cellOf q1 0 (.int .i64 kind) rfl
  have c1 := cellOf q1 1 (.int .i64 base) rfl
  have c2 := cellOf q1 2 (.int .i64 most) rfl
  have c3 := cellOf q1 3 (.slice ha n hc) rfl
  have c4 := cellOf q1 4 (.slice ra m rc) rfl
  have cl := lt_of_block q1
  have e0 := cellOf q2 0 (.int .i64 s1) rfl
  have e1 := cellOf q2 1 (.int .i64 s2) rfl
  have el := lt_of_block q2
  rw [hn, hm, hkind, hbase, hmost]
  have lI : (n : Int) ≤ 8 := by omega
  rw [hmost] at HR
  clear h1 hW hb hC q1 q2 hV hs hask hL hlen hR hkind hbase hmost hn hm
  go_enter Try.func42, Try.ntmps42
  go_upto_region 1 with fail
  rw [HW.out]
  go_wp2_with fail
  refine H1.out.mono ?_
  rintro e w1 ⟨v, rfl, hi, hb⟩
  obtain ⟨_, va, vc, rfl, lvc, _⟩ := id hi
  rw [HLE.out] at hi lvc ⊢
  have HI := Lib.hid hi
  have B1 := Lib.hid (HB.out.trans (hb.mono HB.out.size))
  have K1 := Lib.hid ((hb.block _ (lt_of_block Q1.out)).trans Q1.out)
  clear hb HB H1 HW Q1 hi c0 c1 c2 c3 c4 cl e0 e1 el
  go_wp2
  go_loopg [8, 9] n (fun gh v8 i wr => ∃ (k : Nat), gh + k = n ∧ i = .int .i64 (k : Int) ∧ v8 = .bool ((L.take k).all fun x => decide (x ≤ most)) ∧ Hid (Below w1.heap.size w1 wr))
  case atStart => exact ⟨0, by omega, rfl, rfl, Below.refl _ _⟩
  case round =>
    obtain ⟨k, hk, rfl, rfl, HL⟩ := hrel
    have K2 := (HL.out.block _ (lt_of_block K1.out)).trans K1.out
    have c2 := cellOf K2 2 (.int .i64 most) rfl
    have c3 := cellOf K2 3 (.slice ha n hc) rfl
    have c4 := cellOf K2 4 (.slice ra m rc) rfl
    have cl := lt_of_block K2
    by_cases hlt : k < n
    · have kI : (k : Int) < (n : Int) := by omega
      have kz : (0 : Int) ≤ (k : Int) := by omega
      have hk' : k < L.length := by rw [HLE.out]; exact hlt
      obtain ⟨b, o, rfl, d0⟩ := (HI.out.below HL.out).get hk'
      have hs1 : ((L.take (k + 1)).all fun x => decide (x ≤ most)) = (((L.take k).all fun x => decide (x ≤ most)) && decide (L[k] ≤ most)) := by rw [List.take_succ_eq_append_getElem hk', List.all_append]; simp
      obtain ⟨y, hy⟩ : ∃ y, L[k] = y := ⟨_, rfl⟩
      rw [hy] at d0 hs1
      obtain ⟨a, ha'⟩ : ∃ a, ((L.take k).all fun x => decide (x ≤ most)) = a := ⟨_, rfl⟩
      rw [ha'] at hs1 ⊢
      have dl := World.block_lt_of_cell? wr ⟨b, o + k, none⟩ d0
      have HS1 := Lib.hid hs1
      clear hk' hy hs1 ha' K2
      cases a
      · have HS2 : Hid (((L.take (k + 1)).all fun x => decide (x ≤ most)) = false) := by show _ = _; rw [HS1.out]; rfl
        go_wp2_with fail
        go_quiet (fail)
        have HBN : Hid (Below w1.heap.size w1 (wr.drewN nq)) := HL.out.trans ⟨rfl, rfl, rfl, Nat.le_refl _, fun _ _ => rfl⟩
        go_wp2_with fail
        go_roundg (gk - 1)
        case measure => omega
        case rel => exact ⟨k + 1, by omega, by go_num, by rw [HS2.out], HBN⟩
      · have HS2 : Hid (((L.take (k + 1)).all fun x => decide (x ≤ most)) = decide (y ≤ most)) := by show _ = _; rw [HS1.out]; rfl
        go_wp2_with fail
        go_quiet (fail)
        have HBN : Hid (Below w1.heap.size w1 (wr.drewN nq)) := HL.out.trans ⟨rfl, rfl, rfl, Nat.le_refl _, fun _ _ => rfl⟩
        go_wp2_with fail
        go_roundg (gk - 1)
        case measure => omega
        case rel => exact ⟨k + 1, by omega, by go_num, by rw [HS2.out], HBN⟩
    · obtain rfl : k = n := by omega
      have kI : ¬ (k : Int) < (k : Int) := by omega
      have hr := HR.out
      rw [← List.take_of_length_le (l := L) (i := k) (by rw [HLE.out]; exact Nat.le_refl _)] at hr
      rw [hr]
      have ee : ((k : Int) == (k : Int)) = true := by simp
      clear hlt hk hr K2
      go_wp2_with fail
      go_quiet (fail)
      have HBN : Hid (Below w1.heap.size w1 (wr.drewN nq)) := HL.out.trans ⟨rfl, rfl, rfl, Nat.le_refl _, fun _ _ => rfl⟩
      go_wp2_with fail
      go_returns
      exact ⟨rfl, B1.out.trans (HBN.out.mono B1.out.size)⟩
set_option maxRecDepth 100000 in
set_option maxHeartbeats 8000000 in
theorem falsest_any2 (c : Cse) (hv rv : Value) (s : Scl) (w : World) (hC : CseAt w c hv rv) (hV : errC c = 0) (hs : sclE s = 0) :
    Calls Try.prog 41 #[.agg #[.int .i64 c.kind, .int .i64 c.base, .int .i64 c.most, hv, rv], .agg #[.int .i64 s.1, .int .i64 s.2]] w fun e w' => e = .returned (.tuple #[.int .i64 (worstC c s), .bool true]) ∧ Below w.heap.size w w' := by
  obtain ⟨ha, n, hc, rfl⟩ : ∃ a n c, hv = .slice a n c := by obtain ⟨_, a, cap, h, _⟩ := hC.hs; exact ⟨_, _, _, h⟩
  obtain ⟨ra, m, rc, rfl⟩ : ∃ a n c, rv = .slice a n c := by obtain ⟨_, a, cap, h, _⟩ := hC.rd; exact ⟨_, _, _, h⟩
  obtain ⟨kind, hkind⟩ : ∃ x, c.kind = x := ⟨_, rfl⟩
  obtain ⟨base, hbase⟩ : ∃ x, c.base = x := ⟨_, rfl⟩
  obtain ⟨most, hmost⟩ : ∃ x, c.most = x := ⟨_, rfl⟩
  obtain rfl : n = c.hs.length := by obtain ⟨_, a, cap, h, _⟩ := hC.hs; simp only [Value.slice.injEq] at h; exact h.2.1
  obtain rfl : m = c.rds.length := by obtain ⟨_, a, cap, h, _⟩ := hC.rd; simp only [Value.slice.injEq] at h; exact h.2.1
  obtain ⟨n, hn⟩ : ∃ n, c.hs.length = n := ⟨_, rfl⟩
  obtain ⟨m, hm⟩ : ∃ m, c.rds.length = m := ⟨_, rfl⟩
  have hask : askE c s = 0 := by unfold askE; simp [hV, hs]
  obtain ⟨L, hL⟩ : ∃ L, offsC c s = L := ⟨_, rfl⟩
  have hlen : L.length = m := by rw [← hL]; simp [offsC, hm]
  have l8 : m ≤ 8 := by rw [← hm]; exact (valid_of hV).r8
  obtain ⟨R, hR⟩ : ∃ R, worstC c s = R := ⟨_, rfl⟩
  rw [hR]
  unfold worstC at hR
  rw [hL] at hR
  obtain ⟨s1, s2⟩ := s
  dsimp only at *
  obtain ⟨W, hW, q1, q2, hb, _⟩ := al2 w (Obj.cells #[.int .i64 kind, .int .i64 base, .int .i64 most, .slice ha n hc, .slice ra m rc] 25) (Obj.cells #[.int .i64 s1, .int .i64 s2] 27)
  rw [hn, hm] at hC
  have h1 := False_any c _ _ (s1, s2) W (hC.below hb)
  unfold IntsP at h1
  rw [hask, hkind, hbase, hmost, hL, if_pos rfl] at h1
  have H1 := Lib.hid h1
  have HW := Lib.hid hW
  have HB := Lib.hid hb
  have HR := Lib.hid hR
  have HLE := Lib.hid hlen
  have Q1 := Lib.hid q1
  have c0 := cellOf q1 0 (.int .i64 kind) rfl
  have c1 := cellOf q1 1 (.int .i64 base) rfl
  have c2 := cellOf q1 2 (.int .i64 most) rfl
  have c3 := cellOf q1 3 (.slice ha n hc) rfl
  have c4 := cellOf q1 4 (.slice ra m rc) rfl
  have cl := lt_of_block q1
  have e0 := cellOf q2 0 (.int .i64 s1) rfl
  have e1 := cellOf q2 1 (.int .i64 s2) rfl
  have el := lt_of_block q2
  rw [hn, hm, hkind, hbase, hmost]
  have lI : (m : Int) ≤ 8 := by omega
  
  clear h1 hW hb hC q1 q2 hV hs hask hL hlen hR hkind hbase hmost hn hm
  go_enter Try.func41, Try.ntmps41
  go_upto_region 1 with fail
  rw [HW.out]
  go_wp2_with fail
  refine H1.out.mono ?_
  rintro e w1 ⟨v, rfl, hi, hb⟩
  obtain ⟨_, va, vc, rfl, lvc, _⟩ := id hi
  rw [HLE.out] at hi lvc ⊢
  have HI := Lib.hid hi
  have B1 := Lib.hid (HB.out.trans (hb.mono HB.out.size))
  have K1 := Lib.hid ((hb.block _ (lt_of_block Q1.out)).trans Q1.out)
  clear hb HB H1 HW Q1 hi c0 c1 c2 c3 c4 cl e0 e1 el
  go_wp2
  go_loopg [8, 9] m (fun gh v8 i wr => ∃ (k : Nat), gh + k = m ∧ i = .int .i64 (k : Int) ∧ v8 = .int .i64 ((L.take k).foldl max 0) ∧ Hid (Below w1.heap.size w1 wr))
  case atStart => exact ⟨0, by omega, rfl, rfl, Below.refl _ _⟩
  case round =>
    obtain ⟨k, hk, rfl, rfl, HL⟩ := hrel
    have K2 := (HL.out.block _ (lt_of_block K1.out)).trans K1.out
    have c2 := cellOf K2 2 (.int .i64 most) rfl
    have c3 := cellOf K2 3 (.slice ha n hc) rfl
    have c4 := cellOf K2 4 (.slice ra m rc) rfl
    have cl := lt_of_block K2
    by_cases hlt : k < m
    · have kI : (k : Int) < (m : Int) := by omega
      have kz : (0 : Int) ≤ (k : Int) := by omega
      have hk' : k < L.length := by rw [HLE.out]; exact hlt
      obtain ⟨b, o, rfl, d0⟩ := (HI.out.below HL.out).get hk'
      have hs1 : (L.take (k + 1)).foldl max 0 = max ((L.take k).foldl max 0) L[k] := by rw [List.take_succ_eq_append_getElem hk', List.foldl_append]; rfl
      obtain ⟨y, hy⟩ : ∃ y, L[k] = y := ⟨_, rfl⟩
      rw [hy] at d0 hs1
      obtain ⟨a, ha'⟩ : ∃ a, (L.take k).foldl max 0 = a := ⟨_, rfl⟩
      rw [ha'] at hs1 ⊢
      have dl := World.block_lt_of_cell? wr ⟨b, o + k, none⟩ d0
      have HS1 := Lib.hid hs1
      clear hk' hy hs1 ha' K2
      go_wp2_with fail
      go_roundg (gk - 1)
      case measure => omega
      case rel => exact ⟨k + 1, by omega, by go_num, by rw [HS1.out], HL⟩
    · obtain rfl : k = m := by omega
      have kI : ¬ (k : Int) < (k : Int) := by omega
      have hr := HR.out
      rw [← List.take_of_length_le (l := L) (i := k) (by rw [HLE.out]; exact Nat.le_refl _)] at hr
      rw [hr]
      have ee : ((k : Int) == (k : Int)) = true := by simp
      clear hlt hk hr K2
      go_wp2_with fail
      go_quiet (fail)
      have HBN : Hid (Below w1.heap.size w1 (wr.drewN nq)) := HL.out.trans ⟨rfl, rfl, rfl, Nat.le_refl _, fun _ _ => rfl⟩
      go_wp2_with fail
      go_returns
      exact ⟨rfl, B1.out.trans (HBN.out.mono B1.out.size)⟩
end Go.Proofs.Ythflbbjilebhlaa
