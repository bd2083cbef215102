/- Package scale: Flat. -/
import Derived.Test.YthflbbjilebhlaaUw
import Derived.Maps.AppendAt
set_option linter.unusedSimpArgs false
set_option linter.unusedVariables false
namespace Go.Proofs.Ythflbbjilebhlaa
open Go Go.RowKit Go.Shelf Sc

theorem run_app1 (w : World) (ty : TypeId) (base n : Nat) (v : Value) (xs : List Value) (g : Nat) (x : Int) (hown : w.ownsRow base 3 1 v n xs) (hc : w.cell? ⟨g, 0, none⟩ = some (.int .i64 x)) (hn : n ≤ 1000) (hb : base ≤ w.heap.size) :
    ∃ v' w', (Builtin.append_ #[22, 22] ty #[v, .slice (some ⟨g, 0, none⟩) 1 1]).run Try.prog w = .ok v' w' ∧ w'.ownsRow base 3 1 v' (n + 1) (xs ++ [.int .i64 x]) ∧ w.grownBy w' v.ownBlock ∧ (v'.ownBlock = v.ownBlock ∨ v'.ownBlock = some w.heap.size) := by
  obtain ⟨i0, hi⟩ := info_of_underlying Try.underlying3
  have HI : i0.zero = some (.int .i64 0) ∧ i0.size = 1 ∧ i0.bytes = 8 := by
    have h := intInfo
    rw [hi] at h
    simp at h
    exact h
  obtain ⟨v', w', h1, h2, h3, _, h5⟩ := run_append_own_at (P := Try.prog) w base 22 ty 3 i0 _ 1 8 Try.underlying22 hi HI.1 HI.2.1 HI.2.2 rfl (by decide) v n xs hown ⟨g, 0, none⟩ 1 1 [.int .i64 x] rfl
    (by
      intro j u hj
      match j, hj with
      | 0, hj => simp at hj; subst hj; exact hc
      | j + 1, hj => simp at hj) (by intro u hu; simp at hu; subst hu; rfl) (by unfold maxLen; omega) (by omega) hb
  exact ⟨v', w', h1, h2, h3, h5⟩
theorem wpl_app1 {ops : Array Oper} {rest : List Oper} {o : Oper} {a : Act} {Q : Exit → Act → World → Prop} {w : World} (hgd : o.guard = none) (s x : Operand)
    (ho : o.op = .call { callee := .builtin .append, args := #[s, x], argTypes := #[22, 22] })
    (base n : Nat) (v : Value) (xs : List Value) (g : Nat) (y : Int) (hs : a.eval s = v) (hx : a.eval x = .slice (some ⟨g, 0, none⟩) 1 1) (hown : w.ownsRow base 3 1 v n xs) (hc : w.cell? ⟨g, 0, none⟩ = some (.int .i64 y)) (hn : n ≤ 1000) (hb : base ≤ w.heap.size)
    (h : ∀ v' w', w'.ownsRow base 3 1 v' (n + 1) (xs ++ [.int .i64 y]) → w.grownBy w' v.ownBlock → (v'.ownBlock = v.ownBlock ∨ v'.ownBlock = some w.heap.size) → wpList Try.prog ops Q rest (a.put o.dst v') w') : wpList Try.prog ops Q (o :: rest) a w := by
  refine wpList_plain hgd fun K hK => ?_
  obtain ⟨v', w', hr, h2, h3, h4⟩ := run_app1 w o.type base n v xs g y hown hc hn hb
  unfold Oper.wp execOp
  simp only [ho, resolve, invoke, builtin, Sem.run_bind, Sem.run_pure, Result.andThen_ok, List.map_toArray, List.map_cons, List.map_nil, hs, hx, hr]
  exact hK _ _ (h v' w' h2 h3 h4)
/-- The numbers of the first so many roads that are flat. -/
def flatsTo (c : Cse) (s : Scl) (k : Nat) : List Int := ((List.range k).filter fun i => flatR c s (c.rds.getD i default)).map Int.ofNat
def flatsC (c : Cse) (s : Scl) : List Int := flatsTo c s c.rds.length
theorem flatsTo_yes {c : Cse} {s : Scl} {k : Nat} (h : flatR c s (c.rds.getD k default) = true) : flatsTo c s (k + 1) = flatsTo c s k ++ [(k : Int)] := by
  unfold flatsTo
  rw [List.range_succ, List.filter_append, List.map_append, List.filter_cons_of_pos (p := fun i => flatR c s (c.rds.getD i default)) (by exact h)]
  rfl
theorem flatsTo_no {c : Cse} {s : Scl} {k : Nat} (h : flatR c s (c.rds.getD k default) = false) : flatsTo c s (k + 1) = flatsTo c s k := by
  unfold flatsTo
  rw [List.range_succ, List.filter_append, List.map_append, List.filter_cons_of_neg (p := fun i => flatR c s (c.rds.getD i default)) (by simp only [h]; simp)]
  exact List.append_nil _
theorem flatsTo_len (c : Cse) (s : Scl) (k : Nat) : (flatsTo c s k).length ≤ k := by
  unfold flatsTo
  rw [List.length_map]
  exact Nat.le_trans (List.length_filter_le _ _) (by simp)
set_option maxRecDepth 100000 in
set_option maxHeartbeats 8000000 in
theorem Flat_any (c : Cse) (hv rv : Value) (s : Scl) (w : World) (hC : CseAt w c hv rv) :
    Calls Try.prog 22 #[.agg #[.int .i64 c.kind, .int .i64 c.base, .int .i64 c.most, hv, rv], .agg #[.int .i64 s.1, .int .i64 s.2]] w (IntsP (flatsC c s) (askE c s) w) := by
  unfold IntsP flatsC
  obtain ⟨ha, hn, hc, rfl⟩ : ∃ a n c, hv = .slice a n c := by obtain ⟨_, a, cap, h, _⟩ := hC.hs; exact ⟨_, _, _, h⟩
  obtain ⟨ra, rn, rc, rfl⟩ : ∃ a n c, rv = .slice a n c := by obtain ⟨_, a, cap, h, _⟩ := hC.rd; exact ⟨_, _, _, h⟩
  obtain rfl : hn = c.hs.length := by obtain ⟨_, a, cap, h, _⟩ := hC.hs; simp only [Value.slice.injEq] at h; exact h.2.1
  obtain rfl : rn = c.rds.length := by obtain ⟨_, a, cap, h, _⟩ := hC.rd; simp only [Value.slice.injEq] at h; exact h.2.1
  obtain ⟨n, hnn⟩ : ∃ n, c.hs.length = n := ⟨_, rfl⟩
  obtain ⟨m, hmm⟩ : ∃ m, c.rds.length = m := ⟨_, rfl⟩
  obtain ⟨kind, hkind⟩ : ∃ x, c.kind = x := ⟨_, rfl⟩
  obtain ⟨base, hbase⟩ : ∃ x, c.base = x := ⟨_, rfl⟩
  obtain ⟨most, hmost⟩ : ∃ x, c.most = x := ⟨_, rfl⟩
  rw [hnn, hmm] at hC
  rw [hnn, hmm, hkind, hbase, hmost]
  obtain ⟨W, hW, q1, q2, hb, hsz⟩ := al2 w (Obj.cells #[.int .i64 kind, .int .i64 base, .int .i64 most, .slice ha n hc, .slice ra m rc] 25) (Obj.cells #[.int .i64 s.1, .int .i64 s.2] 27)
  have hlk := lookWith_any c _ _ s W (hC.below hb)
  unfold LookWP at hlk
  obtain ⟨R, hR⟩ : ∃ R, askE c s = R := ⟨_, rfl⟩
  rw [hkind, hbase, hmost, hR] at hlk
  rw [hR]
  have HR := Lib.hid hR
  have HW := Lib.hid hW
  have Q1 := Lib.hid q1
  have HB := Lib.hid hb
  have HC := Lib.hid (hC.below hb)
  have HPL : Hid ((mdP c (.slice ha n hc) (.slice ra m rc) s).length = 9) := rfl
  have HONE : Hid ((mdP c (.slice ha n hc) (.slice ra m rc) s).all (·.oneCell') = true) := rfl
  have HC8 := Lib.hid (cut8_len c s)
  have HP1 : Hid (pf0.all (·.oneCell') = true) := rfl
  obtain ⟨p, hp⟩ : ∃ p, mdP c (.slice ha n hc) (.slice ra m rc) s = p := ⟨_, rfl⟩
  obtain ⟨cs, hcs⟩ : ∃ cs, cut8 c s = cs := ⟨_, rfl⟩
  have HPP := Lib.hid hp
  have HCS := Lib.hid hcs
  rw [hp] at HPL HONE hlk
  rw [hcs] at HC8 hlk
  have HLO := Lib.hid hlk
  have HN := Lib.hid hnn
  have HM := Lib.hid hmm
  obtain ⟨s1, s2⟩ := s
  dsimp only at *
  have c0 := cellOf q1 0 (.int .i64 kind) rfl
  have c1 := cellOf q1 1 (.int .i64 base) rfl
  have c2 := cellOf q1 2 (.int .i64 most) rfl
  have c3 := cellOf q1 3 (.slice ha n hc) rfl
  have c4 := cellOf q1 4 (.slice ra m rc) rfl
  have cl := lt_of_block q1
  have e0 := cellOf q2 0 (.int .i64 s1) rfl
  have e1 := cellOf q2 1 (.int .i64 s2) rfl
  have el := lt_of_block q2
  clear hW q1 q2 hb hsz hlk hC hR hp hcs hnn hmm hkind hbase hmost
  go_enter Try.func22, Try.ntmps22
  go_upto_region 1 with fail
  rw [HW.out]
  go_wp2_with fail
  refine HLO.out.mono ?_
  rintro e w1 ⟨hy, hn', hb⟩
  have B1 := Lib.hid (HB.out.trans (hb.mono HB.out.size))
  have K1 := Lib.hid ((hb.block _ (lt_of_block Q1.out)).trans Q1.out)
  have C1 := Lib.hid (HC.out.below hb)
  clear hb HB Q1 HC HW HLO c0 c1 c2 c3 c4 cl e0 e1 el
  have hz := (zero_of_info mdZero).1
  have HN2 : Hid (MdBlk (w1.alloc (Obj.cells (mdC pf0 z8) 99)) w1.heap.size pf0 z8) := heap_alloc_new w1 _
  by_cases h0 : R = 0
  · subst h0
    obtain rfl := hy rfl
    clear hy hn'
    obtain ⟨V, hV, MV, BV⟩ : ∃ V, (w1.alloc (Obj.cells (mdC pf0 z8) 99)).setRow w1.heap.size (mdC p cs) = V ∧ MdBlk V w1.heap.size p cs ∧ Below w1.heap.size w1 V := ⟨_, rfl, HN2.out.put _ _, below_setRow (by go_grown) (Nat.le_refl _) _⟩
    have HV := Lib.hid hV
    have HMV := Lib.hid MV
    have B2 := Lib.hid (B1.out.trans (BV.mono B1.out.size))
    have K2 := Lib.hid ((BV.block _ (lt_of_block K1.out)).trans K1.out)
    have C2 := Lib.hid (C1.out.below BV)
    have hask := askE_zero HR.out
    have HVA := Lib.hid (valid_of hask.1)
    have hs4 := sclE_zero hask.2
    have HS4 : Hid (1 ≤ s1 ∧ s1 ≤ 30 ∧ 1 ≤ s2 ∧ s2 ≤ 30) := ⟨hs4.1, hs4.2.1, hs4.2.2.1, hs4.2.2.2.1⟩
    have n8 : n ≤ 8 := by rw [← HN.out]; exact HVA.out.n8
    have nI : (n : Int) ≤ 8 := by omega
    clear hV MV BV B1 K1 C1 hask hs4
    have c4 := cellOf K2.out 4 (.slice ra m rc) rfl
    have cl := lt_of_block K2.out
    have m8 : m ≤ 8 := by rw [← HM.out]; exact HVA.out.r8
    have mI : (m : Int) ≤ 8 := by omega
    go_wp2_with (refine md_store rfl (.tmp 6) (.tmp 15) rfl w1.heap.size rfl p cs pf0 z8 rfl HN2.out HPL.out HC8.out rfl rfl HONE.out rfl ?_; rw [HV.out])
    go_loopg [8, 9, 10, 23] m (fun g v8 _ _ v wr => ∃ (k q : Nat) (a8 : Option Addr) (c8 : Nat), g + k = m ∧ v = .int .i64 k ∧ v8 = .slice a8 q c8 ∧ Hid ((flatsTo c (s1, s2) k).length = q) ∧ Hid (wr.ownsRow V.heap.size 3 1 (.slice a8 q c8) q ((flatsTo c (s1, s2) k).map (Value.int .i64))) ∧ Hid (Below V.heap.size V wr))
    case atStart => exact ⟨0, 0, none, 0, by omega, rfl, rfl, rfl, World.ownsRow_nil .., Below.refl _ _⟩
    case round =>
      obtain ⟨k, q, a8, c8, hk, rfl, rfl, HQ, HO, HL⟩ := hrel
      clear c4 cl
      by_cases hkm : k < m
      · have kI : (k : Int) < (m : Int) := by omega
        have hk' : k < c.rds.length := by rw [HM.out]; exact hkm
        have C3 := Lib.hid (C2.out.below HL.out)
        have M3 := Lib.hid (HMV.out.below HL.out HMV.out.lt)
        obtain ⟨b, o, rfl, d0, d1⟩ := C3.out.rd.get hk'
        have hin := HVA.out.rd _ (List.getElem_mem hk')
        have hgd : c.rds.getD k default = c.rds[k] := by simp [List.getD_eq_getElem?_getD, hk']
        obtain ⟨⟨r1, r2⟩, hr⟩ : ∃ r, c.rds[k] = r := ⟨_, rfl⟩
        rw [hr] at d0 d1 hin hgd
        simp only at d0 d1 hin
        obtain ⟨FB, hFB⟩ : ∃ x, flatR c (s1, s2) (r1, r2) = x := ⟨_, rfl⟩
        obtain ⟨W4, hW4, z4, b4⟩ : ∃ X, wr.alloc (Obj.cells #[.int .i64 r1, .int .i64 r2] 79) = X ∧ X.heap[wr.heap.size]? = some (.cells #[.int .i64 r1, .int .i64 r2] 79 (0, 0)) ∧ Below wr.heap.size wr X := ⟨_, rfl, heap_alloc_new _ _, by go_grown⟩
        have hcall := flat_any c _ _ (s1, s2) (r1, r2) W4 (C3.out.below b4) HVA.out ⟨HS4.out.1, HS4.out.2.1, HS4.out.2.2.1⟩ ⟨hin.1, hin.2.1, hin.2.2.1, hin.2.2.2.1⟩
        rw [hFB, HPP.out, HCS.out] at hcall
        dsimp only at hcall
        have HCL := Lib.hid hcall
        have HFB : Hid (flatR c (s1, s2) (c.rds.getD k default) = FB) := by show _ = _; rw [hgd]; exact hFB
        have HW4 := Lib.hid hW4
        have f0 := cellOf z4 0 (.int .i64 r1) rfl
        have f1 := cellOf z4 1 (.int .i64 r2) rfl
        have fl := lt_of_block z4
        have M4 := Lib.hid (M3.out.below b4 M3.out.lt)
        have L4 := Lib.hid (HL.out.trans (b4.mono HL.out.size))
        have O4 := Lib.hid (own_below HO.out b4)
        have dl := World.block_lt_of_cell? wr ⟨b, o + k * 2, none⟩ d0
        clear hk' hin hgd hr hFB hW4 z4 b4 hcall HO HL M3 C3
        go_wp2_with (first | (refine md_load rfl (.tmp 6) rfl w1.heap.size rfl p cs M4.out HPL.out HC8.out ?_) | (rw [HW4.out]))
        refine HCL.out.mono ?_
        rintro e w5 ⟨rfl, hb⟩
        have L5 := Lib.hid (L4.out.trans (hb.mono L4.out.size))
        have O5 := Lib.hid (own_below O4.out hb)
        clear hb HCL L4 O4 M4 f0 f1 fl d0 d1 dl
        cases FB
        · have hno := flatsTo_no HFB.out
          have O6 : Hid (w5.ownsRow V.heap.size 3 1 (.slice a8 q c8) q ((flatsTo c (s1, s2) (k + 1)).map (Value.int .i64))) := by show World.ownsRow ..; rw [hno]; exact O5.out
          have Q6 : Hid ((flatsTo c (s1, s2) (k + 1)).length = q) := by show _ = _; rw [hno]; exact HQ.out
          clear hno
          go_wp2_with fail
          go_roundg (gk - 1)
          case measure => omega
          case rel => exact ⟨k + 1, q, a8, c8, by omega, by go_num, rfl, Q6, O6, L5⟩
        · have hyes := flatsTo_yes HFB.out
          have HY := Lib.hid hyes
          have hq8 : q ≤ k := by rw [← HQ.out]; exact flatsTo_len _ _ _
          have hba5 : Below w5.heap.size w5 (w5.alloc (Obj.cells #[.int .i64 (k : Int)] 3)) := by go_grown
          have HBA5 := Lib.hid hba5
          have hs6 : V.heap.size ≤ (w5.alloc (Obj.cells #[.int .i64 (k : Int)] 3)).heap.size := by have := L5.out.size; have := hba5.size; omega
          clear hyes hba5
          go_wp2_with (at_builtin; refine wpl_app1 rfl _ _ rfl V.heap.size q _ _ w5.heap.size (k : Int) rfl rfl (own_below O5.out HBA5.out) (cellOf (heap_alloc_new w5 (Obj.cells #[.int .i64 (k : Int)] 3)) 0 _ rfl) (by omega) hs6 ?_)
          intro v' w6 hown6 hg6 _
          have L6 : Hid (Below V.heap.size V w6) := (L5.out.trans (HBA5.out.mono L5.out.size)).grown hg6 hs6 (fun g hg => (O5.out.lt g hg).1)
          obtain ⟨va, vc, rfl⟩ := own_slice hown6
          have O6 : Hid (w6.ownsRow V.heap.size 3 1 (.slice va (q + 1) vc) (q + 1) ((flatsTo c (s1, s2) (k + 1)).map (Value.int .i64))) := by
            show World.ownsRow ..
            rw [HY.out, List.map_append]
            exact hown6
          have Q6 : Hid ((flatsTo c (s1, s2) (k + 1)).length = q + 1) := by show _ = _; rw [HY.out, List.length_append, HQ.out]; rfl
          clear hown6 hg6
          go_wp2_with fail
          go_roundg (gk - 1)
          case measure => omega
          case rel => exact ⟨k + 1, q + 1, va, vc, by omega, by go_num, rfl, Q6, O6, L6⟩
      · obtain rfl : k = m := by omega
        have kI : ¬ (k : Int) < (k : Int) := by omega
        have hq8 : q ≤ k := by rw [← HQ.out]; exact flatsTo_len _ _ _
        have HI : Hid (IntsAt wr (.slice a8 q c8) (flatsTo c (s1, s2) k)) := by
          refine intsAt_own (base := V.heap.size) ?_ ?_
          · rw [HQ.out]; exact HO.out
          · rw [HQ.out]; omega
        clear hkm hk HO
        go_wp2_with fail
        refine bodyPost_ret (results_tmp2 rfl _ _ _) rfl ?_
        exact ⟨_, rfl, HI.out, B2.out.trans (HL.out.mono B2.out.size)⟩
  · obtain rfl := hn' h0
    clear hy hn'
    have BV : Below w1.heap.size w1 ((w1.alloc (Obj.cells (mdC pf0 z8) 99)).setRow w1.heap.size (mdC pf0 z8)) := below_setRow (by go_grown) (Nat.le_refl _) _
    have B2 := Lib.hid (B1.out.trans (BV.mono B1.out.size))
    have tz : (R != 0) = true := by simp [h0]
    clear BV
    go_wp2_with (refine md_store rfl (.tmp 6) (.tmp 15) rfl w1.heap.size rfl pf0 z8 pf0 z8 rfl HN2.out rfl rfl rfl rfl HP1.out rfl ?_)
    go_ret2
    exact ⟨_, rfl, by first | exact ints_nil _ | (rw [if_neg h0]; exact ints_nil _), B2.out⟩
end Go.Proofs.Ythflbbjilebhlaa
