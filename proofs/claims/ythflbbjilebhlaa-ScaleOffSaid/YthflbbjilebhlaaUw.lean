/- Package scale: Cuts. -/
import Derived.Test.YthflbbjilebhlaaUu
import Derived.Test.YthflbbjilebhlaaUq
import Derived.Test.YthflbbjilebhlaaUt
set_option linter.unusedSimpArgs false
set_option linter.unusedVariables false
namespace Go.Proofs.Ythflbbjilebhlaa
open Go Go.RowKit Go.Shelf Sc

theorem ints_nil (w : World) : IntsAt w (.slice none 0 0) [] := ⟨by simp, none, 0, rfl, by simp, fun h => absurd rfl h⟩
theorem cut8_take {c : Cse} (h8 : c.hs.length ≤ 8) (s : Scl) : (cut8 c s).take c.hs.length = cutsC c s := by
  apply List.ext_getElem?
  intro i
  by_cases hi : i < c.hs.length
  · have h1 := cut8_get c s i hi h8
    have h2 : i < (cut8 c s).length := by rw [cut8_len]; omega
    have h3 : i < (cutsC c s).length := by simpa [cutsC] using hi
    rw [List.getElem?_take_of_lt hi, List.getElem?_eq_getElem h2, List.getElem?_eq_getElem h3]
    simpa [List.getD_eq_getElem?_getD, h2, h3] using h1
  · rw [List.getElem?_eq_none (by simp; omega), List.getElem?_eq_none (by simp [cutsC]; omega)]
/-- What a function that answers numbers answers: these, and an error. -/
def IntsP (l : List Int) (er : Int) (w : World) (e : Ending) (w' : World) : Prop := ∃ v, e = .returned (.tuple #[v, .int .i64 er]) ∧ IntsAt w' v (if er = 0 then l else []) ∧ Below w.heap.size w w'
set_option maxRecDepth 100000 in
set_option maxHeartbeats 4000000 in
theorem cuts_any (c : Cse) (hv rv : Value) (s : Scl) (w : World) (hC : CseAt w c hv rv) :
    Calls Try.prog 17 #[.agg #[.int .i64 c.kind, .int .i64 c.base, .int .i64 c.most, hv, rv], .agg #[.int .i64 s.1, .int .i64 s.2]] w (IntsP (cutsC c s) (askE c s) w) := by
  unfold IntsP
  obtain ⟨ha, hn, hc, rfl⟩ : ∃ a n c, hv = .slice a n c := by obtain ⟨_, a, cap, h, _⟩ := hC.hs; exact ⟨_, _, _, h⟩
  obtain ⟨ra, rn, rc, rfl⟩ : ∃ a n c, rv = .slice a n c := by obtain ⟨_, a, cap, h, _⟩ := hC.rd; exact ⟨_, _, _, h⟩
  obtain rfl : hn = c.hs.length := by obtain ⟨_, a, cap, h, _⟩ := hC.hs; simp only [Value.slice.injEq] at h; exact h.2.1
  obtain rfl : rn = c.rds.length := by obtain ⟨_, a, cap, h, _⟩ := hC.rd; simp only [Value.slice.injEq] at h; exact h.2.1
  obtain ⟨n, hnn⟩ : ∃ n, c.hs.length = n := ⟨_, rfl⟩
  obtain ⟨m, hmm⟩ : ∃ m, c.rds.length = m := ⟨_, rfl⟩
  obtain ⟨kind, hkind⟩ : ∃ x, c.kind = x := ⟨_, rfl⟩
  obtain ⟨base, hbase⟩ : ∃ x, c.base = x := ⟨_, rfl⟩
  obtain ⟨most, hmost⟩ : ∃ x, c.most = x := ⟨_, rfl⟩
  rw [hnn, hmm] at hC
  rw [hnn, hmm, hkind, hbase, hmost]
  obtain ⟨W, hW, q1, q2, hb, hsz⟩ := al2 w (Obj.cells #[.int .i64 kind, .int .i64 base, .int .i64 most, .slice ha n hc, .slice ra m rc] 25) (Obj.cells #[.int .i64 s.1, .int .i64 s.2] 27)
  have hlk := lookWith_any c _ _ s W (hC.below hb)
  unfold LookWP at hlk
  obtain ⟨R, hR⟩ : ∃ R, askE c s = R := ⟨_, rfl⟩
  rw [hkind, hbase, hmost, hR] at hlk
  rw [hR]
  have HR := Lib.hid hR
  have HW := Lib.hid hW
  have Q1 := Lib.hid q1
  have HB := Lib.hid hb
  have HC := Lib.hid (hC.below hb)
  have HPL : Hid ((mdP c (.slice ha n hc) (.slice ra m rc) s).length = 9) := rfl
  have HONE : Hid ((mdP c (.slice ha n hc) (.slice ra m rc) s).all (·.oneCell') = true) := rfl
  have HC8 := Lib.hid (cut8_len c s)
  have HP1 : Hid (pf0.all (·.oneCell') = true) := rfl
  obtain ⟨p, hp⟩ : ∃ p, mdP c (.slice ha n hc) (.slice ra m rc) s = p := ⟨_, rfl⟩
  obtain ⟨cs, hcs⟩ : ∃ cs, cut8 c s = cs := ⟨_, rfl⟩
  have HPP := Lib.hid hp
  have HCS := Lib.hid hcs
  rw [hp] at HPL HONE hlk
  rw [hcs] at HC8 hlk
  have HLO := Lib.hid hlk
  have HN := Lib.hid hnn
  have HM := Lib.hid hmm
  obtain ⟨s1, s2⟩ := s
  dsimp only at *
  have c0 := cellOf q1 0 (.int .i64 kind) rfl
  have c1 := cellOf q1 1 (.int .i64 base) rfl
  have c2 := cellOf q1 2 (.int .i64 most) rfl
  have c3 := cellOf q1 3 (.slice ha n hc) rfl
  have c4 := cellOf q1 4 (.slice ra m rc) rfl
  have cl := lt_of_block q1
  have e0 := cellOf q2 0 (.int .i64 s1) rfl
  have e1 := cellOf q2 1 (.int .i64 s2) rfl
  have el := lt_of_block q2
  clear hW q1 q2 hb hsz hlk hC hR hp hcs hnn hmm hkind hbase hmost
  go_enter Try.func17, Try.ntmps17
  go_upto_region 1 with fail
  rw [HW.out]
  go_wp2_with fail
  refine HLO.out.mono ?_
  rintro e w1 ⟨hy, hn', hb⟩
  have B1 := Lib.hid (HB.out.trans (hb.mono HB.out.size))
  have K1 := Lib.hid ((hb.block _ (lt_of_block Q1.out)).trans Q1.out)
  have C1 := Lib.hid (HC.out.below hb)
  clear hb HB Q1 HC HW HLO c0 c1 c2 c3 c4 cl e0 e1 el
  have hz := (zero_of_info mdZero).1
  have HN2 : Hid (MdBlk (w1.alloc (Obj.cells (mdC pf0 z8) 99)) w1.heap.size pf0 z8) := heap_alloc_new w1 _
  by_cases h0 : R = 0
  · subst h0
    obtain rfl := hy rfl
    clear hy hn'
    obtain ⟨V, hV, MV, BV⟩ : ∃ V, (w1.alloc (Obj.cells (mdC pf0 z8) 99)).setRow w1.heap.size (mdC p cs) = V ∧ MdBlk V w1.heap.size p cs ∧ Below w1.heap.size w1 V := ⟨_, rfl, HN2.out.put _ _, below_setRow (by go_grown) (Nat.le_refl _) _⟩
    have HV := Lib.hid hV
    have HMV := Lib.hid MV
    have B2 := Lib.hid (B1.out.trans (BV.mono B1.out.size))
    have K2 := Lib.hid ((BV.block _ (lt_of_block K1.out)).trans K1.out)
    have C2 := Lib.hid (C1.out.below BV)
    have hask := askE_zero HR.out
    have HVA := Lib.hid (valid_of hask.1)
    have hs4 := sclE_zero hask.2
    have HS4 : Hid (1 ≤ s1 ∧ s1 ≤ 30 ∧ 1 ≤ s2 ∧ s2 ≤ 30) := ⟨hs4.1, hs4.2.1, hs4.2.2.1, hs4.2.2.2.1⟩
    have n8 : n ≤ 8 := by rw [← HN.out]; exact HVA.out.n8
    have nI : (n : Int) ≤ 8 := by omega
    clear hV MV BV B1 K1 C1 hask hs4
    have c3 := cellOf K2.out 3 (.slice ha n hc) rfl
    have cl := lt_of_block K2.out
    have ml := HMV.out.lt
    have HCL : Hid (Calls Try.prog 57 #[.slice (some ⟨w1.heap.size, 9, none⟩) n 8] V fun e w' => ∃ v', e = .returned v' ∧ w'.ownsRow V.heap.size 3 1 v' n ((cs.take n).map (Value.int .i64)) ∧ v' ≠ .slice none 0 0 ∧ Below V.heap.size V w') :=
      Try.slices_Clone_int w1.heap.size 9 n 8 cs V (by rw [HC8.out]; exact n8) (by omega) (fun j hj => HMV.out.cw HPL.out j hj)
    have htk := cut8_take HVA.out.n8 (s1, s2)
    rw [HCS.out, HN.out] at htk
    have HTK := Lib.hid htk
    clear htk
    go_wp2_with (refine md_store rfl (.tmp 6) (.tmp 12) rfl w1.heap.size rfl p cs pf0 z8 rfl HN2.out HPL.out HC8.out rfl rfl HONE.out rfl ?_; rw [HV.out])
    refine HCL.out.mono ?_
    rintro e w3 ⟨v', rfl, hown, _, hb⟩
    have hl : (cs.take n).length = n := by rw [List.length_take, HC8.out]; omega
    have hi := intsAt_own (v := v') (l := cs.take n) (base := V.heap.size) (w := w3) (by rw [hl]; exact hown) (by rw [hl]; omega)
    rw [HTK.out] at hi
    have HI := Lib.hid hi
    have B3 := Lib.hid (B2.out.trans (hb.mono B2.out.size))
    clear hown hb hl hi
    go_wp2_with fail
    go_ret2
    exact ⟨_, rfl, HI.out, B3.out⟩
  · obtain rfl := hn' h0
    clear hy hn'
    have BV : Below w1.heap.size w1 ((w1.alloc (Obj.cells (mdC pf0 z8) 99)).setRow w1.heap.size (mdC pf0 z8)) := below_setRow (by go_grown) (Nat.le_refl _) _
    have B2 := Lib.hid (B1.out.trans (BV.mono B1.out.size))
    have tz : (R != 0) = true := by simp [h0]
    clear BV
    go_wp2_with (refine md_store rfl (.tmp 6) (.tmp 12) rfl w1.heap.size rfl pf0 z8 pf0 z8 rfl HN2.out rfl rfl rfl rfl HP1.out rfl ?_)
    go_ret2
    exact ⟨_, rfl, by first | exact ints_nil _ | (rw [if_neg h0]; exact ints_nil _), B2.out⟩
end Go.Proofs.Ythflbbjilebhlaa
