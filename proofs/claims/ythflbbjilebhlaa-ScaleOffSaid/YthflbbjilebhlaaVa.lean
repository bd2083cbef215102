/- Package scale: Apart. -/
import Derived.Test.YthflbbjilebhlaaUz
set_option linter.unusedSimpArgs false
set_option linter.unusedVariables false
namespace Go.Proofs.Ythflbbjilebhlaa
open Go Go.RowKit Go.Shelf Sc

theorem exec_md_at {a : Act} {o : Oper} {x : Operand} {g off : Nat} (ho : o.op = .load 99 x) (hx : a.eval x = .pointer (some ⟨g, off, none⟩)) (w : World) (C : Array Value) (hs : C.size = 17)
    (hg : ∀ j u, C[j]? = some u → w.cell? ⟨g, off + j, none⟩ = some u) : (execOp a.eval o).run Try.prog w = .ok (.value (.agg C)) w := by
  have h := run_loadVar_at (P := Try.prog) w g off 99 C _ hg Try.underlying99 rfl (by rw [mdSize, hs])
  unfold execOp
  simp only [ho, hx, Instr.loadAt, Instr.sureAddr, Sem.run_bind, Sem.run_pure, Result.andThen_ok, h]
theorem cells_below {w w' : World} {b o : Nat} {C : Array Value} (h : ∀ j u, C[j]? = some u → w.cell? ⟨b, o + j, none⟩ = some u) (hb : Below w.heap.size w w') : ∀ j u, C[j]? = some u → w'.cell? ⟨b, o + j, none⟩ = some u :=
  fun j u hu => keepK (h j u hu) hb
def apartE (c : Cse) (s t : Scl) : Int := if errC c ≠ 0 then errC c else scsE [s, t]
def apartC (c : Cse) (s t : Scl) : List Int := apTo (cut8 c s) (cut8 c t) c.hs.length
set_option maxRecDepth 100000 in
set_option maxHeartbeats 8000000 in
theorem Apart_any (c : Cse) (hv rv : Value) (s t : Scl) (w : World) (hC : CseAt w c hv rv) :
    Calls Try.prog 24 #[.agg #[.int .i64 c.kind, .int .i64 c.base, .int .i64 c.most, hv, rv], .agg #[.int .i64 s.1, .int .i64 s.2], .agg #[.int .i64 t.1, .int .i64 t.2]] w (IntsP (apartC c s t) (apartE c s t) w) := by
  unfold IntsP apartC
  obtain ⟨ha, hn, hc, rfl⟩ : ∃ a n c, hv = .slice a n c := by obtain ⟨_, a, cap, h, _⟩ := hC.hs; exact ⟨_, _, _, h⟩
  obtain ⟨ra, rn, rc, rfl⟩ : ∃ a n c, rv = .slice a n c := by obtain ⟨_, a, cap, h, _⟩ := hC.rd; exact ⟨_, _, _, h⟩
  obtain rfl : hn = c.hs.length := by obtain ⟨_, a, cap, h, _⟩ := hC.hs; simp only [Value.slice.injEq] at h; exact h.2.1
  obtain rfl : rn = c.rds.length := by obtain ⟨_, a, cap, h, _⟩ := hC.rd; simp only [Value.slice.injEq] at h; exact h.2.1
  obtain ⟨n, hnn⟩ : ∃ n, c.hs.length = n := ⟨_, rfl⟩
  obtain ⟨m, hmm⟩ : ∃ m, c.rds.length = m := ⟨_, rfl⟩
  obtain ⟨kind, hkind⟩ : ∃ x, c.kind = x := ⟨_, rfl⟩
  obtain ⟨base, hbase⟩ : ∃ x, c.base = x := ⟨_, rfl⟩
  obtain ⟨most, hmost⟩ : ∃ x, c.most = x := ⟨_, rfl⟩
  obtain ⟨F, hF⟩ : ∃ F, rnF c.kind = F := ⟨_, rfl⟩
  rw [hnn, hmm] at hC
  have HLK : Hid (lkV c (.slice ha n hc) (.slice ra m rc) = #[.int .i64 kind, .int .i64 base, .int .i64 most, .slice ha n hc, .slice ra m rc, .int .i64 kind, .func (.func F) #[] #[]]) := by show _ = _; unfold lkV lkC; rw [hF, hkind, hbase, hmost]
  rw [hnn, hmm, hkind, hbase, hmost]
  obtain ⟨W, hW, q1, q2, q3, hb, hsz⟩ := al3 w (Obj.cells #[.int .i64 kind, .int .i64 base, .int .i64 most, .slice ha n hc, .slice ra m rc] 25) (Obj.cells #[.int .i64 s.1, .int .i64 s.2] 27) (Obj.cells #[.int .i64 t.1, .int .i64 t.2] 27)
  have hlk := look_any c _ _ W (hC.below hb)
  obtain ⟨er, her⟩ : ∃ er, errC c = er := ⟨_, rfl⟩
  unfold LookP lk0 lkC at hlk
  rw [hkind, hbase, hmost, her, HLK.out] at hlk
  obtain ⟨R, hR⟩ : ∃ R, apartE c s t = R := ⟨_, rfl⟩
  rw [hR]
  have HRE : Hid (R = if er ≠ 0 then er else scsE [s, t]) := by show _ = _; rw [← hR, ← her]; rfl
  have HER := Lib.hid her
  have HLO := Lib.hid hlk
  have HW := Lib.hid hW
  have Q1 := Lib.hid q1
  have Q2 := Lib.hid q2
  have Q3 := Lib.hid q3
  have HB := Lib.hid hb
  have HC := Lib.hid (hC.below hb)
  have HN := Lib.hid hnn
  obtain ⟨s1, s2⟩ := s
  obtain ⟨t1, t2⟩ := t
  dsimp only at *
  have c0 := cellOf q1 0 (.int .i64 kind) rfl
  have c1 := cellOf q1 1 (.int .i64 base) rfl
  have c2 := cellOf q1 2 (.int .i64 most) rfl
  have c3 := cellOf q1 3 (.slice ha n hc) rfl
  have c4 := cellOf q1 4 (.slice ra m rc) rfl
  have cl := lt_of_block q1
  clear hW q1 q2 q3 hb hsz hlk hC hR her hnn hmm hkind hbase hmost hF
  go_enter Try.func24, Try.ntmps24
  go_upto_region 1 with fail
  rw [HW.out]
  go_wp2_with fail
  refine HLO.out.mono ?_
  rintro e w1 ⟨hy, hn', hb⟩
  have B1 := Lib.hid (HB.out.trans (hb.mono HB.out.size))
  have K2 := Lib.hid ((hb.block _ (lt_of_block Q2.out)).trans Q2.out)
  have K3 := Lib.hid ((hb.block _ (lt_of_block Q3.out)).trans Q3.out)
  have C1 := Lib.hid (HC.out.below hb)
  have hlz := (zero_of_info lkZero).1
  unfold lk0 lkC at hlz
  clear hb HB Q1 Q2 Q3 HC HW HLO c0 c1 c2 c3 c4 cl
  by_cases h0 : er = 0
  · subst h0
    obtain rfl := hy rfl
    clear hy hn'
    have hre : R = scsE [(s1, s2), (t1, t2)] := by rw [HRE.out]; simp
    have HVA := Lib.hid (valid_of HER.out)
    obtain ⟨w2, hw2, G2, b2⟩ : ∃ X, w1.alloc (Obj.cells #[.int .i64 kind, .int .i64 base, .int .i64 most, .slice ha n hc, .slice ra m rc, .int .i64 kind, .func (.func F) #[] #[]] 95) = X ∧ X.heap[w1.heap.size]? = some (.cells #[.int .i64 kind, .int .i64 base, .int .i64 most, .slice ha n hc, .slice ra m rc, .int .i64 kind, .func (.func F) #[] #[]] 95 (0, 0)) ∧ Below w1.heap.size w1 X := ⟨_, rfl, heap_alloc_new _ _, by go_grown⟩
    have C2 := C1.out.below b2
    have L2 := (b2.block _ (lt_of_block K2.out)).trans K2.out
    have L3 := (b2.block _ (lt_of_block K3.out)).trans K3.out
    have B2 := Lib.hid (B1.out.trans (b2.mono B1.out.size))
    obtain ⟨w3, hw3, G3, b3⟩ : ∃ X, w2.alloc (Obj.cells #[.int .i64 s1, .int .i64 s2, .int .i64 t1, .int .i64 t2] 27) = X ∧ X.heap[w2.heap.size]? = some (.cells #[.int .i64 s1, .int .i64 s2, .int .i64 t1, .int .i64 t2] 27 (0, 0)) ∧ Below w2.heap.size w2 X := ⟨_, rfl, heap_alloc_new _ _, by go_grown⟩
    have hp : PairsAt w3 (.slice (some ⟨w2.heap.size, 0, none⟩) 2 2) [(s1, s2), (t1, t2)] := by
      refine ⟨by simp, _, 2, rfl, by simp, fun _ => ⟨w2.heap.size, 0, rfl, fun k hk => ?_⟩⟩
      have : k = 0 ∨ k = 1 := by simp at hk; omega
      rcases this with rfl | rfl
      · exact ⟨cellOf G3 0 _ rfl, cellOf G3 1 _ rfl⟩
      · exact ⟨cellOf G3 2 _ rfl, cellOf G3 3 _ rfl⟩
    have hcall := withEach_any c _ _ _ [(s1, s2), (t1, t2)] w3 (C2.below b3) HVA.out hp (by simp)
    unfold EachP at hcall
    rw [HLK.out, ← hre] at hcall
    have HCL := Lib.hid hcall
    have HW2 := Lib.hid hw2
    have HW3 := Lib.hid hw3
    have B3 := Lib.hid (B2.out.trans (b3.mono B2.out.size))
    have c0 := cellOf G2 0 (.int .i64 kind) rfl
    have c1 := cellOf G2 1 (.int .i64 base) rfl
    have c2 := cellOf G2 2 (.int .i64 most) rfl
    have c3 := cellOf G2 3 (.slice ha n hc) rfl
    have c4 := cellOf G2 4 (.slice ra m rc) rfl
    have c5 := cellOf G2 5 (.int .i64 kind) rfl
    have c6 := cellOf G2 6 (.func (.func F) #[] #[]) rfl
    have cl := lt_of_block G2
    have e0 := cellOf L2 0 (.int .i64 s1) rfl
    have e1 := cellOf L2 1 (.int .i64 s2) rfl
    have el := lt_of_block L2
    have f0 := cellOf L3 0 (.int .i64 t1) rfl
    have f1 := cellOf L3 1 (.int .i64 t2) rfl
    have fl := lt_of_block L3
    clear hre C2 L2 L3 G2 G3 b2 b3 hp hcall hw2 hw3 C1 K2 K3 B1 B2
    go_upto_region 4 with fail
    rw [HW2.out]
    go_wp2_with fail
    rw [HW3.out]
    refine HCL.out.mono ?_
    rintro e w4 ⟨hy, hn', hb⟩
    have B4 := Lib.hid (B3.out.trans (hb.mono B3.out.size))
    clear hb HCL c0 c1 c2 c3 c4 c5 c6 cl e0 e1 el f0 f1 fl HW2 HW3 B3
    by_cases h1 : R = 0
    · obtain ⟨v, rfl, hmd⟩ := hy h1
      subst h1
      obtain ⟨va, vc, rfl, hvc, hcell⟩ := hmd
      obtain ⟨b, o, rfl, hcc⟩ := hcell (by simp)
      have h_0 := hcc 0 (by simp)
      have h_1 := hcc 1 (by simp)
      simp only [List.getElem_cons_zero, List.getElem_cons_succ, Nat.zero_mul, Nat.one_mul, Nat.add_zero, List.length_cons, List.length_nil, Nat.reduceAdd] at h_0 h_1 hvc
      simp only [List.length_cons, List.length_nil, Nat.reduceAdd]
      have hca := apart_any (mdP c (.slice ha n hc) (.slice ra m rc) (s1, s2)) (mdP c (.slice ha n hc) (.slice ra m rc) (t1, t2)) (cut8 c (s1, s2)) (cut8 c (t1, t2)) ha n hc
      have HCA : Hid (∀ W1, Calls Try.prog 65 #[.agg (mdC (mdP c (.slice ha n hc) (.slice ra m rc) (s1, s2)) (cut8 c (s1, s2))), .agg (mdC (mdP c (.slice ha n hc) (.slice ra m rc) (t1, t2)) (cut8 c (t1, t2)))] W1 fun e w' => ∃ v, e = .returned v ∧ IntsAt w' v (apTo (cut8 c (s1, s2)) (cut8 c (t1, t2)) n) ∧ Below W1.heap.size W1 w') := fun W1 => hca W1 (by rw [← HN.out]; exact HVA.out.n8) rfl rfl (cut8_len _ _) (cut8_len _ _) rfl
      have HS0 := Lib.hid (mdW_size c (.slice ha n hc) (.slice ra m rc) (s1, s2))
      have HS1 := Lib.hid (mdW_size c (.slice ha n hc) (.slice ra m rc) (t1, t2))
      generalize mdC (mdP c (.slice ha n hc) (.slice ra m rc) (s1, s2)) (cut8 c (s1, s2)) = M0 at *
      generalize mdC (mdP c (.slice ha n hc) (.slice ra m rc) (t1, t2)) (cut8 c (t1, t2)) = M1 at *
      have H_0 := Lib.hid h_0
      have H_1 := Lib.hid h_1
      clear hy hn' hcell hcc h_0 h_1 hca
      go_upto_region 7 with fail
      have KA : ∀ W' : World, Below w4.heap.size w4 W' → Below w4.heap.size w4 W' := fun W' hb => hb
      refine wp_region_noPanic ?_
      refine wp_region_held_drew (S := (fun W' => Below w4.heap.size w4 W')) (by kernel_rfl) ?_ (fun hh0 => ?_)
      · exact KA _ (Below.refl _ _).drew
      refine wpAnyH_take (i := 0) (v := ?_) rfl (by as_aux_lemma => kernel_rfl) (by as_aux_lemma => kernel_rfl) (by as_aux_lemma => kernel_rfl) (fun _ _ _ h => h) (Or.inl ⟨by rfl, ?_⟩) (by assumption) ?_
      rotate_left
      · intro w hSw
        try dsimp only at hSw
        go_simp
        try with_reducible rfl
      try simp only [Act.put, List.getElem_toArray, List.getElem_cons_succ, List.getElem_cons_zero, List.setIfInBounds_toArray, List.set_cons_zero, List.set_cons_succ]
      refine wpAnyH_take (i := 1) (v := ?_) rfl (by as_aux_lemma => kernel_rfl) (by as_aux_lemma => kernel_rfl) (by as_aux_lemma => kernel_rfl) (fun _ _ _ h => h) (Or.inl ⟨by rfl, ?_⟩) (by assumption) ?_
      rotate_left
      · intro w hSw
        try dsimp only at hSw
        go_simp
        try with_reducible rfl
      try simp only [Act.put, List.getElem_toArray, List.getElem_cons_succ, List.getElem_cons_zero, List.setIfInBounds_toArray, List.set_cons_zero, List.set_cons_succ]
      refine wpAnyH_take (i := 2) (v := .agg M0) rfl (by as_aux_lemma => kernel_rfl) (by as_aux_lemma => kernel_rfl) (by as_aux_lemma => kernel_rfl) (fun _ _ _ h => h) (Or.inl ⟨by rfl, ?_⟩) (by assumption) ?_
      · intro w hSw; exact exec_md_at (by rfl) (by rfl) _ M0 HS0.out (cells_below H_0.out hSw)
      try simp only [Act.put, List.getElem_toArray, List.getElem_cons_succ, List.getElem_cons_zero, List.setIfInBounds_toArray, List.set_cons_zero, List.set_cons_succ]
      refine wpAnyH_take (i := 3) (v := ?_) rfl (by as_aux_lemma => kernel_rfl) (by as_aux_lemma => kernel_rfl) (by as_aux_lemma => kernel_rfl) (fun _ _ _ h => h) (Or.inl ⟨by rfl, ?_⟩) (by assumption) ?_
      rotate_left
      · intro w hSw
        try dsimp only at hSw
        go_simp
        try with_reducible rfl
      try simp only [Act.put, List.getElem_toArray, List.getElem_cons_succ, List.getElem_cons_zero, List.setIfInBounds_toArray, List.set_cons_zero, List.set_cons_succ]
      refine wpAnyH_take (i := 4) (v := ?_) rfl (by as_aux_lemma => kernel_rfl) (by as_aux_lemma => kernel_rfl) (by as_aux_lemma => kernel_rfl) (fun _ _ _ h => h) (Or.inl ⟨by rfl, ?_⟩) (by assumption) ?_
      rotate_left
      · intro w hSw
        try dsimp only at hSw
        go_simp
        try with_reducible rfl
      try simp only [Act.put, List.getElem_toArray, List.getElem_cons_succ, List.getElem_cons_zero, List.setIfInBounds_toArray, List.set_cons_zero, List.set_cons_succ]
      refine wpAnyH_take (i := 5) (v := .agg M1) rfl (by as_aux_lemma => kernel_rfl) (by as_aux_lemma => kernel_rfl) (by as_aux_lemma => kernel_rfl) (fun _ _ _ h => h) (Or.inl ⟨by rfl, ?_⟩) (by assumption) ?_
      · intro w hSw; exact exec_md_at (by rfl) (by rfl) _ M1 HS1.out (cells_below H_1.out hSw)
      try simp only [Act.put, List.getElem_toArray, List.getElem_cons_succ, List.getElem_cons_zero, List.setIfInBounds_toArray, List.set_cons_zero, List.set_cons_succ]
      refine wpAnyH_ready (rs := [6]) (by as_aux_lemma => kernel_rfl) (by simp) ?_
      refine AllReadyH.cons rfl (fun K hK => ?_) AllReadyH.nil
      go_simp
      refine (HCA.out _).mono ?_
      rintro e w5 ⟨v, rfl, hi, hbv⟩
      refine hK.out _ _ (KA _ (Below.trans hh0 (Below.mono hbv (hh0).size))) (fun hh1 => ?_)
      clear hK K
      try simp only [Act.put, List.getElem_toArray, List.getElem_cons_succ, List.getElem_cons_zero, List.setIfInBounds_toArray, List.set_cons_zero, List.set_cons_succ]
      refine wpAnyH_ready (rs := [7]) (by as_aux_lemma => kernel_rfl) (by simp) ?_
      refine AllReadyH.cons rfl (fun K hK => ?_) AllReadyH.nil
      go_simp
      refine hK.out _ _ hh1 (fun hh2 => ?_)
      clear hK K
      try simp only [Act.put, List.getElem_toArray, List.getElem_cons_succ, List.getElem_cons_zero, List.setIfInBounds_toArray, List.set_cons_zero, List.set_cons_succ]
      refine wpAnyH_ready (rs := [8]) (by as_aux_lemma => kernel_rfl) (by simp) ?_
      refine AllReadyH.cons rfl (fun K hK => ?_) AllReadyH.nil
      go_simp
      refine hK.out _ _ hh2 (fun hh3 => ?_)
      clear hK K
      try simp only [Act.put, List.getElem_toArray, List.getElem_cons_succ, List.getElem_cons_zero, List.setIfInBounds_toArray, List.set_cons_zero, List.set_cons_succ]
      refine wpAnyH_done (by as_aux_lemma => kernel_rfl) ?_ _
      refine NoPanic.normal ?_
      have HBZ := Lib.hid (hh3)
      have HI := Lib.hid hi
      have B5 := Lib.hid (B4.out.trans (HBZ.out.mono B4.out.size))
      go_wp2_with fail
      go_ret2
      exact ⟨_, rfl, HI.out, B5.out⟩
    · obtain rfl := hn' h1
      clear hy hn'
      have tz : (R != 0) = true := by simp [h1]
      go_wp2_with fail
      go_ret2
      exact ⟨_, rfl, by first | exact ints_nil _ | (rw [if_neg h1]; exact ints_nil _), B4.out⟩
  · obtain rfl := hn' h0
    clear hy hn'
    have hre : R = er := by rw [HRE.out, if_pos h0]
    subst hre
    have tz : (R != 0) = true := by simp [h0]
    have b2 : Below w1.heap.size w1 (w1.alloc (Obj.cells #[.int .i64 0, .int .i64 0, .int .i64 0, .slice none 0 0, .slice none 0 0, .int .i64 0, .nilFunc] 95)) := by go_grown
    have B2 := Lib.hid (B1.out.trans (b2.mono B1.out.size))
    clear b2
    go_wp2_with fail
    go_ret2
    exact ⟨_, rfl, by first | exact ints_nil _ | (rw [if_neg h0]; exact ints_nil _), B2.out⟩
end Go.Proofs.Ythflbbjilebhlaa
