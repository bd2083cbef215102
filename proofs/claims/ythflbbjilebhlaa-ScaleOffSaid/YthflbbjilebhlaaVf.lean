/- Package scale: Greatest. -/
import Derived.Test.YthflbbjilebhlaaVe
import Derived.Test.YthflbbjilebhlaaUt
import Derived.WalkMore
set_option linter.unusedSimpArgs false
set_option linter.unusedVariables false
namespace Go.Proofs.Ythflbbjilebhlaa
open Go Go.RowKit Go.Shelf Sc
attribute [local go_sem] Oper.semAt_some

/-- Is no road too false? -/
def okB (c : Cse) (limit : Int) (s : Scl) : Bool := c.rds.all fun r => decide (offR c s r ≤ limit)
def greatF (c : Cse) (limit : Int) : Option Scl := (fitL c desc).find? (okB c limit)
def greatC (c : Cse) (limit : Int) : Scl × Int := if errC c ≠ 0 then ((0, 0), errC c) else if inB 0 1000000 limit = false then ((0, 0), 7) else match greatF c limit with | some s => (s, 0) | none => ((0, 0), 9)
theorem greatC_err {c : Cse} {l : Int} (h : errC c ≠ 0) : greatC c l = ((0, 0), errC c) := by unfold greatC; rw [if_pos h]
theorem greatC_lim {c : Cse} {l : Int} (h : errC c = 0) (h2 : inB 0 1000000 l = false) : greatC c l = ((0, 0), 7) := by unfold greatC; rw [if_neg (by simp [h]), if_pos h2]
theorem greatC_no {c : Cse} {l : Int} (h : errC c = 0) (h2 : inB 0 1000000 l = true) (h3 : greatF c l = none) : greatC c l = ((0, 0), 9) := by unfold greatC; rw [if_neg (by simp [h]), if_neg (by simp [h2]), h3]
theorem greatC_yes {c : Cse} {l : Int} {s : Scl} (h : errC c = 0) (h2 : inB 0 1000000 l = true) (h3 : greatF c l = some s) : greatC c l = (s, 0) := by unfold greatC; rw [if_neg (by simp [h]), if_neg (by simp [h2]), h3]
theorem desc_bd : ∀ s, s ∈ sbL 61 (1, 0) (0, 1) → 1 ≤ s.1 ∧ s.1 ≤ 30 ∧ 1 ≤ s.2 ∧ s.2 ≤ 30 := fun s hs => by
  have e : sbL 61 (1, 0) (0, 1) = asc.reverse := desc_rev
  rw [e, List.mem_reverse] at hs
  exact asc_bd s hs
theorem okB_at {c : Cse} {l : Int} {s : Scl} (k : Nat) (h : k < c.rds.length) (hx : l < offR c s c.rds[k]) : okB c l s = false := by
  unfold okB
  rw [List.all_eq_false]
  exact ⟨_, List.getElem_mem h, by simp; omega⟩
theorem okTo_more {c : Cse} {l : Int} {s : Scl} (k : Nat) (h : k < c.rds.length) (h1 : (c.rds.take k).all (fun r => decide (offR c s r ≤ l)) = true) (hx : ¬ l < offR c s c.rds[k]) : (c.rds.take (k + 1)).all (fun r => decide (offR c s r ≤ l)) = true := by
  rw [List.take_succ_eq_append_getElem h, List.all_append, h1]
  simp
  omega
/-- A scale and an error in their cells. -/
theorem sc_results {fn : Func} {q u : Tmp} (h : fn.results = #[.cell q 27, .cell u 28]) (tmps : Array Value) (w : World) (g g2 : Nat) (x y z : Value)
    (hp : tmps.getD q undef = .pointer (some ⟨g, 0, none⟩)) (hq : tmps.getD u undef = .pointer (some ⟨g2, 0, none⟩)) (hg : w.heap[g]? = some (.cells #[x, y] 27 (0, 0))) (hg2 : w.heap[g2]? = some (.cells #[z] 28 (0, 0))) :
    (results fn tmps).run Try.prog w = .ok (.tuple #[.agg #[x, y], z]) w := by
  have c0 : w.cell? ⟨g, 0, none⟩ = some x := cellOf hg 0 _ rfl
  have c1 : w.cell? ⟨g, 1, none⟩ = some y := cellOf hg 1 _ rfl
  have c2 : w.cell? ⟨g2, 0, none⟩ = some z := cellOf hg2 0 _ rfl
  have hp' : tmps[q]?.getD undef = .pointer (some ⟨g, 0, none⟩) := by simpa using hp
  have hq' : tmps[u]?.getD undef = .pointer (some ⟨g2, 0, none⟩) := by simpa using hq
  simp only [results, h]
  simp [Sem.run_bind, Result.andThen, hp', hq', asAddr, go_sem, c0, c1, c2]
set_option maxRecDepth 100000 in
set_option maxHeartbeats 16000000 in
theorem Greatest_any (c : Cse) (hv rv : Value) (limit : Int) (w : World) (hC : CseAt w c hv rv) :
    Calls Try.prog 27 #[.agg #[.int .i64 c.kind, .int .i64 c.base, .int .i64 c.most, hv, rv], .int .i64 limit] w fun e w' => e = .returned (.tuple #[.agg #[.int .i64 (greatC c limit).1.1, .int .i64 (greatC c limit).1.2], .int .i64 (greatC c limit).2]) ∧ Below w.heap.size w w' := by
  obtain ⟨ha, n, hc, rfl⟩ : ∃ a n c, hv = .slice a n c := by obtain ⟨_, a, cap, h, _⟩ := hC.hs; exact ⟨_, _, _, h⟩
  obtain ⟨ra, m, rc, rfl⟩ : ∃ a n c, rv = .slice a n c := by obtain ⟨_, a, cap, h, _⟩ := hC.rd; exact ⟨_, _, _, h⟩
  obtain rfl : m = c.rds.length := by obtain ⟨_, a, cap, h, _⟩ := hC.rd; simp only [Value.slice.injEq] at h; exact h.2.1
  obtain ⟨m, hmm⟩ : ∃ m, c.rds.length = m := ⟨_, rfl⟩
  rw [hmm] at hC
  rw [hmm]
  have HM := Lib.hid hmm
  obtain ⟨kind, hkind⟩ : ∃ x, c.kind = x := ⟨_, rfl⟩
  obtain ⟨base, hbase⟩ : ∃ x, c.base = x := ⟨_, rfl⟩
  obtain ⟨most, hmost⟩ : ∃ x, c.most = x := ⟨_, rfl⟩
  obtain ⟨F, hF⟩ : ∃ F, rnF c.kind = F := ⟨_, rfl⟩
  have HLK : Hid (lkV c (.slice ha n hc) (.slice ra m rc) = #[.int .i64 kind, .int .i64 base, .int .i64 most, .slice ha n hc, .slice ra m rc, .int .i64 kind, .func (.func F) #[] #[]]) := by show _ = _; unfold lkV lkC; rw [hF, hkind, hbase, hmost]
  have HOK := Lib.hid desc_bd
  obtain ⟨⟨⟨r1, r2⟩, r3⟩, hR⟩ : ∃ R, greatC c limit = R := ⟨_, rfl⟩
  have HRR := Lib.hid hR
  rw [hR, hkind, hbase, hmost]
  obtain ⟨W4, hW4, q1, q2, q3, q4, hb, hsz⟩ := al4 w (Obj.cells #[.int .i64 kind, .int .i64 base, .int .i64 most, .slice ha n hc, .slice ra m rc] 25) (Obj.cells #[.int .i64 limit] 3) (Obj.cells #[.int .i64 0, .int .i64 0] 27) (Obj.cells #[.int .i64 0] 28)
  have hlk := look_any c _ _ W4 (hC.below hb)
  obtain ⟨er, her⟩ : ∃ er, errC c = er := ⟨_, rfl⟩
  unfold LookP lk0 lkC at hlk
  rw [hkind, hbase, hmost, her, HLK.out] at hlk
  have HER := Lib.hid her
  have HLO := Lib.hid hlk
  have HW := Lib.hid hW4
  have Q1 := Lib.hid q1
  have Q2 := Lib.hid q2
  have Q3 := Lib.hid q3
  have Q4 := Lib.hid q4
  have HB := Lib.hid hb
  have HC := Lib.hid (hC.below hb)
  have HC00 := Lib.hid hC
  have c0 := cellOf q1 0 (.int .i64 kind) rfl
  have c1 := cellOf q1 1 (.int .i64 base) rfl
  have c2 := cellOf q1 2 (.int .i64 most) rfl
  have c3 := cellOf q1 3 (.slice ha n hc) rfl
  have c4 := cellOf q1 4 (.slice ra m rc) rfl
  have cl := lt_of_block q1
  clear q1 q2 q3 q4 hb hsz hlk hC hR her hkind hbase hmost hF hmm
  refine (callsIn_wide (n := 9)).1 ?_
  refine callsIn_of_wp_marks Try.func27 rfl trivial ?_ rfl
  simp only [Try.ntmps27, List.size_toArray, List.length_cons, List.length_nil, Nat.reduceAdd, Nat.reduceSub, Array.replicate_succ, Array.replicate_zero, List.push_toArray, List.append_toArray, List.nil_append, List.cons_append]
  clear hW4
  gi_wp2_with fail
  rw [HW.out]
  refine wpIn_wide.2 (wp_scope_straight ((wpIn_wide (n := 9)).1 ?_))
  gi_wp2_with fail
  refine ⟨trivial, ?_⟩
  refine (callsIn_wide.2 HLO.out).mono ?_
  rintro e w1 ⟨hy, hn', hb⟩
  have B1 := Lib.hid (HB.out.trans (hb.mono HB.out.size))
  have K1 := Lib.hid ((hb.block _ (lt_of_block Q1.out)).trans Q1.out)
  have P1 := Lib.hid ((hb.block _ (lt_of_block Q2.out)).trans Q2.out)
  have R1 := Lib.hid ((hb.block _ (lt_of_block Q3.out)).trans Q3.out)
  have E1 := Lib.hid ((hb.block _ (lt_of_block Q4.out)).trans Q4.out)
  have C1 := Lib.hid (HC.out.below hb)
  have hlz := (zero_of_info lkZero).1
  unfold lk0 lkC at hlz
  clear hb HB Q1 Q2 Q3 Q4 HC HW HLO c0 c1 c2 c3 c4 cl
  have END : Hid (∀ (V : World) (x y z : Int), V.heap[w.heap.size + 1 + 1]? = some (.cells #[.int .i64 0, .int .i64 0] 27 (0, 0)) → V.heap[w.heap.size + 1 + 1 + 1]? = some (.cells #[.int .i64 0] 28 (0, 0)) → Below w.heap.size w V →
      (((V.setCell ⟨w.heap.size + 1 + 1, 0, none⟩ (.int .i64 x)).setCell ⟨w.heap.size + 1 + 1, 1, none⟩ (.int .i64 y)).setCell ⟨w.heap.size + 1 + 1 + 1, 0, none⟩ (.int .i64 z)).heap[w.heap.size + 1 + 1]? = some (.cells #[.int .i64 x, .int .i64 y] 27 (0, 0)) ∧
      (((V.setCell ⟨w.heap.size + 1 + 1, 0, none⟩ (.int .i64 x)).setCell ⟨w.heap.size + 1 + 1, 1, none⟩ (.int .i64 y)).setCell ⟨w.heap.size + 1 + 1 + 1, 0, none⟩ (.int .i64 z)).heap[w.heap.size + 1 + 1 + 1]? = some (.cells #[.int .i64 z] 28 (0, 0)) ∧
      Below w.heap.size w (((V.setCell ⟨w.heap.size + 1 + 1, 0, none⟩ (.int .i64 x)).setCell ⟨w.heap.size + 1 + 1, 1, none⟩ (.int .i64 y)).setCell ⟨w.heap.size + 1 + 1 + 1, 0, none⟩ (.int .i64 z))) := fun V x y z h1 h2 h3 => by
    refine ⟨(heap_setCell_other _ _ _ _ (by show w.heap.size + 1 + 1 ≠ w.heap.size + 1 + 1 + 1; omega)).trans (two_set h1), ?_, (two_below (g := w.heap.size + 1 + 1) h3 (by omega)).setCell (p := ⟨w.heap.size + 1 + 1 + 1, 0, none⟩) (by show w.heap.size ≤ w.heap.size + 1 + 1 + 1; omega) _⟩
    have h4 : ((V.setCell ⟨w.heap.size + 1 + 1, 0, none⟩ (.int .i64 x)).setCell ⟨w.heap.size + 1 + 1, 1, none⟩ (.int .i64 y)).heap[w.heap.size + 1 + 1 + 1]? = some (.cells #[.int .i64 0] 28 (0, 0)) := (heap_setCell_other _ _ _ _ (by show w.heap.size + 1 + 1 + 1 ≠ w.heap.size + 1 + 1; omega)).trans ((heap_setCell_other _ _ _ _ (by show w.heap.size + 1 + 1 + 1 ≠ w.heap.size + 1 + 1; omega)).trans h2)
    exact heap_setCell_same _ (w.heap.size + 1 + 1 + 1) 0 _ _ (.int .i64 z) h4
  by_cases h0 : er = 0
  · subst h0
    obtain rfl := hy rfl
    clear hy hn'
    have HVA := Lib.hid (valid_of HER.out)
    obtain ⟨w2, hw2, G2, b2⟩ : ∃ X, w1.alloc (Obj.cells #[.int .i64 kind, .int .i64 base, .int .i64 most, .slice ha n hc, .slice ra m rc, .int .i64 kind, .func (.func F) #[] #[]] 95) = X ∧ X.heap[w1.heap.size]? = some (.cells #[.int .i64 kind, .int .i64 base, .int .i64 most, .slice ha n hc, .slice ra m rc, .int .i64 kind, .func (.func F) #[] #[]] 95 (0, 0)) ∧ Below w1.heap.size w1 X := ⟨_, rfl, heap_alloc_new _ _, by go_grown⟩
    have HW2 := Lib.hid hw2
    have HG2 := Lib.hid G2
    have K2 := Lib.hid ((b2.block _ (lt_of_block K1.out)).trans K1.out)
    have P2 := Lib.hid ((b2.block _ (lt_of_block P1.out)).trans P1.out)
    have R2 := Lib.hid ((b2.block _ (lt_of_block R1.out)).trans R1.out)
    have E2 := Lib.hid ((b2.block _ (lt_of_block E1.out)).trans E1.out)
    have C2 := Lib.hid (C1.out.below b2)
    have B2 := Lib.hid (B1.out.trans (b2.mono B1.out.size))
    have p0 : (w1.alloc (Obj.cells #[.int .i64 kind, .int .i64 base, .int .i64 most, .slice ha n hc, .slice ra m rc, .int .i64 kind, .func (.func F) #[] #[]] 95)).cell? ⟨w.heap.size + 1, 0, none⟩ = some (.int .i64 limit) := by rw [hw2]; exact cellOf P2.out 0 _ rfl
    have pl := lt_of_block P1.out
    clear G2 b2 hw2 K1 P1 R1 E1 C1 B1
    gi_wp2_with fail
    rw [HW2.out]
    have HSIZ3 : Hid (w1.heap.size + 1 = w2.heap.size) := by show _ = _; rw [← HW2.out]; simp
    obtain ⟨w3, hw3, I3, b3⟩ : ∃ X, w2.alloc (Obj.cells #[.int .i64 limit] 3) = X ∧ IntsAt X (.slice (some ⟨w1.heap.size + 1, 0, none⟩) 1 1) [limit] ∧ Below w2.heap.size w2 X := ⟨_, rfl, ints1 w2 _ HSIZ3.out limit 3, by go_grown⟩
    obtain ⟨lb, hlb⟩ : ∃ x, inB 0 1000000 limit = x := ⟨_, rfl⟩
    have hwi := within_any 0 1000000 _ [limit] w3 I3
    have e : allIn 0 1000000 [limit] = lb := by rw [← hlb]; simp [allIn]; rfl
    rw [e] at hwi
    have HWI := Lib.hid hwi
    have HLB := Lib.hid hlb
    have HG3 := Lib.hid ((b3.block _ (lt_of_block HG2.out)).trans HG2.out)
    have K3 := Lib.hid ((b3.block _ (lt_of_block K2.out)).trans K2.out)
    have P3 := Lib.hid ((b3.block _ (lt_of_block P2.out)).trans P2.out)
    have R3 := Lib.hid ((b3.block _ (lt_of_block R2.out)).trans R2.out)
    have E3 := Lib.hid ((b3.block _ (lt_of_block E2.out)).trans E2.out)
    have C3 := Lib.hid (C2.out.below b3)
    have B3 := Lib.hid (B2.out.trans (b3.mono B2.out.size))
    rw [hw3]
    clear hw3 I3 b3 hwi e hlb HG2 K2 P2 R2 E2 C2 B2 p0 pl
    refine ⟨trivial, ?_⟩
    refine (callsIn_wide.2 HWI.out).mono ?_
    rintro e w3' ⟨rfl, rfl⟩
    clear HWI HW2
    cases lb
    · have hr := greatC_lim (c := c) (l := limit) HER.out HLB.out
      rw [HRR.out] at hr
      simp only [Prod.mk.injEq] at hr
      obtain ⟨⟨rfl, rfl⟩, rfl⟩ := hr
      have HEND := Lib.hid (END.out w3 0 0 7 R3.out E3.out B3.out)
      have z0 := cellOf R3.out 0 (.int .i64 0) rfl
      have z1 := cellOf R3.out 1 (.int .i64 0) rfl
      have f0 := frozen_of_row _ _ 0 _ _ R3.out
      have f1 := frozen_of_row _ _ 1 _ _ R3.out
      have rl := lt_of_block R3.out
      have y0 := cellOf E3.out 0 (.int .i64 0) rfl
      have y1 := frozen_of_row _ _ 0 _ _ E3.out
      have yl := lt_of_block E3.out
      gi_wp2_with fail
      exact ⟨_, sc_results rfl _ _ (w.heap.size + 1 + 1) (w.heap.size + 1 + 1 + 1) _ _ _ rfl rfl HEND.out.1 HEND.out.2.1, rfl, HEND.out.2.2⟩
    · skip
      have c0 := cellOf HG3.out 0 (.int .i64 kind) rfl
      have c1 := cellOf HG3.out 1 (.int .i64 base) rfl
      have c2 := cellOf HG3.out 2 (.int .i64 most) rfl
      have c3 := cellOf HG3.out 3 (.slice ha n hc) rfl
      have c4 := cellOf HG3.out 4 (.slice ra m rc) rfl
      have c5 := cellOf HG3.out 5 (.int .i64 kind) rfl
      have c6 := cellOf HG3.out 6 (.func (.func F) #[] #[]) rfl
      have cl := lt_of_block HG3.out
      gi_wp2_with fail
      refine wpIn_wide.2 (wp_label ?_)
      gi_wp2_with fail
      refine wpIn_wide.2 ?_
      have KA : ∀ W' : World, Below w3.heap.size w3 W' → (W'.cell? ⟨w1.heap.size, 0, none⟩ = some (.int .i64 kind) ∧ W'.cell? ⟨w1.heap.size, 1, none⟩ = some (.int .i64 base) ∧ W'.cell? ⟨w1.heap.size, 2, none⟩ = some (.int .i64 most) ∧ W'.cell? ⟨w1.heap.size, 3, none⟩ = some (.slice ha n hc) ∧ W'.cell? ⟨w1.heap.size, 4, none⟩ = some (.slice ra m rc) ∧ W'.cell? ⟨w1.heap.size, 5, none⟩ = some (.int .i64 kind) ∧ W'.cell? ⟨w1.heap.size, 6, none⟩ = some (.func (.func F) #[] #[]) ∧ Below w3.heap.size w3 W') := fun W' hb => ⟨keepK c0 hb, keepK c1 hb, keepK c2 hb, keepK c3 hb, keepK c4 hb, keepK c5 hb, keepK c6 hb, hb⟩
      refine wp_region_noPanic ?_
      refine wp_region_held_drew (S := (fun W' => W'.cell? ⟨w1.heap.size, 0, none⟩ = some (.int .i64 kind) ∧ W'.cell? ⟨w1.heap.size, 1, none⟩ = some (.int .i64 base) ∧ W'.cell? ⟨w1.heap.size, 2, none⟩ = some (.int .i64 most) ∧ W'.cell? ⟨w1.heap.size, 3, none⟩ = some (.slice ha n hc) ∧ W'.cell? ⟨w1.heap.size, 4, none⟩ = some (.slice ra m rc) ∧ W'.cell? ⟨w1.heap.size, 5, none⟩ = some (.int .i64 kind) ∧ W'.cell? ⟨w1.heap.size, 6, none⟩ = some (.func (.func F) #[] #[]) ∧ Below w3.heap.size w3 W')) (by kernel_rfl) ?_ (fun hh0 => ?_)
      · exact KA _ (Below.refl _ _).drew
      refine wpAnyH_take (i := 0) (v := ?_) rfl (by as_aux_lemma => kernel_rfl) (by as_aux_lemma => kernel_rfl) (by as_aux_lemma => kernel_rfl) (fun _ _ _ h => h) (Or.inl ⟨by rfl, ?_⟩) (by assumption) ?_
      rotate_left
      · intro w hSw
        try dsimp only at hSw
        go_simp
        try with_reducible rfl
      try simp only [Act.put, List.getElem_toArray, List.getElem_cons_succ, List.getElem_cons_zero, List.setIfInBounds_toArray, List.set_cons_zero, List.set_cons_succ]
      refine wpAnyH_ready (rs := [1]) (by as_aux_lemma => kernel_rfl) (by simp) ?_
      refine AllReadyH.cons rfl (fun K hK => ?_) AllReadyH.nil
      go_simp
      refine (descending_any _).mono ?_
      rintro e wA ⟨⟨v, rfl, hE⟩, hb⟩
      obtain ⟨bf, bt, rfl, hE1, hE2⟩ := hE
      have HE1 := Lib.hid hE1
      have HE2 := Lib.hid hE2
      have HB1 : Hid (Below w3.drew.heap.size w3.drew wA) := hb
      clear hE1 hE2 hb
      refine hK.out _ _ (KA _ (Below.trans hh0.2.2.2.2.2.2.2 (Below.mono HB1.out (hh0.2.2.2.2.2.2.2).size))) (fun hh1 => ?_)
      clear hK K
      try simp only [Act.put, List.getElem_toArray, List.getElem_cons_succ, List.getElem_cons_zero, List.setIfInBounds_toArray, List.set_cons_zero, List.set_cons_succ]
      refine wpAnyH_ready (rs := [2]) (by as_aux_lemma => kernel_rfl) (by simp) ?_
      refine AllReadyH.cons rfl (fun K hK => ?_) AllReadyH.nil
      go_simp
      obtain ⟨wB, hwB, y1, y2, hb, hsB⟩ := al2 wA (Obj.cells #[.int .i64 kind, .int .i64 base, .int .i64 most, .slice ha n hc, .slice ra m rc, .int .i64 kind, .func (.func F) #[] #[]] 95) (Obj.cells #[.func (.func 117) #[] #[.pointer (some ⟨bf, 0, none⟩), .pointer (some ⟨bt, 0, none⟩)]] 118)
      have hm := models_any #[.int .i64 kind, .int .i64 base, .int .i64 most, .slice ha n hc, .slice ra m rc, .int .i64 kind, .func (.func F) #[] #[]] 117 #[.pointer (some ⟨bf, 0, none⟩), .pointer (some ⟨bt, 0, none⟩)] wA ⟨_, _, _, _, _, _, _, rfl⟩
      rw [hwB] at hm
      refine hm.mono ?_
      rintro e wB' ⟨rfl, rfl⟩
      have HY1 := Lib.hid y1
      have HY2 := Lib.hid y2
      have HB2 : Hid (Below wA.heap.size wA wB) := hb
      clear hm hwB y1 y2 hb hsB
      refine hK.out _ _ (KA _ (Below.trans hh1.2.2.2.2.2.2.2 (Below.mono HB2.out (hh1.2.2.2.2.2.2.2).size))) (fun hh2 => ?_)
      clear hK K
      try simp only [Act.put, List.getElem_toArray, List.getElem_cons_succ, List.getElem_cons_zero, List.setIfInBounds_toArray, List.set_cons_zero, List.set_cons_succ]
      refine wpAnyH_done (by as_aux_lemma => kernel_rfl) ?_ _
      refine NoPanic.normal ?_
      have HBZ := Lib.hid (hh2.2.2.2.2.2.2.2)
      have HBW := Lib.hid (B3.out.trans (HBZ.out.mono B3.out.size))
      have K5 := Lib.hid ((HBZ.out.block _ (lt_of_block K3.out)).trans K3.out)
      have P5 := Lib.hid ((HBZ.out.block _ (lt_of_block P3.out)).trans P3.out)
      have R5 := Lib.hid ((HBZ.out.block _ (lt_of_block R3.out)).trans R3.out)
      have E5 := Lib.hid ((HBZ.out.block _ (lt_of_block E3.out)).trans E3.out)
      have C5 := Lib.hid (C3.out.below HBZ.out)
      have HA5 : Hid (w3.heap.size ≤ wA.heap.size) := HB1.out.size
      have g5l := lt_of_block E3.out
      have hMX := models_X c (.slice ha n hc) (.slice ra m rc) (1, 0) (0, 1) (fun k => k < wB.heap.size ∧ k ≠ w.heap.size + 1 + 1 ∧ k ≠ w.heap.size + 1 + 1 + 1) (wA.heap.size + 1) wA.heap.size bf bt w wB HBW.out HC00.out HVA.out (fun k hk => ⟨by have := HBW.out.size; omega, by omega, by omega⟩) ⟨lt_of_block HY1.out, by have := HA5.out; omega, by have := HA5.out; omega⟩ (fun k hk => hk.1) (by decide) (by decide) (fun s hs => HOK.out s hs) HY2.out (by rw [HLK.out]; exact HY1.out) ((HB2.out.block _ (lt_of_block HE1.out)).trans HE1.out) ((HB2.out.block _ (lt_of_block HE2.out)).trans HE2.out)
      obtain ⟨FL, hFL⟩ : ∃ FL, fitL c (sbL 61 (1, 0) (0, 1)) = FL := ⟨_, rfl⟩
      rw [hFL] at hMX
      have HGF : Hid (greatF c limit = FL.find? (okB c limit)) := by show _ = _; rw [← hFL]; rfl
      have HFO : Hid (∀ s, s ∈ FL → 1 ≤ s.1 ∧ s.1 ≤ 30 ∧ 1 ≤ s.2 ∧ s.2 ≤ 30) := fun s hs => by
        rw [← hFL] at hs
        exact HOK.out s (List.mem_filter.1 hs).1
      have HPL : Hid (∀ s, (mdP c (.slice ha n hc) (.slice ra m rc) s).length = 9) := fun _ => rfl
      have HP7 : Hid (∀ s, (mdP c (.slice ha n hc) (.slice ra m rc) s)[7]? = some (.int .i64 s.1)) := fun _ => rfl
      have HP8 : Hid (∀ s, (mdP c (.slice ha n hc) (.slice ra m rc) s)[8]? = some (.int .i64 s.2)) := fun _ => rfl
      have HONE : Hid (∀ s, (mdC (mdP c (.slice ha n hc) (.slice ra m rc) s) (cut8 c s)).all (·.oneCell') = true) := fun s => md_one _ _ rfl
      have HC8 : Hid (∀ s, (cut8 c s).length = 8) := fun s => cut8_len c s
      have HFB : Hid (∀ s V r, s ∈ FL → r ∈ c.rds → CseAt V c (.slice ha n hc) (.slice ra m rc) → Calls Try.prog 59 #[.agg (mdC (mdP c (.slice ha n hc) (.slice ra m rc) s) (cut8 c s)), .agg #[.int .i64 r.1, .int .i64 r.2]] V fun e w' => e = .returned (.int .i64 (offR c s r)) ∧ Below V.heap.size V w') := fun s V r hs hr hc => falseBy_any c _ _ s r V hc HVA.out (HFO.out s hs) (valid_road HVA.out r hr)
      have hz := (zero_of_info mdZero).1
      obtain ⟨mp, hmp⟩ : ∃ mp : Scl → List Value, (fun s => mdP c (.slice ha n hc) (.slice ra m rc) s) = mp := ⟨_, rfl⟩
      obtain ⟨mc, hmc⟩ : ∃ mc : Scl → List Int, (fun s => cut8 c s) = mc := ⟨_, rfl⟩
      have emp : ∀ s, mdP c (.slice ha n hc) (.slice ra m rc) s = mp s := fun s => by rw [← hmp]
      have emc : ∀ s, cut8 c s = mc s := fun s => by rw [← hmc]
      have eenc : encM c (.slice ha n hc) (.slice ra m rc) = fun s => #[.agg (mdC (mp s) (mc s))] := by funext s; unfold encM; rw [emp, emc]
      simp only [emp, emc] at HPL HP7 HP8 HONE HC8 HFB
      rw [eenc] at hMX
      have HMX := Lib.hid hMX
      have HSIZ : Hid (∀ s, (mdC (mp s) (mc s)).size = 17) := fun s => by rw [md_size, HPL.out, HC8.out]
      have HZ17 : Hid ((mdC pf0 z8).size = 17) := by show _ = _; rw [md_size]; rfl
      have HRD := Lib.hid (C5.out.rd)
      clear hMX hFL hmp hmc emp emc eenc HFO HY1 HY2 HE1 HE2 HB1 HB2 c0 c1 c2 c3 c4 c5 c6 cl KA K3 P3 R3 E3 C3 B3 HG3 HBZ
      gi_wp2_with fail
      refine wpIn_rangeFunc_X rfl (enters_of Try.func99 (by kernel_rfl) rfl) HMX.out (Below.refl _ _) (fun _ => rfl) (fun k hk => hk.1)
        (fun pre V => pre <+: FL ∧ (∀ x, x ∈ pre → okB c limit x = false) ∧ Below wB.heap.size wB V)
        (fun cd pre V => cd = .ret ∧ (∃ q x, pre = q ++ [x] ∧ pre <+: FL ∧ (∀ y, y ∈ q → okB c limit y = false) ∧ okB c limit x = true ∧ V.heap[w.heap.size + 1 + 1]? = some (.cells #[.int .i64 x.1, .int .i64 x.2] 27 (0, 0))) ∧ V.heap[w.heap.size + 1 + 1 + 1]? = some (.cells #[.int .i64 0] 28 (0, 0)) ∧ Below w.heap.size w V)
        (OwnFrom.and (fun _ _ _ _ h _ _ => h) (OwnFrom.and (fun _ _ _ _ h _ _ => h) (ownFrom_below (Nat.le_refl _) (Nat.le_refl _))))
        (fun cd => OwnFrom.and (fun _ _ _ _ h _ _ => h) (OwnFrom.and (fun s X Y row h hg hr => by
          obtain ⟨q, x, h1, h2, h3, h4, h5⟩ := h
          exact ⟨q, x, h1, h2, h3, h4, (Own.from (blk_own (β := Unit) _ (fun _ => _) _ _) wB.heap.size) () X Y row h5 hg hr⟩) (OwnFrom.and (Own.from (blk_own _ (fun _ => _) _ _) _) (ownFrom_below (Nat.le_refl _) HBW.out.size))))
        ⟨List.nil_prefix, fun x hx => (by cases hx), Below.refl _ _⟩
        (fun pre x a' V => pre ++ [x] <+: FL ∧ ∃ Bx, wB.heap.size ≤ Bx ∧ V.heap[Bx]? = some (.cells (mdC (mp x) (mc x)) 99 (0, 0)) ∧ a' = { tmps := #[.agg #[.int .i64 kind, .int .i64 base, .int .i64 most, .slice ha n hc, .slice ra m rc], .int .i64 limit, .pointer (some ⟨w.heap.size, 0, none⟩), .pointer (some ⟨w.heap.size + 1, 0, none⟩), .pointer (some ⟨w.heap.size + 1 + 1, 0, none⟩), .pointer (some ⟨w.heap.size + 1 + 1 + 1, 0, none⟩), .pointer (some ⟨w1.heap.size, 0, none⟩), .int .i64 0, .pointer (some ⟨Bx, 0, none⟩), undef, undef, .tuple #[.agg #[.int .i64 kind, .int .i64 base, .int .i64 most, .slice ha n hc, .slice ra m rc, .int .i64 kind, .func (.func F) #[] #[]], .int .i64 0], .agg #[.int .i64 kind, .int .i64 base, .int .i64 most, .slice ha n hc, .slice ra m rc], .tuple #[.agg #[.int .i64 kind, .int .i64 base, .int .i64 most, .slice ha n hc, .slice ra m rc, .int .i64 kind, .func (.func F) #[] #[]], .int .i64 0], .agg #[.int .i64 kind, .int .i64 base, .int .i64 most, .slice ha n hc, .slice ra m rc, .int .i64 kind, .func (.func F) #[] #[]], .int .i64 0, .int .i64 0, .bool false, undef, undef, .int .i64 limit, .slice (some ⟨w1.heap.size + 1, 0, none⟩) 1 1, .bool true, .bool false, undef, .agg #[.int .i64 kind, .int .i64 base, .int .i64 most, .slice ha n hc, .slice ra m rc, .int .i64 kind, .func (.func F) #[] #[]], (.func (.func 117) #[] #[.pointer (some ⟨bf, 0, none⟩), .pointer (some ⟨bt, 0, none⟩)]), (.func (.func 99) #[] #[.pointer (some ⟨wA.heap.size + 1, 0, none⟩), .pointer (some ⟨wA.heap.size, 0, none⟩)]), .agg (mdC (mp x) (mc x)), undef, undef, undef, undef, undef, undef, undef, undef, undef, undef, undef, undef, undef, undef, undef, undef], defers := [] })
        ?hAx ?assign ?body ?done ?stop
      case hAx =>
        rintro pre x a' _ X Y row ⟨h0, Bx, h1, h2, h3⟩ hg hr
        exact ⟨h0, Bx, h1, (Own.from (blk_own (β := Unit) _ (fun _ => _) _ _) wB.heap.size) () X Y row h2 hg hr, h3⟩
      case assign =>
        rintro l' m' pre x V K ⟨i0, i1, i2⟩ hvx hK
        have hn2 := heap_alloc_new V (Obj.cells (mdC pf0 z8) 99)
        have hz2 := md_putIn (C := mdC (mp x) (mc x)) hn2
        have hb : Below V.heap.size V ((V.alloc (Obj.cells (mdC pf0 z8) 99)).setRow V.heap.size (mdC (mp x) (mc x))) := below_setRow (by go_grown) (Nat.le_refl _) _
        have hszV : wB.heap.size ≤ V.heap.size := i2.size
        have HN2 := Lib.hid hn2
        clear hn2
        gi_wp2_with (refine md_storeIn rfl (.tmp 8) (.tmp 28) rfl V.heap.size rfl (mdC (mp x) (mc x)) (mdC pf0 z8) rfl HN2.out (HSIZ.out x) HZ17.out (HONE.out x) rfl ?_)
        exact hK _ _ (keptO_of_below hb) ⟨i0, i1, i2.trans (hb.mono i2.size)⟩ ⟨hvx, _, hszV, hz2, rfl⟩
      case body =>
        rintro l' m' pre x a' V hl ⟨i0, i1, i2⟩ ⟨hvx, Bx, hBx, iX, rfl⟩ hlt
        have I1 := Lib.hid i1
        have I2 := Lib.hid i2
        have HVX := Lib.hid hvx
        have IX : Hid (MdBlk V Bx (mp x) (mc x)) := iX
        have hxin := hvx.subset (show x ∈ pre ++ [x] by simp)
        have HXIN := Lib.hid hxin
        have K6 := Lib.hid ((i2.block _ (lt_of_block K5.out)).trans K5.out)
        have P6 := Lib.hid ((i2.block _ (lt_of_block P5.out)).trans P5.out)
        have R6 := Lib.hid ((i2.block _ (lt_of_block R5.out)).trans R5.out)
        have E6 := Lib.hid ((i2.block _ (lt_of_block E5.out)).trans E5.out)
        have C6 := Lib.hid (C5.out.below i2)
        have c4 := cellOf K6.out 4 (.slice ra m rc) rfl
        have cl := lt_of_block K6.out
        have m8 : m ≤ 8 := by rw [← HM.out]; exact HVA.out.r8
        have mI : (m : Int) ≤ 8 := by omega
        clear i0 i1 i2 iX hvx hxin hlt
        gi_wp2_with fail
        clear c4 cl
        gi_loopw [32] (fun i wr => ∃ k : Nat, k ≤ m ∧ i = .int .i64 (k : Int) ∧ Hid ((c.rds.take k).all (fun r => decide (offR c x r ≤ limit)) = true) ∧ Hid (Below V.heap.size V wr)) (fun i _ => m - (intOf i).toNat)
        case atStart => exact ⟨0, by omega, rfl, rfl, Below.refl _ _⟩
        case round =>
          obtain ⟨k, hkm, rfl, HA, HL⟩ := hrel
          by_cases hlt : k < m
          · have kI : (k : Int) < (m : Int) := by omega
            have kz : (0 : Int) ≤ (k : Int) := by omega
            have hk' : k < c.rds.length := by rw [HM.out]; exact hlt
            have C7 := C6.out.below HL.out
            obtain ⟨b, o, rfl, d0, d1⟩ := C7.rd.get hk'
            have HMO := Lib.hid (okTo_more (l := limit) (s := x) k hk' HA.out)
            have HAT := Lib.hid (okB_at (l := limit) (s := x) k hk')
            obtain ⟨w6, hw6, z6, b6⟩ : ∃ X, wr.alloc (Obj.cells #[.int .i64 c.rds[k].1, .int .i64 c.rds[k].2] 79) = X ∧ X.heap[wr.heap.size]? = some (.cells #[.int .i64 c.rds[k].1, .int .i64 c.rds[k].2] 79 (0, 0)) ∧ Below wr.heap.size wr X := ⟨_, rfl, heap_alloc_new _ _, by go_grown⟩
            have HFX : Hid (∀ V', Below w6.heap.size w6 V' → Calls Try.prog 59 #[.agg (mdC (mp x) (mc x)), .agg #[.int .i64 c.rds[k].1, .int .i64 c.rds[k].2]] V' fun e w' => e = .returned (.int .i64 (offR c x c.rds[k])) ∧ Below V'.heap.size V' w') := fun V' hV' => HFB.out x V' c.rds[k] HXIN.out (List.getElem_mem hk') ((C7.below b6).below hV')
            obtain ⟨rr, hrr⟩ : ∃ r, c.rds[k] = r := ⟨_, rfl⟩
            rw [hrr] at d0 d1 hw6 z6 HFX HMO HAT
            obtain ⟨r1', r2'⟩ := rr
            obtain ⟨X, hX⟩ : ∃ X, offR c x (r1', r2') = X := ⟨_, rfl⟩
            rw [hX] at HFX HMO HAT
            simp only at d0 d1 hw6 z6 HFX
            have b6' := HL.out.trans (b6.mono HL.out.size)
            have L6 := Lib.hid b6'
            have M6 := Lib.hid (IX.out.below b6' IX.out.lt)
            have HW6 := Lib.hid hw6
            have l0 := cellOf ((b6'.block _ (lt_of_block P6.out)).trans P6.out) 0 (.int .i64 limit) rfl
            have e0 := cellOf z6 0 (.int .i64 r1') rfl
            have e1 := cellOf z6 1 (.int .i64 r2') rfl
            have dl := World.block_lt_of_cell? wr ⟨b, o + k * 2, none⟩ d0
            clear hk' C7 hrr hX b6 b6' z6 hw6 HA
            gi_wp2_with fail
            rw [HW6.out]
            clear d0 d1 dl
            refine wpIn_region_held (S := (fun W' => W'.cell? ⟨(w.heap.size + 1), 0, none⟩ = some (.int .i64 limit) ∧ W'.cell? ⟨wr.heap.size, 0, none⟩ = some (.int .i64 r1') ∧ W'.cell? ⟨wr.heap.size, 1, none⟩ = some (.int .i64 r2') ∧ Below w6.heap.size w6 W')) (by kernel_rfl) (by kernel_rfl) (by rintro ⟨_, _, h⟩; exact h) ?_ (fun hh0 => ?_)
            · try dsimp only
              exact ⟨l0, e0, e1, (Below.refl _ _).drew⟩
            refine wpAnyH_take (i := 0) (v := .agg (mdC (mp x) (mc x))) rfl (by as_aux_lemma => kernel_rfl) (by as_aux_lemma => kernel_rfl) (by as_aux_lemma => kernel_rfl) (fun _ _ _ h => h) (Or.inl ⟨by rfl, ?_⟩) (by assumption) ?_
            · intro w hSw; exact exec_md (by rfl) (by rfl) _ (M6.out.below hSw.2.2.2 M6.out.lt) (HPL.out x) (HC8.out x)
            try simp only [Act.put, List.getElem_toArray, List.getElem_cons_succ, List.getElem_cons_zero, List.setIfInBounds_toArray, List.set_cons_zero, List.set_cons_succ]
            refine wpAnyH_take (i := 1) (v := ?_) rfl (by as_aux_lemma => kernel_rfl) (by as_aux_lemma => kernel_rfl) (by as_aux_lemma => kernel_rfl) (fun _ _ _ h => h) (Or.inl ⟨by rfl, ?_⟩) (by assumption) ?_
            rotate_left
            · intro w hSw
              try dsimp only at hSw
              go_simp
              try with_reducible rfl
            try simp only [Act.put, List.getElem_toArray, List.getElem_cons_succ, List.getElem_cons_zero, List.setIfInBounds_toArray, List.set_cons_zero, List.set_cons_succ]
            refine wpAnyH_take (i := 3) (v := ?_) rfl (by as_aux_lemma => kernel_rfl) (by as_aux_lemma => kernel_rfl) (by as_aux_lemma => kernel_rfl) (fun _ _ _ h => h) (Or.inl ⟨by rfl, ?_⟩) (by assumption) ?_
            rotate_left
            · intro w hSw
              try dsimp only at hSw
              go_simp
              try with_reducible rfl
            try simp only [Act.put, List.getElem_toArray, List.getElem_cons_succ, List.getElem_cons_zero, List.setIfInBounds_toArray, List.set_cons_zero, List.set_cons_succ]
            refine wpAnyH_ready (rs := [2]) (by as_aux_lemma => kernel_rfl) (by simp) ?_
            refine AllReadyH.cons rfl (fun K hK => ?_) AllReadyH.nil
            go_simp
            refine (HFX.out _ hh0.2.2.2).mono ?_
            rintro e w7 ⟨rfl, hb7⟩
            refine hK.out _ _ ?_ (fun hh1 => ?_)
            · try dsimp only
              exact ⟨keepK hh0.1 hb7, keepK hh0.2.1 hb7, keepK hh0.2.2.1 hb7, hh0.2.2.2.trans (hb7.mono hh0.2.2.2.size)⟩
            clear hK K hh0
            try simp only [Act.put, List.getElem_toArray, List.getElem_cons_succ, List.getElem_cons_zero, List.setIfInBounds_toArray, List.set_cons_zero, List.set_cons_succ]
            refine wpAnyH_take (i := 4) (v := ?_) rfl (by as_aux_lemma => kernel_rfl) (by as_aux_lemma => kernel_rfl) (by as_aux_lemma => kernel_rfl) (fun _ _ _ h => h) (Or.inl ⟨by rfl, ?_⟩) (by assumption) ?_
            rotate_left
            · intro w hSw
              try dsimp only at hSw
              go_simp
              try with_reducible rfl
            try simp only [Act.put, List.getElem_toArray, List.getElem_cons_succ, List.getElem_cons_zero, List.setIfInBounds_toArray, List.set_cons_zero, List.set_cons_succ]
            refine wpAnyH_done (by as_aux_lemma => kernel_rfl) ?_ _
            have L7 := Lib.hid (L6.out.trans (hh1.2.2.2.mono L6.out.size))
            by_cases hx : limit < X
            · have hno := HAT.out hx
              have HNO := Lib.hid hno
              clear hno
              gi_wp2_with fail
              refine ⟨keptO_of_below L7.out, HVX.out, fun y hy => ?_, I2.out.trans (L7.out.mono I2.out.size)⟩
              rcases List.mem_append.1 hy with h | h
              · exact I1.out y h
              · simp at h; subst h; exact HNO.out
            · have HMR := Lib.hid (HMO.out (by omega))
              gi_wp2_with fail
              go_roundw
              case rel => exact ⟨k + 1, by omega, by go_num, HMR, L7⟩
              case measure => simp [intOf]; omega
          · obtain rfl : k = m := by omega
            have hall : okB c limit x = true := by
              have h := HA.out
              rw [List.take_of_length_le (by rw [HM.out]; exact Nat.le_refl _)] at h
              exact h
            have HALL := Lib.hid hall
            have M6 := IX.out.below HL.out IX.out.lt
            have m7 := M6.cp 7 _ (HP7.out x)
            have m8' := M6.cp 8 _ (HP8.out x)
            have ml := M6.lt
            have R7 := Lib.hid ((HL.out.block _ (lt_of_block R6.out)).trans R6.out)
            have E7 := Lib.hid ((HL.out.block _ (lt_of_block E6.out)).trans E6.out)
            have BW := HBW.out.trans (I2.out.mono HBW.out.size)
            have HEND := Lib.hid (END.out wr x.1 x.2 0 R7.out E7.out (BW.trans (HL.out.mono BW.size)))
            have z0 := cellOf R7.out 0 (.int .i64 0) rfl
            have z1 := cellOf R7.out 1 (.int .i64 0) rfl
            have f0 := frozen_of_row _ _ 0 _ _ R7.out
            have f1 := frozen_of_row _ _ 1 _ _ R7.out
            have rl := lt_of_block R7.out
            have y0 := cellOf E7.out 0 (.int .i64 0) rfl
            have y1 := frozen_of_row _ _ 0 _ _ E7.out
            have yl := lt_of_block E7.out
            have kI : ¬ (k : Int) < (k : Int) := by omega
            have hg4 : w.heap.size + 1 + 1 < wB.heap.size := lt_of_block R5.out
            have hg5 : w.heap.size + 1 + 1 + 1 < wB.heap.size := lt_of_block E5.out
            clear hall M6 BW hlt
            gi_wp2_with fail
            first
              | exact ⟨(((keptO_of_below HL.out).setCell _ _ (by show w.heap.size + 1 + 1 < _; omega) (fun h => h.2.1 rfl)).setCell _ _ (by show w.heap.size + 1 + 1 < _; omega) (fun h => h.2.1 rfl)).setCell _ _ (by show w.heap.size + 1 + 1 + 1 < _; omega) (fun h => h.2.2 rfl), rfl, ⟨pre, x, rfl, HVX.out, I1.out, HALL.out, HEND.out.1⟩, HEND.out.2.1, HEND.out.2.2⟩
              | exact ⟨(((keptO_of_below HL.out).setCell _ _ (by show w.heap.size + 1 + 1 < _; omega) (fun h => h.2.1 rfl)).setCell _ _ (by show w.heap.size + 1 + 1 < _; omega) (fun h => h.2.1 rfl)).setCell _ _ (by show w.heap.size + 1 + 1 + 1 < _; omega) (fun h => h.2.2 rfl), rfl, ⟨pre, x.1, x.2, rfl, HVX.out, (fun a b h => I1.out _ h), HALL.out, HEND.out.1⟩, HEND.out.2.1, HEND.out.2.2⟩
      case done =>
        rintro D ys V hD rfl ⟨i0, i1, i2⟩ hK
        have hno : ys.find? (okB c limit) = none := List.find?_eq_none.2 (fun y hy => by simp [i1 y hy])
        have hr := greatC_no (c := c) (l := limit) HER.out HLB.out (HGF.out.trans hno)
        rw [HRR.out] at hr
        simp only [Prod.mk.injEq] at hr
        obtain ⟨⟨rfl, rfl⟩, rfl⟩ := hr
        have R6 := Lib.hid ((i2.block _ (lt_of_block R5.out)).trans R5.out)
        have E6 := Lib.hid ((i2.block _ (lt_of_block E5.out)).trans E5.out)
        have HEND := Lib.hid (END.out V 0 0 9 R6.out E6.out (HBW.out.trans (i2.mono HBW.out.size)))
        have HK := Lib.hid hK
        have z0 := cellOf R6.out 0 (.int .i64 0) rfl
        have z1 := cellOf R6.out 1 (.int .i64 0) rfl
        have f0 := frozen_of_row _ _ 0 _ _ R6.out
        have f1 := frozen_of_row _ _ 1 _ _ R6.out
        have rl := lt_of_block R6.out
        have y0 := cellOf E6.out 0 (.int .i64 0) rfl
        have y1 := frozen_of_row _ _ 0 _ _ E6.out
        have yl := lt_of_block E6.out
        have hg4 : w.heap.size + 1 + 1 < wB.heap.size := lt_of_block R5.out
        have hg5 : w.heap.size + 1 + 1 + 1 < wB.heap.size := lt_of_block E5.out
        clear i0 i1 i2 hK hno
        gi_wp2_with fail
        have hk5 : (((V.setCell ⟨w.heap.size + 1 + 1, 0, none⟩ (.int .i64 0)).setCell ⟨w.heap.size + 1 + 1, 1, none⟩ (.int .i64 0)).setCell ⟨w.heap.size + 1 + 1 + 1, 0, none⟩ (.int .i64 9)).heap[D]? = some (.deferred (some [])) :=
          (heap_setCell_other _ _ _ _ (by show D ≠ w.heap.size + 1 + 1 + 1; omega)).trans ((heap_setCell_other _ _ _ _ (by show D ≠ w.heap.size + 1 + 1; omega)).trans ((heap_setCell_other _ _ _ _ (by show D ≠ w.heap.size + 1 + 1; omega)).trans HK.out))
        refine ⟨by simp, .inl ⟨_, _, rfl, run_takeDeferred hk5, ?_⟩⟩
        refine ⟨_, sc_results rfl _ _ (w.heap.size + 1 + 1) (w.heap.size + 1 + 1 + 1) _ _ _ rfl rfl ((World.putObj_heap_other (by omega)).trans HEND.out.1) ((World.putObj_heap_other (by omega)).trans HEND.out.2.1), rfl, ?_⟩
        exact below_put _ HEND.out.2.2 (Nat.le_refl _) (by have := HBW.out.size; omega) hk5 rfl
      case stop =>
        rintro D cd pre V hD hpre ⟨rfl, ⟨q, x, rfl, j1, j2, j3, j4⟩, i3, i4⟩ hK
        have hyes : FL.find? (okB c limit) = some x := find_at j1 j2 j3
        have hr := greatC_yes (c := c) (l := limit) HER.out HLB.out (HGF.out.trans hyes)
        rw [HRR.out] at hr
        obtain ⟨x1, x2⟩ := x
        simp only [Prod.mk.injEq] at hr
        obtain ⟨⟨rfl, rfl⟩, rfl⟩ := hr
        have I2 := Lib.hid j4
        have I3 := Lib.hid i3
        have I4 := Lib.hid i4
        have HK := Lib.hid hK
        have hg4 : w.heap.size + 1 + 1 < wB.heap.size := lt_of_block R5.out
        have hg5 : w.heap.size + 1 + 1 + 1 < wB.heap.size := lt_of_block E5.out
        clear j1 j2 j3 j4 i3 i4 hK hyes
        gi_wp2_with fail
        refine ⟨by simp, .inl ⟨_, _, rfl, run_takeDeferred HK.out, ?_⟩⟩
        refine ⟨_, sc_results rfl _ _ (w.heap.size + 1 + 1) (w.heap.size + 1 + 1 + 1) _ _ _ rfl rfl ((World.putObj_heap_other (by omega)).trans I2.out) ((World.putObj_heap_other (by omega)).trans I3.out), rfl, ?_⟩
        exact below_put _ I4.out (Nat.le_refl _) (by have := HBW.out.size; omega) HK.out rfl
  · obtain rfl := hn' h0
    clear hy hn'
    have hr := greatC_err (c := c) (l := limit) (by rw [HER.out]; exact h0)
    rw [HRR.out, HER.out] at hr
    simp only [Prod.mk.injEq] at hr
    obtain ⟨⟨rfl, rfl⟩, rfl⟩ := hr
    have tz : (r3 != 0) = true := by simp [h0]
    have HEND := Lib.hid (END.out w1 0 0 r3 R1.out E1.out B1.out)
    have z0 := cellOf R1.out 0 (.int .i64 0) rfl
    have z1 := cellOf R1.out 1 (.int .i64 0) rfl
    have f0 := frozen_of_row _ _ 0 _ _ R1.out
    have f1 := frozen_of_row _ _ 1 _ _ R1.out
    have rl := lt_of_block R1.out
    have y0 := cellOf E1.out 0 (.int .i64 0) rfl
    have y1 := frozen_of_row _ _ 0 _ _ E1.out
    have yl := lt_of_block E1.out
    gi_wp2_with fail
    exact ⟨_, sc_results rfl _ _ (w.heap.size + 1 + 1) (w.heap.size + 1 + 1 + 1) _ _ _ rfl rfl ((Below.heap_alloc _ _ _ (lt_of_block HEND.out.1)).trans HEND.out.1) ((Below.heap_alloc _ _ _ (lt_of_block HEND.out.2.1)).trans HEND.out.2.1), rfl, HEND.out.2.2.alloc HEND.out.2.2.size _⟩
end Go.Proofs.Ythflbbjilebhlaa
