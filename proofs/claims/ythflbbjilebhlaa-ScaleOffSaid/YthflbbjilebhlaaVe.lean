/- Package scale: Least. -/
import Derived.Test.YthflbbjilebhlaaVd
import Derived.Test.YthflbbjilebhlaaUb
set_option linter.unusedSimpArgs false
set_option linter.unusedVariables false
namespace Go.Proofs.Ythflbbjilebhlaa
open Go Go.RowKit Go.Shelf Sc

theorem step_mdst {ops : Array Oper} {o : Oper} {a : Act} {K : Act → World → Prop} {Q : Exit → Act → World → Prop} {E : Prop} {w : World} (hgd : o.guard = none) (x y : Operand) (ho : o.op = .store 99 x y)
    (g : Nat) (hx : a.eval x = .pointer (some ⟨g, 0, none⟩)) (C old : Array Value) (hy : a.eval y = .agg C) (hF : w.heap[g]? = some (.cells old 99 (0, 0))) (hs : C.size = 17) (hs' : old.size = 17) (h1 : C.all (·.oneCell') = true) (hd : o.dst = none)
    (h : K a (w.setRow g C)) : if Region.wanted o (yielded ops a.tmps) = true then Oper.wp Try.prog o a w K Q else E := by
  rw [if_pos (by simp [Region.wanted, hgd])]
  exact wp_store_row 99 x y ho g C hx hy 99 old hF (by rw [mdSize, hs]) (by rw [hs, hs']) h1 (by rw [hd]; exact h)
/-- A scale in its cell, and an error. -/
theorem sc_result2 {fn : Func} {q u : Tmp} (h : fn.results = #[.cell q 27, .tmp u]) (tmps : Array Value) (w : World) (g : Nat) (x y : Value)
    (hp : tmps.getD q undef = .pointer (some ⟨g, 0, none⟩)) (hg : w.heap[g]? = some (.cells #[x, y] 27 (0, 0))) :
    (results fn tmps).run Try.prog w = .ok (.tuple #[.agg #[x, y], tmps.getD u undef]) w := by
  have c0 : w.cell? ⟨g, 0, none⟩ = some x := cellOf hg 0 _ rfl
  have c1 : w.cell? ⟨g, 1, none⟩ = some y := cellOf hg 1 _ rfl
  have hp' : tmps[q]?.getD undef = .pointer (some ⟨g, 0, none⟩) := by simpa using hp
  simp only [results, h]
  simp [Sem.run_bind, Result.andThen, hp', asAddr, go_sem, c0, c1]
/-- The scales that fit with which no road is flat: the first one; what Least answers. -/
def leastF (c : Cse) : Option Scl := (fitL c asc).find? (seenB c)
def leastC (c : Cse) : Scl × Int := if errC c ≠ 0 then ((0, 0), errC c) else match leastF c with | some s => (s, 0) | none => ((0, 0), 9)
theorem leastC_err {c : Cse} (h : errC c ≠ 0) : leastC c = ((0, 0), errC c) := by unfold leastC; rw [if_pos h]
theorem leastC_no {c : Cse} (h : errC c = 0) (h2 : leastF c = none) : leastC c = ((0, 0), 9) := by unfold leastC; rw [if_neg (by simp [h]), h2]
theorem leastC_yes {c : Cse} {s : Scl} (h : errC c = 0) (h2 : leastF c = some s) : leastC c = (s, 0) := by unfold leastC; rw [if_neg (by simp [h]), h2]
theorem asc_bd : ∀ s, s ∈ sbL 61 (0, 1) (1, 0) → 1 ≤ s.1 ∧ s.1 ≤ 30 ∧ 1 ≤ s.2 ∧ s.2 ≤ 30 := fun s hs => by
  have h := sclE_zero (asc_ok s hs)
  exact ⟨h.1, h.2.1, h.2.2.1, h.2.2.2.1⟩
set_option maxRecDepth 100000 in
set_option maxHeartbeats 8000000 in
theorem Least_any (c : Cse) (hv rv : Value) (w : World) (hC : CseAt w c hv rv) :
    Calls Try.prog 29 #[.agg #[.int .i64 c.kind, .int .i64 c.base, .int .i64 c.most, hv, rv]] w fun e w' => e = .returned (.tuple #[.agg #[.int .i64 (leastC c).1.1, .int .i64 (leastC c).1.2], .int .i64 (leastC c).2]) ∧ Below w.heap.size w w' := by
  obtain ⟨ha, n, hc, rfl⟩ : ∃ a n c, hv = .slice a n c := by obtain ⟨_, a, cap, h, _⟩ := hC.hs; exact ⟨_, _, _, h⟩
  obtain ⟨ra, m, rc, rfl⟩ : ∃ a n c, rv = .slice a n c := by obtain ⟨_, a, cap, h, _⟩ := hC.rd; exact ⟨_, _, _, h⟩
  obtain ⟨kind, hkind⟩ : ∃ x, c.kind = x := ⟨_, rfl⟩
  obtain ⟨base, hbase⟩ : ∃ x, c.base = x := ⟨_, rfl⟩
  obtain ⟨most, hmost⟩ : ∃ x, c.most = x := ⟨_, rfl⟩
  obtain ⟨F, hF⟩ : ∃ F, rnF c.kind = F := ⟨_, rfl⟩
  have HLK : Hid (lkV c (.slice ha n hc) (.slice ra m rc) = #[.int .i64 kind, .int .i64 base, .int .i64 most, .slice ha n hc, .slice ra m rc, .int .i64 kind, .func (.func F) #[] #[]]) := by show _ = _; unfold lkV lkC; rw [hF, hkind, hbase, hmost]
  have HOK := Lib.hid asc_bd
  obtain ⟨⟨⟨r1, r2⟩, r3⟩, hR⟩ : ∃ R, leastC c = R := ⟨_, rfl⟩
  have HRR := Lib.hid hR
  rw [hR]
  obtain ⟨p, cs, bb, HPL, HC8, HONE, HRES, HYES, HNO⟩ : ∃ (p : List Value) (cs : List Int) (bb : Bool), Hid (p.length = 9) ∧ Hid (cs.length = 8) ∧ Hid ((mdC p cs).all (·.oneCell') = true) ∧
      Hid (∀ e : Ending, (∀ s, (fitL c (sbL 61 (0, 1) (1, 0))).find? (seenB c) = some s → e = .returned (.tuple #[.agg (mdC (mdP c (.slice ha n hc) (.slice ra m rc) s) (cut8 c s)), .bool true])) → ((fitL c (sbL 61 (0, 1) (1, 0))).find? (seenB c) = none → e = .returned (.tuple #[.agg (mdC pf0 z8), .bool false])) → e = .returned (.tuple #[.agg (mdC p cs), .bool bb])) ∧
      Hid (bb = true → ∃ s1 s2, leastF c = some (s1, s2) ∧ p[7]? = some (.int .i64 s1) ∧ p[8]? = some (.int .i64 s2)) ∧ Hid (bb = false → leastF c = none) := by
    cases hfd : (fitL c (sbL 61 (0, 1) (1, 0))).find? (seenB c) with
    | none => exact ⟨pf0, z8, false, rfl, rfl, md_one _ _ rfl, fun e _ h2 => h2 rfl, fun h => (by cases h), fun _ => hfd⟩
    | some s => exact ⟨mdP c (.slice ha n hc) (.slice ra m rc) s, cut8 c s, true, rfl, cut8_len c s, md_one _ _ rfl, fun e h1 _ => h1 s rfl, fun _ => ⟨s.1, s.2, hfd, rfl, rfl⟩, fun h => (by cases h)⟩
  have HSZ : Hid ((mdC p cs).size = 17) := by show _ = _; rw [md_size, HPL.out, HC8.out]
  have HZ17 : Hid ((mdC pf0 z8).size = 17) := by show _ = _; rw [md_size]; rfl
  rw [hkind, hbase, hmost]
  obtain ⟨W, hW, q1, q2, hb, hsz⟩ := al2 w (Obj.cells #[.int .i64 kind, .int .i64 base, .int .i64 most, .slice ha n hc, .slice ra m rc] 25) (Obj.cells #[.int .i64 0, .int .i64 0] 27)
  have hlk := look_any c _ _ W (hC.below hb)
  obtain ⟨er, her⟩ : ∃ er, errC c = er := ⟨_, rfl⟩
  unfold LookP lk0 lkC at hlk
  rw [hkind, hbase, hmost, her, HLK.out] at hlk
  have HER := Lib.hid her
  have HLO := Lib.hid hlk
  have HW := Lib.hid hW
  have Q1 := Lib.hid q1
  have Q2 := Lib.hid q2
  have HB := Lib.hid hb
  have HC := Lib.hid (hC.below hb)
  have c0 := cellOf q1 0 (.int .i64 kind) rfl
  have c1 := cellOf q1 1 (.int .i64 base) rfl
  have c2 := cellOf q1 2 (.int .i64 most) rfl
  have c3 := cellOf q1 3 (.slice ha n hc) rfl
  have c4 := cellOf q1 4 (.slice ra m rc) rfl
  have cl := lt_of_block q1
  have HCSE : Hid (∀ V : World, V.heap[w.heap.size]? = some (.cells #[.int .i64 kind, .int .i64 base, .int .i64 most, .slice ha n hc, .slice ra m rc] 25 (0, 0)) → V.heap[w.heap.size]? = some (.cells #[.int .i64 c.kind, .int .i64 c.base, .int .i64 c.most, .slice ha n hc, .slice ra m rc] 25 (0, 0))) := fun V h => by rw [hkind, hbase, hmost]; exact h
  clear hW q1 q2 hb hsz hlk hC hR her hkind hbase hmost hF
  go_enter Try.func29, Try.ntmps29
  go_upto_region 1 with fail
  rw [HW.out]
  go_wp2_with fail
  refine HLO.out.mono ?_
  rintro e w1 ⟨hy, hn', hb⟩
  have B1 := Lib.hid (HB.out.trans (hb.mono HB.out.size))
  have K1 := Lib.hid ((hb.block _ (lt_of_block Q1.out)).trans Q1.out)
  have R1 := Lib.hid ((hb.block _ (lt_of_block Q2.out)).trans Q2.out)
  have C1 := Lib.hid (HC.out.below hb)
  have hlz := (zero_of_info lkZero).1
  unfold lk0 lkC at hlz
  clear hb HB Q1 Q2 HC HW HLO c0 c1 c2 c3 c4 cl
  by_cases h0 : er = 0
  · subst h0
    obtain rfl := hy rfl
    clear hy hn'
    have HVA := Lib.hid (valid_of HER.out)
    obtain ⟨w2, hw2, G2, b2⟩ : ∃ X, w1.alloc (Obj.cells #[.int .i64 kind, .int .i64 base, .int .i64 most, .slice ha n hc, .slice ra m rc, .int .i64 kind, .func (.func F) #[] #[]] 95) = X ∧ X.heap[w1.heap.size]? = some (.cells #[.int .i64 kind, .int .i64 base, .int .i64 most, .slice ha n hc, .slice ra m rc, .int .i64 kind, .func (.func F) #[] #[]] 95 (0, 0)) ∧ Below w1.heap.size w1 X := ⟨_, rfl, heap_alloc_new _ _, by go_grown⟩
    have HC2 := Lib.hid (C1.out.below b2)
    have K2 := Lib.hid (HCSE.out w2 ((b2.block _ (lt_of_block K1.out)).trans K1.out))
    have R2 := Lib.hid ((b2.block _ (lt_of_block R1.out)).trans R1.out)
    have B2 := Lib.hid (B1.out.trans (b2.mono B1.out.size))
    have HG2 := Lib.hid G2
    have HW2 := Lib.hid hw2
    have G2' : w2.heap[w1.heap.size]? = some (.cells #[.int .i64 kind, .int .i64 base, .int .i64 most, .slice ha n hc, .slice ra m rc, .int .i64 kind, .func (.func F) #[] #[]] 95 (0, 0)) := G2
    have c0 := cellOf G2' 0 (.int .i64 kind) rfl
    have c1 := cellOf G2' 1 (.int .i64 base) rfl
    have c2 := cellOf G2' 2 (.int .i64 most) rfl
    have c3 := cellOf G2' 3 (.slice ha n hc) rfl
    have c4 := cellOf G2' 4 (.slice ra m rc) rfl
    have c5 := cellOf G2' 5 (.int .i64 kind) rfl
    have c6 := cellOf G2' 6 (.func (.func F) #[] #[]) rfl
    have cl := lt_of_block G2'
    have hz := (zero_of_info mdZero).1
    clear G2 G2' b2 hw2 B1 K1 R1 C1
    go_upto_region 4 with fail
    rw [HW2.out]
    have KA : ∀ W' : World, Below w2.heap.size w2 W' → (W'.cell? ⟨w1.heap.size, 0, none⟩ = some (.int .i64 kind) ∧ W'.cell? ⟨w1.heap.size, 1, none⟩ = some (.int .i64 base) ∧ W'.cell? ⟨w1.heap.size, 2, none⟩ = some (.int .i64 most) ∧ W'.cell? ⟨w1.heap.size, 3, none⟩ = some (.slice ha n hc) ∧ W'.cell? ⟨w1.heap.size, 4, none⟩ = some (.slice ra m rc) ∧ W'.cell? ⟨w1.heap.size, 5, none⟩ = some (.int .i64 kind) ∧ W'.cell? ⟨w1.heap.size, 6, none⟩ = some (.func (.func F) #[] #[]) ∧ Below w2.heap.size w2 W') := fun W' hb => ⟨keepK c0 hb, keepK c1 hb, keepK c2 hb, keepK c3 hb, keepK c4 hb, keepK c5 hb, keepK c6 hb, hb⟩
    refine wp_region_noPanic ?_
    refine wp_region_held_drew (S := (fun W' => W'.cell? ⟨w1.heap.size, 0, none⟩ = some (.int .i64 kind) ∧ W'.cell? ⟨w1.heap.size, 1, none⟩ = some (.int .i64 base) ∧ W'.cell? ⟨w1.heap.size, 2, none⟩ = some (.int .i64 most) ∧ W'.cell? ⟨w1.heap.size, 3, none⟩ = some (.slice ha n hc) ∧ W'.cell? ⟨w1.heap.size, 4, none⟩ = some (.slice ra m rc) ∧ W'.cell? ⟨w1.heap.size, 5, none⟩ = some (.int .i64 kind) ∧ W'.cell? ⟨w1.heap.size, 6, none⟩ = some (.func (.func F) #[] #[]) ∧ Below w2.heap.size w2 W')) (by kernel_rfl) ?_ (fun hh0 => ?_)
    · exact KA _ (Below.refl _ _).drew
    refine wpAnyH_take (i := 0) (v := ?_) rfl (by as_aux_lemma => kernel_rfl) (by as_aux_lemma => kernel_rfl) (by as_aux_lemma => kernel_rfl) (fun _ _ _ h => h) (Or.inl ⟨by rfl, ?_⟩) (by assumption) ?_
    rotate_left
    · intro w hSw
      try dsimp only at hSw
      go_simp
      try with_reducible rfl
    try simp only [Act.put, List.getElem_toArray, List.getElem_cons_succ, List.getElem_cons_zero, List.setIfInBounds_toArray, List.set_cons_zero, List.set_cons_succ]
    refine wpAnyH_take (i := 3) (v := ?_) rfl (by as_aux_lemma => kernel_rfl) (by as_aux_lemma => kernel_rfl) (by as_aux_lemma => kernel_rfl) (fun _ _ _ h => h) (Or.inl ⟨by rfl, ?_⟩) (by assumption) ?_
    rotate_left
    · intro w hSw
      try dsimp only at hSw
      go_simp
      try with_reducible rfl
    try simp only [Act.put, List.getElem_toArray, List.getElem_cons_succ, List.getElem_cons_zero, List.setIfInBounds_toArray, List.set_cons_zero, List.set_cons_succ]
    refine wpAnyH_ready (rs := [1, 8]) (by as_aux_lemma => kernel_rfl) (by simp) ?_
    refine AllReadyH.cons rfl (fun K hK => ?_) (AllReadyH.cons rfl (fun K hK => ?_) AllReadyH.nil)
    · skip
      go_simp
      refine (ascending_any _).mono ?_
      rintro e wA ⟨⟨v, rfl, hE⟩, hb⟩
      obtain ⟨bf, bt, rfl, hE1, hE2⟩ := hE
      have HE1 := Lib.hid hE1
      have HE2 := Lib.hid hE2
      have HB1 : Hid (Below w2.drew.heap.size w2.drew wA) := hb
      clear hE1 hE2 hb
      refine hK.out _ _ (KA _ (Below.trans hh0.2.2.2.2.2.2.2 (Below.mono HB1.out (hh0.2.2.2.2.2.2.2).size))) (fun hh1 => ?_)
      clear hK K
      try simp only [Act.put, List.getElem_toArray, List.getElem_cons_succ, List.getElem_cons_zero, List.setIfInBounds_toArray, List.set_cons_zero, List.set_cons_succ]
      refine wpAnyH_ready (rs := [2, 8]) (by as_aux_lemma => kernel_rfl) (by simp) ?_
      refine AllReadyH.cons rfl (fun K hK => ?_) (AllReadyH.cons rfl (fun K hK => ?_) AllReadyH.nil)
      · skip
        go_simp
        obtain ⟨wB, hwB, y1, y2, hb, hsB⟩ := al2 wA (Obj.cells #[.int .i64 kind, .int .i64 base, .int .i64 most, .slice ha n hc, .slice ra m rc, .int .i64 kind, .func (.func F) #[] #[]] 95) (Obj.cells #[.func (.func 117) #[] #[.pointer (some ⟨bf, 0, none⟩), .pointer (some ⟨bt, 0, none⟩)]] 118)
        have hm := models_any #[.int .i64 kind, .int .i64 base, .int .i64 most, .slice ha n hc, .slice ra m rc, .int .i64 kind, .func (.func F) #[] #[]] 117 #[.pointer (some ⟨bf, 0, none⟩), .pointer (some ⟨bt, 0, none⟩)] wA ⟨_, _, _, _, _, _, _, rfl⟩
        rw [hwB] at hm
        refine hm.mono ?_
        rintro e wB' ⟨rfl, rfl⟩
        have HY1 := Lib.hid y1
        have HY2 := Lib.hid y2
        have HB2 : Hid (Below wA.heap.size wA wB) := hb
        clear hm hwB y1 y2 hb hsB
        refine hK.out _ _ (KA _ (Below.trans hh1.2.2.2.2.2.2.2 (Below.mono HB2.out (hh1.2.2.2.2.2.2.2).size))) (fun hh2 => ?_)
        clear hK K
        try simp only [Act.put, List.getElem_toArray, List.getElem_cons_succ, List.getElem_cons_zero, List.setIfInBounds_toArray, List.set_cons_zero, List.set_cons_succ]
        refine wpAnyH_ready (rs := [4, 8]) (by as_aux_lemma => kernel_rfl) (by simp) ?_
        refine AllReadyH.cons rfl (fun K hK => ?_) (AllReadyH.cons rfl (fun K hK => ?_) AllReadyH.nil)
        · skip
          go_simp
          refine (mfirst_any c (.slice ha n hc) (.slice ra m rc) (0, 1) (1, 0) (wA.heap.size + 1) wA.heap.size bf bt w.heap.size wB (HC2.out.below hh2.2.2.2.2.2.2.2) HVA.out (by decide) (by decide) (fun s hs => HOK.out s hs) (((Below.refl wB.heap.size wB).block _ (lt_of_block HY2.out)).trans HY2.out) (by rw [HLK.out]; exact (((Below.refl wB.heap.size wB).block _ (lt_of_block HY1.out)).trans HY1.out)) ((HB2.out.block _ (lt_of_block HE1.out)).trans HE1.out) ((HB2.out.block _ (lt_of_block HE2.out)).trans HE2.out) ((((hh2.2.2.2.2.2.2.2).block _ (lt_of_block K2.out)).trans K2.out))).mono ?_
          rintro e wF ⟨hy, hn', hb⟩
          obtain rfl := HRES.out e hy hn'
          have HB4 : Hid (Below wB.heap.size wB wF) := hb
          clear hy hn' hb
          refine hK.out _ _ (KA _ (Below.trans hh2.2.2.2.2.2.2.2 (Below.mono HB4.out (hh2.2.2.2.2.2.2.2).size))) (fun hh3 => ?_)
          clear hK K
          try simp only [Act.put, List.getElem_toArray, List.getElem_cons_succ, List.getElem_cons_zero, List.setIfInBounds_toArray, List.set_cons_zero, List.set_cons_succ]
          refine wpAnyH_take (i := 5) (v := ?_) rfl (by as_aux_lemma => kernel_rfl) (by as_aux_lemma => kernel_rfl) (by as_aux_lemma => kernel_rfl) (fun _ _ _ h => h) (Or.inl ⟨by rfl, ?_⟩) (by assumption) ?_
          rotate_left
          · intro w hSw
            try dsimp only at hSw
            go_simp
            try with_reducible rfl
          try simp only [Act.put, List.getElem_toArray, List.getElem_cons_succ, List.getElem_cons_zero, List.setIfInBounds_toArray, List.set_cons_zero, List.set_cons_succ]
          refine wpAnyH_take (i := 6) (v := ?_) rfl (by as_aux_lemma => kernel_rfl) (by as_aux_lemma => kernel_rfl) (by as_aux_lemma => kernel_rfl) (fun _ _ _ h => h) (Or.inl ⟨by rfl, ?_⟩) (by assumption) ?_
          rotate_left
          · intro w hSw
            try dsimp only at hSw
            go_simp
            try with_reducible rfl
          try simp only [Act.put, List.getElem_toArray, List.getElem_cons_succ, List.getElem_cons_zero, List.setIfInBounds_toArray, List.set_cons_zero, List.set_cons_succ]
          refine wpAnyH_take (i := 7) (v := ?_) rfl (by as_aux_lemma => kernel_rfl) (by as_aux_lemma => kernel_rfl) (by as_aux_lemma => kernel_rfl) (fun _ _ _ h => h) (Or.inl ⟨by rfl, ?_⟩) (by assumption) ?_
          rotate_left
          · intro w hSw
            try dsimp only at hSw
            go_simp
            try with_reducible rfl
          try simp only [Act.put, List.getElem_toArray, List.getElem_cons_succ, List.getElem_cons_zero, List.setIfInBounds_toArray, List.set_cons_zero, List.set_cons_succ]
          refine wpAnyH_ready (rs := [8]) (by as_aux_lemma => kernel_rfl) (by simp) ?_
          refine AllReadyH.cons rfl (fun K hK => ?_) AllReadyH.nil
          go_simp
          obtain ⟨wG, hwG, zG, hb⟩ : ∃ X, wF.alloc (Obj.cells (mdC pf0 z8) 99) = X ∧ X.heap[wF.heap.size]? = some (.cells (mdC pf0 z8) 99 (0, 0)) ∧ Below wF.heap.size wF X := ⟨_, rfl, heap_alloc_new _ _, by go_grown⟩
          first | rw [hwG] | rw [show (w2.alloc (Obj.cells (mdC pf0 z8) 99)).drew = w2.drew.alloc (Obj.cells (mdC pf0 z8) 99) from rfl, hwG]
          have HZG := Lib.hid zG
          have HB8 : Hid (Below wF.heap.size wF wG) := hb
          have HGS : Hid (w2.heap.size ≤ wF.heap.size) := (hh3.2.2.2.2.2.2.2).size
          clear zG hb
          refine hK.out _ _ ?_ (fun hh4 => ?_)
          · exact KA _ ((hh3.2.2.2.2.2.2.2).trans (HB8.out.mono (hh3.2.2.2.2.2.2.2).size))
          clear hK K
          try simp only [Act.put, List.getElem_toArray, List.getElem_cons_succ, List.getElem_cons_zero, List.setIfInBounds_toArray, List.set_cons_zero, List.set_cons_succ]
          refine wpAnyH_ready (rs := [9]) (by as_aux_lemma => kernel_rfl) (by simp) ?_
          refine AllReadyH.cons rfl (fun K hK => ?_) AllReadyH.nil
          have hg0 := (((Below.refl wG.heap.size wG).block _ (lt_of_block HZG.out)).trans HZG.out)
          obtain ⟨wZ, hwZ, zZ, hb⟩ : ∃ X, wG.setRow wF.heap.size (mdC p cs) = X ∧ MdBlk X wF.heap.size p cs ∧ Below w2.heap.size w2 X := ⟨_, rfl, md_putIn hg0, below_setRow (hh4.2.2.2.2.2.2.2) HGS.out _⟩
          refine step_mdst (by rfl) (.tmp 6) (.tmp 23) (by rfl) (wF.heap.size) (by rfl) (mdC p cs) (mdC pf0 z8) (by rfl) hg0 HSZ.out HZ17.out HONE.out (by rfl) ?_
          rw [hwZ]
          have HMZ := Lib.hid zZ
          have HBZ0 : Hid (Below w2.heap.size w2 wZ) := hb
          clear hg0 zZ hb
          refine hK.out _ _ ?_ (fun hh5 => ?_)
          · exact KA _ HBZ0.out
          clear hK K
          try simp only [Act.put, List.getElem_toArray, List.getElem_cons_succ, List.getElem_cons_zero, List.setIfInBounds_toArray, List.set_cons_zero, List.set_cons_succ]
          refine wpAnyH_ready (rs := [10]) (by as_aux_lemma => kernel_rfl) (by simp) ?_
          refine AllReadyH.cons rfl (fun K hK => ?_) AllReadyH.nil
          go_simp
          refine hK.out _ _ hh5 (fun hh6 => ?_)
          clear hK K
          try simp only [Act.put, List.getElem_toArray, List.getElem_cons_succ, List.getElem_cons_zero, List.setIfInBounds_toArray, List.set_cons_zero, List.set_cons_succ]
          refine wpAnyH_done (by as_aux_lemma => kernel_rfl) ?_ _
          refine NoPanic.normal ?_
          have HBZ := Lib.hid (hh6.2.2.2.2.2.2.2)
          have HMY : Hid (MdBlk wZ wF.heap.size p cs) := HMZ.out
          have R3 := Lib.hid ((HBZ0.out.block _ (lt_of_block R2.out)).trans R2.out)
          have B3 := Lib.hid (B2.out.trans (HBZ0.out.mono B2.out.size))
          have z0 := cellOf R3.out 0 (.int .i64 0) rfl
          have z1 := cellOf R3.out 1 (.int .i64 0) rfl
          have f0 := frozen_of_row _ _ 0 _ _ R3.out
          have f1 := frozen_of_row _ _ 1 _ _ R3.out
          have rl := lt_of_block R3.out
          have ml := HMY.out.lt
          clear KA hz
          cases bb
          · have hr := leastC_no HER.out (HNO.out rfl)
            rw [HRR.out] at hr
            simp only [Prod.mk.injEq] at hr
            obtain ⟨⟨rfl, rfl⟩, rfl⟩ := hr
            go_wp2_with fail
            refine bodyPost_ret (sc_result2 rfl _ _ (w.heap.size + 1) (.int .i64 0) (.int .i64 0) rfl (two_set R3.out)) rfl ?_
            exact ⟨rfl, two_below (g := w.heap.size + 1) B3.out (by omega)⟩
          · obtain ⟨s1, s2, hls, hp7, hp8⟩ := HYES.out rfl
            have hr := leastC_yes HER.out hls
            rw [HRR.out] at hr
            simp only [Prod.mk.injEq] at hr
            obtain ⟨⟨rfl, rfl⟩, rfl⟩ := hr
            have m7 := HMY.out.cp 7 _ hp7
            have m8 := HMY.out.cp 8 _ hp8
            clear hls hp7 hp8
            go_wp2_with fail
            refine bodyPost_ret (sc_result2 rfl _ _ (w.heap.size + 1) (.int .i64 r1) (.int .i64 r2) rfl (two_set R3.out)) rfl ?_
            exact ⟨rfl, two_below (g := w.heap.size + 1) B3.out (by omega)⟩
        · skip
          go_simp
          obtain ⟨wG, hwG, zG, hb⟩ : ∃ X, wB.alloc (Obj.cells (mdC pf0 z8) 99) = X ∧ X.heap[wB.heap.size]? = some (.cells (mdC pf0 z8) 99 (0, 0)) ∧ Below wB.heap.size wB X := ⟨_, rfl, heap_alloc_new _ _, by go_grown⟩
          first | rw [hwG] | rw [show (w2.alloc (Obj.cells (mdC pf0 z8) 99)).drew = w2.drew.alloc (Obj.cells (mdC pf0 z8) 99) from rfl, hwG]
          have HZG := Lib.hid zG
          have HB8 : Hid (Below wB.heap.size wB wG) := hb
          have HGS : Hid (w2.heap.size ≤ wB.heap.size) := (hh2.2.2.2.2.2.2.2).size
          clear zG hb
          refine hK.out _ _ ?_ (fun hh3 => ?_)
          · exact KA _ ((hh2.2.2.2.2.2.2.2).trans (HB8.out.mono (hh2.2.2.2.2.2.2.2).size))
          clear hK K
          try simp only [Act.put, List.getElem_toArray, List.getElem_cons_succ, List.getElem_cons_zero, List.setIfInBounds_toArray, List.set_cons_zero, List.set_cons_succ]
          refine wpAnyH_ready (rs := [4]) (by as_aux_lemma => kernel_rfl) (by simp) ?_
          refine AllReadyH.cons rfl (fun K hK => ?_) AllReadyH.nil
          go_simp
          refine (mfirst_any c (.slice ha n hc) (.slice ra m rc) (0, 1) (1, 0) (wA.heap.size + 1) wA.heap.size bf bt w.heap.size wG (HC2.out.below hh3.2.2.2.2.2.2.2) HVA.out (by decide) (by decide) (fun s hs => HOK.out s hs) ((HB8.out.block _ (lt_of_block HY2.out)).trans HY2.out) (by rw [HLK.out]; exact ((HB8.out.block _ (lt_of_block HY1.out)).trans HY1.out)) (((HB2.out.trans (HB8.out.mono (HB2.out).size)).block _ (lt_of_block HE1.out)).trans HE1.out) (((HB2.out.trans (HB8.out.mono (HB2.out).size)).block _ (lt_of_block HE2.out)).trans HE2.out) ((((hh3.2.2.2.2.2.2.2).block _ (lt_of_block K2.out)).trans K2.out))).mono ?_
          rintro e wF ⟨hy, hn', hb⟩
          obtain rfl := HRES.out e hy hn'
          have HB4 : Hid (Below wG.heap.size wG wF) := hb
          clear hy hn' hb
          refine hK.out _ _ (KA _ (Below.trans hh3.2.2.2.2.2.2.2 (Below.mono HB4.out (hh3.2.2.2.2.2.2.2).size))) (fun hh4 => ?_)
          clear hK K
          try simp only [Act.put, List.getElem_toArray, List.getElem_cons_succ, List.getElem_cons_zero, List.setIfInBounds_toArray, List.set_cons_zero, List.set_cons_succ]
          refine wpAnyH_take (i := 5) (v := ?_) rfl (by as_aux_lemma => kernel_rfl) (by as_aux_lemma => kernel_rfl) (by as_aux_lemma => kernel_rfl) (fun _ _ _ h => h) (Or.inl ⟨by rfl, ?_⟩) (by assumption) ?_
          rotate_left
          · intro w hSw
            try dsimp only at hSw
            go_simp
            try with_reducible rfl
          try simp only [Act.put, List.getElem_toArray, List.getElem_cons_succ, List.getElem_cons_zero, List.setIfInBounds_toArray, List.set_cons_zero, List.set_cons_succ]
          refine wpAnyH_take (i := 6) (v := ?_) rfl (by as_aux_lemma => kernel_rfl) (by as_aux_lemma => kernel_rfl) (by as_aux_lemma => kernel_rfl) (fun _ _ _ h => h) (Or.inl ⟨by rfl, ?_⟩) (by assumption) ?_
          rotate_left
          · intro w hSw
            try dsimp only at hSw
            go_simp
            try with_reducible rfl
          try simp only [Act.put, List.getElem_toArray, List.getElem_cons_succ, List.getElem_cons_zero, List.setIfInBounds_toArray, List.set_cons_zero, List.set_cons_succ]
          refine wpAnyH_take (i := 7) (v := ?_) rfl (by as_aux_lemma => kernel_rfl) (by as_aux_lemma => kernel_rfl) (by as_aux_lemma => kernel_rfl) (fun _ _ _ h => h) (Or.inl ⟨by rfl, ?_⟩) (by assumption) ?_
          rotate_left
          · intro w hSw
            try dsimp only at hSw
            go_simp
            try with_reducible rfl
          try simp only [Act.put, List.getElem_toArray, List.getElem_cons_succ, List.getElem_cons_zero, List.setIfInBounds_toArray, List.set_cons_zero, List.set_cons_succ]
          refine wpAnyH_ready (rs := [9]) (by as_aux_lemma => kernel_rfl) (by simp) ?_
          refine AllReadyH.cons rfl (fun K hK => ?_) AllReadyH.nil
          have hg0 := ((HB4.out.block _ (lt_of_block HZG.out)).trans HZG.out)
          obtain ⟨wZ, hwZ, zZ, hb⟩ : ∃ X, wF.setRow wB.heap.size (mdC p cs) = X ∧ MdBlk X wB.heap.size p cs ∧ Below w2.heap.size w2 X := ⟨_, rfl, md_putIn hg0, below_setRow (hh4.2.2.2.2.2.2.2) HGS.out _⟩
          refine step_mdst (by rfl) (.tmp 6) (.tmp 23) (by rfl) (wB.heap.size) (by rfl) (mdC p cs) (mdC pf0 z8) (by rfl) hg0 HSZ.out HZ17.out HONE.out (by rfl) ?_
          rw [hwZ]
          have HMZ := Lib.hid zZ
          have HBZ0 : Hid (Below w2.heap.size w2 wZ) := hb
          clear hg0 zZ hb
          refine hK.out _ _ ?_ (fun hh5 => ?_)
          · exact KA _ HBZ0.out
          clear hK K
          try simp only [Act.put, List.getElem_toArray, List.getElem_cons_succ, List.getElem_cons_zero, List.setIfInBounds_toArray, List.set_cons_zero, List.set_cons_succ]
          refine wpAnyH_ready (rs := [10]) (by as_aux_lemma => kernel_rfl) (by simp) ?_
          refine AllReadyH.cons rfl (fun K hK => ?_) AllReadyH.nil
          go_simp
          refine hK.out _ _ hh5 (fun hh6 => ?_)
          clear hK K
          try simp only [Act.put, List.getElem_toArray, List.getElem_cons_succ, List.getElem_cons_zero, List.setIfInBounds_toArray, List.set_cons_zero, List.set_cons_succ]
          refine wpAnyH_done (by as_aux_lemma => kernel_rfl) ?_ _
          refine NoPanic.normal ?_
          have HBZ := Lib.hid (hh6.2.2.2.2.2.2.2)
          have HMY : Hid (MdBlk wZ wB.heap.size p cs) := HMZ.out
          have R3 := Lib.hid ((HBZ0.out.block _ (lt_of_block R2.out)).trans R2.out)
          have B3 := Lib.hid (B2.out.trans (HBZ0.out.mono B2.out.size))
          have z0 := cellOf R3.out 0 (.int .i64 0) rfl
          have z1 := cellOf R3.out 1 (.int .i64 0) rfl
          have f0 := frozen_of_row _ _ 0 _ _ R3.out
          have f1 := frozen_of_row _ _ 1 _ _ R3.out
          have rl := lt_of_block R3.out
          have ml := HMY.out.lt
          clear KA hz
          cases bb
          · have hr := leastC_no HER.out (HNO.out rfl)
            rw [HRR.out] at hr
            simp only [Prod.mk.injEq] at hr
            obtain ⟨⟨rfl, rfl⟩, rfl⟩ := hr
            go_wp2_with fail
            refine bodyPost_ret (sc_result2 rfl _ _ (w.heap.size + 1) (.int .i64 0) (.int .i64 0) rfl (two_set R3.out)) rfl ?_
            exact ⟨rfl, two_below (g := w.heap.size + 1) B3.out (by omega)⟩
          · obtain ⟨s1, s2, hls, hp7, hp8⟩ := HYES.out rfl
            have hr := leastC_yes HER.out hls
            rw [HRR.out] at hr
            simp only [Prod.mk.injEq] at hr
            obtain ⟨⟨rfl, rfl⟩, rfl⟩ := hr
            have m7 := HMY.out.cp 7 _ hp7
            have m8 := HMY.out.cp 8 _ hp8
            clear hls hp7 hp8
            go_wp2_with fail
            refine bodyPost_ret (sc_result2 rfl _ _ (w.heap.size + 1) (.int .i64 r1) (.int .i64 r2) rfl (two_set R3.out)) rfl ?_
            exact ⟨rfl, two_below (g := w.heap.size + 1) B3.out (by omega)⟩
      · skip
        go_simp
        obtain ⟨wG, hwG, zG, hb⟩ : ∃ X, wA.alloc (Obj.cells (mdC pf0 z8) 99) = X ∧ X.heap[wA.heap.size]? = some (.cells (mdC pf0 z8) 99 (0, 0)) ∧ Below wA.heap.size wA X := ⟨_, rfl, heap_alloc_new _ _, by go_grown⟩
        first | rw [hwG] | rw [show (w2.alloc (Obj.cells (mdC pf0 z8) 99)).drew = w2.drew.alloc (Obj.cells (mdC pf0 z8) 99) from rfl, hwG]
        have HZG := Lib.hid zG
        have HB8 : Hid (Below wA.heap.size wA wG) := hb
        have HGS : Hid (w2.heap.size ≤ wA.heap.size) := (hh1.2.2.2.2.2.2.2).size
        clear zG hb
        refine hK.out _ _ ?_ (fun hh2 => ?_)
        · exact KA _ ((hh1.2.2.2.2.2.2.2).trans (HB8.out.mono (hh1.2.2.2.2.2.2.2).size))
        clear hK K
        try simp only [Act.put, List.getElem_toArray, List.getElem_cons_succ, List.getElem_cons_zero, List.setIfInBounds_toArray, List.set_cons_zero, List.set_cons_succ]
        refine wpAnyH_ready (rs := [2]) (by as_aux_lemma => kernel_rfl) (by simp) ?_
        refine AllReadyH.cons rfl (fun K hK => ?_) AllReadyH.nil
        go_simp
        obtain ⟨wB, hwB, y1, y2, hb, hsB⟩ := al2 wG (Obj.cells #[.int .i64 kind, .int .i64 base, .int .i64 most, .slice ha n hc, .slice ra m rc, .int .i64 kind, .func (.func F) #[] #[]] 95) (Obj.cells #[.func (.func 117) #[] #[.pointer (some ⟨bf, 0, none⟩), .pointer (some ⟨bt, 0, none⟩)]] 118)
        have hm := models_any #[.int .i64 kind, .int .i64 base, .int .i64 most, .slice ha n hc, .slice ra m rc, .int .i64 kind, .func (.func F) #[] #[]] 117 #[.pointer (some ⟨bf, 0, none⟩), .pointer (some ⟨bt, 0, none⟩)] wG ⟨_, _, _, _, _, _, _, rfl⟩
        rw [hwB] at hm
        refine hm.mono ?_
        rintro e wB' ⟨rfl, rfl⟩
        have HY1 := Lib.hid y1
        have HY2 := Lib.hid y2
        have HB2 : Hid (Below wG.heap.size wG wB) := hb
        clear hm hwB y1 y2 hb hsB
        refine hK.out _ _ (KA _ (Below.trans hh2.2.2.2.2.2.2.2 (Below.mono HB2.out (hh2.2.2.2.2.2.2.2).size))) (fun hh3 => ?_)
        clear hK K
        try simp only [Act.put, List.getElem_toArray, List.getElem_cons_succ, List.getElem_cons_zero, List.setIfInBounds_toArray, List.set_cons_zero, List.set_cons_succ]
        refine wpAnyH_ready (rs := [4]) (by as_aux_lemma => kernel_rfl) (by simp) ?_
        refine AllReadyH.cons rfl (fun K hK => ?_) AllReadyH.nil
        go_simp
        refine (mfirst_any c (.slice ha n hc) (.slice ra m rc) (0, 1) (1, 0) (wG.heap.size + 1) wG.heap.size bf bt w.heap.size wB (HC2.out.below hh3.2.2.2.2.2.2.2) HVA.out (by decide) (by decide) (fun s hs => HOK.out s hs) (((Below.refl wB.heap.size wB).block _ (lt_of_block HY2.out)).trans HY2.out) (by rw [HLK.out]; exact (((Below.refl wB.heap.size wB).block _ (lt_of_block HY1.out)).trans HY1.out)) (((HB8.out.trans (HB2.out.mono (HB8.out).size)).block _ (lt_of_block HE1.out)).trans HE1.out) (((HB8.out.trans (HB2.out.mono (HB8.out).size)).block _ (lt_of_block HE2.out)).trans HE2.out) ((((hh3.2.2.2.2.2.2.2).block _ (lt_of_block K2.out)).trans K2.out))).mono ?_
        rintro e wF ⟨hy, hn', hb⟩
        obtain rfl := HRES.out e hy hn'
        have HB4 : Hid (Below wB.heap.size wB wF) := hb
        clear hy hn' hb
        refine hK.out _ _ (KA _ (Below.trans hh3.2.2.2.2.2.2.2 (Below.mono HB4.out (hh3.2.2.2.2.2.2.2).size))) (fun hh4 => ?_)
        clear hK K
        try simp only [Act.put, List.getElem_toArray, List.getElem_cons_succ, List.getElem_cons_zero, List.setIfInBounds_toArray, List.set_cons_zero, List.set_cons_succ]
        refine wpAnyH_take (i := 5) (v := ?_) rfl (by as_aux_lemma => kernel_rfl) (by as_aux_lemma => kernel_rfl) (by as_aux_lemma => kernel_rfl) (fun _ _ _ h => h) (Or.inl ⟨by rfl, ?_⟩) (by assumption) ?_
        rotate_left
        · intro w hSw
          try dsimp only at hSw
          go_simp
          try with_reducible rfl
        try simp only [Act.put, List.getElem_toArray, List.getElem_cons_succ, List.getElem_cons_zero, List.setIfInBounds_toArray, List.set_cons_zero, List.set_cons_succ]
        refine wpAnyH_take (i := 6) (v := ?_) rfl (by as_aux_lemma => kernel_rfl) (by as_aux_lemma => kernel_rfl) (by as_aux_lemma => kernel_rfl) (fun _ _ _ h => h) (Or.inl ⟨by rfl, ?_⟩) (by assumption) ?_
        rotate_left
        · intro w hSw
          try dsimp only at hSw
          go_simp
          try with_reducible rfl
        try simp only [Act.put, List.getElem_toArray, List.getElem_cons_succ, List.getElem_cons_zero, List.setIfInBounds_toArray, List.set_cons_zero, List.set_cons_succ]
        refine wpAnyH_take (i := 7) (v := ?_) rfl (by as_aux_lemma => kernel_rfl) (by as_aux_lemma => kernel_rfl) (by as_aux_lemma => kernel_rfl) (fun _ _ _ h => h) (Or.inl ⟨by rfl, ?_⟩) (by assumption) ?_
        rotate_left
        · intro w hSw
          try dsimp only at hSw
          go_simp
          try with_reducible rfl
        try simp only [Act.put, List.getElem_toArray, List.getElem_cons_succ, List.getElem_cons_zero, List.setIfInBounds_toArray, List.set_cons_zero, List.set_cons_succ]
        refine wpAnyH_ready (rs := [9]) (by as_aux_lemma => kernel_rfl) (by simp) ?_
        refine AllReadyH.cons rfl (fun K hK => ?_) AllReadyH.nil
        have hg0 := (((HB2.out.trans (HB4.out.mono (HB2.out).size)).block _ (lt_of_block HZG.out)).trans HZG.out)
        obtain ⟨wZ, hwZ, zZ, hb⟩ : ∃ X, wF.setRow wA.heap.size (mdC p cs) = X ∧ MdBlk X wA.heap.size p cs ∧ Below w2.heap.size w2 X := ⟨_, rfl, md_putIn hg0, below_setRow (hh4.2.2.2.2.2.2.2) HGS.out _⟩
        refine step_mdst (by rfl) (.tmp 6) (.tmp 23) (by rfl) (wA.heap.size) (by rfl) (mdC p cs) (mdC pf0 z8) (by rfl) hg0 HSZ.out HZ17.out HONE.out (by rfl) ?_
        rw [hwZ]
        have HMZ := Lib.hid zZ
        have HBZ0 : Hid (Below w2.heap.size w2 wZ) := hb
        clear hg0 zZ hb
        refine hK.out _ _ ?_ (fun hh5 => ?_)
        · exact KA _ HBZ0.out
        clear hK K
        try simp only [Act.put, List.getElem_toArray, List.getElem_cons_succ, List.getElem_cons_zero, List.setIfInBounds_toArray, List.set_cons_zero, List.set_cons_succ]
        refine wpAnyH_ready (rs := [10]) (by as_aux_lemma => kernel_rfl) (by simp) ?_
        refine AllReadyH.cons rfl (fun K hK => ?_) AllReadyH.nil
        go_simp
        refine hK.out _ _ hh5 (fun hh6 => ?_)
        clear hK K
        try simp only [Act.put, List.getElem_toArray, List.getElem_cons_succ, List.getElem_cons_zero, List.setIfInBounds_toArray, List.set_cons_zero, List.set_cons_succ]
        refine wpAnyH_done (by as_aux_lemma => kernel_rfl) ?_ _
        refine NoPanic.normal ?_
        have HBZ := Lib.hid (hh6.2.2.2.2.2.2.2)
        have HMY : Hid (MdBlk wZ wA.heap.size p cs) := HMZ.out
        have R3 := Lib.hid ((HBZ0.out.block _ (lt_of_block R2.out)).trans R2.out)
        have B3 := Lib.hid (B2.out.trans (HBZ0.out.mono B2.out.size))
        have z0 := cellOf R3.out 0 (.int .i64 0) rfl
        have z1 := cellOf R3.out 1 (.int .i64 0) rfl
        have f0 := frozen_of_row _ _ 0 _ _ R3.out
        have f1 := frozen_of_row _ _ 1 _ _ R3.out
        have rl := lt_of_block R3.out
        have ml := HMY.out.lt
        clear KA hz
        cases bb
        · have hr := leastC_no HER.out (HNO.out rfl)
          rw [HRR.out] at hr
          simp only [Prod.mk.injEq] at hr
          obtain ⟨⟨rfl, rfl⟩, rfl⟩ := hr
          go_wp2_with fail
          refine bodyPost_ret (sc_result2 rfl _ _ (w.heap.size + 1) (.int .i64 0) (.int .i64 0) rfl (two_set R3.out)) rfl ?_
          exact ⟨rfl, two_below (g := w.heap.size + 1) B3.out (by omega)⟩
        · obtain ⟨s1, s2, hls, hp7, hp8⟩ := HYES.out rfl
          have hr := leastC_yes HER.out hls
          rw [HRR.out] at hr
          simp only [Prod.mk.injEq] at hr
          obtain ⟨⟨rfl, rfl⟩, rfl⟩ := hr
          have m7 := HMY.out.cp 7 _ hp7
          have m8 := HMY.out.cp 8 _ hp8
          clear hls hp7 hp8
          go_wp2_with fail
          refine bodyPost_ret (sc_result2 rfl _ _ (w.heap.size + 1) (.int .i64 r1) (.int .i64 r2) rfl (two_set R3.out)) rfl ?_
          exact ⟨rfl, two_below (g := w.heap.size + 1) B3.out (by omega)⟩
    · skip
      go_simp
      obtain ⟨wG, hwG, zG, hb⟩ : ∃ X, w2.drew.alloc (Obj.cells (mdC pf0 z8) 99) = X ∧ X.heap[w2.drew.heap.size]? = some (.cells (mdC pf0 z8) 99 (0, 0)) ∧ Below w2.drew.heap.size w2.drew X := ⟨_, rfl, heap_alloc_new _ _, by go_grown⟩
      first | rw [hwG] | rw [show (w2.alloc (Obj.cells (mdC pf0 z8) 99)).drew = w2.drew.alloc (Obj.cells (mdC pf0 z8) 99) from rfl, hwG]
      have HZG := Lib.hid zG
      have HB8 : Hid (Below w2.drew.heap.size w2.drew wG) := hb
      have HGS : Hid (w2.heap.size ≤ w2.drew.heap.size) := (hh0.2.2.2.2.2.2.2).size
      clear zG hb
      refine hK.out _ _ ?_ (fun hh1 => ?_)
      · exact KA _ ((hh0.2.2.2.2.2.2.2).trans (HB8.out.mono (hh0.2.2.2.2.2.2.2).size))
      clear hK K
      try simp only [Act.put, List.getElem_toArray, List.getElem_cons_succ, List.getElem_cons_zero, List.setIfInBounds_toArray, List.set_cons_zero, List.set_cons_succ]
      refine wpAnyH_ready (rs := [1]) (by as_aux_lemma => kernel_rfl) (by simp) ?_
      refine AllReadyH.cons rfl (fun K hK => ?_) AllReadyH.nil
      go_simp
      refine (ascending_any _).mono ?_
      rintro e wA ⟨⟨v, rfl, hE⟩, hb⟩
      obtain ⟨bf, bt, rfl, hE1, hE2⟩ := hE
      have HE1 := Lib.hid hE1
      have HE2 := Lib.hid hE2
      have HB1 : Hid (Below wG.heap.size wG wA) := hb
      clear hE1 hE2 hb
      refine hK.out _ _ (KA _ (Below.trans hh1.2.2.2.2.2.2.2 (Below.mono HB1.out (hh1.2.2.2.2.2.2.2).size))) (fun hh2 => ?_)
      clear hK K
      try simp only [Act.put, List.getElem_toArray, List.getElem_cons_succ, List.getElem_cons_zero, List.setIfInBounds_toArray, List.set_cons_zero, List.set_cons_succ]
      refine wpAnyH_ready (rs := [2]) (by as_aux_lemma => kernel_rfl) (by simp) ?_
      refine AllReadyH.cons rfl (fun K hK => ?_) AllReadyH.nil
      go_simp
      obtain ⟨wB, hwB, y1, y2, hb, hsB⟩ := al2 wA (Obj.cells #[.int .i64 kind, .int .i64 base, .int .i64 most, .slice ha n hc, .slice ra m rc, .int .i64 kind, .func (.func F) #[] #[]] 95) (Obj.cells #[.func (.func 117) #[] #[.pointer (some ⟨bf, 0, none⟩), .pointer (some ⟨bt, 0, none⟩)]] 118)
      have hm := models_any #[.int .i64 kind, .int .i64 base, .int .i64 most, .slice ha n hc, .slice ra m rc, .int .i64 kind, .func (.func F) #[] #[]] 117 #[.pointer (some ⟨bf, 0, none⟩), .pointer (some ⟨bt, 0, none⟩)] wA ⟨_, _, _, _, _, _, _, rfl⟩
      rw [hwB] at hm
      refine hm.mono ?_
      rintro e wB' ⟨rfl, rfl⟩
      have HY1 := Lib.hid y1
      have HY2 := Lib.hid y2
      have HB2 : Hid (Below wA.heap.size wA wB) := hb
      clear hm hwB y1 y2 hb hsB
      refine hK.out _ _ (KA _ (Below.trans hh2.2.2.2.2.2.2.2 (Below.mono HB2.out (hh2.2.2.2.2.2.2.2).size))) (fun hh3 => ?_)
      clear hK K
      try simp only [Act.put, List.getElem_toArray, List.getElem_cons_succ, List.getElem_cons_zero, List.setIfInBounds_toArray, List.set_cons_zero, List.set_cons_succ]
      refine wpAnyH_ready (rs := [4]) (by as_aux_lemma => kernel_rfl) (by simp) ?_
      refine AllReadyH.cons rfl (fun K hK => ?_) AllReadyH.nil
      go_simp
      refine (mfirst_any c (.slice ha n hc) (.slice ra m rc) (0, 1) (1, 0) (wA.heap.size + 1) wA.heap.size bf bt w.heap.size wB (HC2.out.below hh3.2.2.2.2.2.2.2) HVA.out (by decide) (by decide) (fun s hs => HOK.out s hs) (((Below.refl wB.heap.size wB).block _ (lt_of_block HY2.out)).trans HY2.out) (by rw [HLK.out]; exact (((Below.refl wB.heap.size wB).block _ (lt_of_block HY1.out)).trans HY1.out)) ((HB2.out.block _ (lt_of_block HE1.out)).trans HE1.out) ((HB2.out.block _ (lt_of_block HE2.out)).trans HE2.out) ((((hh3.2.2.2.2.2.2.2).block _ (lt_of_block K2.out)).trans K2.out))).mono ?_
      rintro e wF ⟨hy, hn', hb⟩
      obtain rfl := HRES.out e hy hn'
      have HB4 : Hid (Below wB.heap.size wB wF) := hb
      clear hy hn' hb
      refine hK.out _ _ (KA _ (Below.trans hh3.2.2.2.2.2.2.2 (Below.mono HB4.out (hh3.2.2.2.2.2.2.2).size))) (fun hh4 => ?_)
      clear hK K
      try simp only [Act.put, List.getElem_toArray, List.getElem_cons_succ, List.getElem_cons_zero, List.setIfInBounds_toArray, List.set_cons_zero, List.set_cons_succ]
      refine wpAnyH_take (i := 5) (v := ?_) rfl (by as_aux_lemma => kernel_rfl) (by as_aux_lemma => kernel_rfl) (by as_aux_lemma => kernel_rfl) (fun _ _ _ h => h) (Or.inl ⟨by rfl, ?_⟩) (by assumption) ?_
      rotate_left
      · intro w hSw
        try dsimp only at hSw
        go_simp
        try with_reducible rfl
      try simp only [Act.put, List.getElem_toArray, List.getElem_cons_succ, List.getElem_cons_zero, List.setIfInBounds_toArray, List.set_cons_zero, List.set_cons_succ]
      refine wpAnyH_take (i := 6) (v := ?_) rfl (by as_aux_lemma => kernel_rfl) (by as_aux_lemma => kernel_rfl) (by as_aux_lemma => kernel_rfl) (fun _ _ _ h => h) (Or.inl ⟨by rfl, ?_⟩) (by assumption) ?_
      rotate_left
      · intro w hSw
        try dsimp only at hSw
        go_simp
        try with_reducible rfl
      try simp only [Act.put, List.getElem_toArray, List.getElem_cons_succ, List.getElem_cons_zero, List.setIfInBounds_toArray, List.set_cons_zero, List.set_cons_succ]
      refine wpAnyH_take (i := 7) (v := ?_) rfl (by as_aux_lemma => kernel_rfl) (by as_aux_lemma => kernel_rfl) (by as_aux_lemma => kernel_rfl) (fun _ _ _ h => h) (Or.inl ⟨by rfl, ?_⟩) (by assumption) ?_
      rotate_left
      · intro w hSw
        try dsimp only at hSw
        go_simp
        try with_reducible rfl
      try simp only [Act.put, List.getElem_toArray, List.getElem_cons_succ, List.getElem_cons_zero, List.setIfInBounds_toArray, List.set_cons_zero, List.set_cons_succ]
      refine wpAnyH_ready (rs := [9]) (by as_aux_lemma => kernel_rfl) (by simp) ?_
      refine AllReadyH.cons rfl (fun K hK => ?_) AllReadyH.nil
      have hg0 := ((((HB1.out.trans (HB2.out.mono (HB1.out).size)).trans (HB4.out.mono ((HB1.out.trans (HB2.out.mono (HB1.out).size))).size)).block _ (lt_of_block HZG.out)).trans HZG.out)
      obtain ⟨wZ, hwZ, zZ, hb⟩ : ∃ X, wF.setRow w2.drew.heap.size (mdC p cs) = X ∧ MdBlk X w2.drew.heap.size p cs ∧ Below w2.heap.size w2 X := ⟨_, rfl, md_putIn hg0, below_setRow (hh4.2.2.2.2.2.2.2) HGS.out _⟩
      refine step_mdst (by rfl) (.tmp 6) (.tmp 23) (by rfl) (w2.drew.heap.size) (by rfl) (mdC p cs) (mdC pf0 z8) (by rfl) hg0 HSZ.out HZ17.out HONE.out (by rfl) ?_
      rw [hwZ]
      have HMZ := Lib.hid zZ
      have HBZ0 : Hid (Below w2.heap.size w2 wZ) := hb
      clear hg0 zZ hb
      refine hK.out _ _ ?_ (fun hh5 => ?_)
      · exact KA _ HBZ0.out
      clear hK K
      try simp only [Act.put, List.getElem_toArray, List.getElem_cons_succ, List.getElem_cons_zero, List.setIfInBounds_toArray, List.set_cons_zero, List.set_cons_succ]
      refine wpAnyH_ready (rs := [10]) (by as_aux_lemma => kernel_rfl) (by simp) ?_
      refine AllReadyH.cons rfl (fun K hK => ?_) AllReadyH.nil
      go_simp
      refine hK.out _ _ hh5 (fun hh6 => ?_)
      clear hK K
      try simp only [Act.put, List.getElem_toArray, List.getElem_cons_succ, List.getElem_cons_zero, List.setIfInBounds_toArray, List.set_cons_zero, List.set_cons_succ]
      refine wpAnyH_done (by as_aux_lemma => kernel_rfl) ?_ _
      refine NoPanic.normal ?_
      have HBZ := Lib.hid (hh6.2.2.2.2.2.2.2)
      have HMY : Hid (MdBlk wZ w2.heap.size p cs) := HMZ.out
      have R3 := Lib.hid ((HBZ0.out.block _ (lt_of_block R2.out)).trans R2.out)
      have B3 := Lib.hid (B2.out.trans (HBZ0.out.mono B2.out.size))
      have z0 := cellOf R3.out 0 (.int .i64 0) rfl
      have z1 := cellOf R3.out 1 (.int .i64 0) rfl
      have f0 := frozen_of_row _ _ 0 _ _ R3.out
      have f1 := frozen_of_row _ _ 1 _ _ R3.out
      have rl := lt_of_block R3.out
      have ml := HMY.out.lt
      clear KA hz
      cases bb
      · have hr := leastC_no HER.out (HNO.out rfl)
        rw [HRR.out] at hr
        simp only [Prod.mk.injEq] at hr
        obtain ⟨⟨rfl, rfl⟩, rfl⟩ := hr
        go_wp2_with fail
        refine bodyPost_ret (sc_result2 rfl _ _ (w.heap.size + 1) (.int .i64 0) (.int .i64 0) rfl (two_set R3.out)) rfl ?_
        exact ⟨rfl, two_below (g := w.heap.size + 1) B3.out (by omega)⟩
      · obtain ⟨s1, s2, hls, hp7, hp8⟩ := HYES.out rfl
        have hr := leastC_yes HER.out hls
        rw [HRR.out] at hr
        simp only [Prod.mk.injEq] at hr
        obtain ⟨⟨rfl, rfl⟩, rfl⟩ := hr
        have m7 := HMY.out.cp 7 _ hp7
        have m8 := HMY.out.cp 8 _ hp8
        clear hls hp7 hp8
        go_wp2_with fail
        refine bodyPost_ret (sc_result2 rfl _ _ (w.heap.size + 1) (.int .i64 r1) (.int .i64 r2) rfl (two_set R3.out)) rfl ?_
        exact ⟨rfl, two_below (g := w.heap.size + 1) B3.out (by omega)⟩
  · obtain rfl := hn' h0
    clear hy hn'
    have hr := leastC_err (c := c) (by rw [HER.out]; exact h0)
    rw [HRR.out, HER.out] at hr
    simp only [Prod.mk.injEq] at hr
    obtain ⟨⟨rfl, rfl⟩, rfl⟩ := hr
    have tz : (r3 != 0) = true := by simp [h0]
    obtain ⟨w2, hw2, b2⟩ : ∃ X, w1.alloc (Obj.cells #[.int .i64 0, .int .i64 0, .int .i64 0, .slice none 0 0, .slice none 0 0, .int .i64 0, .nilFunc] 95) = X ∧ Below w1.heap.size w1 X := ⟨_, rfl, by go_grown⟩
    have R2 := Lib.hid ((b2.block _ (lt_of_block R1.out)).trans R1.out)
    have B2 := Lib.hid (B1.out.trans (b2.mono B1.out.size))
    have HW2 := Lib.hid hw2
    clear b2 hw2
    go_upto_region 3 with fail
    rw [HW2.out]
    have z0 := cellOf R2.out 0 (.int .i64 0) rfl
    have z1 := cellOf R2.out 1 (.int .i64 0) rfl
    have f0 := frozen_of_row _ _ 0 _ _ R2.out
    have f1 := frozen_of_row _ _ 1 _ _ R2.out
    have rl := lt_of_block R2.out
    go_wp2_with fail
    refine bodyPost_ret (sc_result2 rfl _ _ (w.heap.size + 1) (.int .i64 0) (.int .i64 0) rfl (two_set R2.out)) rfl ?_
    exact ⟨rfl, two_below (g := w.heap.size + 1) B2.out (by omega)⟩
end Go.Proofs.Ythflbbjilebhlaa
