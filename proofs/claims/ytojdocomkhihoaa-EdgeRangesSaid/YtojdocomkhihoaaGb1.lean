/- Package edge: whole structs in regions that draw their order; lookWith. -/
import Derived.Test.YtojdocomkhihoaaFf1
set_option linter.unusedSimpArgs false
set_option linter.unusedVariables false
namespace Go.Proofs.Ytojdocomkhihoaa
open Go Go.RowKit Ed

theorem results_cct {fn : Func} {p q u : Tmp} {ty ty' : TypeId} (h : fn.results = #[.cell p ty, .cell q ty', .tmp u]) (tmps : Array Value) (P : Program) (w : World) (v v' : Value) (g g' : Addr)
    (hp : tmps.getD p undef = .pointer (some g)) (hq : tmps.getD q undef = .pointer (some g')) (h1 : (loadVar ty g).run P w = .ok v w) (h2 : (loadVar ty' g').run P w = .ok v' w) :
    (results fn tmps).run P w = .ok (.tuple #[v, v', tmps.getD u undef]) w := by
  have hp' : tmps[p]?.getD undef = .pointer (some g) := by simpa using hp
  have hq' : tmps[q]?.getD undef = .pointer (some g') := by simpa using hq
  simp only [results, h]
  simp [Sem.run_bind, Result.andThen, hp', hq', asAddr, h1, h2]
theorem lk_var {w : World} {g : Nat} {tol : Int} {sv ev : Value} {ws : List Int} (hF : LkBlk w g tol sv ev ws) (hm : ws.length = 16) : (loadVar 89 ⟨g, 0, none⟩).run Try.prog w = .ok (.agg (lkC tol sv ev ws)) w :=
  run_loadVar_row (P := Try.prog) w g 89 89 (lkC tol sv ev ws) (0, 0) _ hF Try.underlying89 rfl (by rw [lkSize, lk_size, hm])
theorem ch_var {w : World} {g : Nat} {x : List Int} (hF : ChBlk w g x) (hm : x.length = 5) : (loadVar 96 ⟨g, 0, none⟩).run Try.prog w = .ok (.agg (chC x)) w :=
  run_loadVar_row (P := Try.prog) w g 96 96 (chC x) (0, 0) _ hF Try.underlying96 rfl (by rw [chSize, ch_size, hm])
theorem lk_at {w : World} {g : Nat} {tol : Int} {sv ev : Value} {ws : List Int} (hF : LkBlk w g tol sv ev ws) (hm : ws.length = 16) : (Instr.loadAt 89 (.pointer (some ⟨g, 0, none⟩))).run Try.prog w = .ok (.agg (lkC tol sv ev ws)) w := by
  simp only [Instr.loadAt, Instr.sureAddr, Sem.run_bind, Sem.run_pure, Result.andThen_ok, lk_var hF hm]
theorem ch_at {w : World} {g : Nat} {x : List Int} (hF : ChBlk w g x) (hm : x.length = 5) : (Instr.loadAt 96 (.pointer (some ⟨g, 0, none⟩))).run Try.prog w = .ok (.agg (chC x)) w := by
  simp only [Instr.loadAt, Instr.sureAddr, Sem.run_bind, Sem.run_pure, Result.andThen_ok, ch_var hF hm]
theorem lk_exec {o : Oper} {a : Act} {w : World} {g : Nat} {tol : Int} {sv ev : Value} {ws : List Int} (x : Operand) (ho : o.op = .load 89 x) (hx : a.eval x = .pointer (some ⟨g, 0, none⟩)) (hF : LkBlk w g tol sv ev ws) (hm : ws.length = 16) :
    (execOp a.eval o).run Try.prog w = .ok (.value (.agg (lkC tol sv ev ws))) w := by
  unfold execOp
  simp only [ho, hx, Instr.loadAt, Instr.sureAddr, Sem.run_bind, Sem.run_pure, Result.andThen_ok, lk_var hF hm]
theorem ch_exec {o : Oper} {a : Act} {w : World} {g : Nat} {y : List Int} (x : Operand) (ho : o.op = .load 96 x) (hx : a.eval x = .pointer (some ⟨g, 0, none⟩)) (hF : ChBlk w g y) (hm : y.length = 5) :
    (execOp a.eval o).run Try.prog w = .ok (.value (.agg (chC y))) w := by
  unfold execOp
  simp only [ho, hx, Instr.loadAt, Instr.sureAddr, Sem.run_bind, Sem.run_pure, Result.andThen_ok, ch_var hF hm]
/-- A whole struct is stored to a block, at the step of a region that draws its order. -/
theorem lk_step {ops : Array Oper} {o : Oper} {a : Act} {K : Act → World → Prop} {Q : Exit → Act → World → Prop} {E : Prop} {w : World} (hgd : o.guard = none) (x y : Operand) (ho : o.op = .store 89 x y)
    (g : Nat) (hx : a.eval x = .pointer (some ⟨g, 0, none⟩)) (tol : Int) (sa ea : Option Addr) (n m sc ec : Nat) (ws : List Int) (tol' : Int) (sv' ev' : Value) (ws' : List Int)
    (hy : a.eval y = .agg (lkC tol (.slice sa n sc) (.slice ea m ec) ws)) (hF : LkBlk w g tol' sv' ev' ws') (hm : ws.length = 16) (hm' : ws'.length = 16)
    (h : K (a.put o.dst undef) (w.setRow g (lkC tol (.slice sa n sc) (.slice ea m ec) ws))) :
    if Region.wanted o (yielded ops a.tmps) = true then Oper.wp Try.prog o a w K Q else E := by
  rw [if_pos (by simp [Region.wanted, hgd])]
  exact wp_store_row 89 x y ho g (lkC tol (.slice sa n sc) (.slice ea m ec) ws) hx hy 89 (lkC tol' sv' ev' ws') hF (by rw [lkSize, lk_size, hm]) (by rw [lk_size, lk_size, hm, hm']) (lk_one _ _ _ _ _ _ _ _) h
theorem ch_step {ops : Array Oper} {o : Oper} {a : Act} {K : Act → World → Prop} {Q : Exit → Act → World → Prop} {E : Prop} {w : World} (hgd : o.guard = none) (x y : Operand) (ho : o.op = .store 96 x y)
    (g : Nat) (hx : a.eval x = .pointer (some ⟨g, 0, none⟩)) (m old : List Int) (hy : a.eval y = .agg (chC m)) (hF : ChBlk w g old) (hm : m.length = 5) (ho' : old.length = 5)
    (h : K (a.put o.dst undef) (w.setRow g (chC m))) :
    if Region.wanted o (yielded ops a.tmps) = true then Oper.wp Try.prog o a w K Q else E := by
  rw [if_pos (by simp [Region.wanted, hgd])]
  exact wp_store_row 96 x y ho g (chC m) hx hy 96 (chC old) hF (by rw [chSize, ch_size, hm]) (by rw [ch_size, ch_size, hm, ho']) (ch_one m) h
/-- Numbers, and noughts behind them. -/
def padC (l : List Int) : List Int := (List.range 5).map fun i => l.getD i 0
theorem padC_length (l : List Int) : (padC l).length = 5 := by simp [padC]
theorem padC_get (l : List Int) (h : l.length ≤ 5) (i : Nat) : (padC l).getD i 0 = l.getD i 0 := by
  rcases Nat.lt_or_ge i 5 with hi | hi
  · simp only [padC, List.getD_eq_getElem?_getD, List.getElem?_map, List.getElem?_range hi, Option.map_some, Option.getD_some]
  · rw [List.getD_eq_getElem?_getD, List.getD_eq_getElem?_getD, List.getElem?_eq_none (by rw [padC_length]; exact hi), List.getElem?_eq_none (by omega)]
theorem padC_split (l : List Int) (h : l.length ≤ 5) : padC l = l ++ z5.drop l.length := by
  apply List.ext_getElem (by rw [padC_length]; simp [z5]; omega)
  intro i h1 h2
  have e := padC_get l h i
  rw [List.getD_eq_getElem?_getD, List.getElem?_eq_getElem h1, Option.getD_some] at e
  rw [e, List.getElem_append]
  split
  · rename_i h3; simp [List.getD_eq_getElem?_getD, h3]
  · rename_i h3
    rw [List.getD_eq_getElem?_getD, List.getElem?_eq_none (by omega), Option.getD_none]
    have hz : ∀ j (hj : j < z5.length), z5[j] = 0 := by decide
    rw [List.getElem_drop, hz]
/-- copy of a list of numbers that came in into changes that are nought. -/
theorem ch_copy {ops : Array Oper} {rest : List Oper} {o : Oper} {a : Act} {w : World} {Q : Exit → Act → World → Prop} (hgd : o.guard = none) (d s : Operand)
    (ho : o.op = .call { callee := .builtin .copy, args := #[d, s], argTypes := #[26, 26] }) (g : Nat) (l : List Int) (sv : Value)
    (hd : a.eval d = .slice (some ⟨g, 0, none⟩) 5 5) (hs : a.eval s = sv) (hl : IntsAt w sv l) (h1 : 1 ≤ l.length) (h5 : l.length ≤ 5) (hg : ChBlk w g z5)
    (h : wpList Try.prog ops Q rest (a.put o.dst (goInt l.length)) (w.setRow g (chC (padC l)))) : wpList Try.prog ops Q (o :: rest) a w := by
  obtain ⟨_, A, cap, rfl, _, hc⟩ := hl
  obtain ⟨b, off, rfl, hk⟩ := hc (by rintro rfl; simp at h1)
  have hsz : (Try.prog.info? 3).map (·.size) = some 1 := by kernel_rfl
  refine wpList_copy_own hgd d s 26 26 ho 3 Try.underlying26 hsz g 0 5 5 ⟨b, off, none⟩ l.length cap hd hs (chC z5) 96 hg (l.map (Value.int .i64)) (by rw [List.length_map]; exact (Nat.min_eq_left h5).symm) (fun j v hv => ?_) (by rw [ch_size, List.length_map]; simp [z5]; omega) (fun v hv => by obtain ⟨y, _, rfl⟩ := List.mem_map.1 hv; rfl) ?_
  · have hj : j < l.length := by have := (List.getElem?_eq_some_iff.1 hv).1; simpa using this
    rw [Go.WideShapes.add_plain, hk j hj, ← hv]
    simp [hj]
  · have e : ((chC z5).toList.take 0 ++ (l.map (Value.int .i64) ++ (chC z5).toList.drop (0 + (l.map (Value.int .i64)).length))).toArray = chC (padC l) := by
      rw [padC_split l h5]
      simp [chC, List.map_drop]
    rw [e, List.length_map]
    exact h
/-- The error of a case and of changes. -/
def chgE (c : Cas) (l : List Int) : Int := if errC c ≠ 0 then errC c else if l.length ≠ c.shs.length then 3 else if ((List.range c.shs.length).all fun i => inB (-(c.shs.getD i default).most) (c.shs.getD i default).most (l.getD i 0)) = true then 0 else 7
/-- What lookWith answers. -/
def LookWP (c : Cas) (sv ev : Value) (l : List Int) (w : World) (e : Ending) (w' : World) : Prop :=
  (chgE c l = 0 → e = .returned (.tuple #[.agg (lkC c.tol sv ev (wsC c)), .agg (chC (padC l)), .int .i64 0])) ∧ (chgE c l ≠ 0 → e = .returned (.tuple #[.agg (lkC 0 (.slice none 0 0) (.slice none 0 0) z16), .agg (chC z5), .int .i64 (chgE c l)])) ∧ Below w.heap.size w w'
set_option maxRecDepth 100000 in
set_option maxHeartbeats 8000000 in
theorem lookWith_any (c : Cas) (sv ev lv : Value) (l : List Int) (w : World) (hC : CasAt w c sv ev) (hL : IntsAt w lv l) :
    Calls Try.prog 57 #[.agg #[.int .i64 c.tol, sv, ev], lv] w (LookWP c sv ev l w) := by
  obtain ⟨hS, hE⟩ := id hC
  obtain ⟨ls, sa, sc, rfl, lsc, hsn, _⟩ := id hS
  obtain ⟨le, ea, ec, rfl, lec, _⟩ := id hE
  obtain ⟨lm, la, lcap, rfl, lcl, _⟩ := id hL
  have HRC : Hid (chgE c l = if errC c ≠ 0 then errC c else if l.length ≠ c.shs.length then 3 else if ((List.range c.shs.length).all fun i => inB (-(c.shs.getD i default).most) (c.shs.getD i default).most (l.getD i 0)) = true then 0 else 7) := rfl
  have HLI := Lib.hid hL
  obtain ⟨tol, htol⟩ : ∃ t, c.tol = t := ⟨_, rfl⟩
  have HTOL := Lib.hid htol
  unfold LookWP
  rw [htol]
  obtain ⟨n, hn⟩ : ∃ n, c.shs.length = n := ⟨_, rfl⟩
  obtain ⟨m, hm⟩ : ∃ m, c.eds.length = m := ⟨_, rfl⟩
  obtain ⟨q, hq⟩ : ∃ q, l.length = q := ⟨_, rfl⟩
  rw [hn] at hC hS ls HRC ⊢
  rw [hm] at hC le ⊢
  rw [hq] at HLI HRC lm ⊢
  have HNN := Lib.hid hn
  have HMM := Lib.hid hm
  have HQQ := Lib.hid hq
  have HSS := Lib.hid hS
  have mI : (m : Int) ≤ 4611686018427387904 := by omega
  have nI : (n : Int) ≤ 4611686018427387904 := by omega
  have qI : (q : Int) ≤ 4611686018427387904 := by omega
  obtain ⟨W, hW, q1, q2, q3, hb, hsz⟩ := al3 w (Obj.cells #[.int .i64 tol, .slice sa n sc, .slice ea m ec] 25) (Obj.cells (lkC 0 (.slice none 0 0) (.slice none 0 0) z16) 89) (Obj.cells (chC z5) 96)
  have HLK := Lib.hid (look_any c _ _ W (hC.below hb))
  rw [HTOL.out] at HLK
  have HW := Lib.hid hW
  have Q1 := Lib.hid q1
  have Q2 : Hid (LkBlk W (w.heap.size + 1) 0 (.slice none 0 0) (.slice none 0 0) z16) := q2
  have Q3 : Hid (ChBlk W (w.heap.size + 1 + 1) z5) := q3
  have HB := Lib.hid hb
  have hz := (zero_of_info lkZero).1
  have hz2 := (zero_of_info chZero).1
  obtain ⟨ce, hce⟩ : ∃ x, chgE c l = x := ⟨_, rfl⟩
  rw [hce] at HRC ⊢
  clear hW q1 q2 q3 hb hsz hS hE hn hm hq hsn htol hC hL le ls lm lsc lec lcl hce
  go_enter Try.func57, Try.ntmps57
  go_wp2_with fail
  rw [HW.out]
  refine HLK.out.mono ?_
  rintro e w1 ⟨hok, hno, hb⟩
  have HB1 := Lib.hid (HB.out.trans (hb.mono HB.out.size))
  have R1 := Lib.hid ((hb.block _ (lt_of_block Q1.out)).trans Q1.out)
  have R2 := Lib.hid (Q2.out.below hb Q2.out.lt)
  have R3 := Lib.hid (Q3.out.below hb Q3.out.lt)
  clear hb HB Q1 Q2 Q3 HW HLK hz hz2
  by_cases h0 : errC c = 0
  · have he := hok h0
    rw [HTOL.out] at he
    subst he
    have HV := Lib.hid (valid_of h0)
    have n5 : n ≤ 5 := by rw [← HNN.out]; exact HV.out.n5
    have n1 : 1 ≤ n := by rw [← HNN.out]; exact HV.out.n1
    have nI5 : (n : Int) ≤ 5 := by omega
    rw [if_neg (by simp [h0])] at HRC
    have M1 : Hid ((w1.setRow (w.heap.size + 1) (lkC tol (.slice sa n sc) (.slice ea m ec) (wsC c))).heap[w.heap.size]? = some (Obj.cells #[.int .i64 tol, .slice sa n sc, .slice ea m ec] 25)) := (setRow_other _ _ _ _ (by omega)).trans R1.out
    have M2 : Hid (LkBlk (w1.setRow (w.heap.size + 1) (lkC tol (.slice sa n sc) (.slice ea m ec) (wsC c))) (w.heap.size + 1) tol (.slice sa n sc) (.slice ea m ec) (wsC c)) := R2.out.put _ _ _ _
    have M3 : Hid (ChBlk (w1.setRow (w.heap.size + 1) (lkC tol (.slice sa n sc) (.slice ea m ec) (wsC c))) (w.heap.size + 1 + 1) z5) := (setRow_other _ _ _ _ (by omega)).trans R3.out
    have M4 : Hid (Below w.heap.size w (w1.setRow (w.heap.size + 1) (lkC tol (.slice sa n sc) (.slice ea m ec) (wsC c)))) := below_setRow HB1.out (by omega) _
    clear hok hno
    by_cases hqn : q = n
    · subst hqn
      rw [if_neg (by simp)] at HRC
      have hqq : ((q : Int) != (q : Int)) = false := by simp
      go_wp2_with (refine lk_store rfl (.tmp 4) (.tmp 12) rfl (w.heap.size + 1) rfl tol sa ea q m sc ec (wsC c) 0 (.slice none 0 0) (.slice none 0 0) z16 rfl R2.out (wsC_length _) rfl rfl ?_; generalize hWS : w1.setRow (w.heap.size + 1) (lkC tol (.slice sa q sc) (.slice ea m ec) (wsC c)) = W2 at *; clear hWS; have r1 := cellOf M1.out 1 _ rfl; have rl := lt_of_block M1.out)
      try clear r1
      try clear rl
      clear R1 R2 R3 hqq HB1
      go_loopg [30] q (fun g v wr => ∃ k : Nat, g + k = q ∧ v = .int .i64 k ∧ Hid (∀ j, j < k → inB (-(c.shs.getD j default).most) (c.shs.getD j default).most (l.getD j 0) = true) ∧ Hid (wr.heap[w.heap.size]? = some (Obj.cells #[.int .i64 tol, .slice sa q sc, .slice ea m ec] 25)) ∧ Hid (LkBlk wr (w.heap.size + 1) tol (.slice sa q sc) (.slice ea m ec) (wsC c)) ∧ Hid (ChBlk wr (w.heap.size + 1 + 1) z5) ∧ Hid (Below w.heap.size w wr))
      case atStart => exact ⟨0, by omega, rfl, fun j hj => absurd hj (Nat.not_lt_zero _), M1, M2, M3, M4⟩
      case round =>
        clear M1 M2 M3 M4
        obtain ⟨k, hk, rfl, HT, M1, M2, M3, M4⟩ := hrel
        by_cases hkn : k < q
        · have kI : (k : Int) < (q : Int) := by omega
          have hk' : k < c.shs.length := by rw [HNN.out]; exact hkn
          obtain ⟨sb, so, rfl, d0, d1, d2⟩ := (HSS.out.below M4.out).get hk'
          have hkl : k < l.length := by rw [HQQ.out]; exact hkn
          have HLW : IntsAt wr (.slice la q lcap) l := HLI.out.below M4.out
          obtain ⟨lb, lo, rfl, g0⟩ := HLW.get hkl
          have hget : c.shs.getD k default = c.shs[k] := by simp [List.getD_eq_getElem?_getD, hk']
          have hgel : l.getD k 0 = l[k] := by simp [List.getD_eq_getElem?_getD, hkl]
          have hok := HV.out.sh c.shs[k] (List.getElem_mem hk')
          have m0 := hok.m0
          have m6 := hok.m6
          obtain ⟨ok, hokv⟩ : ∃ b, okIn (-c.shs[k].most) c.shs[k].most l[k] = b := ⟨_, rfl⟩
          have HIN : Hid (inB (-(c.shs.getD k default).most) (c.shs.getD k default).most (l.getD k 0) = ok) := by show _ = _; rw [hget, hgel]; exact hokv
          generalize l[k] = z at *
          generalize c.shs[k] = s at *
          obtain ⟨nm, wt, most⟩ := s
          simp only at d0 d1 d2 hokv m0 m6
          have HWI : Hid (∀ W' v, IntsAt W' v [z] → Calls Try.prog 48 #[.int .i64 (-most), .int .i64 most, v] W' fun e w' => e = .returned (.bool ok) ∧ W' = w') := fun W' v h => by
            have h2 := within_any (-most) most v [z] W' h
            simp only [allIn, List.all_cons, List.all_nil, Bool.and_true] at h2
            rw [hokv] at h2
            exact h2
          have hsl := World.block_lt_of_cell? wr ⟨sb, so + k * 3, none⟩ d0
          have wn : IntKind.i64.wrap (-most) = -most := by rw [IntKind.wrap_i64] <;> omega
          have hba : Below wr.heap.size wr (wr.alloc (Obj.cells #[.string nm, .int .i64 wt, .int .i64 most] 66)) := by go_grown
          have z1 : (wr.alloc (Obj.cells #[.string nm, .int .i64 wt, .int .i64 most] 66)).heap[wr.heap.size]? = some (Obj.cells #[.string nm, .int .i64 wt, .int .i64 most] 66) := heap_alloc_new wr _
          have e2 := cellOf z1 2 _ rfl
          have g0' := keepK g0 hba
          have N1 := Lib.hid ((hba.block _ (lt_of_block M1.out)).trans M1.out)
          have N2 := Lib.hid (M2.out.below hba M2.out.lt)
          have N3 := Lib.hid (M3.out.below hba M3.out.lt)
          have N4 := Lib.hid (M4.out.trans (hba.mono M4.out.size))
          clear hget hk' hokv hok M1 M2 M3 M4 z1 hba HLW hkl hgel
          go_wp2_with fail
          clear d0 d1 d2 g0 hsl
          obtain ⟨u, hu⟩ : ∃ u, wr.heap.size = u := ⟨_, rfl⟩
          rw [hu] at e2 ⊢
          clear hu
          generalize wr.alloc (Obj.cells #[.string nm, .int .i64 wt, .int .i64 most] 66) = wa at *
          refine wp_region_noPanic ?_
          refine wp_region_held_drew (S := (fun W' => W'.cell? ⟨u, 2, none⟩ = some (.int .i64 most) ∧ W'.cell? ⟨lb, lo + k, none⟩ = some (.int .i64 z))) (by kernel_rfl) ?_ (fun hh0 => ?_)
          · try dsimp only
            exact ⟨e2, g0'⟩
          refine wpAnyH_take (i := 0) (v := ?_) rfl (by as_aux_lemma => kernel_rfl) (by as_aux_lemma => kernel_rfl) (by as_aux_lemma => kernel_rfl) (fun _ _ _ h => h) (Or.inl ⟨by rfl, ?_⟩) (by assumption) ?_
          rotate_left
          · intro w hSw
            try dsimp only at hSw
            go_simp
            try with_reducible rfl
          try simp only [Act.put, List.getElem_toArray, List.getElem_cons_succ, List.getElem_cons_zero, List.setIfInBounds_toArray, List.set_cons_zero, List.set_cons_succ]
          refine wpAnyH_take (i := 1) (v := ?_) rfl (by as_aux_lemma => kernel_rfl) (by as_aux_lemma => kernel_rfl) (by as_aux_lemma => kernel_rfl) (fun _ _ _ h => h) (Or.inl ⟨by rfl, ?_⟩) (by assumption) ?_
          rotate_left
          · intro w hSw
            try dsimp only at hSw
            go_simp
            try with_reducible rfl
          try simp only [Act.put, List.getElem_toArray, List.getElem_cons_succ, List.getElem_cons_zero, List.setIfInBounds_toArray, List.set_cons_zero, List.set_cons_succ]
          refine wpAnyH_take (i := 2) (v := ?_) rfl (by as_aux_lemma => kernel_rfl) (by as_aux_lemma => kernel_rfl) (by as_aux_lemma => kernel_rfl) (fun _ _ _ h => h) (Or.inl ⟨by rfl, ?_⟩) (by assumption) ?_
          rotate_left
          · intro w hSw
            try dsimp only at hSw
            go_simp
            try with_reducible rfl
          try simp only [Act.put, List.getElem_toArray, List.getElem_cons_succ, List.getElem_cons_zero, List.setIfInBounds_toArray, List.set_cons_zero, List.set_cons_succ]
          refine wpAnyH_take (i := 3) (v := ?_) rfl (by as_aux_lemma => kernel_rfl) (by as_aux_lemma => kernel_rfl) (by as_aux_lemma => kernel_rfl) (fun _ _ _ h => h) (Or.inl ⟨by rfl, ?_⟩) (by assumption) ?_
          rotate_left
          · intro w hSw
            try dsimp only at hSw
            go_simp
            try with_reducible rfl
          try simp only [Act.put, List.getElem_toArray, List.getElem_cons_succ, List.getElem_cons_zero, List.setIfInBounds_toArray, List.set_cons_zero, List.set_cons_succ]
          refine wpAnyH_take (i := 4) (v := ?_) rfl (by as_aux_lemma => kernel_rfl) (by as_aux_lemma => kernel_rfl) (by as_aux_lemma => kernel_rfl) (fun _ _ _ h => h) (Or.inl ⟨by rfl, ?_⟩) (by assumption) ?_
          rotate_left
          · intro w hSw
            try dsimp only at hSw
            go_simp
            try with_reducible rfl
          try simp only [Act.put, List.getElem_toArray, List.getElem_cons_succ, List.getElem_cons_zero, List.setIfInBounds_toArray, List.set_cons_zero, List.set_cons_succ]
          refine wpAnyH_take (i := 5) (v := ?_) rfl (by as_aux_lemma => kernel_rfl) (by as_aux_lemma => kernel_rfl) (by as_aux_lemma => kernel_rfl) (fun _ _ _ h => h) (Or.inl ⟨by rfl, ?_⟩) (by assumption) ?_
          rotate_left
          · intro w hSw
            try dsimp only at hSw
            go_simp
            try with_reducible rfl
          try simp only [Act.put, List.getElem_toArray, List.getElem_cons_succ, List.getElem_cons_zero, List.setIfInBounds_toArray, List.set_cons_zero, List.set_cons_succ]
          refine wpAnyH_take (i := 6) (v := ?_) rfl (by as_aux_lemma => kernel_rfl) (by as_aux_lemma => kernel_rfl) (by as_aux_lemma => kernel_rfl) (fun _ _ _ h => h) (Or.inl ⟨by rfl, ?_⟩) (by assumption) ?_
          rotate_left
          · intro w hSw
            try dsimp only at hSw
            go_simp
            try with_reducible rfl
          try simp only [Act.put, List.getElem_toArray, List.getElem_cons_succ, List.getElem_cons_zero, List.setIfInBounds_toArray, List.set_cons_zero, List.set_cons_succ]
          refine wpAnyH_take (i := 7) (v := ?_) rfl (by as_aux_lemma => kernel_rfl) (by as_aux_lemma => kernel_rfl) (by as_aux_lemma => kernel_rfl) (fun _ _ _ h => h) (Or.inl ⟨by rfl, ?_⟩) (by assumption) ?_
          rotate_left
          · intro w hSw
            try dsimp only at hSw
            go_simp
            try with_reducible rfl
          try simp only [Act.put, List.getElem_toArray, List.getElem_cons_succ, List.getElem_cons_zero, List.setIfInBounds_toArray, List.set_cons_zero, List.set_cons_succ]
          refine wpAnyH_take (i := 8) (v := ?_) rfl (by as_aux_lemma => kernel_rfl) (by as_aux_lemma => kernel_rfl) (by as_aux_lemma => kernel_rfl) (fun _ _ _ h => h) (Or.inl ⟨by rfl, ?_⟩) (by assumption) ?_
          rotate_left
          · intro w hSw
            try dsimp only at hSw
            go_simp
            try with_reducible rfl
          try simp only [Act.put, List.getElem_toArray, List.getElem_cons_succ, List.getElem_cons_zero, List.setIfInBounds_toArray, List.set_cons_zero, List.set_cons_succ]
          refine wpAnyH_ready (rs := [9]) (by as_aux_lemma => kernel_rfl) (by simp) ?_
          refine AllReadyH.cons rfl (fun K hK => ?_) AllReadyH.nil
          go_simp
          have hbn : Below wa.heap.size wa ((wa.alloc (Obj.cells #[.int .i64 z] 3)).drew) := by go_grown
          refine hK.out _ _ ?_ (fun hh1 => ?_)
          · try dsimp only
            exact ⟨keepK e2 hbn, keepK g0' hbn⟩
          clear hK K hh0
          try simp only [Act.put, List.getElem_toArray, List.getElem_cons_succ, List.getElem_cons_zero, List.setIfInBounds_toArray, List.set_cons_zero, List.set_cons_succ]
          refine wpAnyH_ready (rs := [10]) (by as_aux_lemma => kernel_rfl) (by simp) ?_
          refine AllReadyH.cons rfl (fun K hK => ?_) AllReadyH.nil
          go_simp
          refine (HWI.out _ _ ((ints1 wa _ rfl z _).below (by go_grown))).mono ?_
          rintro e wg ⟨rfl, rfl⟩
          refine hK.out _ _ ?_ (fun hh2 => ?_)
          · try dsimp only
            exact hh1
          clear hK K hh1
          try simp only [Act.put, List.getElem_toArray, List.getElem_cons_succ, List.getElem_cons_zero, List.setIfInBounds_toArray, List.set_cons_zero, List.set_cons_succ]
          refine wpAnyH_take (i := 11) (v := ?_) rfl (by as_aux_lemma => kernel_rfl) (by as_aux_lemma => kernel_rfl) (by as_aux_lemma => kernel_rfl) (fun _ _ _ h => h) (Or.inl ⟨by rfl, ?_⟩) (by assumption) ?_
          rotate_left
          · intro w hSw
            try dsimp only at hSw
            go_simp
            try with_reducible rfl
          try simp only [Act.put, List.getElem_toArray, List.getElem_cons_succ, List.getElem_cons_zero, List.setIfInBounds_toArray, List.set_cons_zero, List.set_cons_succ]
          refine wpAnyH_done (by as_aux_lemma => kernel_rfl) ?_ _
          refine NoPanic.normal ?_
          have K1 := Lib.hid ((hbn.block _ (lt_of_block N1.out)).trans N1.out)
          have K2 := Lib.hid (N2.out.below hbn N2.out.lt)
          have K3 := Lib.hid (N3.out.below hbn N3.out.lt)
          have K4 := Lib.hid (N4.out.trans (hbn.mono N4.out.size))
          clear hh2 e2 g0' HWI N1 N2 N3 N4
          generalize (wa.alloc (Obj.cells #[.int .i64 z] 3)).drew = wb at *
          clear hbn
          cases ok
          · have hce : ce = 7 := by
              rw [HRC.out, if_neg]
              rw [Bool.not_eq_true, List.all_eq_false]
              exact ⟨k, List.mem_range.2 hkn, by rw [HIN.out]; simp⟩
            subst hce
            go_wp2_with (first
              | (refine wpList_buildTo rfl 89 #[] rfl (some 47) rfl _ lkBuilt0 ?_)
              | (refine wpList_buildTo rfl 96 #[] rfl (some 48) rfl _ chBuilt0 ?_)
              | (refine lk_store rfl (.tmp 4) (.tmp 47) rfl (w.heap.size + 1) rfl 0 none none 0 0 0 0 z16 tol (.slice (some ⟨sb, so, none⟩) q sc) (.slice ea m ec) (wsC c) rfl K2.out rfl (wsC_length _) rfl ?_)
              | (refine ch_store rfl (.tmp 5) (.tmp 48) rfl (w.heap.size + 1 + 1) rfl z5 z5 rfl (show ChBlk _ _ _ from (setRow_other _ _ _ _ (by omega)).trans K3.out) rfl rfl rfl ?_))
            exact bodyPost_ret (results_cct rfl _ _ _ _ _ _ _ rfl rfl (lk_var (show LkBlk _ (w.heap.size + 1) 0 (.slice none 0 0) (.slice none 0 0) z16 from (setRow_other _ _ _ _ (by omega)).trans (K2.out.put _ _ _ _)) rfl) (ch_var (show ChBlk _ (w.heap.size + 1 + 1) z5 from ChBlk.put (show ChBlk _ (w.heap.size + 1 + 1) z5 from (setRow_other _ _ _ _ (by omega)).trans K3.out) z5) rfl)) rfl ⟨fun h => absurd h (by decide), fun _ => rfl, below_setRow (below_setRow K4.out (by omega) _) (by omega) _⟩
          · have HT2 : Hid (∀ j, j < k + 1 → inB (-(c.shs.getD j default).most) (c.shs.getD j default).most (l.getD j 0) = true) := fun j hj => by
              by_cases e : j = k
              · subst e; exact HIN.out
              · exact HT.out j (by omega)
            clear HT HIN
            go_wp2
            go_roundg (gk - 1)
            case measure => omega
            case rel => exact ⟨k + 1, by omega, by go_num, HT2, K1, K2, K3, K4⟩
        · obtain rfl : q = k := by omega
          have kI : ¬ (q : Int) < (q : Int) := by omega
          have hce : ce = 0 := by
            rw [HRC.out, if_pos]
            rw [List.all_eq_true]
            exact fun j hj => HT.out j (List.mem_range.1 hj)
          subst hce
          have HLW := Lib.hid (HLI.out.below M4.out)
          have HL1 : Hid (1 ≤ l.length) := by show _ ≤ _; rw [HQQ.out]; exact n1
          have HL5 : Hid (l.length ≤ 5) := by show _ ≤ _; rw [HQQ.out]; exact n5
          have J2 : Hid (LkBlk (wr.setRow (w.heap.size + 1 + 1) (chC (padC l))) (w.heap.size + 1) tol (.slice sa q sc) (.slice ea m ec) (wsC c)) := (setRow_other _ _ _ _ (by omega)).trans M2.out
          have J3 : Hid (ChBlk (wr.setRow (w.heap.size + 1 + 1) (chC (padC l))) (w.heap.size + 1 + 1) (padC l)) := M3.out.put _
          have J4 : Hid (Below w.heap.size w (wr.setRow (w.heap.size + 1 + 1) (chC (padC l)))) := below_setRow M4.out (by omega) _
          have hgl := M3.out.lt
          clear hkn hk HT
          go_wp2_with (refine ch_copy rfl (.tmp 50) (.tmp 51) rfl (w.heap.size + 1 + 1) l (.slice la q lcap) rfl rfl HLW.out HL1.out HL5.out M3.out ?_; generalize hWS : wr.setRow (w.heap.size + 1 + 1) (chC (padC l)) = W5 at *; clear hWS)
          refine wp_region_noPanic ?_
          refine wp_region_held_drew (S := (fun W' => LkBlk W' (w.heap.size + 1) tol (.slice sa q sc) (.slice ea m ec) (wsC c) ∧ ChBlk W' (w.heap.size + 1 + 1) (padC l) ∧ Below w.heap.size w W')) (by kernel_rfl) ?_ (fun hh0 => ?_)
          · try dsimp only
            exact ⟨J2.out, J3.out, J4.out.drew⟩
          refine wpAnyH_take (i := 0) (v := .agg (lkC tol (.slice sa q sc) (.slice ea m ec) (wsC c))) rfl (by as_aux_lemma => kernel_rfl) (by as_aux_lemma => kernel_rfl) (by as_aux_lemma => kernel_rfl) (fun _ _ _ h => h) (Or.inl ⟨by rfl, ?_⟩) (by assumption) ?_
          · exact fun w hSw => lk_exec (.tmp 4) rfl rfl hSw.1 (wsC_length _)
          try simp only [Act.put, List.getElem_toArray, List.getElem_cons_succ, List.getElem_cons_zero, List.setIfInBounds_toArray, List.set_cons_zero, List.set_cons_succ]
          refine wpAnyH_take (i := 1) (v := .agg (chC (padC l))) rfl (by as_aux_lemma => kernel_rfl) (by as_aux_lemma => kernel_rfl) (by as_aux_lemma => kernel_rfl) (fun _ _ _ h => h) (Or.inl ⟨by rfl, ?_⟩) (by assumption) ?_
          · exact fun w hSw => ch_exec (.tmp 5) rfl rfl hSw.2.1 (padC_length _)
          try simp only [Act.put, List.getElem_toArray, List.getElem_cons_succ, List.getElem_cons_zero, List.setIfInBounds_toArray, List.set_cons_zero, List.set_cons_succ]
          refine wpAnyH_ready (rs := [2]) (by as_aux_lemma => kernel_rfl) (by simp) ?_
          refine AllReadyH.cons rfl (fun K hK => ?_) AllReadyH.nil
          refine lk_step rfl (.tmp 4) (.tmp 53) rfl (w.heap.size + 1) rfl tol sa ea q m sc ec (wsC c) tol (.slice sa q sc) (.slice ea m ec) (wsC c) rfl hh0.1 (wsC_length _) (wsC_length _) ?_
          refine hK.out _ _ ?_ (fun hh1 => ?_)
          · try dsimp only
            exact ⟨hh0.1.put _ _ _ _, (setRow_other _ _ _ _ (by omega)).trans hh0.2.1, below_setRow hh0.2.2 (by omega) _⟩
          clear hK K hh0
          try simp only [Act.put, List.getElem_toArray, List.getElem_cons_succ, List.getElem_cons_zero, List.setIfInBounds_toArray, List.set_cons_zero, List.set_cons_succ]
          refine wpAnyH_ready (rs := [3]) (by as_aux_lemma => kernel_rfl) (by simp) ?_
          refine AllReadyH.cons rfl (fun K hK => ?_) AllReadyH.nil
          refine ch_step rfl (.tmp 5) (.tmp 54) rfl (w.heap.size + 1 + 1) rfl (padC l) (padC l) rfl hh1.2.1 (padC_length _) (padC_length _) ?_
          refine hK.out _ _ ?_ (fun hh2 => ?_)
          · try dsimp only
            exact ⟨(setRow_other _ _ _ _ (by omega)).trans hh1.1, hh1.2.1.put _, below_setRow hh1.2.2 (by omega) _⟩
          clear hK K hh1
          try simp only [Act.put, List.getElem_toArray, List.getElem_cons_succ, List.getElem_cons_zero, List.setIfInBounds_toArray, List.set_cons_zero, List.set_cons_succ]
          refine wpAnyH_ready (rs := [4]) (by as_aux_lemma => kernel_rfl) (by simp) ?_
          refine AllReadyH.cons rfl (fun K hK => ?_) AllReadyH.nil
          go_simp
          refine hK.out _ _ ?_ (fun hh3 => ?_)
          · try dsimp only
            exact hh2
          clear hK K hh2
          try simp only [Act.put, List.getElem_toArray, List.getElem_cons_succ, List.getElem_cons_zero, List.setIfInBounds_toArray, List.set_cons_zero, List.set_cons_succ]
          refine wpAnyH_done (by as_aux_lemma => kernel_rfl) ?_ _
          refine NoPanic.normal ?_
          have T1 := Lib.hid hh3
          clear hh3
          go_wp2_with fail
          exact bodyPost_ret (results_cct rfl _ _ _ _ _ _ _ rfl rfl (lk_var T1.out.1 (wsC_length _)) (ch_var T1.out.2.1 (padC_length _))) rfl ⟨rfl, T1.out.2.2⟩
    · rw [if_pos hqn] at HRC
      have hce : ce = 3 := HRC.out
      subst hce
      have hqq : ((q : Int) != (n : Int)) = true := by simp; omega
      go_wp2_with (first
        | (refine lk_store rfl (.tmp 4) (.tmp 12) rfl (w.heap.size + 1) rfl tol sa ea n m sc ec (wsC c) 0 (.slice none 0 0) (.slice none 0 0) z16 rfl R2.out (wsC_length _) rfl rfl ?_; generalize hWS : w1.setRow (w.heap.size + 1) (lkC tol (.slice sa n sc) (.slice ea m ec) (wsC c)) = W2 at *; clear hWS; have r1 := cellOf M1.out 1 _ rfl; have rl := lt_of_block M1.out)
        | (refine wpList_buildTo rfl 89 #[] rfl (some 25) rfl _ lkBuilt0 ?_)
        | (refine wpList_buildTo rfl 96 #[] rfl (some 26) rfl _ chBuilt0 ?_)
        | (refine lk_store rfl (.tmp 4) (.tmp 25) rfl (w.heap.size + 1) rfl 0 none none 0 0 0 0 z16 tol (.slice sa n sc) (.slice ea m ec) (wsC c) rfl M2.out rfl (wsC_length _) rfl ?_)
        | (refine ch_store rfl (.tmp 5) (.tmp 26) rfl (w.heap.size + 1 + 1) rfl z5 z5 rfl (show ChBlk _ _ _ from (setRow_other _ _ _ _ (by omega)).trans M3.out) rfl rfl rfl ?_))
      exact bodyPost_ret (results_cct rfl _ _ _ _ _ _ _ rfl rfl (lk_var (show LkBlk _ (w.heap.size + 1) 0 (.slice none 0 0) (.slice none 0 0) z16 from (setRow_other _ _ _ _ (by omega)).trans (M2.out.put _ _ _ _)) rfl) (ch_var (show ChBlk _ (w.heap.size + 1 + 1) z5 from ChBlk.put (show ChBlk _ (w.heap.size + 1 + 1) z5 from (setRow_other _ _ _ _ (by omega)).trans M3.out) z5) rfl)) rfl ⟨fun h => absurd h (by decide), fun _ => rfl, below_setRow (below_setRow M4.out (by omega) _) (by omega) _⟩
  · have he := hno h0
    subst he
    rw [if_pos h0] at HRC
    obtain ⟨er, her⟩ : ∃ x, errC c = x := ⟨_, rfl⟩
    rw [her] at h0 HRC ⊢
    obtain rfl : ce = er := HRC.out
    have tz : (ce != 0) = true := by simp [h0]
    have M2 : Hid (LkBlk (w1.setRow (w.heap.size + 1) (lkC 0 (.slice none 0 0) (.slice none 0 0) z16)) (w.heap.size + 1) 0 (.slice none 0 0) (.slice none 0 0) z16) := R2.out.put _ _ _ _
    have M3 : Hid (ChBlk (w1.setRow (w.heap.size + 1) (lkC 0 (.slice none 0 0) (.slice none 0 0) z16)) (w.heap.size + 1 + 1) z5) := (setRow_other _ _ _ _ (by omega)).trans R3.out
    have M4 : Hid (Below w.heap.size w (w1.setRow (w.heap.size + 1) (lkC 0 (.slice none 0 0) (.slice none 0 0) z16))) := below_setRow HB1.out (by omega) _
    clear hok hno her HRC
    go_wp2_with (first
      | (refine lk_store rfl (.tmp 4) (.tmp 12) rfl (w.heap.size + 1) rfl 0 none none 0 0 0 0 z16 0 (.slice none 0 0) (.slice none 0 0) z16 rfl R2.out rfl rfl rfl ?_; generalize hWS : w1.setRow (w.heap.size + 1) (lkC 0 (.slice none 0 0) (.slice none 0 0) z16) = W2 at *; clear hWS)
      | (refine wpList_buildTo rfl 89 #[] rfl (some 16) rfl _ lkBuilt0 ?_)
      | (refine wpList_buildTo rfl 96 #[] rfl (some 17) rfl _ chBuilt0 ?_)
      | (refine lk_store rfl (.tmp 4) (.tmp 16) rfl (w.heap.size + 1) rfl 0 none none 0 0 0 0 z16 0 (.slice none 0 0) (.slice none 0 0) z16 rfl M2.out rfl rfl rfl ?_)
      | (refine ch_store rfl (.tmp 5) (.tmp 17) rfl (w.heap.size + 1 + 1) rfl z5 z5 rfl (show ChBlk _ _ _ from (setRow_other _ _ _ _ (by omega)).trans M3.out) rfl rfl rfl ?_))
    exact bodyPost_ret (results_cct rfl _ _ _ _ _ _ _ rfl rfl (lk_var (show LkBlk _ (w.heap.size + 1) 0 (.slice none 0 0) (.slice none 0 0) z16 from (setRow_other _ _ _ _ (by omega)).trans (M2.out.put _ _ _ _)) rfl) (ch_var (show ChBlk _ (w.heap.size + 1 + 1) z5 from ChBlk.put (show ChBlk _ (w.heap.size + 1 + 1) z5 from (setRow_other _ _ _ _ (by omega)).trans M3.out) z5) rfl)) rfl ⟨fun h => absurd h h0, fun _ => rfl, below_setRow (below_setRow M4.out (by omega) _) (by omega) _⟩
end Go.Proofs.Ytojdocomkhihoaa
