/- Contracts of the reference's Check, All and Cuts, and of the examples' words. No law is proved here. -/
import Derived.Test.YthflbbjilebhlaaWb
import Derived.Test.YthflbbjilebhlaaUw
import Derived.Test.YthflbbjilebhlaaUx
import Derived.BigQuiet
import Derived.Test.YthflbbjilebhlaaYo
import Derived.Test.YthflbbjilebhlaaVf
import Derived.Laws.StructEq
set_option linter.unusedSimpArgs false
set_option linter.unusedVariables false
namespace Go.Proofs.Ythflbbjilebhlaa
open Go Go.RowKit Go.Shelf Sc

theorem step_app1 {ops : Array Oper} {o : Oper} {a : Act} {K : Act → World → Prop} {Q : Exit → Act → World → Prop} {E : Prop} {w : World} (hgd : o.guard = none) (s x : Operand)
    (ho : o.op = .call { callee := .builtin .append, args := #[s, x], argTypes := #[22, 22] })
    (base n : Nat) (v : Value) (xs : List Value) (g : Nat) (y : Int) (hs : a.eval s = v) (hx : a.eval x = .slice (some ⟨g, 0, none⟩) 1 1) (hown : w.ownsRow base 3 1 v n xs) (hc : w.cell? ⟨g, 0, none⟩ = some (.int .i64 y)) (hn : n ≤ 1000) (hb : base ≤ w.heap.size)
    (h : ∀ v' w', w'.ownsRow base 3 1 v' (n + 1) (xs ++ [.int .i64 y]) → w.grownBy w' v.ownBlock → K (a.put o.dst v') w') :
    if Region.wanted o (yielded ops a.tmps) = true then Oper.wp Try.prog o a w K Q else E := by
  rw [if_pos (by simp [Region.wanted, hgd])]
  obtain ⟨v', w', hr, h2, h3, h4⟩ := run_app1 w o.type base n v xs g y hown hc hn hb
  unfold Oper.wp execOp
  simp only [ho, resolve, invoke, builtin, Sem.run_bind, Sem.run_pure, Result.andThen_ok, List.map_toArray, List.map_cons, List.map_nil, hs, hx, hr]
  exact h v' w' h2 h3
theorem cutsC_take (c : Cse) (s : Scl) (k : Nat) (h : k < c.hs.length) : (cutsC c s).take (k + 1) = (cutsC c s).take k ++ [cutH c s (c.hs.getD k 0)] := by
  have hl : k < (cutsC c s).length := by simpa [cutsC] using h
  rw [List.take_succ_eq_append_getElem hl]
  simp [cutsC, List.getD_eq_getElem?_getD, h]
set_option maxRecDepth 100000 in
set_option maxHeartbeats 8000000 in
theorem rAll_any (c : Cse) (hv rv : Value) (s : Scl) (w : World) (hC : CseAt w c hv rv) (hV : Valid c) (hs : 1 ≤ s.1 ∧ s.1 ≤ 30 ∧ 1 ≤ s.2 ∧ s.2 ≤ 30) :
    Calls Try.prog 51 #[.agg #[.int .i64 c.kind, .int .i64 c.base, .int .i64 c.most, hv, rv], .agg #[.int .i64 s.1, .int .i64 s.2]] w fun e w' => ∃ v, e = .returned v ∧ w'.ownsRow w.heap.size 3 1 v (cutsC c s).length ((cutsC c s).map (Value.int .i64)) ∧ IntsAt w' v (cutsC c s) ∧ Below w.heap.size w w' := by
  obtain ⟨hS, hE⟩ := hC
  obtain ⟨ls, ha, hc, rfl, lsc, hne⟩ := id hS
  obtain ⟨le, ra, rc, rfl, lec, _⟩ := id hE
  obtain ⟨b, o, rfl, hcell⟩ := hne (by have := hV.n1; rintro h; rw [h] at this; simp at this)
  obtain ⟨n, hn⟩ : ∃ n, c.hs.length = n := ⟨_, rfl⟩
  obtain ⟨m, hm⟩ : ∃ m, c.rds.length = m := ⟨_, rfl⟩
  rw [hn] at ls lsc hS ⊢
  rw [hm] at le lec hE ⊢
  have n8 : n ≤ 8 := by rw [← hn]; exact hV.n8
  have nI : (n : Int) ≤ 8 := by omega
  have HV := Lib.hid hV
  have HN := Lib.hid hn
  have hcl : (cutsC c s).length = n := by simp [cutsC, hn]
  rw [hcl]
  have HCL := Lib.hid hcl
  obtain ⟨kind, hkind⟩ : ∃ x, c.kind = x := ⟨_, rfl⟩
  obtain ⟨base, hbase⟩ : ∃ x, c.base = x := ⟨_, rfl⟩
  obtain ⟨most, hmost⟩ : ∃ x, c.most = x := ⟨_, rfl⟩
  have HK := Lib.hid hkind
  have HBA := Lib.hid hbase
  rw [hkind, hbase, hmost]
  obtain ⟨u, d⟩ := s
  have HSS := Lib.hid hs
  simp only at hs ⊢
  obtain ⟨W, hW, q1, q2, hb, hsz⟩ := al2 w (Obj.cells #[.int .i64 kind, .int .i64 base, .int .i64 most, .slice (some ⟨b, o, none⟩) n hc, .slice ra m rc] 25) (Obj.cells #[.int .i64 u, .int .i64 d] 27)
  have HW := Lib.hid hW
  have Q1 := Lib.hid q1
  have Q2 := Lib.hid q2
  have HB := Lib.hid hb
  have HI := Lib.hid (hS.below hb)
  clear hn hm hkind hbase hmost hV hW q1 q2 hb hsz hcl hE hcell hne hS hs
  go_enter Try.func51, Try.ntmps51
  go_upto_region 1 with fail
  rw [HW.out]
  go_wp2
  go_loopg [5, 6] n (fun gh v5 i wr => ∃ (k : Nat) (a5 : Option Addr) (c5 : Nat), gh + k = n ∧ i = .int .i64 (k : Int) ∧ v5 = .slice a5 k c5 ∧ Hid (wr.ownsRow W.heap.size 3 1 (.slice a5 k c5) k (((cutsC c (u, d)).take k).map (Value.int .i64))) ∧ Hid (Below W.heap.size W wr))
  case atStart => exact ⟨0, none, 0, by omega, rfl, rfl, World.ownsRow_nil .., Below.refl _ _⟩
  case round =>
    obtain ⟨k, a5, c5, hk, rfl, rfl, HO, HL⟩ := hrel
    have G1 := (HL.out.block _ (lt_of_block Q1.out)).trans Q1.out
    have c3 := cellOf G1 3 (.slice (some ⟨b, o, none⟩) n hc) rfl
    have cl := lt_of_block G1
    by_cases hlt : k < n
    · have kI : (k : Int) < (n : Int) := by omega
      have kz : (0 : Int) ≤ (k : Int) := by omega
      have G2 := (HL.out.block _ (lt_of_block Q2.out)).trans Q2.out
      have c0 := cellOf G1 0 (.int .i64 kind) rfl
      have c1 := cellOf G1 1 (.int .i64 base) rfl
      have e0 := cellOf G2 0 (.int .i64 u) rfl
      have e1 := cellOf G2 1 (.int .i64 d) rfl
      have el := lt_of_block G2
      have hk' : k < c.hs.length := by rw [HN.out]; exact hlt
      obtain ⟨b', o', e', dW⟩ := HI.out.get hk'
      cases e'
      have d0 := keepK dW HL.out
      have hgd : c.hs.getD k 0 = c.hs[k] := by simp [List.getD_eq_getElem?_getD, hk']
      rw [← hgd] at d0 dW
      have hbd := HV.out.hs k hk'
      have hb0 := HV.out.b0
      rw [HBA.out] at hbd hb0
      have HTK := Lib.hid (cutsC_take c (u, d) k hk')
      have hct : cutH c (u, d) (c.hs.getD k 0) = rndK kind ((c.hs.getD k 0 - base) * u) d := by unfold cutH; rw [HK.out, HBA.out]
      obtain ⟨x, hx⟩ : ∃ x, c.hs.getD k 0 = x := ⟨_, rfl⟩
      rw [hx] at d0 dW hbd HTK hct
      rw [hct] at HTK
      have HCU : Hid (∀ V, Calls Try.prog 88 #[.int .i64 kind, .int .i64 (x - base), .agg #[.int .i64 u, .int .i64 d]] V fun e w' => e = .returned (.int .i64 (rndK kind ((x - base) * u) d)) ∧ Below V.heap.size V w') := fun V => rCut_any kind (x - base) (u, d) V (by have h1 := HV.out.k1; have h3 := HV.out.k3; rw [HK.out] at h1 h3; exact ⟨h1, h3⟩) (by omega) HSS.out
      have w1 : IntKind.i64.wrap (x - base) = x - base := by rw [IntKind.wrap_i64] <;> omega
      have dl := World.block_lt_of_cell? wr ⟨b, o + k, none⟩ d0
      obtain ⟨y, hy⟩ : ∃ y, rndK kind ((x - base) * u) d = y := ⟨_, rfl⟩
      rw [hy] at HTK HCU
      have k8 : k ≤ 8 := by omega
      have HALL : Hid (∀ V : World, Below W.heap.size W V → V.cell? ⟨w.heap.size, 0, none⟩ = some (.int .i64 kind) ∧ V.cell? ⟨w.heap.size, 1, none⟩ = some (.int .i64 base) ∧ V.cell? ⟨w.heap.size, 3, none⟩ = some (.slice (some ⟨b, o, none⟩) n hc) ∧ V.cell? ⟨w.heap.size + 1, 0, none⟩ = some (.int .i64 u) ∧ V.cell? ⟨w.heap.size + 1, 1, none⟩ = some (.int .i64 d) ∧ V.cell? ⟨b, o + k, none⟩ = some (.int .i64 x) ∧ Below W.heap.size W V) := fun V hV =>
        ⟨keepK (cellOf Q1.out 0 _ rfl) hV, keepK (cellOf Q1.out 1 _ rfl) hV, keepK (cellOf Q1.out 3 _ rfl) hV, keepK (cellOf Q2.out 0 _ rfl) hV, keepK (cellOf Q2.out 1 _ rfl) hV, keepK dW hV, hV⟩
      clear dW G1 G2 hgd hbd hb0 hk' hx hct hy
      go_wp2_with fail
      refine wp_region_noPanic ?_
      refine wp_region_held_drew (S := (fun W' => W'.cell? ⟨w.heap.size, 0, none⟩ = some (.int .i64 kind) ∧ W'.cell? ⟨w.heap.size, 1, none⟩ = some (.int .i64 base) ∧ W'.cell? ⟨w.heap.size, 3, none⟩ = some (.slice (some ⟨b, o, none⟩) n hc) ∧ W'.cell? ⟨(w.heap.size + 1), 0, none⟩ = some (.int .i64 u) ∧ W'.cell? ⟨(w.heap.size + 1), 1, none⟩ = some (.int .i64 d) ∧ W'.cell? ⟨b, o + k, none⟩ = some (.int .i64 x) ∧ Below W.heap.size W W')) (by kernel_rfl) ?_ (fun hh0 => ?_)
      · try dsimp only
        exact HALL.out _ HL.out.drew
      refine wpAnyH_take (i := 0) (v := ?_) rfl (by as_aux_lemma => kernel_rfl) (by as_aux_lemma => kernel_rfl) (by as_aux_lemma => kernel_rfl) (fun _ _ _ h => h) (Or.inl ⟨by rfl, ?_⟩) (by assumption) ?_
      rotate_left
      · intro w hSw
        try dsimp only at hSw
        go_simp
        try with_reducible rfl
      try simp only [Act.put, List.getElem_toArray, List.getElem_cons_succ, List.getElem_cons_zero, List.setIfInBounds_toArray, List.set_cons_zero, List.set_cons_succ]
      refine wpAnyH_take (i := 1) (v := ?_) rfl (by as_aux_lemma => kernel_rfl) (by as_aux_lemma => kernel_rfl) (by as_aux_lemma => kernel_rfl) (fun _ _ _ h => h) (Or.inl ⟨by rfl, ?_⟩) (by assumption) ?_
      rotate_left
      · intro w hSw
        try dsimp only at hSw
        go_simp
        try with_reducible rfl
      try simp only [Act.put, List.getElem_toArray, List.getElem_cons_succ, List.getElem_cons_zero, List.setIfInBounds_toArray, List.set_cons_zero, List.set_cons_succ]
      refine wpAnyH_take (i := 2) (v := ?_) rfl (by as_aux_lemma => kernel_rfl) (by as_aux_lemma => kernel_rfl) (by as_aux_lemma => kernel_rfl) (fun _ _ _ h => h) (Or.inl ⟨by rfl, ?_⟩) (by assumption) ?_
      rotate_left
      · intro w hSw
        try dsimp only at hSw
        go_simp
        try with_reducible rfl
      try simp only [Act.put, List.getElem_toArray, List.getElem_cons_succ, List.getElem_cons_zero, List.setIfInBounds_toArray, List.set_cons_zero, List.set_cons_succ]
      refine wpAnyH_take (i := 3) (v := ?_) rfl (by as_aux_lemma => kernel_rfl) (by as_aux_lemma => kernel_rfl) (by as_aux_lemma => kernel_rfl) (fun _ _ _ h => h) (Or.inl ⟨by rfl, ?_⟩) (by assumption) ?_
      rotate_left
      · intro w hSw
        try dsimp only at hSw
        go_simp
        try with_reducible rfl
      try simp only [Act.put, List.getElem_toArray, List.getElem_cons_succ, List.getElem_cons_zero, List.setIfInBounds_toArray, List.set_cons_zero, List.set_cons_succ]
      refine wpAnyH_take (i := 4) (v := ?_) rfl (by as_aux_lemma => kernel_rfl) (by as_aux_lemma => kernel_rfl) (by as_aux_lemma => kernel_rfl) (fun _ _ _ h => h) (Or.inl ⟨by rfl, ?_⟩) (by assumption) ?_
      rotate_left
      · intro w hSw
        try dsimp only at hSw
        go_simp
        try with_reducible rfl
      try simp only [Act.put, List.getElem_toArray, List.getElem_cons_succ, List.getElem_cons_zero, List.setIfInBounds_toArray, List.set_cons_zero, List.set_cons_succ]
      refine wpAnyH_take (i := 5) (v := ?_) rfl (by as_aux_lemma => kernel_rfl) (by as_aux_lemma => kernel_rfl) (by as_aux_lemma => kernel_rfl) (fun _ _ _ h => h) (Or.inl ⟨by rfl, ?_⟩) (by assumption) ?_
      rotate_left
      · intro w hSw
        try dsimp only at hSw
        go_simp
        try with_reducible rfl
      try simp only [Act.put, List.getElem_toArray, List.getElem_cons_succ, List.getElem_cons_zero, List.setIfInBounds_toArray, List.set_cons_zero, List.set_cons_succ]
      refine wpAnyH_take (i := 6) (v := ?_) rfl (by as_aux_lemma => kernel_rfl) (by as_aux_lemma => kernel_rfl) (by as_aux_lemma => kernel_rfl) (fun _ _ _ h => h) (Or.inl ⟨by rfl, ?_⟩) (by assumption) ?_
      rotate_left
      · intro w hSw
        try dsimp only at hSw
        go_simp
        try with_reducible rfl
      try simp only [Act.put, List.getElem_toArray, List.getElem_cons_succ, List.getElem_cons_zero, List.setIfInBounds_toArray, List.set_cons_zero, List.set_cons_succ]
      refine wpAnyH_take (i := 7) (v := ?_) rfl (by as_aux_lemma => kernel_rfl) (by as_aux_lemma => kernel_rfl) (by as_aux_lemma => kernel_rfl) (fun _ _ _ h => h) (Or.inl ⟨by rfl, ?_⟩) (by assumption) ?_
      rotate_left
      · intro w hSw
        try dsimp only at hSw
        go_simp
        try with_reducible rfl
      try simp only [Act.put, List.getElem_toArray, List.getElem_cons_succ, List.getElem_cons_zero, List.setIfInBounds_toArray, List.set_cons_zero, List.set_cons_succ]
      refine wpAnyH_take (i := 8) (v := ?_) rfl (by as_aux_lemma => kernel_rfl) (by as_aux_lemma => kernel_rfl) (by as_aux_lemma => kernel_rfl) (fun _ _ _ h => h) (Or.inl ⟨by rfl, ?_⟩) (by assumption) ?_
      rotate_left
      · intro w hSw
        try dsimp only at hSw
        go_simp
        try with_reducible rfl
      try simp only [Act.put, List.getElem_toArray, List.getElem_cons_succ, List.getElem_cons_zero, List.setIfInBounds_toArray, List.set_cons_zero, List.set_cons_succ]
      refine wpAnyH_take (i := 9) (v := ?_) rfl (by as_aux_lemma => kernel_rfl) (by as_aux_lemma => kernel_rfl) (by as_aux_lemma => kernel_rfl) (fun _ _ _ h => h) (Or.inl ⟨by rfl, ?_⟩) (by assumption) ?_
      rotate_left
      · intro w hSw
        try dsimp only at hSw
        go_simp
        try with_reducible rfl
      try simp only [Act.put, List.getElem_toArray, List.getElem_cons_succ, List.getElem_cons_zero, List.setIfInBounds_toArray, List.set_cons_zero, List.set_cons_succ]
      refine wpAnyH_take (i := 10) (v := ?_) rfl (by as_aux_lemma => kernel_rfl) (by as_aux_lemma => kernel_rfl) (by as_aux_lemma => kernel_rfl) (fun _ _ _ h => h) (Or.inl ⟨by rfl, ?_⟩) (by assumption) ?_
      rotate_left
      · intro w hSw
        try dsimp only at hSw
        go_simp
        try with_reducible rfl
      try simp only [Act.put, List.getElem_toArray, List.getElem_cons_succ, List.getElem_cons_zero, List.setIfInBounds_toArray, List.set_cons_zero, List.set_cons_succ]
      refine wpAnyH_take (i := 11) (v := ?_) rfl (by as_aux_lemma => kernel_rfl) (by as_aux_lemma => kernel_rfl) (by as_aux_lemma => kernel_rfl) (fun _ _ _ h => h) (Or.inl ⟨by rfl, ?_⟩) (by assumption) ?_
      rotate_left
      · intro w hSw
        try dsimp only at hSw
        go_simp
        try with_reducible rfl
      try simp only [Act.put, List.getElem_toArray, List.getElem_cons_succ, List.getElem_cons_zero, List.setIfInBounds_toArray, List.set_cons_zero, List.set_cons_succ]
      refine wpAnyH_ready (rs := [12]) (by as_aux_lemma => kernel_rfl) (by simp) ?_
      refine AllReadyH.cons rfl (fun K hK => ?_) AllReadyH.nil
      go_simp
      refine (HCU.out _).mono ?_
      rintro e w7 ⟨rfl, hb7⟩
      refine hK.out _ _ ?_ (fun hh1 => ?_)
      · try dsimp only
        exact HALL.out _ (hh0.2.2.2.2.2.2.trans ((hb7).mono hh0.2.2.2.2.2.2.size))
      clear hK K hh0
      try simp only [Act.put, List.getElem_toArray, List.getElem_cons_succ, List.getElem_cons_zero, List.setIfInBounds_toArray, List.set_cons_zero, List.set_cons_succ]
      refine wpAnyH_ready (rs := [13]) (by as_aux_lemma => kernel_rfl) (by simp) ?_
      refine AllReadyH.cons rfl (fun K hK => ?_) AllReadyH.nil
      go_simp
      refine hK.out _ _ ?_ (fun hh2 => ?_)
      · try dsimp only
        exact HALL.out _ (hh1.2.2.2.2.2.2.trans (((by go_grown : Below w7.heap.size w7 (w7.alloc (Obj.cells #[.int .i64 y] 3)))).mono hh1.2.2.2.2.2.2.size))
      clear hK K hh1
      try simp only [Act.put, List.getElem_toArray, List.getElem_cons_succ, List.getElem_cons_zero, List.setIfInBounds_toArray, List.set_cons_zero, List.set_cons_succ]
      refine wpAnyH_ready (rs := [14]) (by as_aux_lemma => kernel_rfl) (by simp) ?_
      refine AllReadyH.cons rfl (fun K hK => ?_) AllReadyH.nil
      have hown7 := own_below (own_below HO.out (Below.refl wr.heap.size wr).drew) hb7
      have hba7 : Below w7.heap.size w7 (w7.alloc (Obj.cells #[.int .i64 y] 3)) := by go_grown
      have hs7 : W.heap.size ≤ w7.heap.size := Nat.le_trans HL.out.size hb7.size
      refine step_app1 (by rfl) _ _ (by rfl) W.heap.size k _ _ w7.heap.size y (by rfl) (by rfl) (own_below hown7 hba7) (cellOf (heap_alloc_new w7 (Obj.cells #[.int .i64 y] 3)) 0 _ rfl) (by omega) (Nat.le_trans hs7 hba7.size) ?_
      intro v' w8 hown8 hg8
      obtain ⟨va, vc, rfl⟩ := own_slice hown8
      have hown8 := Lib.hid hown8
      have hL8 : Below W.heap.size W w8 := (hh2.2.2.2.2.2.2).grown hg8 (Nat.le_trans hs7 hba7.size) (fun g hg => (hown7.lt g hg).1)
      refine hK.out _ _ ?_ (fun hh3 => ?_)
      · try dsimp only
        exact HALL.out _ hL8
      clear hK K hh2
      try simp only [Act.put, List.getElem_toArray, List.getElem_cons_succ, List.getElem_cons_zero, List.setIfInBounds_toArray, List.set_cons_zero, List.set_cons_succ]
      refine wpAnyH_ready (rs := [15]) (by as_aux_lemma => kernel_rfl) (by simp) ?_
      refine AllReadyH.cons rfl (fun K hK => ?_) AllReadyH.nil
      go_simp
      refine hK.out _ _ ?_ (fun hh4 => ?_)
      · try dsimp only
        exact hh3
      clear hK K hh3
      try simp only [Act.put, List.getElem_toArray, List.getElem_cons_succ, List.getElem_cons_zero, List.setIfInBounds_toArray, List.set_cons_zero, List.set_cons_succ]
      refine wpAnyH_done (by as_aux_lemma => kernel_rfl) ?_ _
      refine NoPanic.normal ?_
      have HO8 : Hid (w8.ownsRow W.heap.size 3 1 (.slice va (k + 1) vc) (k + 1) (((cutsC c (u, d)).take (k + 1)).map (Value.int .i64))) := by
        show World.ownsRow ..
        rw [HTK.out, List.map_append]
        exact hown8.out
      have HL8 := Lib.hid (hh4.2.2.2.2.2.2)
      go_wp2_with fail
      go_roundg (gk - 1)
      case measure => omega
      case rel => exact ⟨k + 1, va, vc, by omega, by go_num, rfl, HO8, HL8⟩
    · obtain rfl : k = n := by omega
      have e : (cutsC c (u, d)).take k = cutsC c (u, d) := List.take_of_length_le (by rw [HCL.out]; exact Nat.le_refl _)
      rw [e] at HO
      have kI : ¬ (k : Int) < (k : Int) := by omega
      have HI2 : Hid (IntsAt wr (.slice a5 k c5) (cutsC c (u, d))) := intsAt_own (base := W.heap.size) (by rw [HCL.out]; exact HO.out) (by rw [HCL.out]; omega)
      have HO2 := Lib.hid (own_base HO.out HB.out.size)
      clear hlt hk e
      go_wp2_with fail
      go_ret
      exact ⟨_, rfl, HO2.out, HI2.out, HB.out.trans (HL.out.mono HB.out.size)⟩
end Go.Proofs.Ythflbbjilebhlaa
namespace Go.Proofs.Ythflbbjilebhlaa
open Go Go.RowKit Go.Shelf Sc

theorem kindB_in (k : Int) : inB 1 3 k = kindB k := by
  cases h : kindB k with
  | true => have := (kindB_iff k).1 h; unfold inB; simp; omega
  | false =>
    have : ¬ (1 ≤ k ∧ k ≤ 3) := fun q => by rw [(kindB_iff k).2 q] at h; cases h
    unfold inB
    simp
    omega
set_option maxRecDepth 100000 in
set_option maxHeartbeats 16000000 in
theorem rCheck_any (c : Cse) (hv rv : Value) (w : World) (hC : CseAt w c hv rv) :
    Calls Try.prog 16 #[.agg #[.int .i64 c.kind, .int .i64 c.base, .int .i64 c.most, hv, rv]] w fun e w' => e = .returned (.tuple #[.int .i64 (checkC c).1, .int .i64 (checkC c).2.1, .int .i64 (checkC c).2.2]) ∧ Below w.heap.size w w' := by
  obtain ⟨hS, hE⟩ := hC
  obtain ⟨ls, ha, hc, rfl, lsc, _⟩ := id hS
  obtain ⟨le, ra, rc, rfl, lec, _⟩ := id hE
  obtain ⟨n, hn⟩ : ∃ n, c.hs.length = n := ⟨_, rfl⟩
  obtain ⟨m, hm⟩ : ∃ m, c.rds.length = m := ⟨_, rfl⟩
  rw [hn] at ls lsc hS ⊢
  rw [hm] at le lec hE ⊢
  obtain ⟨⟨p1, p2, p3⟩, hcc⟩ : ∃ x, checkC c = x := ⟨_, rfl⟩
  have HK := Lib.hid hcc
  rw [hcc]
  simp only
  obtain ⟨kind, hkind⟩ : ∃ x, c.kind = x := ⟨_, rfl⟩
  obtain ⟨base, hbase⟩ : ∃ x, c.base = x := ⟨_, rfl⟩
  obtain ⟨most, hmost⟩ : ∃ x, c.most = x := ⟨_, rfl⟩
  rw [hkind, hbase, hmost]
  have HKD := Lib.hid hkind
  have HBS := Lib.hid hbase
  have HMO := Lib.hid hmost
  have HN := Lib.hid hn
  have HM := Lib.hid hm
  obtain ⟨W, hW, z, hb⟩ : ∃ W, w.alloc (Obj.cells #[.int .i64 kind, .int .i64 base, .int .i64 most, .slice ha n hc, .slice ra m rc] 25) = W ∧ W.heap[w.heap.size]? = some (.cells #[.int .i64 kind, .int .i64 base, .int .i64 most, .slice ha n hc, .slice ra m rc] 25 (0, 0)) ∧ Below w.heap.size w W := ⟨_, rfl, heap_alloc_new _ _, by go_grown⟩
  have HW := Lib.hid hW
  have HB := Lib.hid hb
  have HZ := Lib.hid z
  have HS := Lib.hid (hS.below hb)
  have HE := Lib.hid (hE.below hb)
  have nI : (n : Int) ≤ 4611686018427387904 := by omega
  have mI : (m : Int) ≤ 4611686018427387904 := by omega
  have c0 := cellOf z 0 (.int .i64 kind) rfl
  have c1 := cellOf z 1 (.int .i64 base) rfl
  have c2 := cellOf z 2 (.int .i64 most) rfl
  have c3 := cellOf z 3 (.slice ha n hc) rfl
  have c4 := cellOf z 4 (.slice ra m rc) rfl
  have cl := lt_of_block z
  obtain ⟨b0, hb0⟩ : ∃ x, kindB kind = x := ⟨_, rfl⟩
  obtain ⟨b1, hb1⟩ : ∃ x, inB 0 9000 base = x := ⟨_, rfl⟩
  obtain ⟨b2, hb2⟩ : ∃ x, inB 0 100000 most = x := ⟨_, rfl⟩
  obtain ⟨b3, hb3⟩ : ∃ x, inB 1 8 (n : Int) = x := ⟨_, rfl⟩
  have R0 : Hid (∀ V, Calls Try.prog 55 #[.int .i64 kind, .int .i64 1, .int .i64 3] V fun e w' => e = .returned (.bool b0) ∧ V = w') := fun V => by have h := rin_any kind 1 3 V; rw [kindB_in, hb0] at h; exact h
  have R1 : Hid (∀ V, Calls Try.prog 55 #[.int .i64 base, .int .i64 0, .int .i64 9000] V fun e w' => e = .returned (.bool b1) ∧ V = w') := fun V => by have h := rin_any base 0 9000 V; rw [hb1] at h; exact h
  have R2 : Hid (∀ V, Calls Try.prog 55 #[.int .i64 most, .int .i64 0, .int .i64 100000] V fun e w' => e = .returned (.bool b2) ∧ V = w') := fun V => by have h := rin_any most 0 100000 V; rw [hb2] at h; exact h
  have R3 : Hid (∀ V, Calls Try.prog 55 #[.int .i64 n, .int .i64 1, .int .i64 8] V fun e w' => e = .returned (.bool b3) ∧ V = w') := fun V => by have h := rin_any n 1 8 V; rw [hb3] at h; exact h
  have E0 := Lib.hid hb0
  have E1 := Lib.hid hb1
  have E2 := Lib.hid hb2
  have E3 := Lib.hid hb3
  clear hS hE hn hm hcc hkind hbase hmost hW z hb hb0 hb1 hb2 hb3
  go_enter Try.func16, Try.ntmps16
  go_upto_region 1 with fail
  rw [HW.out]
  go_wp2_with fail
  refine (R0.out _).mono ?_
  rintro e w1 ⟨rfl, rfl⟩
  cases b0
  · skip
    have hr := checkC_kind (c := c) (by rw [HKD.out]; exact E0.out)
    rw [HK.out] at hr
    simp only [Prod.mk.injEq] at hr
    obtain ⟨rfl, rfl, rfl⟩ := hr
    go_wp2_with fail
    refine bodyPost_ret (results_tmp3 rfl _ _ _) rfl ?_
    exact ⟨rfl, HB.out⟩
  · have HKB : Hid (kindB c.kind = true) := by show _ = _; rw [HKD.out]; exact E0.out
    go_wp2_with fail
    refine (R1.out _).mono ?_
    rintro e w1 ⟨rfl, rfl⟩
    cases b1
    · skip
      have hr := checkC_rng (c := c) HKB.out (.inl (by rw [HBS.out]; exact E1.out))
      rw [HK.out] at hr
      simp only [Prod.mk.injEq] at hr
      obtain ⟨rfl, rfl, rfl⟩ := hr
      go_wp2_with fail
      refine bodyPost_ret (results_tmp3 rfl _ _ _) rfl ?_
      exact ⟨rfl, HB.out⟩
    · go_wp2_with fail
      refine (R2.out _).mono ?_
      rintro e w1 ⟨rfl, rfl⟩
      cases b2
      · skip
        have hr := checkC_rng (c := c) HKB.out (.inr (by rw [HMO.out]; exact E2.out))
        rw [HK.out] at hr
        simp only [Prod.mk.injEq] at hr
        obtain ⟨rfl, rfl, rfl⟩ := hr
        go_wp2_with fail
        refine bodyPost_ret (results_tmp3 rfl _ _ _) rfl ?_
        exact ⟨rfl, HB.out⟩
      · have HRG : Hid (¬ (inB 0 9000 c.base = false ∨ inB 0 100000 c.most = false)) := by show ¬ _; rw [HBS.out, HMO.out, E1.out, E2.out]; simp
        go_wp2_with fail
        refine (R3.out _).mono ?_
        rintro e w1 ⟨rfl, rfl⟩
        cases b3
        · skip
          have hr := checkC_len (c := c) HKB.out HRG.out (.inl (by rw [HN.out]; exact E3.out))
          rw [HK.out] at hr
          simp only [Prod.mk.injEq] at hr
          obtain ⟨rfl, rfl, rfl⟩ := hr
          go_wp2_with fail
          refine bodyPost_ret (results_tmp3 rfl _ _ _) rfl ?_
          exact ⟨rfl, HB.out⟩
        · by_cases hm8 : (8 : Int) < (m : Int)
          · skip
            have hr := checkC_len (c := c) HKB.out HRG.out (.inr (by rw [HM.out]; unfold inB; simp; omega))
            rw [HK.out] at hr
            simp only [Prod.mk.injEq] at hr
            obtain ⟨rfl, rfl, rfl⟩ := hr
            go_wp2_with fail
            refine bodyPost_ret (results_tmp3 rfl _ _ _) rfl ?_
            exact ⟨rfl, HB.out⟩
          · have HLN : Hid (¬ (inB 1 8 (c.hs.length : Int) = false ∨ inB 0 8 (c.rds.length : Int) = false)) := by
              show ¬ _
              rw [HN.out, HM.out, E3.out]
              have e : inB 0 8 (m : Int) = true := by unfold inB; simp; omega
              rw [e]
              simp
            have hn8 := E3.out
            unfold inB at hn8
            simp only [Bool.and_eq_true, decide_eq_true_eq] at hn8
            have m8 : (m : Int) ≤ 8 := by omega
            have n8 : (n : Int) ≤ 8 := hn8.2
            have wn : IntKind.i64.wrap ((n : Int) - 1) = (n : Int) - 1 := by rw [IntKind.wrap_i64] <;> omega
            clear hn8 R0 R1 R2 R3
            go_wp2_with fail
            go_loopg [5] n (fun gh i wr => ∃ (k : Nat), gh + k = n ∧ i = .int .i64 (k : Int) ∧ Hid (∀ j, j < k → htE c j = 0) ∧ Hid (Below W.heap.size W wr))
            case atStart => exact ⟨0, by omega, rfl, fun j hj => by omega, Below.refl _ _⟩
            case round =>
              obtain ⟨k, hk, rfl, HA, HL⟩ := hrel
              have G1 := (HL.out.block _ (lt_of_block HZ.out)).trans HZ.out
              clear c0 c1 c2 c3 c4 cl
              have c3 := cellOf G1 3 (.slice ha n hc) rfl
              have cl := lt_of_block G1
              by_cases hlt : k < n
              · have kI : (k : Int) < (n : Int) := by omega
                have kz : (0 : Int) ≤ (k : Int) := by omega
                have c1 := cellOf G1 1 (.int .i64 base) rfl
                have hk' : k < c.hs.length := by rw [HN.out]; exact hlt
                obtain ⟨b, o, rfl, d0⟩ := (HS.out.below HL.out).get hk'
                have hgd : c.hs.getD k 0 = c.hs[k] := by simp [List.getD_eq_getElem?_getD, hk']
                obtain ⟨x, hx⟩ : ∃ x, c.hs.getD k 0 = x := ⟨_, rfl⟩
                rw [← hgd, hx] at d0
                obtain ⟨bb, hbb⟩ : ∃ y, inB base 9000 x = y := ⟨_, rfl⟩
                have HC : Hid (∀ V, Calls Try.prog 55 #[.int .i64 x, .int .i64 base, .int .i64 9000] V fun e w' => e = .returned (.bool bb) ∧ V = w') := fun V => by have h := rin_any x base 9000 V; rw [hbb] at h; exact h
                have HBBB : Hid (inB c.base 9000 (c.hs.getD k 0) = bb) := by show _ = _; rw [HBS.out, hx]; exact hbb
                have HK' := Lib.hid hk'
                have dl := World.block_lt_of_cell? wr ⟨b, o + k, none⟩ d0
                clear hgd hx hbb hk' G1
                go_wp2_with fail
                have KA : ∀ W' : World, Below wr.heap.size wr W' → (W'.cell? ⟨w.heap.size, 1, none⟩ = some (.int .i64 base) ∧ W'.cell? ⟨w.heap.size, 3, none⟩ = some (.slice (some ⟨b, o, none⟩) n hc) ∧ W'.cell? ⟨b, o + k, none⟩ = some (.int .i64 x) ∧ Below wr.heap.size wr W') := fun W' hb => ⟨keepK c1 hb, keepK c3 hb, keepK d0 hb, hb⟩
                refine wp_region_noPanic ?_
                refine wp_region_held_drew (S := (fun W' => W'.cell? ⟨w.heap.size, 1, none⟩ = some (.int .i64 base) ∧ W'.cell? ⟨w.heap.size, 3, none⟩ = some (.slice (some ⟨b, o, none⟩) n hc) ∧ W'.cell? ⟨b, o + k, none⟩ = some (.int .i64 x) ∧ Below wr.heap.size wr W')) (by kernel_rfl) ?_ (fun hh0 => ?_)
                · exact KA _ (Below.refl _ _).drew
                refine wpAnyH_take (i := 0) (v := ?_) rfl (by as_aux_lemma => kernel_rfl) (by as_aux_lemma => kernel_rfl) (by as_aux_lemma => kernel_rfl) (fun _ _ _ h => h) (Or.inl ⟨by rfl, ?_⟩) (by assumption) ?_
                rotate_left
                · intro w hSw
                  try dsimp only at hSw
                  go_simp
                  try with_reducible rfl
                try simp only [Act.put, List.getElem_toArray, List.getElem_cons_succ, List.getElem_cons_zero, List.setIfInBounds_toArray, List.set_cons_zero, List.set_cons_succ]
                refine wpAnyH_take (i := 1) (v := ?_) rfl (by as_aux_lemma => kernel_rfl) (by as_aux_lemma => kernel_rfl) (by as_aux_lemma => kernel_rfl) (fun _ _ _ h => h) (Or.inl ⟨by rfl, ?_⟩) (by assumption) ?_
                rotate_left
                · intro w hSw
                  try dsimp only at hSw
                  go_simp
                  try with_reducible rfl
                try simp only [Act.put, List.getElem_toArray, List.getElem_cons_succ, List.getElem_cons_zero, List.setIfInBounds_toArray, List.set_cons_zero, List.set_cons_succ]
                refine wpAnyH_take (i := 2) (v := ?_) rfl (by as_aux_lemma => kernel_rfl) (by as_aux_lemma => kernel_rfl) (by as_aux_lemma => kernel_rfl) (fun _ _ _ h => h) (Or.inl ⟨by rfl, ?_⟩) (by assumption) ?_
                rotate_left
                · intro w hSw
                  try dsimp only at hSw
                  go_simp
                  try with_reducible rfl
                try simp only [Act.put, List.getElem_toArray, List.getElem_cons_succ, List.getElem_cons_zero, List.setIfInBounds_toArray, List.set_cons_zero, List.set_cons_succ]
                refine wpAnyH_take (i := 3) (v := ?_) rfl (by as_aux_lemma => kernel_rfl) (by as_aux_lemma => kernel_rfl) (by as_aux_lemma => kernel_rfl) (fun _ _ _ h => h) (Or.inl ⟨by rfl, ?_⟩) (by assumption) ?_
                rotate_left
                · intro w hSw
                  try dsimp only at hSw
                  go_simp
                  try with_reducible rfl
                try simp only [Act.put, List.getElem_toArray, List.getElem_cons_succ, List.getElem_cons_zero, List.setIfInBounds_toArray, List.set_cons_zero, List.set_cons_succ]
                refine wpAnyH_take (i := 4) (v := ?_) rfl (by as_aux_lemma => kernel_rfl) (by as_aux_lemma => kernel_rfl) (by as_aux_lemma => kernel_rfl) (fun _ _ _ h => h) (Or.inl ⟨by rfl, ?_⟩) (by assumption) ?_
                rotate_left
                · intro w hSw
                  try dsimp only at hSw
                  go_simp
                  try with_reducible rfl
                try simp only [Act.put, List.getElem_toArray, List.getElem_cons_succ, List.getElem_cons_zero, List.setIfInBounds_toArray, List.set_cons_zero, List.set_cons_succ]
                refine wpAnyH_take (i := 5) (v := ?_) rfl (by as_aux_lemma => kernel_rfl) (by as_aux_lemma => kernel_rfl) (by as_aux_lemma => kernel_rfl) (fun _ _ _ h => h) (Or.inl ⟨by rfl, ?_⟩) (by assumption) ?_
                rotate_left
                · intro w hSw
                  try dsimp only at hSw
                  go_simp
                  try with_reducible rfl
                try simp only [Act.put, List.getElem_toArray, List.getElem_cons_succ, List.getElem_cons_zero, List.setIfInBounds_toArray, List.set_cons_zero, List.set_cons_succ]
                refine wpAnyH_take (i := 6) (v := ?_) rfl (by as_aux_lemma => kernel_rfl) (by as_aux_lemma => kernel_rfl) (by as_aux_lemma => kernel_rfl) (fun _ _ _ h => h) (Or.inl ⟨by rfl, ?_⟩) (by assumption) ?_
                rotate_left
                · intro w hSw
                  try dsimp only at hSw
                  go_simp
                  try with_reducible rfl
                try simp only [Act.put, List.getElem_toArray, List.getElem_cons_succ, List.getElem_cons_zero, List.setIfInBounds_toArray, List.set_cons_zero, List.set_cons_succ]
                refine wpAnyH_ready (rs := [7]) (by as_aux_lemma => kernel_rfl) (by simp) ?_
                refine AllReadyH.cons rfl (fun K hK => ?_) AllReadyH.nil
                go_simp
                refine (HC.out _).mono ?_
                rintro e w5 ⟨rfl, rfl⟩
                refine hK.out _ _ (KA _ (Below.trans hh0.2.2.2 (Below.mono (Below.refl _ _) (hh0.2.2.2).size))) (fun hh1 => ?_)
                clear hK K
                try simp only [Act.put, List.getElem_toArray, List.getElem_cons_succ, List.getElem_cons_zero, List.setIfInBounds_toArray, List.set_cons_zero, List.set_cons_succ]
                refine wpAnyH_take (i := 8) (v := ?_) rfl (by as_aux_lemma => kernel_rfl) (by as_aux_lemma => kernel_rfl) (by as_aux_lemma => kernel_rfl) (fun _ _ _ h => h) (Or.inl ⟨by rfl, ?_⟩) (by assumption) ?_
                rotate_left
                · intro w hSw
                  try dsimp only at hSw
                  go_simp
                  try with_reducible rfl
                try simp only [Act.put, List.getElem_toArray, List.getElem_cons_succ, List.getElem_cons_zero, List.setIfInBounds_toArray, List.set_cons_zero, List.set_cons_succ]
                refine wpAnyH_done (by as_aux_lemma => kernel_rfl) ?_ _
                refine NoPanic.normal ?_
                have HBZ := Lib.hid (hh1.2.2.2)
                have L5 := Lib.hid (HL.out.trans (HBZ.out.mono HL.out.size))
                clear KA
                cases bb
                · skip
                  have hr := checkC_ht (c := c) HKB.out HRG.out HLN.out k HK'.out HA.out HBBB.out
                  rw [HK.out] at hr
                  simp only [Prod.mk.injEq] at hr
                  obtain ⟨rfl, rfl, rfl⟩ := hr
                  go_wp2_with fail
                  refine bodyPost_ret (results_tmp3 rfl _ _ _) rfl ?_
                  exact ⟨rfl, HB.out.trans (L5.out.mono HB.out.size)⟩
                · have HA2 : Hid (∀ j, j < k + 1 → htE c j = 0) := fun j hj => by
                    rcases Nat.lt_or_ge j k with q | q
                    · exact HA.out j q
                    · obtain rfl : j = k := by omega
                      unfold htE
                      rw [if_pos HBBB.out]
                  go_wp2_with fail
                  go_roundg (gk - 1)
                  case measure => omega
                  case rel => exact ⟨k + 1, by omega, by go_num, HA2, L5⟩
              · obtain rfl : k = n := by omega
                have kI : ¬ (k : Int) < (k : Int) := by omega
                have HA3 : Hid (∀ j, j < c.hs.length → htE c j = 0) := fun j hj => HA.out j (by rw [← HN.out]; exact hj)
                have L3 := Lib.hid HL.out
                clear hlt hk G1
                go_wp2_with fail
                go_loopg [6] m (fun gh i wr => ∃ (k : Nat), gh + k = m ∧ i = .int .i64 (k : Int) ∧ Hid (∀ j, j < k → rdE c.hs.length (c.rds.getD j default) = 0) ∧ Hid (Below W.heap.size W wr))
                case atStart => exact ⟨0, by omega, rfl, fun j hj => by omega, L3⟩
                case round =>
                  obtain ⟨j, hj, rfl, HA4, HL4⟩ := hrel
                  clear c3 cl
                  have G1 := Lib.hid ((HL4.out.block _ (lt_of_block HZ.out)).trans HZ.out)
                  have c3 := cellOf G1.out 3 (.slice ha k hc) rfl
                  have c4 := cellOf G1.out 4 (.slice ra m rc) rfl
                  have cl := lt_of_block G1.out
                  by_cases hlt2 : j < m
                  · have jI : (j : Int) < (m : Int) := by omega
                    have jz : (0 : Int) ≤ (j : Int) := by omega
                    have hj' : j < c.rds.length := by rw [HM.out]; exact hlt2
                    obtain ⟨b, o, rfl, d0, d1⟩ := (HE.out.below HL4.out).get hj'
                    have hgd : c.rds.getD j default = c.rds[j] := by simp [List.getD_eq_getElem?_getD, hj']
                    obtain ⟨⟨r1, r2⟩, hr⟩ : ∃ r, c.rds[j] = r := ⟨_, rfl⟩
                    rw [hr] at d0 d1 hgd
                    simp only at d0 d1
                    obtain ⟨x1, hx1⟩ : ∃ y, inB 0 ((k : Int) - 1) r1 = y := ⟨_, rfl⟩
                    obtain ⟨x2, hx2⟩ : ∃ y, inB 0 ((k : Int) - 1) r2 = y := ⟨_, rfl⟩
                    have C1 : Hid (∀ V, Calls Try.prog 55 #[.int .i64 r1, .int .i64 0, .int .i64 ((k : Int) - 1)] V fun e w' => e = .returned (.bool x1) ∧ V = w') := fun V => by have h := rin_any r1 0 ((k : Int) - 1) V; rw [hx1] at h; exact h
                    have C2 : Hid (∀ V, Calls Try.prog 55 #[.int .i64 r2, .int .i64 0, .int .i64 ((k : Int) - 1)] V fun e w' => e = .returned (.bool x2) ∧ V = w') := fun V => by have h := rin_any r2 0 ((k : Int) - 1) V; rw [hx2] at h; exact h
                    have HRD : Hid (rdE c.hs.length (c.rds.getD j default) = if x1 = false ∨ x2 = false then 4 else if r1 = r2 then 2 else 0) := by show _ = _; rw [hgd, HN.out]; unfold rdE; simp only [hx1, hx2]
                    have HJ := Lib.hid hj'
                    obtain ⟨w6, hw6, z6, b6⟩ : ∃ X, wr.alloc (Obj.cells #[.int .i64 r1, .int .i64 r2] 79) = X ∧ X.heap[wr.heap.size]? = some (.cells #[.int .i64 r1, .int .i64 r2] 79 (0, 0)) ∧ Below wr.heap.size wr X := ⟨_, rfl, heap_alloc_new _ _, by go_grown⟩
                    have HW6 := Lib.hid hw6
                    have L6 := Lib.hid (HL4.out.trans (b6.mono HL4.out.size))
                    have g3 := cellOf ((b6.block _ (lt_of_block G1.out)).trans G1.out) 3 (.slice ha k hc) rfl
                    have gl := lt_of_block ((b6.block _ (lt_of_block G1.out)).trans G1.out)
                    have e0 := cellOf z6 0 (.int .i64 r1) rfl
                    have e1 := cellOf z6 1 (.int .i64 r2) rfl
                    have el := lt_of_block z6
                    have dl := World.block_lt_of_cell? wr ⟨b, o + j * 2, none⟩ d0
                    clear hj' hgd hr hx1 hx2 hw6 z6 b6
                    go_wp2_with (rw [HW6.out])
                    refine (C1.out _).mono ?_
                    rintro e w7 ⟨rfl, rfl⟩
                    clear d0 d1 dl c3 c4 cl
                    cases x1
                    · have h4 : rdE c.hs.length (c.rds.getD j default) = 4 := by rw [HRD.out, if_pos (.inl rfl)]
                      have hr := checkC_rd (c := c) HKB.out HRG.out HLN.out HA3.out j HJ.out HA4.out (by rw [h4]; decide)
                      rw [HK.out, h4] at hr
                      simp only [Prod.mk.injEq] at hr
                      obtain ⟨rfl, rfl, rfl⟩ := hr
                      go_wp2_with fail
                      refine bodyPost_ret (results_tmp3 rfl _ _ _) rfl ?_
                      exact ⟨rfl, HB.out.trans (L6.out.mono HB.out.size)⟩
                    · go_wp2_with fail
                      refine (C2.out _).mono ?_
                      rintro e w7 ⟨rfl, rfl⟩
                      cases x2
                      · have h4 : rdE c.hs.length (c.rds.getD j default) = 4 := by rw [HRD.out, if_pos (.inr rfl)]
                        have hr := checkC_rd (c := c) HKB.out HRG.out HLN.out HA3.out j HJ.out HA4.out (by rw [h4]; decide)
                        rw [HK.out, h4] at hr
                        simp only [Prod.mk.injEq] at hr
                        obtain ⟨rfl, rfl, rfl⟩ := hr
                        go_wp2_with fail
                        refine bodyPost_ret (results_tmp3 rfl _ _ _) rfl ?_
                        exact ⟨rfl, HB.out.trans (L6.out.mono HB.out.size)⟩
                      · by_cases heq : r1 = r2
                        · have h4 : rdE c.hs.length (c.rds.getD j default) = 2 := by rw [HRD.out, if_neg (by simp), if_pos heq]
                          have tq : (r1 == r2) = true := by simp [heq]
                          have hr := checkC_rd (c := c) HKB.out HRG.out HLN.out HA3.out j HJ.out HA4.out (by rw [h4]; decide)
                          rw [HK.out, h4] at hr
                          simp only [Prod.mk.injEq] at hr
                          obtain ⟨rfl, rfl, rfl⟩ := hr
                          go_wp2_with fail
                          refine bodyPost_ret (results_tmp3 rfl _ _ _) rfl ?_
                          exact ⟨rfl, HB.out.trans (L6.out.mono HB.out.size)⟩
                        · have h4 : rdE c.hs.length (c.rds.getD j default) = 0 := by rw [HRD.out, if_neg (by simp), if_neg heq]
                          have tq : (r1 == r2) = false := by simp [heq]
                          have HA5 : Hid (∀ i, i < j + 1 → rdE c.hs.length (c.rds.getD i default) = 0) := fun i hi => by
                            rcases Nat.lt_or_ge i j with q | q
                            · exact HA4.out i q
                            · obtain rfl : i = j := by omega
                              exact h4
                          clear h4
                          go_wp2_with fail
                          go_roundg (gk - 1)
                          case measure => omega
                          case rel => exact ⟨j + 1, by omega, by go_num, HA5, L6⟩
                  · obtain rfl : j = m := by omega
                    have jI : ¬ (j : Int) < (j : Int) := by omega
                    have hr := checkC_ok (c := c) HKB.out HRG.out HLN.out HA3.out (fun i hi => HA4.out i (by rw [← HM.out]; exact hi))
                    rw [HK.out] at hr
                    simp only [Prod.mk.injEq] at hr
                    obtain ⟨rfl, rfl, rfl⟩ := hr
                    have L7 := Lib.hid HL4.out
                    clear hlt2 hj
                    go_wp2_with fail
                    refine bodyPost_ret (results_tmp3 rfl _ _ _) rfl ?_
                    exact ⟨rfl, HB.out.trans (L7.out.mono HB.out.size)⟩
end Go.Proofs.Ythflbbjilebhlaa
namespace Go.Proofs.Ythflbbjilebhlaa
open Go Go.RowKit Go.Shelf Sc

set_option maxRecDepth 100000 in
set_option maxHeartbeats 4000000 in
theorem rasked_any (c : Cse) (hv rv : Value) (s : Scl) (w : World) (hC : CseAt w c hv rv) :
    Calls Try.prog 58 #[.agg #[.int .i64 c.kind, .int .i64 c.base, .int .i64 c.most, hv, rv], .agg #[.int .i64 s.1, .int .i64 s.2]] w fun e w' => e = .returned (.int .i64 (askE c s)) ∧ Below w.heap.size w w' := by
  obtain ⟨ha, n, hc, rfl⟩ : ∃ a n c, hv = .slice a n c := by obtain ⟨_, a, cap, h, _⟩ := hC.hs; exact ⟨_, _, _, h⟩
  obtain ⟨ra, m, rc, rfl⟩ : ∃ a n c, rv = .slice a n c := by obtain ⟨_, a, cap, h, _⟩ := hC.rd; exact ⟨_, _, _, h⟩
  obtain ⟨kind, hkind⟩ : ∃ x, c.kind = x := ⟨_, rfl⟩
  obtain ⟨base, hbase⟩ : ∃ x, c.base = x := ⟨_, rfl⟩
  obtain ⟨most, hmost⟩ : ∃ x, c.most = x := ⟨_, rfl⟩
  obtain ⟨u, d⟩ := s
  simp only
  obtain ⟨W, hW, q1, q2, hb, hsz⟩ := al2 w (Obj.cells #[.int .i64 kind, .int .i64 base, .int .i64 most, .slice ha n hc, .slice ra m rc] 25) (Obj.cells #[.int .i64 u, .int .i64 d] 27)
  have HC := Lib.hid (hC.below hb)
  have HW := Lib.hid hW
  have HB := Lib.hid hb
  have Q1 := Lib.hid q1
  have Q2 := Lib.hid q2
  have c0 := cellOf q1 0 (.int .i64 kind) rfl
  have c1 := cellOf q1 1 (.int .i64 base) rfl
  have c2 := cellOf q1 2 (.int .i64 most) rfl
  have c3 := cellOf q1 3 (.slice ha n hc) rfl
  have c4 := cellOf q1 4 (.slice ra m rc) rfl
  have cl := lt_of_block q1
  have e0 := cellOf q2 0 (.int .i64 u) rfl
  have e1 := cellOf q2 1 (.int .i64 d) rfl
  have el := lt_of_block q2
  have h1 := rCheck_any c _ _ W HC.out
  have h2 := fun V => rScale_any (u, d) V
  obtain ⟨er, her⟩ : ∃ er, errC c = er := ⟨_, rfl⟩
  have e3 : (checkC c).2.2 = er := her
  obtain ⟨es, hes⟩ : ∃ es, sclE (u, d) = es := ⟨_, rfl⟩
  rw [hkind, hbase, hmost, e3] at h1
  simp only [hes] at h2
  obtain ⟨R, hR⟩ : ∃ R, askE c (u, d) = R := ⟨_, rfl⟩
  rw [hR, hkind, hbase, hmost]
  unfold askE at hR
  rw [her, hes] at hR
  have H1 := Lib.hid h1
  have H2 := Lib.hid h2
  have HR := Lib.hid hR
  obtain ⟨p1, hp1⟩ : ∃ x, (checkC c).1 = x := ⟨_, rfl⟩
  obtain ⟨p2, hp2⟩ : ∃ x, (checkC c).2.1 = x := ⟨_, rfl⟩
  rw [hp1, hp2] at H1
  clear h1 h2 hR her e3 hes hp1 hp2 hkind hbase hmost hW hb hsz q1 q2 hC
  go_enter Try.func58, Try.ntmps58
  go_upto_region 1 with fail
  rw [HW.out]
  go_wp2_with fail
  refine H1.out.mono ?_
  rintro e w1 ⟨rfl, hb⟩
  have B1 := Lib.hid (HB.out.trans (hb.mono HB.out.size))
  have K2 := Lib.hid ((hb.block _ (lt_of_block Q2.out)).trans Q2.out)
  clear hb c0 c1 c2 c3 c4 cl e0 e1 el H1 HC HW Q1 Q2 HB
  by_cases h0 : er = 0
  · subst h0
    have hr := HR.out
    rw [if_neg (by simp)] at hr
    subst hr
    have e0 := cellOf K2.out 0 (.int .i64 u) rfl
    have e1 := cellOf K2.out 1 (.int .i64 d) rfl
    have el := lt_of_block K2.out
    go_wp2_with fail
    refine (H2.out _).mono ?_
    rintro e w2 ⟨rfl, hb⟩
    have B2 := Lib.hid (B1.out.trans (hb.mono B1.out.size))
    clear hb
    go_wp2_with fail
    go_ret
    exact ⟨rfl, B2.out⟩
  · have hr := HR.out
    rw [if_pos h0] at hr
    subst hr
    have tz : (er == 0) = false := by simp [h0]
    go_wp2_with fail
    go_ret
    exact ⟨rfl, B1.out⟩
set_option maxRecDepth 100000 in
set_option maxHeartbeats 4000000 in
theorem rCuts_any (c : Cse) (hv rv : Value) (s : Scl) (w : World) (hC : CseAt w c hv rv) :
    Calls Try.prog 18 #[.agg #[.int .i64 c.kind, .int .i64 c.base, .int .i64 c.most, hv, rv], .agg #[.int .i64 s.1, .int .i64 s.2]] w (IntsP (cutsC c s) (askE c s) w) := by
  unfold IntsP
  obtain ⟨ha, n, hc, rfl⟩ : ∃ a n c, hv = .slice a n c := by obtain ⟨_, a, cap, h, _⟩ := hC.hs; exact ⟨_, _, _, h⟩
  obtain ⟨ra, m, rc, rfl⟩ : ∃ a n c, rv = .slice a n c := by obtain ⟨_, a, cap, h, _⟩ := hC.rd; exact ⟨_, _, _, h⟩
  obtain ⟨kind, hkind⟩ : ∃ x, c.kind = x := ⟨_, rfl⟩
  obtain ⟨base, hbase⟩ : ∃ x, c.base = x := ⟨_, rfl⟩
  obtain ⟨most, hmost⟩ : ∃ x, c.most = x := ⟨_, rfl⟩
  obtain ⟨u, d⟩ := s
  simp only
  obtain ⟨W, hW, q1, q2, hb, hsz⟩ := al2 w (Obj.cells #[.int .i64 kind, .int .i64 base, .int .i64 most, .slice ha n hc, .slice ra m rc] 25) (Obj.cells #[.int .i64 u, .int .i64 d] 27)
  have HC := Lib.hid (hC.below hb)
  have HW := Lib.hid hW
  have HB := Lib.hid hb
  have Q1 := Lib.hid q1
  have Q2 := Lib.hid q2
  have c0 := cellOf q1 0 (.int .i64 kind) rfl
  have c1 := cellOf q1 1 (.int .i64 base) rfl
  have c2 := cellOf q1 2 (.int .i64 most) rfl
  have c3 := cellOf q1 3 (.slice ha n hc) rfl
  have c4 := cellOf q1 4 (.slice ra m rc) rfl
  have cl := lt_of_block q1
  have e0 := cellOf q2 0 (.int .i64 u) rfl
  have e1 := cellOf q2 1 (.int .i64 d) rfl
  have el := lt_of_block q2
  have h1 := rasked_any c _ _ (u, d) W HC.out
  obtain ⟨R, hR⟩ : ∃ R, askE c (u, d) = R := ⟨_, rfl⟩
  rw [hkind, hbase, hmost, hR] at h1
  have H2 : Hid (R = 0 → ∀ V, CseAt V c (.slice ha n hc) (.slice ra m rc) → Calls Try.prog 51 #[.agg #[.int .i64 kind, .int .i64 base, .int .i64 most, .slice ha n hc, .slice ra m rc], .agg #[.int .i64 u, .int .i64 d]] V fun e w' => ∃ v, e = .returned v ∧ IntsAt w' v (cutsC c (u, d)) ∧ Below V.heap.size V w') := fun h V hV => by
    have ha := askE_zero (hR.trans h)
    have hs := sclE_zero ha.2
    have h2 := rAll_any c _ _ (u, d) V hV (valid_of ha.1) ⟨hs.1, hs.2.1, hs.2.2.1, hs.2.2.2.1⟩
    rw [hkind, hbase, hmost] at h2
    refine h2.mono ?_
    rintro e w' ⟨v, rfl, _, hi, hb⟩
    exact ⟨v, rfl, hi, hb⟩
  rw [hR, hkind, hbase, hmost]
  have H1 := Lib.hid h1
  clear h1 hR hkind hbase hmost hW hb hsz q1 q2 hC
  go_enter Try.func18, Try.ntmps18
  go_upto_region 1 with fail
  rw [HW.out]
  go_wp2_with fail
  refine H1.out.mono ?_
  rintro e w1 ⟨rfl, hb⟩
  have B1 := Lib.hid (HB.out.trans (hb.mono HB.out.size))
  have K1 := Lib.hid ((hb.block _ (lt_of_block Q1.out)).trans Q1.out)
  have K2 := Lib.hid ((hb.block _ (lt_of_block Q2.out)).trans Q2.out)
  have C1 := Lib.hid (HC.out.below hb)
  clear hb c0 c1 c2 c3 c4 cl e0 e1 el H1 HC HW Q1 Q2 HB
  by_cases h0 : R = 0
  · subst h0
    have c0 := cellOf K1.out 0 (.int .i64 kind) rfl
    have c1 := cellOf K1.out 1 (.int .i64 base) rfl
    have c2 := cellOf K1.out 2 (.int .i64 most) rfl
    have c3 := cellOf K1.out 3 (.slice ha n hc) rfl
    have c4 := cellOf K1.out 4 (.slice ra m rc) rfl
    have cl := lt_of_block K1.out
    have e0 := cellOf K2.out 0 (.int .i64 u) rfl
    have e1 := cellOf K2.out 1 (.int .i64 d) rfl
    have el := lt_of_block K2.out
    go_wp2_with fail
    refine (H2.out (by first | trivial | rfl) _ C1.out).mono ?_
    rintro e w2 ⟨v, rfl, hi, hb⟩
    have HI := Lib.hid hi
    have B2 := Lib.hid (B1.out.trans (hb.mono B1.out.size))
    clear hb hi
    go_wp2_with fail
    go_ret2
    exact ⟨_, rfl, by first | exact HI.out | (rw [if_pos rfl]; exact HI.out), B2.out⟩
  · have tz : (R != 0) = true := by simp [h0]
    go_wp2_with fail
    go_ret2
    exact ⟨_, rfl, by first | exact ints_nil _ | (rw [if_neg h0]; exact ints_nil _), B1.out⟩
end Go.Proofs.Ythflbbjilebhlaa
namespace Go.Proofs.Ythflbbjilebhlaa
open Go Go.RowKit Go.Shelf Sc

set_option maxRecDepth 100000 in
set_option maxHeartbeats 4000000 in
theorem ints_eq (va vb : Value) (l : List Int) (w : World) (ha : IntsAt w va l) (hb : IntsAt w vb l) :
    Calls Try.prog 19 #[va, vb] w fun e w' => e = .returned (.bool true) ∧ Below w.heap.size w w' := by
  obtain ⟨hm, a, ca, rfl, _, _⟩ := id ha
  obtain ⟨_, b, cb, rfl, _, _⟩ := id hb
  have HA := Lib.hid ha
  have HB := Lib.hid hb
  have hm' : (l.length : Int) ≤ 4611686018427387904 := by omega
  clear ha hb
  go_enter Try.func19, Try.ntmps19
  go_wp2
  go_loopg [5] l.length (fun gh i wr => ∃ k : Nat, gh + k = l.length ∧ i = .int .i64 (k : Int) ∧ Hid (Below w.heap.size w wr))
  case atStart => exact ⟨0, by omega, rfl, Below.refl _ _⟩
  case round =>
    obtain ⟨k, hk, rfl, HBB⟩ := hrel
    by_cases hlt : k < l.length
    · have kI : (k : Int) < (l.length : Int) := by omega
      obtain ⟨b1, o1, rfl, c1⟩ := (HA.out.below HBB.out).get hlt
      obtain ⟨b2, o2, rfl, c2⟩ := (HB.out.below HBB.out).get hlt
      obtain ⟨x, hx⟩ : ∃ x : Int, l[k] = x := ⟨_, rfl⟩
      rw [hx] at c1 c2
      clear hx
      go_wp2_with fail
      go_quiet (fail)
      have HBN : Hid (Below w.heap.size w (wr.drewN nq)) := HBB.out.trans ⟨rfl, rfl, rfl, Nat.le_refl _, fun _ _ => rfl⟩
      clear c1 c2
      go_wp2
      go_roundg (gk - 1)
      case measure => omega
      case rel => exact ⟨k + 1, by omega, by go_num, HBN⟩
    · have kI : ¬ (k : Int) < (l.length : Int) := by omega
      clear hlt hk
      go_wp2
      go_ret
      exact ⟨rfl, HBB.out⟩
set_option maxRecDepth 100000 in
set_option maxHeartbeats 4000000 in
theorem same_eq (va vb : Value) (l : List (Int × Int)) (w : World) (ha : PairsAt w va l) (hb : PairsAt w vb l) :
    Calls Try.prog 33 #[va, vb] w fun e w' => e = .returned (.bool true) ∧ Below w.heap.size w w' := by
  obtain ⟨hm, a, ca, rfl, _, _⟩ := id ha
  obtain ⟨_, b, cb, rfl, _, _⟩ := id hb
  have HA := Lib.hid ha
  have HB := Lib.hid hb
  have hm' : (l.length : Int) ≤ 4611686018427387904 := by omega
  clear ha hb
  go_enter Try.func33, Try.ntmps33
  go_wp2
  go_loopg [5] l.length (fun gh i wr => ∃ k : Nat, gh + k = l.length ∧ i = .int .i64 (k : Int) ∧ Hid (Below w.heap.size w wr))
  case atStart => exact ⟨0, by omega, rfl, Below.refl _ _⟩
  case round =>
    obtain ⟨k, hk, rfl, HBB⟩ := hrel
    by_cases hlt : k < l.length
    · have kI : (k : Int) < (l.length : Int) := by omega
      obtain ⟨b1, o1, rfl, c1, c1'⟩ := (HA.out.below HBB.out).get hlt
      obtain ⟨b2, o2, rfl, c2, c2'⟩ := (HB.out.below HBB.out).get hlt
      obtain ⟨⟨x, y⟩, hx⟩ : ∃ x : Int × Int, l[k] = x := ⟨_, rfl⟩
      rw [hx] at c1 c2 c1' c2'
      simp only at c1 c2 c1' c2'
      clear hx
      go_wp2_with fail
      go_quiet (fail)
      have HBN : Hid (Below w.heap.size w (wr.drewN nq)) := HBB.out.trans ⟨rfl, rfl, rfl, Nat.le_refl _, fun _ _ => rfl⟩
      clear c1 c2 c1' c2'
      go_wp2
      go_roundg (gk - 1)
      case measure => omega
      case rel => exact ⟨k + 1, by omega, by go_num, HBN⟩
    · have kI : ¬ (k : Int) < (l.length : Int) := by omega
      clear hlt hk
      go_wp2
      go_ret
      exact ⟨rfl, HBB.out⟩
end Go.Proofs.Ythflbbjilebhlaa
namespace Go.Proofs.Ythflbbjilebhlaa
open Go Go.RowKit Go.Shelf Sc

theorem cse_result {fn : Func} {p : Tmp} (h : fn.results = #[.cell p 25]) (tmps : Array Value) (w : World) (g : Nat) (a b c d e : Value)
    (hp : tmps.getD p undef = .pointer (some ⟨g, 0, none⟩)) (hg : w.heap[g]? = some (.cells #[a, b, c, d, e] 25 (0, 0))) :
    (results fn tmps).run Try.prog w = .ok (.agg #[a, b, c, d, e]) w := by
  have c0 : w.cell? ⟨g, 0, none⟩ = some a := cellOf hg 0 _ rfl
  have c1 : w.cell? ⟨g, 1, none⟩ = some b := cellOf hg 1 _ rfl
  have c2 : w.cell? ⟨g, 2, none⟩ = some c := cellOf hg 2 _ rfl
  have c3 : w.cell? ⟨g, 3, none⟩ = some d := cellOf hg 3 _ rfl
  have c4 : w.cell? ⟨g, 4, none⟩ = some e := cellOf hg 4 _ rfl
  have hp' : tmps[p]?.getD undef = .pointer (some ⟨g, 0, none⟩) := by simpa using hp
  simp only [results, h]
  simp [Sem.run_bind, Result.andThen, hp', asAddr, go_sem, c0, c1, c2, c3, c4]
theorem agg2_result {fn : Func} {p : Tmp} {t : TypeId} (h : fn.results = #[.cell p t]) (ht : t = 27 ∨ t = 51) (tmps : Array Value) (w : World) (g : Nat) (x y : Value)
    (hp : tmps.getD p undef = .pointer (some ⟨g, 0, none⟩)) (hg : w.heap[g]? = some (.cells #[x, y] t (0, 0))) :
    (results fn tmps).run Try.prog w = .ok (.agg #[x, y]) w := by
  have c0 : w.cell? ⟨g, 0, none⟩ = some x := cellOf hg 0 _ rfl
  have c1 : w.cell? ⟨g, 1, none⟩ = some y := cellOf hg 1 _ rfl
  have hp' : tmps[p]?.getD undef = .pointer (some ⟨g, 0, none⟩) := by simpa using hp
  rcases ht with rfl | rfl
  · simp only [results, h]
    simp [Sem.run_bind, Result.andThen, hp', asAddr, go_sem, c0, c1]
  · simp only [results, h]
    simp [Sem.run_bind, Result.andThen, hp', asAddr, go_sem, c0, c1]
theorem mark_result {fn : Func} {p : Tmp} (h : fn.results = #[.cell p 53]) (tmps : Array Value) (w : World) (g : Nat) (x y z : Value)
    (hp : tmps.getD p undef = .pointer (some ⟨g, 0, none⟩)) (hg : w.heap[g]? = some (.cells #[x, y, z] 53 (0, 0))) :
    (results fn tmps).run Try.prog w = .ok (.agg #[x, y, z]) w := by
  have c0 : w.cell? ⟨g, 0, none⟩ = some x := cellOf hg 0 _ rfl
  have c1 : w.cell? ⟨g, 1, none⟩ = some y := cellOf hg 1 _ rfl
  have c2 : w.cell? ⟨g, 2, none⟩ = some z := cellOf hg 2 _ rfl
  have hp' : tmps[p]?.getD undef = .pointer (some ⟨g, 0, none⟩) := by simpa using hp
  simp only [results, h]
  simp [Sem.run_bind, Result.andThen, hp', asAddr, go_sem, c0, c1, c2]
set_option maxRecDepth 100000 in
theorem of_any (u d : Int) (w : World) : Calls Try.prog 37 #[.int .i64 u, .int .i64 d] w fun e w' => e = .returned (.agg #[.int .i64 u, .int .i64 d]) ∧ Below w.heap.size w w' := by
  obtain ⟨W, hW, z, hb⟩ : ∃ V, w.alloc (Obj.cells #[.int .i64 u, .int .i64 d] 27) = V ∧ V.heap[w.heap.size]? = some (.cells #[.int .i64 u, .int .i64 d] 27 (0, 0)) ∧ Below w.heap.size w V := ⟨_, rfl, heap_alloc_new _ _, by go_grown⟩
  have HW := Lib.hid hW
  have HZ := Lib.hid z
  have HB := Lib.hid hb
  clear hW z hb
  go_enter Try.func37, Try.ntmps37
  go_wp2_with fail
  rw [HW.out]
  exact bodyPost_ret (agg2_result rfl (.inl rfl) _ _ w.heap.size _ _ rfl HZ.out) rfl ⟨rfl, HB.out⟩
set_option maxRecDepth 100000 in
theorem lspan_any (u d : Int) (w : World) : Calls Try.prog 85 #[.int .i64 u, .int .i64 d] w fun e w' => e = .returned (.agg #[.int .i64 u, .int .i64 d]) ∧ Below w.heap.size w w' := by
  obtain ⟨W, hW, z, hb⟩ : ∃ V, w.alloc (Obj.cells #[.int .i64 u, .int .i64 d] 51) = V ∧ V.heap[w.heap.size]? = some (.cells #[.int .i64 u, .int .i64 d] 51 (0, 0)) ∧ Below w.heap.size w V := ⟨_, rfl, heap_alloc_new _ _, by go_grown⟩
  have HW := Lib.hid hW
  have HZ := Lib.hid z
  have HB := Lib.hid hb
  clear hW z hb
  go_enter Try.func85, Try.ntmps85
  go_wp2_with fail
  rw [HW.out]
  exact bodyPost_ret (agg2_result rfl (.inr rfl) _ _ w.heap.size _ _ rfl HZ.out) rfl ⟨rfl, HB.out⟩
set_option maxRecDepth 100000 in
theorem lmark_any (p u d : Int) (w : World) : Calls Try.prog 38 #[.int .i64 p, .int .i64 u, .int .i64 d] w fun e w' => e = .returned (.agg #[.int .i64 p, .int .i64 u, .int .i64 d]) ∧ Below w.heap.size w w' := by
  obtain ⟨W, hW, z, hb⟩ : ∃ V, w.alloc (Obj.cells #[.int .i64 0, .int .i64 0, .int .i64 0] 53) = V ∧ V.heap[w.heap.size]? = some (.cells #[.int .i64 0, .int .i64 0, .int .i64 0] 53 (0, 0)) ∧ Below w.heap.size w V := ⟨_, rfl, heap_alloc_new _ _, by go_grown⟩
  have HS := Lib.hid (lspan_any u d W)
  have HW := Lib.hid hW
  have HZ := Lib.hid z
  have HB := Lib.hid hb
  clear hW z hb
  go_enter Try.func38, Try.ntmps38
  go_wp2_with fail
  rw [HW.out]
  refine HS.out.mono ?_
  rintro e w2 ⟨rfl, hb⟩
  have HZ2 := Lib.hid ((hb.block _ (lt_of_block HZ.out)).trans HZ.out)
  have HB2 := Lib.hid (HB.out.trans (hb.mono HB.out.size))
  have c0 := cellOf HZ2.out 0 _ rfl
  have c1 := cellOf HZ2.out 1 _ rfl
  have c2 := cellOf HZ2.out 2 _ rfl
  have f0 := frozen_of_row _ _ 0 _ _ HZ2.out
  have f1 := frozen_of_row _ _ 1 _ _ HZ2.out
  have f2 := frozen_of_row _ _ 2 _ _ HZ2.out
  have cl := lt_of_block HZ2.out
  clear hb HS
  go_wp2_with fail
  refine bodyPost_ret (mark_result rfl _ _ w.heap.size (.int .i64 p) (.int .i64 u) (.int .i64 d) rfl ?_) rfl ⟨rfl, ?_⟩
  · have h1 := heap_setCell_same w2 w.heap.size 0 _ _ (.int .i64 p) HZ2.out
    have h2 := heap_setCell_same _ w.heap.size 1 _ _ (.int .i64 u) h1
    exact heap_setCell_same _ w.heap.size 2 _ _ (.int .i64 d) h2
  · exact ((HB2.out.setCell (p := ⟨w.heap.size, 0, none⟩) (Nat.le_refl _) _).setCell (p := ⟨w.heap.size, 1, none⟩) (Nat.le_refl _) _).setCell (p := ⟨w.heap.size, 2, none⟩) (Nat.le_refl _) _
set_option maxRecDepth 100000 in
set_option maxHeartbeats 4000000 in
theorem lcase_any (k : Int) (w : World) : Calls Try.prog 36 #[.int .i64 k] w fun e w' => ∃ ha hc ra rc, e = .returned (.agg #[.int .i64 k, .int .i64 100, .int .i64 50, .slice ha 4 hc, .slice ra 3 rc]) ∧ CseAt w' (caseR k) (.slice ha 4 hc) (.slice ra 3 rc) ∧ Below w.heap.size w w' := by
  obtain ⟨W, hW, z1, z2, z3, hb, hs⟩ := al3 w (Obj.cells #[.int .i64 k, .int .i64 100, .int .i64 50, .slice (some ⟨w.heap.size + 1, 0, none⟩) 4 4, .slice (some ⟨w.heap.size + 1 + 1, 0, none⟩) 3 3] 25) (Obj.cells #[.int .i64 100, .int .i64 110, .int .i64 125, .int .i64 160] 3) (Obj.cells #[.int .i64 0, .int .i64 1, .int .i64 1, .int .i64 2, .int .i64 3, .int .i64 2] 79)
  have HW := Lib.hid hW
  have Z1 := Lib.hid z1
  have Z2 := Lib.hid z2
  have Z3 := Lib.hid z3
  have HB := Lib.hid hb
  clear hW z1 z2 z3 hb hs
  go_enter Try.func36, Try.ntmps36
  go_wp2_with fail
  rw [HW.out]
  refine bodyPost_ret (cse_result rfl _ _ w.heap.size _ _ _ _ _ rfl Z1.out) rfl ⟨_, _, _, _, rfl, ⟨⟨by simp [caseR], _, 4, rfl, by simp [caseR], fun _ => ⟨w.heap.size + 1, 0, rfl, fun i hi => ?_⟩⟩, ⟨by simp [caseR], _, 3, rfl, by simp [caseR], fun _ => ⟨w.heap.size + 1 + 1, 0, rfl, fun i hi => ?_⟩⟩⟩, HB.out⟩
  · rw [Nat.zero_add]
    have : i = 0 ∨ i = 1 ∨ i = 2 ∨ i = 3 := by simp [caseR] at hi; omega
    rcases this with rfl | rfl | rfl | rfl
    · exact cellOf Z2.out 0 _ rfl
    · exact cellOf Z2.out 1 _ rfl
    · exact cellOf Z2.out 2 _ rfl
    · exact cellOf Z2.out 3 _ rfl
  · have : i = 0 ∨ i = 1 ∨ i = 2 := by simp [caseR] at hi; omega
    rcases this with rfl | rfl | rfl
    · exact ⟨cellOf Z3.out 0 _ rfl, cellOf Z3.out 1 _ rfl⟩
    · exact ⟨cellOf Z3.out 2 _ rfl, cellOf Z3.out 3 _ rfl⟩
    · exact ⟨cellOf Z3.out 4 _ rfl, cellOf Z3.out 5 _ rfl⟩
theorem a_cuts (hv rv : Value) (w : World) (hC : CseAt w (caseR 2) hv rv) : Calls Try.prog 17 #[.agg #[.int .i64 2, .int .i64 100, .int .i64 50, hv, rv], .agg #[.int .i64 1, .int .i64 2]] w fun e w' => ∃ a c, e = .returned (.tuple #[.slice a 4 c, .int .i64 0]) ∧ IntsAt w' (.slice a 4 c) [0, 5, 13, 30] ∧ Below w.heap.size w w' := by
  have h := cuts_any (caseR 2) hv rv (1, 2) w hC
  rw [v_cuts, v_ask12] at h
  refine h.mono ?_
  rintro e w' ⟨v, rfl, hi, hb⟩
  rw [if_pos rfl] at hi
  obtain ⟨_, a, c, rfl, _⟩ := id hi
  exact ⟨a, c, rfl, hi, hb⟩
theorem a_false (hv rv : Value) (w : World) (hC : CseAt w (caseR 2) hv rv) : Calls Try.prog 20 #[.agg #[.int .i64 2, .int .i64 100, .int .i64 50, hv, rv], .agg #[.int .i64 2, .int .i64 3]] w fun e w' => ∃ a c, e = .returned (.tuple #[.slice a 3 c, .int .i64 0]) ∧ IntsAt w' (.slice a 3 c) [50, 0, 15] ∧ Below w.heap.size w w' := by
  have h := False_any (caseR 2) hv rv (2, 3) w hC
  rw [v_false, v_ask23] at h
  refine h.mono ?_
  rintro e w' ⟨v, rfl, hi, hb⟩
  rw [if_pos rfl] at hi
  obtain ⟨_, a, c, rfl, _⟩ := id hi
  exact ⟨a, c, rfl, hi, hb⟩
theorem a_flat (hv rv : Value) (w : World) (hC : CseAt w (caseR 2) hv rv) : Calls Try.prog 22 #[.agg #[.int .i64 2, .int .i64 100, .int .i64 50, hv, rv], .agg #[.int .i64 1, .int .i64 30]] w fun e w' => ∃ a c, e = .returned (.tuple #[.slice a 1 c, .int .i64 0]) ∧ IntsAt w' (.slice a 1 c) [0] ∧ Below w.heap.size w w' := by
  have h := Flat_any (caseR 2) hv rv (1, 30) w hC
  rw [v_flat, v_ask130] at h
  refine h.mono ?_
  rintro e w' ⟨v, rfl, hi, hb⟩
  rw [if_pos rfl] at hi
  obtain ⟨_, a, c, rfl, _⟩ := id hi
  exact ⟨a, c, rfl, hi, hb⟩
theorem a_great (hv rv : Value) (w : World) (hC : CseAt w (caseR 2) hv rv) : Calls Try.prog 27 #[.agg #[.int .i64 2, .int .i64 100, .int .i64 50, hv, rv], .int .i64 47] w fun e w' => e = .returned (.tuple #[.agg #[.int .i64 5, .int .i64 6], .int .i64 0]) ∧ Below w.heap.size w w' := by
  have h := Greatest_any (caseR 2) hv rv 47 w hC
  rw [v_great] at h
  exact h
theorem a_least (hv rv : Value) (w : World) (hC : CseAt w (caseR 2) hv rv) : Calls Try.prog 29 #[.agg #[.int .i64 2, .int .i64 100, .int .i64 50, hv, rv]] w fun e w' => e = .returned (.tuple #[.agg #[.int .i64 1, .int .i64 16], .int .i64 0]) ∧ Below w.heap.size w w' := by
  have h := Least_any (caseR 2) hv rv w hC
  rw [v_least] at h
  exact h
theorem a_scales (hv rv mv : Value) (w : World) (hC : CseAt w (caseR 2) hv rv) (hM : MrksAt w mv [⟨3, 41, 41⟩]) : Calls Try.prog 31 #[.agg #[.int .i64 2, .int .i64 100, .int .i64 50, hv, rv], mv] w fun e w' => ∃ a c, e = .returned (.tuple #[.slice a 6 c, .int .i64 0]) ∧ PairsAt w' (.slice a 6 c) [(19, 28), (17, 25), (15, 22), (13, 19), (11, 16), (20, 29)] ∧ Below w.heap.size w w' := by
  have h := Scales_any (caseR 2) hv rv mv [⟨3, 41, 41⟩] w hC hM
  rw [v_scales, v_scalesE] at h
  refine h.mono ?_
  rintro e w' ⟨v, rfl, hi, hb⟩
  rw [if_pos rfl] at hi
  obtain ⟨_, a, c, rfl, _⟩ := id hi
  exact ⟨a, c, rfl, hi, hb⟩
theorem a_apart (hv rv : Value) (w : World) (hC : CseAt w (caseR 2) hv rv) : Calls Try.prog 24 #[.agg #[.int .i64 2, .int .i64 100, .int .i64 50, hv, rv], .agg #[.int .i64 1, .int .i64 2], .agg #[.int .i64 2, .int .i64 3]] w fun e w' => ∃ a c, e = .returned (.tuple #[.slice a 3 c, .int .i64 0]) ∧ IntsAt w' (.slice a 3 c) [1, 2, 3] ∧ Below w.heap.size w w' := by
  have h := Apart_any (caseR 2) hv rv (1, 2) (2, 3) w hC
  rw [v_apart, v_apartE] at h
  refine h.mono ?_
  rintro e w' ⟨v, rfl, hi, hb⟩
  rw [if_pos rfl] at hi
  obtain ⟨_, a, c, rfl, _⟩ := id hi
  exact ⟨a, c, rfl, hi, hb⟩
theorem a_tell (hv rv sv : Value) (w : World) (hC : CseAt w (caseR 2) hv rv) (hS : PairsAt w sv [(1, 2), (3, 5), (2, 3)]) : Calls Try.prog 34 #[.agg #[.int .i64 2, .int .i64 100, .int .i64 50, hv, rv], sv] w fun e w' => ∃ a c, e = .returned (.tuple #[.slice a 1 c, .int .i64 0]) ∧ IntsAt w' (.slice a 1 c) [1] ∧ Below w.heap.size w w' := by
  have h := Tell_any (caseR 2) hv rv sv _ w hC hS
  rw [v_tell, v_tellE] at h
  refine h.mono ?_
  rintro e w' ⟨v, rfl, hi, hb⟩
  rw [if_pos rfl] at hi
  obtain ⟨_, a, c, rfl, _⟩ := id hi
  exact ⟨a, c, rfl, hi, hb⟩
theorem a_twice (hv rv sv : Value) (w : World) (hC : CseAt w (caseR 2) hv rv) (hS : PairsAt w sv [(19, 28), (17, 25)]) : Calls Try.prog 34 #[.agg #[.int .i64 2, .int .i64 100, .int .i64 50, hv, rv], sv] w fun e w' => (∃ v, e = .returned (.tuple #[v, .int .i64 5])) ∧ Below w.heap.size w w' := by
  have h := Tell_any (caseR 2) hv rv sv _ w hC hS
  rw [v_twice] at h
  refine h.mono ?_
  rintro e w' ⟨v, rfl, hi, hb⟩
  exact ⟨⟨v, rfl⟩, hb⟩
theorem b_cuts2 (hv rv : Value) (w : World) (hC : CseAt w (caseR 2) hv rv) : Calls Try.prog 17 #[.agg #[.int .i64 2, .int .i64 100, .int .i64 50, hv, rv], .agg #[.int .i64 2, .int .i64 3]] w fun e w' => ∃ a c, e = .returned (.tuple #[.slice a 4 c, .int .i64 0]) ∧ IntsAt w' (.slice a 4 c) [0, 7, 17, 40] ∧ Below w.heap.size w w' := by
  have h := cuts_any (caseR 2) hv rv (2, 3) w hC
  rw [k_cuts2, v_ask23] at h
  refine h.mono ?_
  rintro e w' ⟨v, rfl, hi, hb⟩
  rw [if_pos rfl] at hi
  obtain ⟨_, a, c, rfl, _⟩ := id hi
  exact ⟨a, c, rfl, hi, hb⟩
theorem b_cuts1 (hv rv : Value) (w : World) (hC : CseAt w (caseR 1) hv rv) : Calls Try.prog 17 #[.agg #[.int .i64 1, .int .i64 100, .int .i64 50, hv, rv], .agg #[.int .i64 2, .int .i64 3]] w fun e w' => ∃ a c, e = .returned (.tuple #[.slice a 4 c, .int .i64 0]) ∧ IntsAt w' (.slice a 4 c) [0, 6, 16, 40] ∧ Below w.heap.size w w' := by
  have h := cuts_any (caseR 1) hv rv (2, 3) w hC
  rw [k_cuts1, k_ask1] at h
  refine h.mono ?_
  rintro e w' ⟨v, rfl, hi, hb⟩
  rw [if_pos rfl] at hi
  obtain ⟨_, a, c, rfl, _⟩ := id hi
  exact ⟨a, c, rfl, hi, hb⟩
theorem b_cuts3 (hv rv : Value) (w : World) (hC : CseAt w (caseR 3) hv rv) : Calls Try.prog 17 #[.agg #[.int .i64 3, .int .i64 100, .int .i64 50, hv, rv], .agg #[.int .i64 2, .int .i64 3]] w fun e w' => ∃ a c, e = .returned (.tuple #[.slice a 4 c, .int .i64 0]) ∧ IntsAt w' (.slice a 4 c) [0, 7, 17, 40] ∧ Below w.heap.size w w' := by
  have h := cuts_any (caseR 3) hv rv (2, 3) w hC
  rw [k_cuts3, k_ask3] at h
  refine h.mono ?_
  rintro e w' ⟨v, rfl, hi, hb⟩
  rw [if_pos rfl] at hi
  obtain ⟨_, a, c, rfl, _⟩ := id hi
  exact ⟨a, c, rfl, hi, hb⟩
theorem b_false (hv rv : Value) (w : World) (hC : CseAt w (caseR 2) hv rv) : Calls Try.prog 20 #[.agg #[.int .i64 2, .int .i64 100, .int .i64 50, hv, rv], .agg #[.int .i64 1, .int .i64 2]] w fun e w' => ∃ a c, e = .returned (.tuple #[.slice a 3 c, .int .i64 0]) ∧ IntsAt w' (.slice a 3 c) [0, 67, 29] ∧ Below w.heap.size w w' := by
  have h := False_any (caseR 2) hv rv (1, 2) w hC
  rw [k_false, v_ask12] at h
  refine h.mono ?_
  rintro e w' ⟨v, rfl, hi, hb⟩
  rw [if_pos rfl] at hi
  obtain ⟨_, a, c, rfl, _⟩ := id hi
  exact ⟨a, c, rfl, hi, hb⟩
theorem b_flat (hv rv : Value) (w : World) (hC : CseAt w (caseR 2) hv rv) : Calls Try.prog 22 #[.agg #[.int .i64 2, .int .i64 100, .int .i64 50, hv, rv], .agg #[.int .i64 1, .int .i64 2]] w fun e w' => ∃ a c, e = .returned (.tuple #[.slice a 0 c, .int .i64 0]) ∧ IntsAt w' (.slice a 0 c) [] ∧ Below w.heap.size w w' := by
  have h := Flat_any (caseR 2) hv rv (1, 2) w hC
  rw [k_flat, v_ask12] at h
  refine h.mono ?_
  rintro e w' ⟨v, rfl, hi, hb⟩
  rw [if_pos rfl] at hi
  obtain ⟨_, a, c, rfl, _⟩ := id hi
  exact ⟨a, c, rfl, hi, hb⟩
theorem b_great0 (hv rv : Value) (w : World) (hC : CseAt w (caseR 2) hv rv) : Calls Try.prog 27 #[.agg #[.int .i64 2, .int .i64 100, .int .i64 50, hv, rv], .int .i64 0] w fun e w' => e = .returned (.tuple #[.agg #[.int .i64 4, .int .i64 5], .int .i64 0]) ∧ Below w.heap.size w w' := by
  have h := Greatest_any (caseR 2) hv rv 0 w hC
  rw [k_great0] at h
  exact h
theorem b_great48 (hv rv : Value) (w : World) (hC : CseAt w (caseR 2) hv rv) : Calls Try.prog 27 #[.agg #[.int .i64 2, .int .i64 100, .int .i64 50, hv, rv], .int .i64 48] w fun e w' => e = .returned (.tuple #[.agg #[.int .i64 21, .int .i64 25], .int .i64 0]) ∧ Below w.heap.size w w' := by
  have h := Greatest_any (caseR 2) hv rv 48 w hC
  rw [k_great48] at h
  exact h
theorem b_scales (hv rv mv : Value) (w : World) (hC : CseAt w (caseR 2) hv rv) (hM : MrksAt w mv [⟨2, 17, 17⟩, ⟨3, 40, 40⟩]) : Calls Try.prog 31 #[.agg #[.int .i64 2, .int .i64 100, .int .i64 50, hv, rv], mv] w fun e w' => ∃ a c, e = .returned (.tuple #[.slice a 1 c, .int .i64 0]) ∧ PairsAt w' (.slice a 1 c) [(2, 3)] ∧ Below w.heap.size w w' := by
  have h := Scales_any (caseR 2) hv rv mv [⟨2, 17, 17⟩, ⟨3, 40, 40⟩] w hC hM
  rw [k_scales, k_scalesE] at h
  refine h.mono ?_
  rintro e w' ⟨v, rfl, hi, hb⟩
  rw [if_pos rfl] at hi
  obtain ⟨_, a, c, rfl, _⟩ := id hi
  exact ⟨a, c, rfl, hi, hb⟩
theorem b_apart (hv rv : Value) (w : World) (hC : CseAt w (caseR 2) hv rv) : Calls Try.prog 24 #[.agg #[.int .i64 2, .int .i64 100, .int .i64 50, hv, rv], .agg #[.int .i64 19, .int .i64 28], .agg #[.int .i64 17, .int .i64 25]] w fun e w' => ∃ a c, e = .returned (.tuple #[.slice a 0 c, .int .i64 0]) ∧ IntsAt w' (.slice a 0 c) [] ∧ Below w.heap.size w w' := by
  have h := Apart_any (caseR 2) hv rv (19, 28) (17, 25) w hC
  rw [k_apart, k_apartE] at h
  refine h.mono ?_
  rintro e w' ⟨v, rfl, hi, hb⟩
  rw [if_pos rfl] at hi
  obtain ⟨_, a, c, rfl, _⟩ := id hi
  exact ⟨a, c, rfl, hi, hb⟩
end Go.Proofs.Ythflbbjilebhlaa
