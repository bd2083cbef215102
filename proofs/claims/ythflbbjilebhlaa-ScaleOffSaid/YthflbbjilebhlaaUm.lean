/- Package scale: look. -/
import Derived.Test.YthflbbjilebhlaaUl
import Derived.Deep.CutRange
set_option linter.unusedSimpArgs false
set_option linter.unusedVariables false
namespace Go.Proofs.Ythflbbjilebhlaa
open Go Go.RowKit Sc

/-- What look answers. -/
def LookP (c : Cse) (hv rv : Value) (w : World) (e : Ending) (w' : World) : Prop :=
  (errC c = 0 → e = .returned (.tuple #[.agg (lkV c hv rv), .int .i64 0])) ∧ (errC c ≠ 0 → e = .returned (.tuple #[.agg lk0, .int .i64 (errC c)])) ∧ Below w.heap.size w w'
theorem lkBuilt (kind base most : Int) (a b : Option Addr) (n m c d : Nat) (rk : Int) (F : Nat) :
    Try.prog.built 95 [(0, .agg #[.int .i64 kind, .int .i64 base, .int .i64 most, .slice a n c, .slice b m d]), (1, .agg #[.int .i64 rk, .func (.func F) #[] #[]])] = some (lkC kind base most (.slice a n c) (.slice b m d) rk (.func (.func F) #[] #[])) := by kernel_rfl
theorem lkBuilt0 : Try.prog.built 95 [] = some lk0 := by kernel_rfl
theorem lkZero : (Try.prog.info? 95).map (fun i => (i.zero, i.size)) = some (some (.agg lk0), 7) := by kernel_rfl
theorem lk_result2 {fn : Func} {q u : Tmp} (h : fn.results = #[.cell q 95, .tmp u]) (tmps : Array Value) (w : World) (g : Nat) (C : Array Value) (hs : C.size = 7)
    (hp : tmps.getD q undef = .pointer (some ⟨g, 0, none⟩)) (hF : w.heap[g]? = some (.cells C 95 (0, 0))) : (results fn tmps).run Try.prog w = .ok (.tuple #[.agg C, tmps.getD u undef]) w := by
  rw [results_cell_tmp h, hp]
  have hsz : (Try.prog.info? 95).map (·.size) = some 7 := by kernel_rfl
  have := run_loadVar_row (P := Try.prog) w g 95 95 C (0, 0) _ hF Try.underlying95 rfl (by rw [hsz, hs])
  simp [asAddr, this, Result.andThen]
theorem lk_store {ops : Array Oper} {rest : List Oper} {o : Oper} {a : Act} {w : World} {Q : Exit → Act → World → Prop} (hgd : o.guard = none) (x y : Operand) (ho : o.op = .store 95 x y)
    (g : Nat) (hx : a.eval x = .pointer (some ⟨g, 0, none⟩)) (C C' : Array Value) (hy : a.eval y = .agg C) (hF : w.heap[g]? = some (.cells C' 95 (0, 0))) (hs : C.size = 7) (hs' : C'.size = 7) (h1 : C.all (·.oneCell') = true) (hd : o.dst = none)
    (h : wpList Try.prog ops Q rest a (w.setRow g C)) : wpList Try.prog ops Q (o :: rest) a w :=
  wpList_store_row hgd 95 x y ho g C hx hy 95 C' hF (by have hsz : (Try.prog.info? 95).map (·.size) = some 7 := (by kernel_rfl); rw [hsz, hs]) (by rw [hs, hs']) h1 (by rw [hd]; exact h)
theorem lk_one (kind base most : Int) (a b : Option Addr) (n m c d : Nat) (rk : Int) (F : Nat) : (lkC kind base most (.slice a n c) (.slice b m d) rk (.func (.func F) #[] #[])).all (·.oneCell') = true := by simp [lkC, Value.oneCell']
theorem lk0_one : lk0.all (·.oneCell') = true := by simp [lk0, lkC, Value.oneCell']
set_option maxRecDepth 100000 in
set_option maxHeartbeats 4000000 in
theorem look_any (c : Cse) (hv rv : Value) (w : World) (hC : CseAt w c hv rv) :
    Calls Try.prog 63 #[.agg #[.int .i64 c.kind, .int .i64 c.base, .int .i64 c.most, hv, rv]] w (LookP c hv rv w) := by
  obtain ⟨ha, n, hc, rfl⟩ : ∃ a n c, hv = .slice a n c := by obtain ⟨_, a, cap, h, _⟩ := hC.hs; exact ⟨_, _, _, h⟩
  obtain ⟨ra, m, rc, rfl⟩ : ∃ a n c, rv = .slice a n c := by obtain ⟨_, a, cap, h, _⟩ := hC.rd; exact ⟨_, _, _, h⟩
  obtain ⟨kind, hkind⟩ : ∃ x, c.kind = x := ⟨_, rfl⟩
  obtain ⟨base, hbase⟩ : ∃ x, c.base = x := ⟨_, rfl⟩
  obtain ⟨most, hmost⟩ : ∃ x, c.most = x := ⟨_, rfl⟩
  obtain ⟨c1, h1⟩ : ∃ x, (checkC c).1 = x := ⟨_, rfl⟩
  obtain ⟨c2, h2⟩ : ∃ x, (checkC c).2.1 = x := ⟨_, rfl⟩
  obtain ⟨c3, h3⟩ : ∃ x, (checkC c).2.2 = x := ⟨_, rfl⟩
  have HE : Hid (errC c = c3) := h3
  obtain ⟨W, hW, q1, q2, hb, hsz⟩ := al2 w (Obj.cells #[.int .i64 kind, .int .i64 base, .int .i64 most, .slice ha n hc, .slice ra m rc] 25) (Obj.cells lk0 95)
  have hck := check_any c _ _ W (hC.below hb)
  rw [hkind, hbase, hmost, h1, h2, h3] at hck
  have HCK := Lib.hid hck
  have HW := Lib.hid hW
  have HQ1 := Lib.hid q1
  have HQ2 := Lib.hid q2
  have HB := Lib.hid hb
  have HKD := Lib.hid hkind
  have hz := (zero_of_info lkZero).1
  unfold LookP lkV
  rw [HE.out, hkind, hbase, hmost]
  clear hW q1 q2 hb hsz hck h1 h2 h3 hC hkind hbase hmost
  go_enter Try.func63, Try.ntmps63
  go_wp2_with fail
  rw [HW.out]
  refine HCK.out.mono ?_
  rintro e w1 ⟨rfl, hb⟩
  have HB1 := Lib.hid (HB.out.trans (hb.mono HB.out.size))
  have K1 := Lib.hid ((hb.block _ (lt_of_block HQ1.out)).trans HQ1.out)
  have K2 := Lib.hid ((hb.block _ (lt_of_block HQ2.out)).trans HQ2.out)
  clear hb HB HQ1 HQ2 HW HCK hz
  by_cases h0 : c3 = 0
  · subst h0
    have HV := Lib.hid (valid_of HE.out)
    have r0 := cellOf K1.out 0 _ rfl
    have rl := lt_of_block K1.out
    go_wp2_with fail
    refine (roundingOf_any kind w1).mono ?_
    rintro e w2 ⟨he1, _, hb⟩
    obtain rfl := he1 ((kindB_iff kind).2 (by rw [← HKD.out]; exact ⟨HV.out.k1, HV.out.k3⟩))
    have HB2 := Lib.hid (HB1.out.trans (hb.mono HB1.out.size))
    have L1 := Lib.hid ((hb.block _ (lt_of_block K1.out)).trans K1.out)
    have L2 := Lib.hid ((hb.block _ (lt_of_block K2.out)).trans K2.out)
    clear hb HB1 K1 K2 r0 rl he1
    have hba : Below w2.heap.size w2 (w2.alloc (.cells #[.int .i64 kind, .func (.func (rnF kind)) #[] #[]] 88)) := by go_grown
    have M1 := Lib.hid ((hba.block _ (lt_of_block L1.out)).trans L1.out)
    have M2 := Lib.hid ((hba.block _ (lt_of_block L2.out)).trans L2.out)
    have MB := Lib.hid (HB2.out.trans (hba.mono HB2.out.size))
    have r0 := cellOf M1.out 0 _ rfl
    have r1 := cellOf M1.out 1 _ rfl
    have r2 := cellOf M1.out 2 _ rfl
    have r3 := cellOf M1.out 3 _ rfl
    have r4 := cellOf M1.out 4 _ rfl
    have rl := lt_of_block M1.out
    have HBT := Lib.hid (lkBuilt kind base most ha ra n m hc rc kind (rnF kind))
    clear hba
    go_upto_region 5 with fail
    iterate 7 go_step
    refine wpList_buildTo rfl 95 #[(0, .tmp 25), (1, .tmp 26)] rfl (some 27) rfl (lkC kind base most (.slice ha n hc) (.slice ra m rc) kind (.func (.func (rnF kind)) #[] #[])) ?_ ?_
    · rw [List.map_toArray]
      exact HBT.out
    refine lk_store rfl (.tmp 2) (.tmp 27) rfl (w.heap.size + 1) rfl (lkC kind base most (.slice ha n hc) (.slice ra m rc) kind (.func (.func (rnF kind)) #[] #[])) lk0 rfl M2.out rfl rfl (lk_one _ _ _ _ _ _ _ _ _ _ _) rfl ?_
    go_wp2_with fail
    refine bodyPost_ret (lk_result2 rfl _ _ (w.heap.size + 1) _ rfl rfl (setRow_heap _ _ _ _ _ _ M2.out)) rfl ?_
    exact ⟨rfl, below_setRow (g := w.heap.size + 1) MB.out (by omega) _⟩
  · have tz : (c3 != 0) = true := by simp [h0]
    go_upto_region 3 with fail
    iterate 7 go_step
    refine lk_store rfl (.tmp 2) (.tmp 17) rfl (w.heap.size + 1) rfl lk0 lk0 rfl K2.out rfl rfl lk0_one rfl ?_
    go_wp2_with fail
    refine bodyPost_ret (lk_result2 rfl _ _ (w.heap.size + 1) lk0 rfl rfl (setRow_heap _ _ _ _ _ _ K2.out)) rfl ?_
    exact ⟨fun h => absurd h h0, fun _ => rfl, below_setRow HB1.out (by omega) _⟩
end Go.Proofs.Ythflbbjilebhlaa
