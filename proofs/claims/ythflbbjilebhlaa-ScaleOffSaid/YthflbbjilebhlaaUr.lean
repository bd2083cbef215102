/- Package scale: by how much roads rise. -/
import Derived.Test.YthflbbjilebhlaaUq
set_option linter.unusedSimpArgs false
set_option linter.unusedVariables false
namespace Go.Proofs.Ythflbbjilebhlaa
open Go Go.RowKit Go.Shelf Sc

theorem at0_nat (l : List Int) (i : Nat) : at0 l (i : Int) = l.getD i 0 := by simp [at0]
theorem below_dn {B : Nat} {W V : World} (h : Below B W V) (n : Nat) : Below B W (V.drewN n) := ⟨h.os, h.tape, h.output, h.size, h.block⟩
set_option maxRecDepth 100000 in
set_option maxHeartbeats 4000000 in
theorem rise_any (c : Cse) (hv rv : Value) (r : Int × Int) (w : World) (hC : CseAt w c hv rv) (hV : Valid c) (hr : 0 ≤ r.1 ∧ r.1 < c.hs.length ∧ 0 ≤ r.2 ∧ r.2 < c.hs.length) :
    Calls Try.prog 93 #[.agg (lkV c hv rv), .agg #[.int .i64 r.1, .int .i64 r.2]] w fun e w' => e = .returned (.int .i64 (at0 c.hs r.2 - at0 c.hs r.1)) ∧ Below w.heap.size w w' := by
  obtain ⟨r1, r2⟩ := r
  obtain ⟨h1, h2, h3, h4⟩ := hr
  simp only at h1 h2 h3 h4 ⊢
  obtain ⟨i, rfl⟩ : ∃ i : Nat, r1 = (i : Int) := ⟨r1.toNat, by omega⟩
  obtain ⟨j, rfl⟩ : ∃ j : Nat, r2 = (j : Int) := ⟨r2.toNat, by omega⟩
  have hi : i < c.hs.length := by omega
  have hj : j < c.hs.length := by omega
  rw [at0_nat, at0_nat]
  obtain ⟨ra, rn, rc, rfl⟩ : ∃ a n c, rv = .slice a n c := by obtain ⟨_, a, cap, h, _⟩ := hC.rd; exact ⟨_, _, _, h⟩
  obtain ⟨ls, ha, hc, rfl, lsc, _⟩ := id hC.hs
  obtain ⟨kind, hkind⟩ : ∃ x, c.kind = x := ⟨_, rfl⟩
  obtain ⟨base, hbase⟩ : ∃ x, c.base = x := ⟨_, rfl⟩
  obtain ⟨most, hmost⟩ : ∃ x, c.most = x := ⟨_, rfl⟩
  obtain ⟨F, hF⟩ : ∃ F, rnF c.kind = F := ⟨_, rfl⟩
  unfold lkV lkC
  rw [hF, hkind, hbase, hmost]
  obtain ⟨W, hW, q1, q2, hb, hsz⟩ := al2 w (Obj.cells #[.int .i64 kind, .int .i64 base, .int .i64 most, .slice ha c.hs.length hc, .slice ra rn rc, .int .i64 kind, .func (.func F) #[] #[]] 95) (Obj.cells #[.int .i64 i, .int .i64 j] 79)
  obtain ⟨bb, oo, rfl, d0⟩ := (hC.hs.below hb).get hi
  obtain ⟨bb', oo', e', d1⟩ := (hC.hs.below hb).get hj
  cases e'
  have b0 := hV.hs i hi
  have b1 := hV.hs j hj
  have g0 : c.hs.getD i 0 = c.hs[i] := by simp [List.getD_eq_getElem?_getD, hi]
  have g1 : c.hs.getD j 0 = c.hs[j] := by simp [List.getD_eq_getElem?_getD, hj]
  rw [← g0] at d0
  rw [← g1] at d1
  have bb0 := hV.b0
  obtain ⟨n, hn⟩ : ∃ n, c.hs.length = n := ⟨_, rfl⟩
  rw [hn] at hi hj ls lsc q1 hW ⊢
  generalize c.hs.getD i 0 = x at *
  generalize c.hs.getD j 0 = y at *
  have iI : (i : Int) < (n : Int) := by omega
  have jI : (j : Int) < (n : Int) := by omega
  have n8 := hV.n8
  have nI : (n : Int) ≤ 8 := by omega
  have x0 : 0 ≤ x := by omega
  have y0 : 0 ≤ y := by omega
  have x9 := b0.2
  have y9 := b1.2
  have HW := Lib.hid hW
  have HB := Lib.hid hb
  have c3 := cellOf q1 3 _ rfl
  have cl := lt_of_block q1
  have e0 := cellOf q2 0 _ rfl
  have e1 := cellOf q2 1 _ rfl
  have dl := World.block_lt_of_cell? W ⟨bb, oo + i, none⟩ d0
  have w1 : IntKind.i64.wrap (y - x) = y - x := by rw [IntKind.wrap_i64] <;> omega
  clear hW hb hC hV q1 q2 hkind hbase hmost hF b0 b1 g0 g1 bb0 hn h1 h2 h3 h4 hsz
  go_enter Try.func93, Try.ntmps93
  go_wp2_with fail
  rw [HW.out]
  go_quiet (fail)
  go_wp2_with fail
  go_ret
  exact ⟨rfl, below_dn HB.out _⟩
theorem size_any (n : Int) (w : World) (h : -1000000000000 ≤ n ∧ n ≤ 1000000000000) : Calls Try.prog 94 #[.int .i64 n] w fun e w' => e = .returned (.int .i64 (absZ n)) ∧ w = w' := by
  obtain ⟨m, hm⟩ : ∃ m, -n = m := ⟨_, rfl⟩
  obtain ⟨R, hR⟩ : ∃ R, absZ n = R := ⟨_, rfl⟩
  have hr : (if n < m then m else n) = R := by rw [← hR, ← hm]; unfold absZ; split <;> omega
  have w1 : IntKind.i64.wrap (-n) = m := by rw [hm, IntKind.wrap_i64] <;> omega
  rw [hR]
  clear hR hm h
  go_enter Try.func94, Try.ntmps94
  go_wp2_with fail
  go_ret
  exact ⟨rfl, rfl⟩
/-- A model is loaded in a region that draws its order. -/
theorem exec_md {a : Act} {o : Oper} {x : Operand} {g : Nat} {p : List Value} {cs : List Int} (ho : o.op = .load 99 x) (hx : a.eval x = .pointer (some ⟨g, 0, none⟩)) (w : World) (hF : MdBlk w g p cs) (hp : p.length = 9) (hm : cs.length = 8) :
    (execOp a.eval o).run Try.prog w = .ok (.value (.agg (mdC p cs))) w := by
  have h := run_loadVar_row (P := Try.prog) w g 99 99 (mdC p cs) (0, 0) _ hF Try.underlying99 rfl (by rw [mdSize, md_size, hp, hm])
  unfold execOp
  simp only [ho, hx, Instr.loadAt, Instr.sureAddr, Sem.run_bind, Sem.run_pure, Result.andThen_ok, h]
set_option maxRecDepth 100000 in
set_option maxHeartbeats 4000000 in
theorem risen_any (p : List Value) (cs : List Int) (r : Int × Int) (w : World) (hp : p.length = 9) (hcs : cs.length = 8) (hbd : ∀ i, 0 ≤ cs.getD i 0 ∧ cs.getD i 0 ≤ 270000) (h1 : p.all (·.oneCell') = true) (hr : 0 ≤ r.1 ∧ r.1 < 8 ∧ 0 ≤ r.2 ∧ r.2 < 8) :
    Calls Try.prog 95 #[.agg (mdC p cs), .agg #[.int .i64 r.1, .int .i64 r.2]] w fun e w' => e = .returned (.int .i64 (at0 cs r.2 - at0 cs r.1)) ∧ Below w.heap.size w w' := by
  obtain ⟨r1, r2⟩ := r
  obtain ⟨q1, q2, q3, q4⟩ := hr
  simp only at q1 q2 q3 q4 ⊢
  obtain ⟨i, rfl⟩ : ∃ i : Nat, r1 = (i : Int) := ⟨r1.toNat, by omega⟩
  obtain ⟨j, rfl⟩ : ∃ j : Nat, r2 = (j : Int) := ⟨r2.toNat, by omega⟩
  rw [at0_nat, at0_nat]
  obtain ⟨W, hW, z1, z2, hb, hsz⟩ := al2 w (Obj.cells (mdC p cs) 99) (Obj.cells #[.int .i64 i, .int .i64 j] 79)
  have M : MdBlk W w.heap.size p cs := z1
  have d0 := M.cw hp i (by omega)
  have d1 := M.cw hp j (by omega)
  have b0 := hbd i
  have b1 := hbd j
  generalize cs.getD i 0 = x at *
  generalize cs.getD j 0 = y at *
  obtain ⟨x0, x9⟩ := b0
  obtain ⟨y0, y9⟩ := b1
  have iI : (i : Int) < 8 := by omega
  have jI : (j : Int) < 8 := by omega
  have ml := M.lt
  have e0 := cellOf z2 0 _ rfl
  have e1 := cellOf z2 1 _ rfl
  have HW := Lib.hid hW
  have HB := Lib.hid hb
  have w1 : IntKind.i64.wrap (y - x) = y - x := by rw [IntKind.wrap_i64] <;> omega
  clear hW hb z1 z2 M hbd q1 q2 q3 q4 hsz
  go_enter Try.func95, Try.ntmps95
  go_wp2_with fail
  rw [HW.out]
  go_quiet (fail)
  go_wp2_with fail
  go_ret
  exact ⟨rfl, below_dn HB.out _⟩
end Go.Proofs.Ythflbbjilebhlaa
