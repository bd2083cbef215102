/- Package scale: a road that is flat. -/
import Derived.Test.YthflbbjilebhlaaUr
set_option linter.unusedSimpArgs false
set_option linter.unusedVariables false
namespace Go.Proofs.Ythflbbjilebhlaa
open Go Go.RowKit Go.Shelf Sc

/-- A road between points. -/
def RoadIn (c : Cse) (r : Int × Int) : Prop := 0 ≤ r.1 ∧ r.1 < c.hs.length ∧ 0 ≤ r.2 ∧ r.2 < c.hs.length
theorem RoadIn.eight {c : Cse} {r : Int × Int} (h : RoadIn c r) (hV : Valid c) : 0 ≤ r.1 ∧ r.1 < 8 ∧ 0 ≤ r.2 ∧ r.2 < 8 := by
  have := hV.n8
  obtain ⟨a, b, c, d⟩ := h
  omega
theorem cut8_bd {c : Cse} (hV : Valid c) (s : Scl) (hs : 1 ≤ s.1 ∧ s.1 ≤ 30 ∧ 1 ≤ s.2) (i : Nat) : 0 ≤ (cut8 c s).getD i 0 ∧ (cut8 c s).getD i 0 ≤ 270000 := by
  rcases Nat.lt_or_ge i c.hs.length with h | h
  · rw [cut8_get c s i h hV.n8]; exact cutsC_bd hV s hs i
  · rw [cut8_zero c s i h]; omega
theorem cut8_at {c : Cse} (hV : Valid c) (s : Scl) (i : Int) (h0 : 0 ≤ i) (h : i < c.hs.length) : at0 (cut8 c s) i = at0 (cutsC c s) i := by
  unfold at0
  exact cut8_get c s i.toNat (by omega) hV.n8
theorem risen_bd {c : Cse} (hV : Valid c) (s : Scl) (hs : 1 ≤ s.1 ∧ s.1 ≤ 30 ∧ 1 ≤ s.2) (r : Int × Int) : -270000 ≤ at0 (cut8 c s) r.2 - at0 (cut8 c s) r.1 ∧ at0 (cut8 c s) r.2 - at0 (cut8 c s) r.1 ≤ 270000 := by
  have h1 := cut8_bd hV s hs r.2.toNat
  have h2 := cut8_bd hV s hs r.1.toNat
  unfold at0
  omega
theorem rise_bd {c : Cse} (hV : Valid c) (r : Int × Int) (h : RoadIn c r) : -9000 ≤ at0 c.hs r.2 - at0 c.hs r.1 ∧ at0 c.hs r.2 - at0 c.hs r.1 ≤ 9000 := by
  obtain ⟨a, b, d, e⟩ := h
  have h1 := hV.hs r.2.toNat (by omega)
  have h2 := hV.hs r.1.toNat (by omega)
  have := hV.b0
  unfold at0
  omega
theorem list8 (cs : List Int) (h : cs.length = 8) : ∃ x0 x1 x2 x3 x4 x5 x6 x7, cs = [x0, x1, x2, x3, x4, x5, x6, x7] := by
  match cs, h with
  | [a, b, c, d, e, f, g, i], _ => exact ⟨a, b, c, d, e, f, g, i, rfl⟩
set_option maxRecDepth 100000 in
set_option maxHeartbeats 4000000 in
theorem flat_any (c : Cse) (hv rv : Value) (s : Scl) (r : Int × Int) (w : World) (hC : CseAt w c hv rv) (hV : Valid c) (hs : 1 ≤ s.1 ∧ s.1 ≤ 30 ∧ 1 ≤ s.2) (hr : RoadIn c r) :
    Calls Try.prog 61 #[.agg (mdC (mdP c hv rv s) (cut8 c s)), .agg #[.int .i64 r.1, .int .i64 r.2]] w fun e w' => e = .returned (.bool (flatR c s r)) ∧ Below w.heap.size w w' := by
  obtain ⟨ha, hn, hc, rfl⟩ : ∃ a n c, hv = .slice a n c := by obtain ⟨_, a, cap, h, _⟩ := hC.hs; exact ⟨_, _, _, h⟩
  obtain ⟨ra, rn, rc, rfl⟩ : ∃ a n c, rv = .slice a n c := by obtain ⟨_, a, cap, h, _⟩ := hC.rd; exact ⟨_, _, _, h⟩
  obtain ⟨kind, hkind⟩ : ∃ x, c.kind = x := ⟨_, rfl⟩
  obtain ⟨base, hbase⟩ : ∃ x, c.base = x := ⟨_, rfl⟩
  obtain ⟨most, hmost⟩ : ∃ x, c.most = x := ⟨_, rfl⟩
  obtain ⟨F, hF⟩ : ∃ F, rnF c.kind = F := ⟨_, rfl⟩
  obtain ⟨u, d⟩ := s
  obtain ⟨x0, x1, x2, x3, x4, x5, x6, x7, hcs⟩ := list8 (cut8 c (u, d)) (cut8_len c _)
  have hmd : mdC (mdP c (.slice ha hn hc) (.slice ra rn rc) (u, d)) (cut8 c (u, d)) = #[.int .i64 kind, .int .i64 base, .int .i64 most, .slice ha hn hc, .slice ra rn rc, .int .i64 kind, .func (.func F) #[] #[], .int .i64 u, .int .i64 d, .int .i64 x0, .int .i64 x1, .int .i64 x2, .int .i64 x3, .int .i64 x4, .int .i64 x5, .int .i64 x6, .int .i64 x7] := by rw [hcs]; unfold mdP; rw [hF, hkind, hbase, hmost]; rfl
  obtain ⟨X, hX⟩ : ∃ X, at0 c.hs r.2 - at0 c.hs r.1 = X := ⟨_, rfl⟩
  obtain ⟨Z, hZ⟩ : ∃ Z, at0 (cut8 c (u, d)) r.2 - at0 (cut8 c (u, d)) r.1 = Z := ⟨_, rfl⟩
  have hFL : flatR c (u, d) r = ((X != 0) && (Z == 0)) := by
    have e1 := cut8_at hV (u, d) _ hr.1 hr.2.1
    have e2 := cut8_at hV (u, d) _ hr.2.2.1 hr.2.2.2
    unfold flatR
    rw [hX, ← e1, ← e2, hZ]
    by_cases q : X = 0 <;> by_cases q2 : Z = 0 <;> simp [q, q2]
  have H2 : Hid (∀ W1, Calls Try.prog 95 #[.agg #[.int .i64 kind, .int .i64 base, .int .i64 most, .slice ha hn hc, .slice ra rn rc, .int .i64 kind, .func (.func F) #[] #[], .int .i64 u, .int .i64 d, .int .i64 x0, .int .i64 x1, .int .i64 x2, .int .i64 x3, .int .i64 x4, .int .i64 x5, .int .i64 x6, .int .i64 x7], .agg #[.int .i64 r.1, .int .i64 r.2]] W1 fun e w' => e = .returned (.int .i64 Z) ∧ Below W1.heap.size W1 w') := fun W1 => by
    have := risen_any (mdP c (.slice ha hn hc) (.slice ra rn rc) (u, d)) (cut8 c (u, d)) r W1 rfl (cut8_len c _) (cut8_bd hV _ hs) rfl (hr.eight hV)
    rw [hZ, hmd] at this
    exact this
  have H1 : Hid (∀ W1, CseAt W1 c (.slice ha hn hc) (.slice ra rn rc) → Calls Try.prog 93 #[.agg #[.int .i64 kind, .int .i64 base, .int .i64 most, .slice ha hn hc, .slice ra rn rc, .int .i64 kind, .func (.func F) #[] #[]], .agg #[.int .i64 r.1, .int .i64 r.2]] W1 fun e w' => e = .returned (.int .i64 X) ∧ Below W1.heap.size W1 w') := fun W1 hC1 => by
    have := rise_any c _ _ r W1 hC1 hV hr
    unfold lkV lkC at this
    rw [hX, hF, hkind, hbase, hmost] at this
    exact this
  rw [hmd, hFL]
  obtain ⟨W, hW, z1, z2, hb, hsz⟩ := al2 w (Obj.cells #[.int .i64 kind, .int .i64 base, .int .i64 most, .slice ha hn hc, .slice ra rn rc, .int .i64 kind, .func (.func F) #[] #[], .int .i64 u, .int .i64 d, .int .i64 x0, .int .i64 x1, .int .i64 x2, .int .i64 x3, .int .i64 x4, .int .i64 x5, .int .i64 x6, .int .i64 x7] 99) (Obj.cells #[.int .i64 r.1, .int .i64 r.2] 79)
  have HC := Lib.hid (hC.below hb)
  obtain ⟨r1, r2⟩ := r
  dsimp only at *
  have c0 := cellOf z1 0 (.int .i64 kind) rfl
  have c1 := cellOf z1 1 (.int .i64 base) rfl
  have c2 := cellOf z1 2 (.int .i64 most) rfl
  have c3 := cellOf z1 3 (.slice ha hn hc) rfl
  have c4 := cellOf z1 4 (.slice ra rn rc) rfl
  have c5 := cellOf z1 5 (.int .i64 kind) rfl
  have c6 := cellOf z1 6 (.func (.func F) #[] #[]) rfl
  have ml := lt_of_block z1
  have e0 := cellOf z2 0 (.int .i64 r1) rfl
  have e1 := cellOf z2 1 (.int .i64 r2) rfl
  have el := lt_of_block z2
  have HM := Lib.hid z1
  have HZ := Lib.hid z2
  have HW := Lib.hid hW
  have HB := Lib.hid hb
  clear hb hW z1 z2 hC hV hr hs hX hZ hFL hkind hbase hmost hF hsz hcs hmd
  go_enter Try.func61, Try.ntmps61
  go_upto_region 1 with fail
  rw [HW.out]
  go_wp2_with fail
  refine (H1.out _ HC.out).mono ?_
  rintro e w1 ⟨rfl, hb⟩
  have M1 := Lib.hid ((hb.block _ (lt_of_block HM.out)).trans HM.out)
  have Z1 := Lib.hid ((hb.block _ (lt_of_block HZ.out)).trans HZ.out)
  have B1 := Lib.hid (HB.out.trans (hb.mono HB.out.size))
  clear c0 c1 c2 c3 c4 c5 c6 ml e0 e1 el HM HZ HC HB hb
  have c0 := cellOf M1.out 0 (.int .i64 kind) rfl
  have c1 := cellOf M1.out 1 (.int .i64 base) rfl
  have c2 := cellOf M1.out 2 (.int .i64 most) rfl
  have c3 := cellOf M1.out 3 (.slice ha hn hc) rfl
  have c4 := cellOf M1.out 4 (.slice ra rn rc) rfl
  have c5 := cellOf M1.out 5 (.int .i64 kind) rfl
  have c6 := cellOf M1.out 6 (.func (.func F) #[] #[]) rfl
  have c7 := cellOf M1.out 7 (.int .i64 u) rfl
  have c8 := cellOf M1.out 8 (.int .i64 d) rfl
  have c9 := cellOf M1.out 9 (.int .i64 x0) rfl
  have c10 := cellOf M1.out 10 (.int .i64 x1) rfl
  have c11 := cellOf M1.out 11 (.int .i64 x2) rfl
  have c12 := cellOf M1.out 12 (.int .i64 x3) rfl
  have c13 := cellOf M1.out 13 (.int .i64 x4) rfl
  have c14 := cellOf M1.out 14 (.int .i64 x5) rfl
  have c15 := cellOf M1.out 15 (.int .i64 x6) rfl
  have c16 := cellOf M1.out 16 (.int .i64 x7) rfl
  have ml := lt_of_block M1.out
  have e0 := cellOf Z1.out 0 (.int .i64 r1) rfl
  have e1 := cellOf Z1.out 1 (.int .i64 r2) rfl
  have el := lt_of_block Z1.out
  cases hbx : X != 0
  · go_wp2_with fail
    go_ret
    exact ⟨by simp [hbx], B1.out⟩
  · go_wp2_with fail
    refine (H2.out _).mono ?_
    rintro e w2 ⟨rfl, hb⟩
    have B2 := Lib.hid (B1.out.trans (hb.mono B1.out.size))
    go_wp2_with fail
    go_ret
    exact ⟨by simp [hbx], B2.out⟩
end Go.Proofs.Ythflbbjilebhlaa
