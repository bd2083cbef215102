/- Package scale: lookWith. -/
import Derived.Test.YthflbbjilebhlaaUo
set_option linter.unusedSimpArgs false
set_option linter.unusedVariables false
namespace Go.Proofs.Ythflbbjilebhlaa
open Go Go.RowKit Go.Shelf Sc

/-- The error of a case and a scale. -/
def askE (c : Cse) (s : Scl) : Int := if errC c ≠ 0 then errC c else sclE s
/-- What lookWith answers. -/
def LookWP (c : Cse) (hv rv : Value) (s : Scl) (w : World) (e : Ending) (w' : World) : Prop :=
  (askE c s = 0 → e = .returned (.tuple #[.agg (mdC (mdP c hv rv s) (cut8 c s)), .int .i64 0])) ∧ (askE c s ≠ 0 → e = .returned (.tuple #[.agg (mdC pf0 z8), .int .i64 (askE c s)])) ∧ Below w.heap.size w w'
theorem askE_zero {c : Cse} {s : Scl} (h : askE c s = 0) : errC c = 0 ∧ sclE s = 0 := by
  unfold askE at h
  split at h
  · rename_i h1; exact absurd h h1
  · rename_i h1; exact ⟨by simpa using h1, h⟩
set_option maxRecDepth 100000 in
set_option maxHeartbeats 8000000 in
theorem lookWith_any (c : Cse) (hv rv : Value) (s : Scl) (w : World) (hC : CseAt w c hv rv) :
    Calls Try.prog 56 #[.agg #[.int .i64 c.kind, .int .i64 c.base, .int .i64 c.most, hv, rv], .agg #[.int .i64 s.1, .int .i64 s.2]] w (LookWP c hv rv s w) := by
  obtain ⟨ha, hn, hc, rfl⟩ : ∃ a n c, hv = .slice a n c := by obtain ⟨_, a, cap, h, _⟩ := hC.hs; exact ⟨_, _, _, h⟩
  obtain ⟨ra, rn, rc, rfl⟩ : ∃ a n c, rv = .slice a n c := by obtain ⟨_, a, cap, h, _⟩ := hC.rd; exact ⟨_, _, _, h⟩
  obtain ⟨kind, hkind⟩ : ∃ x, c.kind = x := ⟨_, rfl⟩
  obtain ⟨base, hbase⟩ : ∃ x, c.base = x := ⟨_, rfl⟩
  obtain ⟨most, hmost⟩ : ∃ x, c.most = x := ⟨_, rfl⟩
  obtain ⟨F, hF⟩ : ∃ F, rnF c.kind = F := ⟨_, rfl⟩
  have HLK : Hid (lkV c (.slice ha hn hc) (.slice ra rn rc) = #[.int .i64 kind, .int .i64 base, .int .i64 most, .slice ha hn hc, .slice ra rn rc, .int .i64 kind, .func (.func F) #[] #[]]) := by show _ = _; unfold lkV lkC; rw [hF, hkind, hbase, hmost]
  obtain ⟨e1, he1⟩ : ∃ x, errC c = x := ⟨_, rfl⟩
  have HE1 := Lib.hid he1
  obtain ⟨u, d⟩ := s
  obtain ⟨e2, he2⟩ : ∃ x, sclE (u, d) = x := ⟨_, rfl⟩
  have HE2 := Lib.hid he2
  have HA : Hid (askE c (u, d) = if e1 ≠ 0 then e1 else e2) := by show _ = _; unfold askE; rw [he1, he2]
  obtain ⟨R, hR⟩ : ∃ R, askE c (u, d) = R := ⟨_, rfl⟩
  rw [hR] at HA
  unfold LookWP
  rw [hR, hkind, hbase, hmost]
  obtain ⟨W, hW, q1, q2, q3, hb, hsz⟩ := al3 w (Obj.cells #[.int .i64 kind, .int .i64 base, .int .i64 most, .slice ha hn hc, .slice ra rn rc] 25) (Obj.cells #[.int .i64 u, .int .i64 d] 27) (Obj.cells (mdC pf0 z8) 99)
  have hlk := look_any c _ _ W (hC.below hb)
  unfold LookP lk0 lkC at hlk
  rw [hkind, hbase, hmost, he1, HLK.out] at hlk
  have HLO := Lib.hid hlk
  have HW := Lib.hid hW
  have HQ1 := Lib.hid q1
  have HQ2 := Lib.hid q2
  have HQ3 : Hid (MdBlk W (w.heap.size + 1 + 1) pf0 z8) := q3
  have HB := Lib.hid hb
  have HC := Lib.hid (hC.below hb)
  have hz := (zero_of_info mdZero).1
  clear hW q1 q2 q3 hb hsz hlk he1 he2 hC hkind hbase hmost hF hR
  go_enter Try.func56, Try.ntmps56
  go_wp2_with fail
  rw [HW.out]
  refine HLO.out.mono ?_
  rintro e w1 ⟨hy, hn', hb⟩
  have HB1 := Lib.hid (HB.out.trans (hb.mono HB.out.size))
  have K1 := Lib.hid ((hb.block _ (lt_of_block HQ1.out)).trans HQ1.out)
  have K2 := Lib.hid ((hb.block _ (lt_of_block HQ2.out)).trans HQ2.out)
  have K3 := Lib.hid (HQ3.out.below hb HQ3.out.lt)
  have C1 := Lib.hid (HC.out.below hb)
  clear hb HB HQ1 HQ2 HQ3 HW HLO hz HC
  by_cases h0 : e1 = 0
  · subst h0
    obtain rfl := hy rfl
    clear hy hn'
    rw [if_neg (by simp)] at HA
    obtain rfl : R = e2 := HA.out
    have hlz := (zero_of_info lkZero).1
    unfold lk0 lkC at hlz
    have HV := Lib.hid (valid_of HE1.out)
    go_upto_region 4 with fail
    have hb : Below w1.heap.size w1 (w1.alloc (Obj.cells #[.int .i64 kind, .int .i64 base, .int .i64 most, .slice ha hn hc, .slice ra rn rc, .int .i64 kind, .func (.func F) #[] #[]] 95)) := by go_grown
    have G2 := Lib.hid (heap_alloc_new w1 (Obj.cells #[.int .i64 kind, .int .i64 base, .int .i64 most, .slice ha hn hc, .slice ra rn rc, .int .i64 kind, .func (.func F) #[] #[]] 95))
    have L2 := Lib.hid ((hb.block _ (lt_of_block K2.out)).trans K2.out)
    have L3 := Lib.hid (K3.out.below hb K3.out.lt)
    have C2 := Lib.hid (C1.out.below hb)
    have B2 := Lib.hid (HB1.out.trans (hb.mono HB1.out.size))
    have hsz : w1.heap.size + 1 = (w1.alloc (Obj.cells #[.int .i64 kind, .int .i64 base, .int .i64 most, .slice ha hn hc, .slice ra rn rc, .int .i64 kind, .func (.func F) #[] #[]] 95)).heap.size := by simp
    generalize w1.alloc (Obj.cells #[.int .i64 kind, .int .i64 base, .int .i64 most, .slice ha hn hc, .slice ra rn rc, .int .i64 kind, .func (.func F) #[] #[]] 95) = w2 at *
    obtain ⟨g, hg⟩ : ∃ g, w1.heap.size = g := ⟨_, rfl⟩
    rw [hg] at G2 ⊢
    clear hb hsz hg hlz K1 K2 K3 C1 HB1
    have hb : Below w2.heap.size w2 (w2.alloc (Obj.cells #[.int .i64 u, .int .i64 d] 27)) := by go_grown
    have hp : PairsAt (w2.alloc (Obj.cells #[.int .i64 u, .int .i64 d] 27)) (.slice (some ⟨w2.heap.size, 0, none⟩) 1 1) [(u, d)] := by
      refine ⟨by simp, _, 1, rfl, by simp, fun _ => ⟨w2.heap.size, 0, rfl, fun k hk => ?_⟩⟩
      obtain rfl : k = 0 := by simpa using hk
      exact ⟨cellOf (heap_alloc_new w2 _) 0 _ rfl, cellOf (heap_alloc_new w2 _) 1 _ rfl⟩
    have hcall := withEach_any c _ _ _ [(u, d)] _ (C2.out.below hb) HV.out hp (by simp)
    have hsc : scsE [(u, d)] = R := by
      unfold scsE scsE
      have := HE2.out
      split
      · rename_i h; rw [← this]; exact h.symm
      · exact this
    unfold EachP at hcall
    rw [HLK.out, hsc] at hcall
    have HCL := Lib.hid hcall
    have BA := Lib.hid hb
    have c0 := cellOf G2.out 0 _ rfl
    have c1 := cellOf G2.out 1 _ rfl
    have c2 := cellOf G2.out 2 _ rfl
    have c3 := cellOf G2.out 3 _ rfl
    have c4 := cellOf G2.out 4 _ rfl
    have c5 := cellOf G2.out 5 _ rfl
    have c6 := cellOf G2.out 6 _ rfl
    have cl := lt_of_block G2.out
    have e0 := cellOf L2.out 0 _ rfl
    have e1 := cellOf L2.out 1 _ rfl
    have el := lt_of_block L2.out
    clear hb hp hcall hsc
    go_wp2_with fail
    refine HCL.out.mono ?_
    rintro e w3 ⟨hy, hn', hb⟩
    have hb2 := BA.out.trans (hb.mono BA.out.size)
    have M3 := Lib.hid (L3.out.below hb2 L3.out.lt)
    have B3 := Lib.hid (B2.out.trans (hb2.mono B2.out.size))
    clear hb hb2 HCL c0 c1 c2 c3 c4 c5 c6 cl e0 e1 el G2 L2 L3 C2 B2 BA
    by_cases h1 : R = 0
    · obtain ⟨v, rfl, hmd⟩ := hy h1
      subst h1
      obtain ⟨va, vc, rfl, hvc, hcell⟩ := hmd
      obtain ⟨b, o, rfl, hcc⟩ := hcell (by simp)
      have hcc := hcc 0 (by simp)
      simp only [List.getElem_cons_zero, Nat.zero_mul, Nat.add_zero, List.length_singleton] at hcc
      have HCC := Lib.hid hcc
      have HMW := Lib.hid (mdW_size c (.slice ha hn hc) (.slice ra rn rc) (u, d))
      have HPL := Lib.hid (mdP_len c (.slice ha hn hc) (.slice ra rn rc) (u, d))
      have HC8 := Lib.hid (cut8_len c (u, d))
      have HP1 : Hid ((mdP c (.slice ha hn hc) (.slice ra rn rc) (u, d)).all (·.oneCell') = true) := rfl
      simp only [List.length_singleton] at hvc
      have hvcI : (0 : Int) < 1 := by omega
      clear hy hn' hcell hcc
      simp only [List.length_singleton]
      go_upto_region 7 with fail
      go_wp2_with (first
        | (refine wpList_load_at rfl 99 (.tmp 30) rfl b o rfl (mdC (mdP c (.slice ha hn hc) (.slice ra rn rc) (u, d)) (cut8 c (u, d))) _ HCC.out Try.underlying99 rfl (by rw [mdSize, HMW.out]) ?_)
        | (refine md_store rfl (.tmp 4) (.tmp 31) rfl (w.heap.size + 1 + 1) rfl (mdP c (.slice ha hn hc) (.slice ra rn rc) (u, d)) (cut8 c (u, d)) pf0 z8 rfl M3.out HPL.out HC8.out rfl rfl HP1.out rfl ?_))
      refine bodyPost_ret (md_result2 rfl _ _ (w.heap.size + 1 + 1) _ _ rfl (M3.out.put _ _) HPL.out HC8.out) rfl ?_
      exact ⟨rfl, below_setRow (g := w.heap.size + 1 + 1) B3.out (by omega) _⟩
    · obtain rfl := hn' h1
      clear hy hn'
      have tz : (R != 0) = true := by simp [h1]
      go_upto_region 6 with fail
      go_step
      refine wpList_buildTo rfl 99 #[] rfl (some 27) rfl (mdC pf0 z8) (by rw [List.map_toArray]; exact mdBuilt0) ?_
      iterate 3 go_step
      refine md_store rfl (.tmp 4) (.tmp 27) rfl (w.heap.size + 1 + 1) rfl pf0 z8 pf0 z8 rfl M3.out rfl rfl rfl rfl rfl rfl ?_
      go_wp2_with fail
      refine bodyPost_ret (md_result2 rfl _ _ (w.heap.size + 1 + 1) pf0 z8 rfl (M3.out.put _ _) rfl rfl) rfl ?_
      exact ⟨fun h => absurd h h1, fun _ => rfl, below_setRow (g := w.heap.size + 1 + 1) B3.out (by omega) _⟩
  · obtain rfl := hn' h0
    clear hy hn'
    rw [if_pos h0] at HA
    obtain rfl : R = e1 := HA.out
    have tz : (R != 0) = true := by simp [h0]
    have hlz := (zero_of_info lkZero).1
    unfold lk0 lkC at hlz
    have hb : Below w1.heap.size w1 (w1.alloc (Obj.cells #[.int .i64 0, .int .i64 0, .int .i64 0, .slice none 0 0, .slice none 0 0, .int .i64 0, .nilFunc] 95)) := by go_grown
    have M3 := Lib.hid (K3.out.below hb K3.out.lt)
    have B3 := Lib.hid (HB1.out.trans (hb.mono HB1.out.size))
    clear hb
    go_upto_region 3 with fail
    go_step
    refine wpList_buildTo rfl 99 #[] rfl (some 16) rfl (mdC pf0 z8) (by rw [List.map_toArray]; exact mdBuilt0) ?_
    iterate 3 go_step
    refine md_store rfl (.tmp 4) (.tmp 16) rfl (w.heap.size + 1 + 1) rfl pf0 z8 pf0 z8 rfl M3.out rfl rfl rfl rfl rfl rfl ?_
    go_wp2_with fail
    refine bodyPost_ret (md_result2 rfl _ _ (w.heap.size + 1 + 1) pf0 z8 rfl (M3.out.put _ _) rfl rfl) rfl ?_
    exact ⟨fun h => absurd h h0, fun _ => rfl, below_setRow (g := w.heap.size + 1 + 1) B3.out (by omega) _⟩
end Go.Proofs.Ythflbbjilebhlaa
