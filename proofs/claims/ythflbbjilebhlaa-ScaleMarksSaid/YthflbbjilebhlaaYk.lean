/- Contracts of the reference's Agrees and Marks, and plain facts for Scales. No law is proved here. -/
import Derived.Test.YthflbbjilebhlaaYg
import Derived.Test.YthflbbjilebhlaaVb
import Derived.Test.YthflbbjilebhlaaYe
import Derived.BigQuiet
import Derived.Test.YthflbbjilebhlaaUe
import Derived.Test.YthflbbjilebhlaaYo
set_option linter.unusedSimpArgs false
set_option linter.unusedVariables false
namespace Go.Proofs.Ythflbbjilebhlaa
open Go Go.RowKit Go.Shelf Sc

def agreesB (c : Cse) (s : Scl) (l : List Mrk) : Bool := l.all (markB c s)
theorem agrees_at {c : Cse} {s : Scl} {l : List Mrk} (k : Nat) (h : k < l.length) (hx : markB c s l[k] = false) : agreesB c s l = false := by
  unfold agreesB
  rw [List.all_eq_false]
  exact ⟨_, List.getElem_mem h, by simp [hx]⟩
theorem agrees_more {c : Cse} {s : Scl} {l : List Mrk} (k : Nat) (h : k < l.length) (h1 : agreesB c s (l.take k) = true) (hx : markB c s l[k] = true) : agreesB c s (l.take (k + 1)) = true := by
  unfold agreesB at h1 ⊢
  rw [List.take_succ_eq_append_getElem h, List.all_append, h1]
  simp [hx]
set_option maxRecDepth 100000 in
set_option maxHeartbeats 8000000 in
theorem rAgrees_any (c : Cse) (hv rv mv : Value) (s : Scl) (l : List Mrk) (w : World) (hC : CseAt w c hv rv) (hV : Valid c) (hs : 1 ≤ s.1 ∧ s.1 ≤ 30 ∧ 1 ≤ s.2 ∧ s.2 ≤ 30) (hM : MrksAt w mv l) (h8 : l.length ≤ 8) (hin : ∀ q, q ∈ l → 0 ≤ q.pt ∧ q.pt < c.hs.length) :
    Calls Try.prog 47 #[.agg #[.int .i64 c.kind, .int .i64 c.base, .int .i64 c.most, hv, rv], .agg #[.int .i64 s.1, .int .i64 s.2], mv] w fun e w' => e = .returned (.bool (agreesB c s l)) ∧ Below w.heap.size w w' := by
  obtain ⟨ha, n, hc, rfl⟩ : ∃ a n c, hv = .slice a n c := by obtain ⟨_, a, cap, h, _⟩ := hC.hs; exact ⟨_, _, _, h⟩
  obtain ⟨ra, m, rc, rfl⟩ : ∃ a n c, rv = .slice a n c := by obtain ⟨_, a, cap, h, _⟩ := hC.rd; exact ⟨_, _, _, h⟩
  obtain ⟨kind, hkind⟩ : ∃ x, c.kind = x := ⟨_, rfl⟩
  obtain ⟨base, hbase⟩ : ∃ x, c.base = x := ⟨_, rfl⟩
  obtain ⟨most, hmost⟩ : ∃ x, c.most = x := ⟨_, rfl⟩
  obtain ⟨u, d⟩ := s
  simp only
  obtain ⟨W, hW, q1, q2, hb, hsz⟩ := al2 w (Obj.cells #[.int .i64 kind, .int .i64 base, .int .i64 most, .slice ha n hc, .slice ra m rc] 25) (Obj.cells #[.int .i64 u, .int .i64 d] 27)
  have HC := Lib.hid (hC.below hb)
  have HW := Lib.hid hW
  have HB := Lib.hid hb
  have Q1 := Lib.hid q1
  have Q2 := Lib.hid q2
  have c0 := cellOf q1 0 (.int .i64 kind) rfl
  have c1 := cellOf q1 1 (.int .i64 base) rfl
  have c2 := cellOf q1 2 (.int .i64 most) rfl
  have c3 := cellOf q1 3 (.slice ha n hc) rfl
  have c4 := cellOf q1 4 (.slice ra m rc) rfl
  have cl := lt_of_block q1
  have e0 := cellOf q2 0 (.int .i64 u) rfl
  have e1 := cellOf q2 1 (.int .i64 d) rfl
  have el := lt_of_block q2
  have h1 := rAll_any c _ _ (u, d) W HC.out hV hs
  have hcl : (cutsC c (u, d)).length = c.hs.length := by simp [cutsC]
  obtain ⟨nn, hnn⟩ : ∃ nn, c.hs.length = nn := ⟨_, rfl⟩
  rw [hkind, hbase, hmost] at h1
  obtain ⟨R, hR⟩ : ∃ R, agreesB c (u, d) l = R := ⟨_, rfl⟩
  rw [hR, hkind, hbase, hmost]
  obtain ⟨lm, ma, mc, rfl, lmc, _⟩ := id hM
  obtain ⟨n', hl⟩ : ∃ n', l.length = n' := ⟨_, rfl⟩
  rw [hl] at lm lmc h8 hM ⊢
  have nI : (n' : Int) ≤ 8 := by omega
  have HR := Lib.hid hR
  have H1 := Lib.hid h1
  have HL := Lib.hid hl
  have HMK := Lib.hid (hM.below HB.out)
  have HIN := Lib.hid hin
  have HCL := Lib.hid hcl
  have n8 := hV.n8
  clear h1 hR hkind hbase hmost hW hb hsz q1 q2 hC hV hs hl hM hin hcl
  go_enter Try.func47, Try.ntmps47
  go_upto_region 1 with fail
  rw [HW.out]
  go_wp2_with fail
  refine H1.out.mono ?_
  rintro e w1 ⟨v, rfl, _, hi, hb⟩
  have B1 := Lib.hid (HB.out.trans (hb.mono HB.out.size))
  have HI := Lib.hid hi
  have MK := Lib.hid (HMK.out.below hb)
  obtain ⟨la, va, vc, rfl, lvc, _⟩ := id hi
  clear hb hi c0 c1 c2 c3 c4 cl e0 e1 el H1 HC HW Q1 Q2 HB HMK
  go_wp2
  go_loopg [8] n' (fun gh i wr => ∃ (k : Nat), gh + k = n' ∧ i = .int .i64 (k : Int) ∧ Hid (agreesB c (u, d) (l.take k) = true) ∧ Hid (Below w1.heap.size w1 wr))
  case atStart => exact ⟨0, by omega, rfl, rfl, Below.refl _ _⟩
  case round =>
    obtain ⟨k, hk, rfl, HA, HL2⟩ := hrel
    by_cases hlt : k < n'
    · have kI : (k : Int) < (n' : Int) := by omega
      have kz : (0 : Int) ≤ (k : Int) := by omega
      have hk' : k < l.length := by rw [HL.out]; exact hlt
      obtain ⟨b, o, rfl, d0, d1, d2⟩ := (MK.out.below HL2.out).get hk'
      have hp := HIN.out _ (List.getElem_mem hk')
      have HAT := Lib.hid (agrees_at (c := c) (s := (u, d)) k hk')
      have HMO := Lib.hid (agrees_more (c := c) (s := (u, d)) k hk' HA.out)
      obtain ⟨⟨pt, lo, hi⟩, hx⟩ : ∃ x, l[k] = x := ⟨_, rfl⟩
      rw [hx] at d0 d1 d2 hp HAT HMO
      simp only at d0 d1 d2 hp
      obtain ⟨i, rfl⟩ : ∃ i : Nat, pt = (i : Int) := ⟨pt.toNat, by omega⟩
      have hi2 : i < (cutsC c (u, d)).length := by rw [HCL.out]; omega
      obtain ⟨lb, lo', e', y0⟩ := (HI.out.below HL2.out).get hi2
      cases e'
      rw [get_at0] at y0
      obtain ⟨X, hX⟩ : ∃ X, markB c (u, d) ⟨i, lo, hi⟩ = X := ⟨_, rfl⟩
      rw [hX] at HAT HMO
      unfold markB at hX
      simp only at hX
      have iI : (i : Int) < ((cutsC c (u, d)).length : Int) := by omega
      have iz : (0 : Int) ≤ (i : Int) := by omega
      generalize at0 (cutsC c (u, d)) (i : Int) = y at *
      have HC : Hid (∀ V, Calls Try.prog 55 #[.int .i64 y, .int .i64 lo, .int .i64 hi] V fun e w' => e = .returned (.bool X) ∧ V = w') := fun V => by have h := rin_any y lo hi V; rw [hX] at h; exact h
      obtain ⟨LN, hLN⟩ : ∃ LN, (cutsC c (u, d)).length = LN := ⟨_, rfl⟩
      have dl := World.block_lt_of_cell? wr ⟨b, o + k * 3, none⟩ d0
      have yl := World.block_lt_of_cell? wr ⟨lb, lo' + i, none⟩ y0
      clear hk' hx hp hi2 hX hLN LN
      go_wp2_with fail
      have KA : ∀ W' : World, Below wr.heap.size wr W' → (W'.cell? ⟨b, o + k * 3, none⟩ = some (.int .i64 i) ∧ W'.cell? ⟨b, o + k * 3 + 1, none⟩ = some (.int .i64 lo) ∧ W'.cell? ⟨b, o + k * 3 + 2, none⟩ = some (.int .i64 hi) ∧ W'.cell? ⟨lb, lo' + i, none⟩ = some (.int .i64 y) ∧ Below wr.heap.size wr W') := fun W' hb => ⟨keepK d0 hb, keepK d1 hb, keepK d2 hb, keepK y0 hb, hb⟩
      refine wp_region_noPanic ?_
      refine wp_region_held_drew (S := (fun W' => W'.cell? ⟨b, o + k * 3, none⟩ = some (.int .i64 i) ∧ W'.cell? ⟨b, o + k * 3 + 1, none⟩ = some (.int .i64 lo) ∧ W'.cell? ⟨b, o + k * 3 + 2, none⟩ = some (.int .i64 hi) ∧ W'.cell? ⟨lb, lo' + i, none⟩ = some (.int .i64 y) ∧ Below wr.heap.size wr W')) (by kernel_rfl) ?_ (fun hh0 => ?_)
      · exact KA _ (Below.refl _ _).drew
      refine wpAnyH_take (i := 0) (v := ?_) rfl (by as_aux_lemma => kernel_rfl) (by as_aux_lemma => kernel_rfl) (by as_aux_lemma => kernel_rfl) (fun _ _ _ h => h) (Or.inl ⟨by rfl, ?_⟩) (by assumption) ?_
      rotate_left
      · intro w hSw
        try dsimp only at hSw
        go_simp
        try with_reducible rfl
      try simp only [Act.put, List.getElem_toArray, List.getElem_cons_succ, List.getElem_cons_zero, List.setIfInBounds_toArray, List.set_cons_zero, List.set_cons_succ]
      refine wpAnyH_take (i := 1) (v := ?_) rfl (by as_aux_lemma => kernel_rfl) (by as_aux_lemma => kernel_rfl) (by as_aux_lemma => kernel_rfl) (fun _ _ _ h => h) (Or.inl ⟨by rfl, ?_⟩) (by assumption) ?_
      rotate_left
      · intro w hSw
        try dsimp only at hSw
        go_simp
        try with_reducible rfl
      try simp only [Act.put, List.getElem_toArray, List.getElem_cons_succ, List.getElem_cons_zero, List.setIfInBounds_toArray, List.set_cons_zero, List.set_cons_succ]
      refine wpAnyH_take (i := 2) (v := ?_) rfl (by as_aux_lemma => kernel_rfl) (by as_aux_lemma => kernel_rfl) (by as_aux_lemma => kernel_rfl) (fun _ _ _ h => h) (Or.inl ⟨by rfl, ?_⟩) (by assumption) ?_
      rotate_left
      · intro w hSw
        try dsimp only at hSw
        go_simp
        try with_reducible rfl
      try simp only [Act.put, List.getElem_toArray, List.getElem_cons_succ, List.getElem_cons_zero, List.setIfInBounds_toArray, List.set_cons_zero, List.set_cons_succ]
      refine wpAnyH_take (i := 3) (v := ?_) rfl (by as_aux_lemma => kernel_rfl) (by as_aux_lemma => kernel_rfl) (by as_aux_lemma => kernel_rfl) (fun _ _ _ h => h) (Or.inl ⟨by rfl, ?_⟩) (by assumption) ?_
      rotate_left
      · intro w hSw
        try dsimp only at hSw
        go_simp
        try with_reducible rfl
      try simp only [Act.put, List.getElem_toArray, List.getElem_cons_succ, List.getElem_cons_zero, List.setIfInBounds_toArray, List.set_cons_zero, List.set_cons_succ]
      refine wpAnyH_take (i := 4) (v := ?_) rfl (by as_aux_lemma => kernel_rfl) (by as_aux_lemma => kernel_rfl) (by as_aux_lemma => kernel_rfl) (fun _ _ _ h => h) (Or.inl ⟨by rfl, ?_⟩) (by assumption) ?_
      rotate_left
      · intro w hSw
        try dsimp only at hSw
        go_simp
        try with_reducible rfl
      try simp only [Act.put, List.getElem_toArray, List.getElem_cons_succ, List.getElem_cons_zero, List.setIfInBounds_toArray, List.set_cons_zero, List.set_cons_succ]
      refine wpAnyH_take (i := 5) (v := ?_) rfl (by as_aux_lemma => kernel_rfl) (by as_aux_lemma => kernel_rfl) (by as_aux_lemma => kernel_rfl) (fun _ _ _ h => h) (Or.inl ⟨by rfl, ?_⟩) (by assumption) ?_
      rotate_left
      · intro w hSw
        try dsimp only at hSw
        go_simp
        try with_reducible rfl
      try simp only [Act.put, List.getElem_toArray, List.getElem_cons_succ, List.getElem_cons_zero, List.setIfInBounds_toArray, List.set_cons_zero, List.set_cons_succ]
      refine wpAnyH_take (i := 6) (v := ?_) rfl (by as_aux_lemma => kernel_rfl) (by as_aux_lemma => kernel_rfl) (by as_aux_lemma => kernel_rfl) (fun _ _ _ h => h) (Or.inl ⟨by rfl, ?_⟩) (by assumption) ?_
      rotate_left
      · intro w hSw
        try dsimp only at hSw
        go_simp
        try with_reducible rfl
      try simp only [Act.put, List.getElem_toArray, List.getElem_cons_succ, List.getElem_cons_zero, List.setIfInBounds_toArray, List.set_cons_zero, List.set_cons_succ]
      refine wpAnyH_take (i := 7) (v := ?_) rfl (by as_aux_lemma => kernel_rfl) (by as_aux_lemma => kernel_rfl) (by as_aux_lemma => kernel_rfl) (fun _ _ _ h => h) (Or.inl ⟨by rfl, ?_⟩) (by assumption) ?_
      rotate_left
      · intro w hSw
        try dsimp only at hSw
        go_simp
        try with_reducible rfl
      try simp only [Act.put, List.getElem_toArray, List.getElem_cons_succ, List.getElem_cons_zero, List.setIfInBounds_toArray, List.set_cons_zero, List.set_cons_succ]
      refine wpAnyH_take (i := 8) (v := ?_) rfl (by as_aux_lemma => kernel_rfl) (by as_aux_lemma => kernel_rfl) (by as_aux_lemma => kernel_rfl) (fun _ _ _ h => h) (Or.inl ⟨by rfl, ?_⟩) (by assumption) ?_
      rotate_left
      · intro w hSw
        try dsimp only at hSw
        go_simp
        try with_reducible rfl
      try simp only [Act.put, List.getElem_toArray, List.getElem_cons_succ, List.getElem_cons_zero, List.setIfInBounds_toArray, List.set_cons_zero, List.set_cons_succ]
      refine wpAnyH_take (i := 9) (v := ?_) rfl (by as_aux_lemma => kernel_rfl) (by as_aux_lemma => kernel_rfl) (by as_aux_lemma => kernel_rfl) (fun _ _ _ h => h) (Or.inl ⟨by rfl, ?_⟩) (by assumption) ?_
      rotate_left
      · intro w hSw
        try dsimp only at hSw
        go_simp
        try with_reducible rfl
      try simp only [Act.put, List.getElem_toArray, List.getElem_cons_succ, List.getElem_cons_zero, List.setIfInBounds_toArray, List.set_cons_zero, List.set_cons_succ]
      refine wpAnyH_take (i := 10) (v := ?_) rfl (by as_aux_lemma => kernel_rfl) (by as_aux_lemma => kernel_rfl) (by as_aux_lemma => kernel_rfl) (fun _ _ _ h => h) (Or.inl ⟨by rfl, ?_⟩) (by assumption) ?_
      rotate_left
      · intro w hSw
        try dsimp only at hSw
        go_simp
        try with_reducible rfl
      try simp only [Act.put, List.getElem_toArray, List.getElem_cons_succ, List.getElem_cons_zero, List.setIfInBounds_toArray, List.set_cons_zero, List.set_cons_succ]
      refine wpAnyH_take (i := 11) (v := ?_) rfl (by as_aux_lemma => kernel_rfl) (by as_aux_lemma => kernel_rfl) (by as_aux_lemma => kernel_rfl) (fun _ _ _ h => h) (Or.inl ⟨by rfl, ?_⟩) (by assumption) ?_
      rotate_left
      · intro w hSw
        try dsimp only at hSw
        go_simp
        try with_reducible rfl
      try simp only [Act.put, List.getElem_toArray, List.getElem_cons_succ, List.getElem_cons_zero, List.setIfInBounds_toArray, List.set_cons_zero, List.set_cons_succ]
      refine wpAnyH_take (i := 12) (v := ?_) rfl (by as_aux_lemma => kernel_rfl) (by as_aux_lemma => kernel_rfl) (by as_aux_lemma => kernel_rfl) (fun _ _ _ h => h) (Or.inl ⟨by rfl, ?_⟩) (by assumption) ?_
      rotate_left
      · intro w hSw
        try dsimp only at hSw
        go_simp
        try with_reducible rfl
      try simp only [Act.put, List.getElem_toArray, List.getElem_cons_succ, List.getElem_cons_zero, List.setIfInBounds_toArray, List.set_cons_zero, List.set_cons_succ]
      refine wpAnyH_take (i := 13) (v := ?_) rfl (by as_aux_lemma => kernel_rfl) (by as_aux_lemma => kernel_rfl) (by as_aux_lemma => kernel_rfl) (fun _ _ _ h => h) (Or.inl ⟨by rfl, ?_⟩) (by assumption) ?_
      rotate_left
      · intro w hSw
        try dsimp only at hSw
        go_simp
        try with_reducible rfl
      try simp only [Act.put, List.getElem_toArray, List.getElem_cons_succ, List.getElem_cons_zero, List.setIfInBounds_toArray, List.set_cons_zero, List.set_cons_succ]
      refine wpAnyH_take (i := 14) (v := ?_) rfl (by as_aux_lemma => kernel_rfl) (by as_aux_lemma => kernel_rfl) (by as_aux_lemma => kernel_rfl) (fun _ _ _ h => h) (Or.inl ⟨by rfl, ?_⟩) (by assumption) ?_
      rotate_left
      · intro w hSw
        try dsimp only at hSw
        go_simp
        try with_reducible rfl
      try simp only [Act.put, List.getElem_toArray, List.getElem_cons_succ, List.getElem_cons_zero, List.setIfInBounds_toArray, List.set_cons_zero, List.set_cons_succ]
      refine wpAnyH_take (i := 15) (v := ?_) rfl (by as_aux_lemma => kernel_rfl) (by as_aux_lemma => kernel_rfl) (by as_aux_lemma => kernel_rfl) (fun _ _ _ h => h) (Or.inl ⟨by rfl, ?_⟩) (by assumption) ?_
      rotate_left
      · intro w hSw
        try dsimp only at hSw
        go_simp
        try with_reducible rfl
      try simp only [Act.put, List.getElem_toArray, List.getElem_cons_succ, List.getElem_cons_zero, List.setIfInBounds_toArray, List.set_cons_zero, List.set_cons_succ]
      refine wpAnyH_take (i := 16) (v := ?_) rfl (by as_aux_lemma => kernel_rfl) (by as_aux_lemma => kernel_rfl) (by as_aux_lemma => kernel_rfl) (fun _ _ _ h => h) (Or.inl ⟨by rfl, ?_⟩) (by assumption) ?_
      rotate_left
      · intro w hSw
        try dsimp only at hSw
        go_simp
        try with_reducible rfl
      try simp only [Act.put, List.getElem_toArray, List.getElem_cons_succ, List.getElem_cons_zero, List.setIfInBounds_toArray, List.set_cons_zero, List.set_cons_succ]
      refine wpAnyH_take (i := 17) (v := ?_) rfl (by as_aux_lemma => kernel_rfl) (by as_aux_lemma => kernel_rfl) (by as_aux_lemma => kernel_rfl) (fun _ _ _ h => h) (Or.inl ⟨by rfl, ?_⟩) (by assumption) ?_
      rotate_left
      · intro w hSw
        try dsimp only at hSw
        go_simp
        try with_reducible rfl
      try simp only [Act.put, List.getElem_toArray, List.getElem_cons_succ, List.getElem_cons_zero, List.setIfInBounds_toArray, List.set_cons_zero, List.set_cons_succ]
      refine wpAnyH_take (i := 18) (v := ?_) rfl (by as_aux_lemma => kernel_rfl) (by as_aux_lemma => kernel_rfl) (by as_aux_lemma => kernel_rfl) (fun _ _ _ h => h) (Or.inl ⟨by rfl, ?_⟩) (by assumption) ?_
      rotate_left
      · intro w hSw
        try dsimp only at hSw
        go_simp
        try with_reducible rfl
      try simp only [Act.put, List.getElem_toArray, List.getElem_cons_succ, List.getElem_cons_zero, List.setIfInBounds_toArray, List.set_cons_zero, List.set_cons_succ]
      refine wpAnyH_take (i := 19) (v := ?_) rfl (by as_aux_lemma => kernel_rfl) (by as_aux_lemma => kernel_rfl) (by as_aux_lemma => kernel_rfl) (fun _ _ _ h => h) (Or.inl ⟨by rfl, ?_⟩) (by assumption) ?_
      rotate_left
      · intro w hSw
        try dsimp only at hSw
        go_simp
        try with_reducible rfl
      try simp only [Act.put, List.getElem_toArray, List.getElem_cons_succ, List.getElem_cons_zero, List.setIfInBounds_toArray, List.set_cons_zero, List.set_cons_succ]
      refine wpAnyH_ready (rs := [20]) (by as_aux_lemma => kernel_rfl) (by simp) ?_
      refine AllReadyH.cons rfl (fun K hK => ?_) AllReadyH.nil
      go_simp
      refine (HC.out _).mono ?_
      rintro e w5 ⟨rfl, rfl⟩
      refine hK.out _ _ (KA _ (Below.trans hh0.2.2.2.2 (Below.mono (Below.refl _ _) (hh0.2.2.2.2).size))) (fun hh1 => ?_)
      clear hK K
      try simp only [Act.put, List.getElem_toArray, List.getElem_cons_succ, List.getElem_cons_zero, List.setIfInBounds_toArray, List.set_cons_zero, List.set_cons_succ]
      refine wpAnyH_take (i := 21) (v := ?_) rfl (by as_aux_lemma => kernel_rfl) (by as_aux_lemma => kernel_rfl) (by as_aux_lemma => kernel_rfl) (fun _ _ _ h => h) (Or.inl ⟨by rfl, ?_⟩) (by assumption) ?_
      rotate_left
      · intro w hSw
        try dsimp only at hSw
        go_simp
        try with_reducible rfl
      try simp only [Act.put, List.getElem_toArray, List.getElem_cons_succ, List.getElem_cons_zero, List.setIfInBounds_toArray, List.set_cons_zero, List.set_cons_succ]
      refine wpAnyH_done (by as_aux_lemma => kernel_rfl) ?_ _
      refine NoPanic.normal ?_
      have HBZ := Lib.hid (hh1.2.2.2.2)
      have L5 := Lib.hid (HL2.out.trans (HBZ.out.mono HL2.out.size))
      clear KA d0 d1 d2 y0 dl yl
      cases X
      · have hr := HAT.out rfl
        rw [HR.out] at hr
        have HRR := Lib.hid hr
        clear hr
        go_wp2_with fail
        go_ret
        first
          | exact ⟨rfl, B1.out.trans (L5.out.mono B1.out.size)⟩
          | exact ⟨congrArg (fun x => Ending.returned (.bool x)) HRR.out.symm, B1.out.trans (L5.out.mono B1.out.size)⟩
      · have HA2 := Lib.hid (HMO.out rfl)
        go_wp2_with fail
        go_roundg (gk - 1)
        case measure => omega
        case rel => exact ⟨k + 1, by omega, by go_num, HA2, L5⟩
    · obtain rfl : k = n' := by omega
      have kI : ¬ (k : Int) < (k : Int) := by omega
      have hr := HA.out
      rw [List.take_of_length_le (by rw [HL.out]; exact Nat.le_refl _), HR.out] at hr
      have HRR := Lib.hid hr
      have L5 := Lib.hid HL2.out
      clear hlt hk hr
      go_wp2_with fail
      go_ret
      first
        | exact ⟨rfl, B1.out.trans (L5.out.mono B1.out.size)⟩
        | exact ⟨congrArg (fun x => Ending.returned (.bool x)) HRR.out.symm, B1.out.trans (L5.out.mono B1.out.size)⟩
end Go.Proofs.Ythflbbjilebhlaa
namespace Go.Proofs.Ythflbbjilebhlaa
open Go Go.RowKit Go.Shelf Sc

set_option maxRecDepth 100000 in
theorem rin1_any (n lo hi : Int) (w : World) : Calls Try.prog 121 #[.int .i64 n, .int .i64 lo, .int .i64 hi] w fun e w' => e = .returned (.bool (inB lo hi n)) ∧ w = w' := by
  obtain ⟨R, hR⟩ : ∃ R, inB lo hi n = R := ⟨_, rfl⟩
  rw [hR]
  unfold inB at hR
  have HR := Lib.hid hR
  clear hR
  go_enter Try.func121, Try.ntmps121
  by_cases h1 : lo ≤ n
  · by_cases h2 : n ≤ hi
    · go_wp2_with fail
      go_ret
      exact ⟨by rw [← HR.out]; simp [h1, h2], rfl⟩
    · have h3 : hi < n := by omega
      go_wp2_with fail
      go_ret
      exact ⟨by rw [← HR.out]; simp [h1, h2], rfl⟩
  · have h3 : n < lo := by omega
    go_wp2_with fail
    go_ret
    exact ⟨by rw [← HR.out]; simp [show ¬ lo ≤ n by omega], rfl⟩
/-- The error of a span. -/
def spanE (lo hi a b : Int) : Int := if inB lo hi a = false ∨ inB lo hi b = false then 7 else if b < a then 2 else 0
set_option maxRecDepth 100000 in
set_option maxHeartbeats 4000000 in
theorem rSpread1_any (lo hi a b : Int) (g : Nat) (w : World) (hg : w.heap[g]? = some (.cells #[.int .i64 a, .int .i64 b] 51 (0, 0))) :
    Calls Try.prog 119 #[.slice (some ⟨g, 0, none⟩) 1 1, .int .i64 lo, .int .i64 hi] w fun e w' => e = .returned (.int .i64 (spanE lo hi a b)) ∧ Below w.heap.size w w' := by
  obtain ⟨R, hR⟩ : ∃ R, spanE lo hi a b = R := ⟨_, rfl⟩
  rw [hR]
  unfold spanE at hR
  obtain ⟨x1, hx1⟩ : ∃ x, inB lo hi a = x := ⟨_, rfl⟩
  obtain ⟨x2, hx2⟩ : ∃ x, inB lo hi b = x := ⟨_, rfl⟩
  rw [hx1, hx2] at hR
  have H1 : Hid (∀ V, Calls Try.prog 121 #[.int .i64 a, .int .i64 lo, .int .i64 hi] V fun e w' => e = .returned (.bool x1) ∧ V = w') := fun V => by have h := rin1_any a lo hi V; rw [hx1] at h; exact h
  have H2 : Hid (∀ V, Calls Try.prog 121 #[.int .i64 b, .int .i64 lo, .int .i64 hi] V fun e w' => e = .returned (.bool x2) ∧ V = w') := fun V => by have h := rin1_any b lo hi V; rw [hx2] at h; exact h
  have HR := Lib.hid hR
  have c0 := cellOf hg 0 (.int .i64 a) rfl
  have c1 := cellOf hg 1 (.int .i64 b) rfl
  have cl := lt_of_block hg
  clear hR hx1 hx2 hg
  go_enter Try.func119, Try.ntmps119
  go_wp2
  go_loopg [7, 8] 1 (fun gh v7 i wr => ∃ (k : Nat), gh + k = 1 ∧ i = .int .i64 (k : Int) ∧ (k = 0 → v7 = .int .i64 0 ∧ w = wr) ∧ (k = 1 → v7 = .int .i64 R ∧ Below w.heap.size w wr))
  case atStart => exact ⟨0, by omega, rfl, fun _ => ⟨rfl, rfl⟩, fun h => by cases h⟩
  case round =>
    obtain ⟨k, hk, rfl, h0, h1⟩ := hrel
    by_cases hlt : k = 0
    · subst hlt
      obtain ⟨rfl, rfl⟩ := h0 rfl
      clear h0 h1
      go_wp2_with fail
      refine (H1.out _).mono ?_
      rintro e w1 ⟨rfl, rfl⟩
      cases x1
      · have hr := HR.out
        rw [if_pos (.inl rfl)] at hr
        subst hr
        go_wp2_with fail
        go_ret
        exact ⟨rfl, Below.refl _ _⟩
      · go_wp2_with fail
        refine (H2.out _).mono ?_
        rintro e w1 ⟨rfl, rfl⟩
        cases x2
        · have hr := HR.out
          rw [if_pos (.inr rfl)] at hr
          subst hr
          go_wp2_with fail
          go_ret
          exact ⟨rfl, Below.refl _ _⟩
        · have hr := HR.out
          rw [if_neg (by simp)] at hr
          go_upto_region 7 with fail
          go_quiet (fail)
          have hb5 : Below w.heap.size w (w.drewN nq) := below_dn (Below.refl _ _) _
          generalize w.drewN nq = w5 at *
          by_cases hba : b < a
          · rw [if_pos hba] at hr
            subst hr
            clear c0 c1 cl
            go_wp2_with fail
            go_roundg 0
            case measure => omega
            case rel => exact ⟨1, by omega, by go_num, fun h => (by cases h), fun _ => ⟨rfl, hb5⟩⟩
          · rw [if_neg hba] at hr
            subst hr
            clear c0 c1 cl
            go_wp2_with fail
            go_roundg 0
            case measure => omega
            case rel => exact ⟨1, by omega, by go_num, fun h => (by cases h), fun _ => ⟨rfl, hb5⟩⟩
    · obtain rfl : k = 1 := by omega
      obtain ⟨rfl, hb⟩ := h1 rfl
      clear h0 h1
      go_wp2_with fail
      go_ret
      exact ⟨rfl, hb⟩
set_option maxRecDepth 100000 in
set_option maxHeartbeats 4000000 in
theorem rRange_any (lo hi a b : Int) (w : World) : Calls Try.prog 105 #[.agg #[.int .i64 a, .int .i64 b], .int .i64 lo, .int .i64 hi] w fun e w' => e = .returned (.int .i64 (spanE lo hi a b)) ∧ Below w.heap.size w w' := by
  obtain ⟨W, hW, z1, z2, hb, hsz⟩ := al2 w (Obj.cells #[.int .i64 a, .int .i64 b] 51) (Obj.cells #[.int .i64 a, .int .i64 b] 51)
  have h1 := rSpread1_any lo hi a b (w.heap.size + 1) W z2
  generalize spanE lo hi a b = R at *
  have H1 := Lib.hid h1
  have HW := Lib.hid hW
  have HB := Lib.hid hb
  clear h1 hW z1 z2 hb hsz
  go_enter Try.func105, Try.ntmps105
  go_wp2_with (rw [HW.out])
  refine H1.out.mono ?_
  rintro e w2 ⟨rfl, hb⟩
  have HB2 := Lib.hid (HB.out.trans (hb.mono HB.out.size))
  clear hb
  go_wp2_with fail
  go_ret
  exact ⟨rfl, HB2.out⟩
end Go.Proofs.Ythflbbjilebhlaa
namespace Go.Proofs.Ythflbbjilebhlaa
open Go Go.RowKit Go.Shelf Sc

def marksE (c : Cse) (l : List Mrk) : Int := if errC c ≠ 0 then errC c else mksE c.hs.length l
theorem mrkE_span (n : Nat) (m : Mrk) : mrkE n m = if inB 0 ((n : Int) - 1) m.pt = false then 4 else spanE 0 100000 m.lo m.hi := rfl
set_option maxRecDepth 100000 in
set_option maxHeartbeats 8000000 in
theorem rMarks_any (c : Cse) (hv rv mv : Value) (l : List Mrk) (w : World) (hC : CseAt w c hv rv) (hM : MrksAt w mv l) :
    Calls Try.prog 78 #[.agg #[.int .i64 c.kind, .int .i64 c.base, .int .i64 c.most, hv, rv], mv] w fun e w' => e = .returned (.int .i64 (marksE c l)) ∧ Below w.heap.size w w' := by
  obtain ⟨ha, n, hc, rfl⟩ : ∃ a n c, hv = .slice a n c := by obtain ⟨_, a, cap, h, _⟩ := hC.hs; exact ⟨_, _, _, h⟩
  obtain ⟨ra, m, rc, rfl⟩ : ∃ a n c, rv = .slice a n c := by obtain ⟨_, a, cap, h, _⟩ := hC.rd; exact ⟨_, _, _, h⟩
  obtain rfl : n = c.hs.length := by obtain ⟨_, a, cap, h, _⟩ := hC.hs; simp only [Value.slice.injEq] at h; exact h.2.1
  obtain ⟨n, hn⟩ : ∃ n, c.hs.length = n := ⟨_, rfl⟩
  obtain ⟨lm, ma, mc, rfl, lmc, _⟩ := id hM
  obtain ⟨n', hl⟩ : ∃ n', l.length = n' := ⟨_, rfl⟩
  rw [hl] at lm lmc hM ⊢
  rw [hn] at hC ⊢
  obtain ⟨kind, hkind⟩ : ∃ x, c.kind = x := ⟨_, rfl⟩
  obtain ⟨base, hbase⟩ : ∃ x, c.base = x := ⟨_, rfl⟩
  obtain ⟨most, hmost⟩ : ∃ x, c.most = x := ⟨_, rfl⟩
  obtain ⟨W, hW, z, hb⟩ : ∃ W, w.alloc (Obj.cells #[.int .i64 kind, .int .i64 base, .int .i64 most, .slice ha n hc, .slice ra m rc] 25) = W ∧ W.heap[w.heap.size]? = some (.cells #[.int .i64 kind, .int .i64 base, .int .i64 most, .slice ha n hc, .slice ra m rc] 25 (0, 0)) ∧ Below w.heap.size w W := ⟨_, rfl, heap_alloc_new _ _, by go_grown⟩
  have h1 := rCheck_any c _ _ W (hC.below hb)
  obtain ⟨er, her⟩ : ∃ er, errC c = er := ⟨_, rfl⟩
  have e3 : (checkC c).2.2 = er := her
  rw [hkind, hbase, hmost, e3] at h1
  obtain ⟨p1, hp1⟩ : ∃ x, (checkC c).1 = x := ⟨_, rfl⟩
  obtain ⟨p2, hp2⟩ : ∃ x, (checkC c).2.1 = x := ⟨_, rfl⟩
  rw [hp1, hp2] at h1
  obtain ⟨R, hR⟩ : ∃ R, marksE c l = R := ⟨_, rfl⟩
  rw [hR, hkind, hbase, hmost]
  unfold marksE mksE at hR
  rw [her, hn, hl] at hR
  have HR := Lib.hid hR
  have H1 := Lib.hid h1
  have HER := Lib.hid her
  have HN := Lib.hid hn
  have HL := Lib.hid hl
  have HW := Lib.hid hW
  have HB := Lib.hid hb
  have HZ := Lib.hid z
  have HMK := Lib.hid (hM.below hb)
  have nI : (n' : Int) ≤ 4611686018427387904 := by omega
  have c0 := cellOf z 0 (.int .i64 kind) rfl
  have c1 := cellOf z 1 (.int .i64 base) rfl
  have c2 := cellOf z 2 (.int .i64 most) rfl
  have c3 := cellOf z 3 (.slice ha n hc) rfl
  have c4 := cellOf z 4 (.slice ra m rc) rfl
  have cl := lt_of_block z
  clear h1 her e3 hp1 hp2 hR hn hl hW hb z hM hC hkind hbase hmost
  go_enter Try.func78, Try.ntmps78
  go_upto_region 1 with fail
  rw [HW.out]
  go_wp2_with fail
  refine H1.out.mono ?_
  rintro e w1 ⟨rfl, hb⟩
  have B1 := Lib.hid (HB.out.trans (hb.mono HB.out.size))
  have K1 := Lib.hid ((hb.block _ (lt_of_block HZ.out)).trans HZ.out)
  have MK := Lib.hid (HMK.out.below hb)
  clear hb c0 c1 c2 c3 c4 cl H1 HW HB HZ HMK
  by_cases h0 : er = 0
  · subst h0
    have hr := HR.out
    rw [if_neg (by simp)] at hr
    have n8 : n ≤ 8 := by rw [← HN.out]; exact (valid_of HER.out).n8
    have wn : IntKind.i64.wrap ((n : Int) - 1) = (n : Int) - 1 := by rw [IntKind.wrap_i64] <;> omega
    by_cases h8 : 8 < n'
    · have h8I : (8 : Int) < (n' : Int) := by omega
      rw [if_pos h8] at hr
      have hst : Hid (R = if (3 : Int) = 0 then mksGo n (l.drop 0) else 3) := by show _ = _; rw [← hr]; rfl
      clear hr HR
      go_wp2
      go_loopg [7, 8] n' (fun gh v7 i wr => ∃ (k : Nat) (e : Int), gh + k = n' ∧ i = .int .i64 (k : Int) ∧ v7 = .int .i64 e ∧ Hid (R = if e = 0 then mksGo n (l.drop k) else e) ∧ Hid (Below w1.heap.size w1 wr))
      case atStart => exact ⟨0, 3, by omega, rfl, rfl, hst, Below.refl _ _⟩
      case round =>
        obtain ⟨k, e, hk, rfl, rfl, HE, HL2⟩ := hrel
        by_cases hlt : k < n'
        · have kI : (k : Int) < (n' : Int) := by omega
          have kz : (0 : Int) ≤ (k : Int) := by omega
          by_cases he : e = 0
          · subst he
            have hk' : k < l.length := by rw [HL.out]; exact hlt
            obtain ⟨b, o, rfl, d0, d1, d2⟩ := (MK.out.below HL2.out).get hk'
            have hd := mksGo_drop n l k hk'
            have he2 := HE.out
            rw [if_pos rfl, hd, mrkE_span] at he2
            obtain ⟨⟨pt, lo, hi⟩, hx⟩ : ∃ x, l[k] = x := ⟨_, rfl⟩
            rw [hx] at d0 d1 d2 he2
            simp only at d0 d1 d2 he2
            obtain ⟨X, hX⟩ : ∃ X, inB 0 ((n : Int) - 1) pt = X := ⟨_, rfl⟩
            rw [hX] at he2
            have HCI : Hid (∀ V, Calls Try.prog 55 #[.int .i64 pt, .int .i64 0, .int .i64 ((n : Int) - 1)] V fun e w' => e = .returned (.bool X) ∧ V = w') := fun V => by have h := rin_any pt 0 ((n : Int) - 1) V; rw [hX] at h; exact h
            have HE2 := Lib.hid he2
            have D1 := Lib.hid d1
            have D2 := Lib.hid d2
            have c3 := cellOf ((HL2.out.block _ (lt_of_block K1.out)).trans K1.out) 3 (.slice ha n hc) rfl
            have cl := lt_of_block ((HL2.out.block _ (lt_of_block K1.out)).trans K1.out)
            have dl := World.block_lt_of_cell? wr ⟨b, o + k * 3, none⟩ d0
            clear hk' hd he2 hx hX d1 d2 HE
            go_wp2_with fail
            have KA : ∀ W' : World, Below wr.heap.size wr W' → (W'.cell? ⟨b, o + k * 3, none⟩ = some (.int .i64 pt) ∧ W'.cell? ⟨w.heap.size, 3, none⟩ = some (.slice ha n hc) ∧ Below wr.heap.size wr W') := fun W' hb => ⟨keepK d0 hb, keepK c3 hb, hb⟩
            refine wp_region_noPanic ?_
            refine wp_region_held_drew (S := (fun W' => W'.cell? ⟨b, o + k * 3, none⟩ = some (.int .i64 pt) ∧ W'.cell? ⟨w.heap.size, 3, none⟩ = some (.slice ha n hc) ∧ Below wr.heap.size wr W')) (by kernel_rfl) ?_ (fun hh0 => ?_)
            · exact KA _ (Below.refl _ _).drew
            refine wpAnyH_take (i := 0) (v := ?_) rfl (by as_aux_lemma => kernel_rfl) (by as_aux_lemma => kernel_rfl) (by as_aux_lemma => kernel_rfl) (fun _ _ _ h => h) (Or.inl ⟨by rfl, ?_⟩) (by assumption) ?_
            rotate_left
            · intro w hSw
              try dsimp only at hSw
              go_simp
              try with_reducible rfl
            try simp only [Act.put, List.getElem_toArray, List.getElem_cons_succ, List.getElem_cons_zero, List.setIfInBounds_toArray, List.set_cons_zero, List.set_cons_succ]
            refine wpAnyH_take (i := 1) (v := ?_) rfl (by as_aux_lemma => kernel_rfl) (by as_aux_lemma => kernel_rfl) (by as_aux_lemma => kernel_rfl) (fun _ _ _ h => h) (Or.inl ⟨by rfl, ?_⟩) (by assumption) ?_
            rotate_left
            · intro w hSw
              try dsimp only at hSw
              go_simp
              try with_reducible rfl
            try simp only [Act.put, List.getElem_toArray, List.getElem_cons_succ, List.getElem_cons_zero, List.setIfInBounds_toArray, List.set_cons_zero, List.set_cons_succ]
            refine wpAnyH_take (i := 2) (v := ?_) rfl (by as_aux_lemma => kernel_rfl) (by as_aux_lemma => kernel_rfl) (by as_aux_lemma => kernel_rfl) (fun _ _ _ h => h) (Or.inl ⟨by rfl, ?_⟩) (by assumption) ?_
            rotate_left
            · intro w hSw
              try dsimp only at hSw
              go_simp
              try with_reducible rfl
            try simp only [Act.put, List.getElem_toArray, List.getElem_cons_succ, List.getElem_cons_zero, List.setIfInBounds_toArray, List.set_cons_zero, List.set_cons_succ]
            refine wpAnyH_take (i := 3) (v := ?_) rfl (by as_aux_lemma => kernel_rfl) (by as_aux_lemma => kernel_rfl) (by as_aux_lemma => kernel_rfl) (fun _ _ _ h => h) (Or.inl ⟨by rfl, ?_⟩) (by assumption) ?_
            rotate_left
            · intro w hSw
              try dsimp only at hSw
              go_simp
              try with_reducible rfl
            try simp only [Act.put, List.getElem_toArray, List.getElem_cons_succ, List.getElem_cons_zero, List.setIfInBounds_toArray, List.set_cons_zero, List.set_cons_succ]
            refine wpAnyH_take (i := 4) (v := ?_) rfl (by as_aux_lemma => kernel_rfl) (by as_aux_lemma => kernel_rfl) (by as_aux_lemma => kernel_rfl) (fun _ _ _ h => h) (Or.inl ⟨by rfl, ?_⟩) (by assumption) ?_
            rotate_left
            · intro w hSw
              try dsimp only at hSw
              go_simp
              try with_reducible rfl
            try simp only [Act.put, List.getElem_toArray, List.getElem_cons_succ, List.getElem_cons_zero, List.setIfInBounds_toArray, List.set_cons_zero, List.set_cons_succ]
            refine wpAnyH_take (i := 5) (v := ?_) rfl (by as_aux_lemma => kernel_rfl) (by as_aux_lemma => kernel_rfl) (by as_aux_lemma => kernel_rfl) (fun _ _ _ h => h) (Or.inl ⟨by rfl, ?_⟩) (by assumption) ?_
            rotate_left
            · intro w hSw
              try dsimp only at hSw
              go_simp
              try with_reducible rfl
            try simp only [Act.put, List.getElem_toArray, List.getElem_cons_succ, List.getElem_cons_zero, List.setIfInBounds_toArray, List.set_cons_zero, List.set_cons_succ]
            refine wpAnyH_take (i := 6) (v := ?_) rfl (by as_aux_lemma => kernel_rfl) (by as_aux_lemma => kernel_rfl) (by as_aux_lemma => kernel_rfl) (fun _ _ _ h => h) (Or.inl ⟨by rfl, ?_⟩) (by assumption) ?_
            rotate_left
            · intro w hSw
              try dsimp only at hSw
              go_simp
              try with_reducible rfl
            try simp only [Act.put, List.getElem_toArray, List.getElem_cons_succ, List.getElem_cons_zero, List.setIfInBounds_toArray, List.set_cons_zero, List.set_cons_succ]
            refine wpAnyH_take (i := 7) (v := ?_) rfl (by as_aux_lemma => kernel_rfl) (by as_aux_lemma => kernel_rfl) (by as_aux_lemma => kernel_rfl) (fun _ _ _ h => h) (Or.inl ⟨by rfl, ?_⟩) (by assumption) ?_
            rotate_left
            · intro w hSw
              try dsimp only at hSw
              go_simp
              try with_reducible rfl
            try simp only [Act.put, List.getElem_toArray, List.getElem_cons_succ, List.getElem_cons_zero, List.setIfInBounds_toArray, List.set_cons_zero, List.set_cons_succ]
            refine wpAnyH_take (i := 8) (v := ?_) rfl (by as_aux_lemma => kernel_rfl) (by as_aux_lemma => kernel_rfl) (by as_aux_lemma => kernel_rfl) (fun _ _ _ h => h) (Or.inl ⟨by rfl, ?_⟩) (by assumption) ?_
            rotate_left
            · intro w hSw
              try dsimp only at hSw
              go_simp
              try with_reducible rfl
            try simp only [Act.put, List.getElem_toArray, List.getElem_cons_succ, List.getElem_cons_zero, List.setIfInBounds_toArray, List.set_cons_zero, List.set_cons_succ]
            refine wpAnyH_ready (rs := [9]) (by as_aux_lemma => kernel_rfl) (by simp) ?_
            refine AllReadyH.cons rfl (fun K hK => ?_) AllReadyH.nil
            go_simp
            refine (HCI.out _).mono ?_
            rintro e w5 ⟨rfl, rfl⟩
            refine hK.out _ _ (KA _ (Below.trans hh0.2.2 (Below.mono (Below.refl _ _) (hh0.2.2).size))) (fun hh1 => ?_)
            clear hK K
            try simp only [Act.put, List.getElem_toArray, List.getElem_cons_succ, List.getElem_cons_zero, List.setIfInBounds_toArray, List.set_cons_zero, List.set_cons_succ]
            refine wpAnyH_take (i := 10) (v := ?_) rfl (by as_aux_lemma => kernel_rfl) (by as_aux_lemma => kernel_rfl) (by as_aux_lemma => kernel_rfl) (fun _ _ _ h => h) (Or.inl ⟨by rfl, ?_⟩) (by assumption) ?_
            rotate_left
            · intro w hSw
              try dsimp only at hSw
              go_simp
              try with_reducible rfl
            try simp only [Act.put, List.getElem_toArray, List.getElem_cons_succ, List.getElem_cons_zero, List.setIfInBounds_toArray, List.set_cons_zero, List.set_cons_succ]
            refine wpAnyH_done (by as_aux_lemma => kernel_rfl) ?_ _
            refine NoPanic.normal ?_
            have HBZ := Lib.hid (hh1.2.2)
            have L5 := Lib.hid (HL2.out.trans (HBZ.out.mono HL2.out.size))
            have d1 := keepK D1.out HBZ.out
            have d2 := keepK D2.out HBZ.out
            clear KA d0 c3 cl dl
            cases X
            · have hr2 := HE2.out
              simp only [if_true] at hr2
              have h4 : R = 4 := by rw [hr2]; exact if_neg (by decide)
              subst h4
              clear hr2 d1 d2
              go_wp2_with fail
              go_ret
              exact ⟨rfl, B1.out.trans (L5.out.mono B1.out.size)⟩
            · have hr2 := HE2.out
              rw [if_neg (by simp : ¬ (true = false))] at hr2
              have HRG : Hid (∀ V, Calls Try.prog 105 #[.agg #[.int .i64 lo, .int .i64 hi], .int .i64 0, .int .i64 100000] V fun e w' => e = .returned (.int .i64 (spanE 0 100000 lo hi)) ∧ Below V.heap.size V w') := fun V => rRange_any 0 100000 lo hi V
              generalize spanE 0 100000 lo hi = sp at *
              have HS : Hid (R = if sp = 0 then mksGo n (l.drop (k + 1)) else sp) := hr2
              clear hr2
              have dl := World.block_lt_of_cell? _ _ d1
              go_wp2_with fail
              refine (HRG.out _).mono ?_
              rintro e w6 ⟨rfl, hb6⟩
              have L6 := Lib.hid (L5.out.trans (hb6.mono L5.out.size))
              clear hb6 d1 d2 dl
              go_wp2_with fail
              go_roundg (gk - 1)
              case measure => omega
              case rel => exact ⟨k + 1, sp, by omega, by go_num, rfl, HS, L6⟩
          · have hr2 := HE.out
            rw [if_neg he] at hr2
            subst hr2
            have tz : (R == 0) = false := by simp [he]
            have L5 := Lib.hid HL2.out
            clear HE
            go_wp2_with fail
            go_ret
            exact ⟨rfl, B1.out.trans (L5.out.mono B1.out.size)⟩
        · obtain rfl : k = n' := by omega
          have kI : ¬ (k : Int) < (k : Int) := by omega
          have hr2 : R = e := by
            have h := HE.out
            rw [List.drop_of_length_le (by rw [HL.out]; exact Nat.le_refl _)] at h
            by_cases q : e = 0
            · rw [if_pos q] at h; rw [q]; exact h
            · rw [if_neg q] at h; exact h
          subst hr2
          have L5 := Lib.hid HL2.out
          clear hlt hk HE
          go_wp2_with fail
          go_ret
          exact ⟨rfl, B1.out.trans (L5.out.mono B1.out.size)⟩
    · have h8I : (n' : Int) ≤ 8 := by omega
      rw [if_neg h8] at hr
      have hst : Hid (R = if (0 : Int) = 0 then mksGo n (l.drop 0) else 0) := by show _ = _; rw [← hr]; rfl
      clear hr HR
      go_wp2
      go_loopg [7, 8] n' (fun gh v7 i wr => ∃ (k : Nat) (e : Int), gh + k = n' ∧ i = .int .i64 (k : Int) ∧ v7 = .int .i64 e ∧ Hid (R = if e = 0 then mksGo n (l.drop k) else e) ∧ Hid (Below w1.heap.size w1 wr))
      case atStart => exact ⟨0, 0, by omega, rfl, rfl, hst, Below.refl _ _⟩
      case round =>
        obtain ⟨k, e, hk, rfl, rfl, HE, HL2⟩ := hrel
        by_cases hlt : k < n'
        · have kI : (k : Int) < (n' : Int) := by omega
          have kz : (0 : Int) ≤ (k : Int) := by omega
          by_cases he : e = 0
          · subst he
            have hk' : k < l.length := by rw [HL.out]; exact hlt
            obtain ⟨b, o, rfl, d0, d1, d2⟩ := (MK.out.below HL2.out).get hk'
            have hd := mksGo_drop n l k hk'
            have he2 := HE.out
            rw [if_pos rfl, hd, mrkE_span] at he2
            obtain ⟨⟨pt, lo, hi⟩, hx⟩ : ∃ x, l[k] = x := ⟨_, rfl⟩
            rw [hx] at d0 d1 d2 he2
            simp only at d0 d1 d2 he2
            obtain ⟨X, hX⟩ : ∃ X, inB 0 ((n : Int) - 1) pt = X := ⟨_, rfl⟩
            rw [hX] at he2
            have HCI : Hid (∀ V, Calls Try.prog 55 #[.int .i64 pt, .int .i64 0, .int .i64 ((n : Int) - 1)] V fun e w' => e = .returned (.bool X) ∧ V = w') := fun V => by have h := rin_any pt 0 ((n : Int) - 1) V; rw [hX] at h; exact h
            have HE2 := Lib.hid he2
            have D1 := Lib.hid d1
            have D2 := Lib.hid d2
            have c3 := cellOf ((HL2.out.block _ (lt_of_block K1.out)).trans K1.out) 3 (.slice ha n hc) rfl
            have cl := lt_of_block ((HL2.out.block _ (lt_of_block K1.out)).trans K1.out)
            have dl := World.block_lt_of_cell? wr ⟨b, o + k * 3, none⟩ d0
            clear hk' hd he2 hx hX d1 d2 HE
            go_wp2_with fail
            have KA : ∀ W' : World, Below wr.heap.size wr W' → (W'.cell? ⟨b, o + k * 3, none⟩ = some (.int .i64 pt) ∧ W'.cell? ⟨w.heap.size, 3, none⟩ = some (.slice ha n hc) ∧ Below wr.heap.size wr W') := fun W' hb => ⟨keepK d0 hb, keepK c3 hb, hb⟩
            refine wp_region_noPanic ?_
            refine wp_region_held_drew (S := (fun W' => W'.cell? ⟨b, o + k * 3, none⟩ = some (.int .i64 pt) ∧ W'.cell? ⟨w.heap.size, 3, none⟩ = some (.slice ha n hc) ∧ Below wr.heap.size wr W')) (by kernel_rfl) ?_ (fun hh0 => ?_)
            · exact KA _ (Below.refl _ _).drew
            refine wpAnyH_take (i := 0) (v := ?_) rfl (by as_aux_lemma => kernel_rfl) (by as_aux_lemma => kernel_rfl) (by as_aux_lemma => kernel_rfl) (fun _ _ _ h => h) (Or.inl ⟨by rfl, ?_⟩) (by assumption) ?_
            rotate_left
            · intro w hSw
              try dsimp only at hSw
              go_simp
              try with_reducible rfl
            try simp only [Act.put, List.getElem_toArray, List.getElem_cons_succ, List.getElem_cons_zero, List.setIfInBounds_toArray, List.set_cons_zero, List.set_cons_succ]
            refine wpAnyH_take (i := 1) (v := ?_) rfl (by as_aux_lemma => kernel_rfl) (by as_aux_lemma => kernel_rfl) (by as_aux_lemma => kernel_rfl) (fun _ _ _ h => h) (Or.inl ⟨by rfl, ?_⟩) (by assumption) ?_
            rotate_left
            · intro w hSw
              try dsimp only at hSw
              go_simp
              try with_reducible rfl
            try simp only [Act.put, List.getElem_toArray, List.getElem_cons_succ, List.getElem_cons_zero, List.setIfInBounds_toArray, List.set_cons_zero, List.set_cons_succ]
            refine wpAnyH_take (i := 2) (v := ?_) rfl (by as_aux_lemma => kernel_rfl) (by as_aux_lemma => kernel_rfl) (by as_aux_lemma => kernel_rfl) (fun _ _ _ h => h) (Or.inl ⟨by rfl, ?_⟩) (by assumption) ?_
            rotate_left
            · intro w hSw
              try dsimp only at hSw
              go_simp
              try with_reducible rfl
            try simp only [Act.put, List.getElem_toArray, List.getElem_cons_succ, List.getElem_cons_zero, List.setIfInBounds_toArray, List.set_cons_zero, List.set_cons_succ]
            refine wpAnyH_take (i := 3) (v := ?_) rfl (by as_aux_lemma => kernel_rfl) (by as_aux_lemma => kernel_rfl) (by as_aux_lemma => kernel_rfl) (fun _ _ _ h => h) (Or.inl ⟨by rfl, ?_⟩) (by assumption) ?_
            rotate_left
            · intro w hSw
              try dsimp only at hSw
              go_simp
              try with_reducible rfl
            try simp only [Act.put, List.getElem_toArray, List.getElem_cons_succ, List.getElem_cons_zero, List.setIfInBounds_toArray, List.set_cons_zero, List.set_cons_succ]
            refine wpAnyH_take (i := 4) (v := ?_) rfl (by as_aux_lemma => kernel_rfl) (by as_aux_lemma => kernel_rfl) (by as_aux_lemma => kernel_rfl) (fun _ _ _ h => h) (Or.inl ⟨by rfl, ?_⟩) (by assumption) ?_
            rotate_left
            · intro w hSw
              try dsimp only at hSw
              go_simp
              try with_reducible rfl
            try simp only [Act.put, List.getElem_toArray, List.getElem_cons_succ, List.getElem_cons_zero, List.setIfInBounds_toArray, List.set_cons_zero, List.set_cons_succ]
            refine wpAnyH_take (i := 5) (v := ?_) rfl (by as_aux_lemma => kernel_rfl) (by as_aux_lemma => kernel_rfl) (by as_aux_lemma => kernel_rfl) (fun _ _ _ h => h) (Or.inl ⟨by rfl, ?_⟩) (by assumption) ?_
            rotate_left
            · intro w hSw
              try dsimp only at hSw
              go_simp
              try with_reducible rfl
            try simp only [Act.put, List.getElem_toArray, List.getElem_cons_succ, List.getElem_cons_zero, List.setIfInBounds_toArray, List.set_cons_zero, List.set_cons_succ]
            refine wpAnyH_take (i := 6) (v := ?_) rfl (by as_aux_lemma => kernel_rfl) (by as_aux_lemma => kernel_rfl) (by as_aux_lemma => kernel_rfl) (fun _ _ _ h => h) (Or.inl ⟨by rfl, ?_⟩) (by assumption) ?_
            rotate_left
            · intro w hSw
              try dsimp only at hSw
              go_simp
              try with_reducible rfl
            try simp only [Act.put, List.getElem_toArray, List.getElem_cons_succ, List.getElem_cons_zero, List.setIfInBounds_toArray, List.set_cons_zero, List.set_cons_succ]
            refine wpAnyH_take (i := 7) (v := ?_) rfl (by as_aux_lemma => kernel_rfl) (by as_aux_lemma => kernel_rfl) (by as_aux_lemma => kernel_rfl) (fun _ _ _ h => h) (Or.inl ⟨by rfl, ?_⟩) (by assumption) ?_
            rotate_left
            · intro w hSw
              try dsimp only at hSw
              go_simp
              try with_reducible rfl
            try simp only [Act.put, List.getElem_toArray, List.getElem_cons_succ, List.getElem_cons_zero, List.setIfInBounds_toArray, List.set_cons_zero, List.set_cons_succ]
            refine wpAnyH_take (i := 8) (v := ?_) rfl (by as_aux_lemma => kernel_rfl) (by as_aux_lemma => kernel_rfl) (by as_aux_lemma => kernel_rfl) (fun _ _ _ h => h) (Or.inl ⟨by rfl, ?_⟩) (by assumption) ?_
            rotate_left
            · intro w hSw
              try dsimp only at hSw
              go_simp
              try with_reducible rfl
            try simp only [Act.put, List.getElem_toArray, List.getElem_cons_succ, List.getElem_cons_zero, List.setIfInBounds_toArray, List.set_cons_zero, List.set_cons_succ]
            refine wpAnyH_ready (rs := [9]) (by as_aux_lemma => kernel_rfl) (by simp) ?_
            refine AllReadyH.cons rfl (fun K hK => ?_) AllReadyH.nil
            go_simp
            refine (HCI.out _).mono ?_
            rintro e w5 ⟨rfl, rfl⟩
            refine hK.out _ _ (KA _ (Below.trans hh0.2.2 (Below.mono (Below.refl _ _) (hh0.2.2).size))) (fun hh1 => ?_)
            clear hK K
            try simp only [Act.put, List.getElem_toArray, List.getElem_cons_succ, List.getElem_cons_zero, List.setIfInBounds_toArray, List.set_cons_zero, List.set_cons_succ]
            refine wpAnyH_take (i := 10) (v := ?_) rfl (by as_aux_lemma => kernel_rfl) (by as_aux_lemma => kernel_rfl) (by as_aux_lemma => kernel_rfl) (fun _ _ _ h => h) (Or.inl ⟨by rfl, ?_⟩) (by assumption) ?_
            rotate_left
            · intro w hSw
              try dsimp only at hSw
              go_simp
              try with_reducible rfl
            try simp only [Act.put, List.getElem_toArray, List.getElem_cons_succ, List.getElem_cons_zero, List.setIfInBounds_toArray, List.set_cons_zero, List.set_cons_succ]
            refine wpAnyH_done (by as_aux_lemma => kernel_rfl) ?_ _
            refine NoPanic.normal ?_
            have HBZ := Lib.hid (hh1.2.2)
            have L5 := Lib.hid (HL2.out.trans (HBZ.out.mono HL2.out.size))
            have d1 := keepK D1.out HBZ.out
            have d2 := keepK D2.out HBZ.out
            clear KA d0 c3 cl dl
            cases X
            · have hr2 := HE2.out
              simp only [if_true] at hr2
              have h4 : R = 4 := by rw [hr2]; exact if_neg (by decide)
              subst h4
              clear hr2 d1 d2
              go_wp2_with fail
              go_ret
              exact ⟨rfl, B1.out.trans (L5.out.mono B1.out.size)⟩
            · have hr2 := HE2.out
              rw [if_neg (by simp : ¬ (true = false))] at hr2
              have HRG : Hid (∀ V, Calls Try.prog 105 #[.agg #[.int .i64 lo, .int .i64 hi], .int .i64 0, .int .i64 100000] V fun e w' => e = .returned (.int .i64 (spanE 0 100000 lo hi)) ∧ Below V.heap.size V w') := fun V => rRange_any 0 100000 lo hi V
              generalize spanE 0 100000 lo hi = sp at *
              have HS : Hid (R = if sp = 0 then mksGo n (l.drop (k + 1)) else sp) := hr2
              clear hr2
              have dl := World.block_lt_of_cell? _ _ d1
              go_wp2_with fail
              refine (HRG.out _).mono ?_
              rintro e w6 ⟨rfl, hb6⟩
              have L6 := Lib.hid (L5.out.trans (hb6.mono L5.out.size))
              clear hb6 d1 d2 dl
              go_wp2_with fail
              go_roundg (gk - 1)
              case measure => omega
              case rel => exact ⟨k + 1, sp, by omega, by go_num, rfl, HS, L6⟩
          · have hr2 := HE.out
            rw [if_neg he] at hr2
            subst hr2
            have tz : (R == 0) = false := by simp [he]
            have L5 := Lib.hid HL2.out
            clear HE
            go_wp2_with fail
            go_ret
            exact ⟨rfl, B1.out.trans (L5.out.mono B1.out.size)⟩
        · obtain rfl : k = n' := by omega
          have kI : ¬ (k : Int) < (k : Int) := by omega
          have hr2 : R = e := by
            have h := HE.out
            rw [List.drop_of_length_le (by rw [HL.out]; exact Nat.le_refl _)] at h
            by_cases q : e = 0
            · rw [if_pos q] at h; rw [q]; exact h
            · rw [if_neg q] at h; exact h
          subst hr2
          have L5 := Lib.hid HL2.out
          clear hlt hk HE
          go_wp2_with fail
          go_ret
          exact ⟨rfl, B1.out.trans (L5.out.mono B1.out.size)⟩
  · have hr := HR.out
    rw [if_pos h0] at hr
    subst hr
    have tq : (er == 0) = false := by simp [h0]
    clear HR
    go_wp2
    go_loopg [7, 8] 0 (fun gh v7 i wr => i = .int .i64 0 ∧ v7 = .int .i64 er ∧ w1 = wr)
    case atStart => exact ⟨rfl, rfl, rfl⟩
    case round =>
      obtain ⟨rfl, rfl, rfl⟩ := hrel
      by_cases hp : (0 : Int) < (n' : Int)
      · go_wp2_with fail
        go_ret
        exact ⟨rfl, B1.out⟩
      · go_wp2_with fail
        go_ret
        exact ⟨rfl, B1.out⟩
end Go.Proofs.Ythflbbjilebhlaa
namespace Go.Proofs.Ythflbbjilebhlaa
open Go Go.RowKit Go.Shelf Sc

theorem lessS_asym {s t : Scl} (h : lessS s t = true) : lessS t s = false := by
  unfold lessS at *
  simp only [decide_eq_true_eq, decide_eq_false_iff_not] at *
  omega
theorem asc_tri {s t : Scl} (hs : s ∈ asc) (ht : t ∈ asc) (hne : s ≠ t) : lessS s t = true ∨ lessS t s = true := by
  obtain ⟨i, hi, rfl⟩ := List.getElem_of_mem hs
  obtain ⟨j, hj, rfl⟩ := List.getElem_of_mem ht
  have h := List.pairwise_iff_getElem.1 asc_sorted
  rcases Nat.lt_trichotomy i j with h1 | h1 | h1
  · exact .inl (h i j hi hj h1)
  · subst h1; exact absurd rfl hne
  · exact .inr (h j i hj hi h1)
theorem evP_inj {p q : Nat} (h : evP p = evP q) : p = q := by
  unfold evP at h
  simp only [Prod.mk.injEq] at h
  have h1 := Nat.div_add_mod p 30
  have h2 := Nat.div_add_mod q 30
  omega
theorem every_nodup : everyL.Pairwise fun a b => a ≠ b := by
  unfold everyL everyTo
  refine List.Pairwise.filter _ ?_
  rw [List.pairwise_map]
  exact (List.nodup_range (n := 900)).imp fun h e => h (evP_inj e)
theorem every_fresh {k : Nat} (h : k < everyL.length) : everyL.getD k default ∉ everyL.take k := by
  intro hm
  obtain ⟨i, hi, e⟩ := List.getElem_of_mem hm
  have hik : i < k := by simp at hi; omega
  have h1 := List.pairwise_iff_getElem.1 every_nodup i k (by omega) h hik
  rw [List.getElem_take] at e
  rw [e] at h1
  exact h1 (by simp [List.getD_eq_getElem?_getD, h])
theorem sorted_ext : ∀ {l r : List Scl}, l.Pairwise (fun a b => lessS a b = true) → r.Pairwise (fun a b => lessS a b = true) → (∀ s, s ∈ l ↔ s ∈ r) → l = r
  | [], [], _, _, _ => rfl
  | [], b :: r, _, _, h => absurd ((h b).2 (by simp)) (by simp)
  | a :: l, [], _, _, h => absurd ((h a).1 (by simp)) (by simp)
  | a :: l, b :: r, hl, hr, h => by
    obtain ⟨h1, h2⟩ := List.pairwise_cons.1 hl
    obtain ⟨h3, h4⟩ := List.pairwise_cons.1 hr
    have e : a = b := by
      rcases List.mem_cons.1 ((h a).1 (by simp)) with e | ha
      · exact e
      · rcases List.mem_cons.1 ((h b).2 (by simp)) with e | hb
        · exact e.symm
        · have x1 := h3 a ha
          have x2 := lessS_asym (h1 b hb)
          rw [x1] at x2; cases x2
    subst e
    have : l = r := sorted_ext h2 h4 fun s => by
      constructor
      · intro hs
        rcases List.mem_cons.1 ((h s).1 (by simp [hs])) with e | h5
        · subst e; have := h1 s hs; rw [lessS_irr] at this; cases this
        · exact h5
      · intro hs
        rcases List.mem_cons.1 ((h s).2 (by simp [hs])) with e | h5
        · subst e; have := h3 s hs; rw [lessS_irr] at this; cases this
        · exact h5
    rw [this]
/-- The list so far: in its order, and those of the first so many scales that do. -/
def InsI (P : Scl → Bool) (k : Nat) (L : List Scl) : Prop := L.Pairwise (fun a b => lessS a b = true) ∧ (∀ s, s ∈ L ↔ s ∈ everyL.take k ∧ P s = true)
theorem ins_zero (P : Scl → Bool) : InsI P 0 [] := ⟨List.Pairwise.nil, by simp⟩
theorem take_getD {k : Nat} (h : k < everyL.length) : everyL.take (k + 1) = everyL.take k ++ [everyL.getD k default] := by
  rw [List.take_succ_eq_append_getElem h]
  simp [List.getD_eq_getElem?_getD, h]
theorem ins_skip {P : Scl → Bool} {k : Nat} {L : List Scl} (h : InsI P k L) (hk : k < everyL.length) (hn : P (everyL.getD k default) = false) : InsI P (k + 1) L := by
  refine ⟨h.1, fun s => ?_⟩
  rw [h.2 s, take_getD hk, List.mem_append, List.mem_singleton]
  constructor
  · rintro ⟨h1, h2⟩; exact ⟨.inl h1, h2⟩
  · rintro ⟨h1 | e, h2⟩
    · exact ⟨h1, h2⟩
    · rw [e, hn] at h2; cases h2
theorem ins_put {P : Scl → Bool} {k : Nat} {L : List Scl} (h : InsI P k L) (hk : k < everyL.length) (hy : P (everyL.getD k default) = true) (j : Nat) (hj : j ≤ L.length)
    (hb : ∀ i, i < j → lessS (L.getD i default) (everyL.getD k default) = true) (hs : j < L.length → lessS (L.getD j default) (everyL.getD k default) = false) :
    InsI P (k + 1) (L.take j ++ [everyL.getD k default] ++ L.drop j) := by
  obtain ⟨s, hse⟩ : ∃ s, everyL.getD k default = s := ⟨_, rfl⟩
  have hsE : s ∈ everyL := by rw [← hse]; exact getD_mem hk
  have hfr : s ∉ everyL.take k := by rw [← hse]; exact every_fresh hk
  rw [hse] at hb hs hy ⊢
  have hsL : s ∉ L := fun hm => hfr ((h.2 s).1 hm).1
  have hLE : ∀ t, t ∈ L → t ∈ everyL := fun t ht => List.mem_of_mem_take ((h.2 t).1 ht).1
  have hpos : ∀ t, t ∈ everyL → 1 ≤ t.1 ∧ 1 ≤ t.2 := fun t ht => by
    have h := sclE_zero ((everyL_mem t).1 ht)
    exact ⟨h.1, h.2.2.1⟩
  have hpw := List.pairwise_iff_getElem.1 h.1
  have hbef : ∀ t, t ∈ L.take j → lessS t s = true := fun t ht => by
    obtain ⟨i, hi, rfl⟩ := List.getElem_of_mem ht
    have hij : i < j := by simp at hi; omega
    have := hb i hij
    rw [List.getElem_take]
    simpa [List.getD_eq_getElem?_getD, show i < L.length by omega] using this
  have haft : ∀ t, t ∈ L.drop j → lessS s t = true := fun t ht => by
    obtain ⟨i, hi, rfl⟩ := List.getElem_of_mem ht
    have hil : j + i < L.length := by simp at hi; omega
    rw [List.getElem_drop]
    have hjl : j < L.length := by omega
    have h0 := hs hjl
    have e0 : L.getD j default = L[j] := by simp [List.getD_eq_getElem?_getD, hjl]
    rw [e0] at h0
    have hne : L[j] ≠ s := fun e => hsL (e ▸ List.getElem_mem hjl)
    have h1 : lessS s L[j] = true := by
      rcases asc_tri ((everyL_asc _).1 (hLE _ (List.getElem_mem hjl))) ((everyL_asc _).1 hsE) hne with h | h
      · rw [h0] at h; cases h
      · exact h
    by_cases hi0 : i = 0
    · subst hi0; exact h1
    · exact lessS_tr (hpos s hsE) (hpos _ (hLE _ (List.getElem_mem hjl))) (hpos _ (hLE _ (List.getElem_mem hil))) h1 (hpw j (j + i) hjl hil (by omega))
  refine ⟨?_, fun t => ?_⟩
  · rw [List.append_assoc]
    refine List.pairwise_append.2 ⟨h.1.sublist (List.take_sublist _ _), ?_, fun a ha b hb2 => ?_⟩
    · rw [List.singleton_append]
      exact List.pairwise_cons.2 ⟨haft, h.1.sublist (List.drop_sublist _ _)⟩
    · rw [List.singleton_append] at hb2
      rcases List.mem_cons.1 hb2 with rfl | hb2
      · exact hbef a ha
      · exact lessS_tr (hpos a (hLE a (List.mem_of_mem_take ha))) (hpos s hsE) (hpos b (hLE b (List.mem_of_mem_drop hb2))) (hbef a ha) (haft b hb2)
  · rw [take_getD hk, hse, List.mem_append, List.mem_append, List.mem_append, List.mem_singleton]
    constructor
    · rintro ((h1 | rfl) | h1)
      · have := (h.2 t).1 (List.mem_of_mem_take h1); exact ⟨.inl this.1, this.2⟩
      · exact ⟨.inr rfl, hy⟩
      · have := (h.2 t).1 (List.mem_of_mem_drop h1); exact ⟨.inl this.1, this.2⟩
    · rintro ⟨h1 | rfl, h2⟩
      · have h3 := (h.2 t).2 ⟨h1, h2⟩
        rw [← List.take_append_drop j L, List.mem_append] at h3
        rcases h3 with h3 | h3
        · exact .inl (.inl h3)
        · exact .inr h3
      · exact .inl (.inr rfl)
theorem sub_len : ∀ (E L : List Scl), L.Pairwise (fun a b => a ≠ b) → (∀ s, s ∈ L → s ∈ E) → L.length ≤ E.length
  | E, [], _, _ => by simp
  | E, a :: L, hp, h => by
    obtain ⟨h1, h2⟩ := List.pairwise_cons.1 hp
    have ha := h a (by simp)
    have := sub_len (E.erase a) L h2 (fun s hs => (List.mem_erase_of_ne (fun e => h1 s hs e.symm)).2 (h s (by simp [hs])))
    rw [List.length_erase_of_mem ha] at this
    have := List.length_pos_of_mem ha
    simp
    omega
theorem ins_len {P : Scl → Bool} {k : Nat} {L : List Scl} (h : InsI P k L) : L.length ≤ everyL.length := by
  refine sub_len _ _ (h.1.imp fun h e => ?_) (fun s hs => List.mem_of_mem_take ((h.2 s).1 hs).1)
  subst e
  rw [lessS_irr] at h
  cases h
theorem ins_all {c : Cse} {ms : List Mrk} {L : List Scl} (h : InsI (fun s => agreesB c s ms && fitsB c s) everyL.length L) : L = scalesL c ms := by
  refine sorted_ext h.1 ?_ fun s => ?_
  · unfold scalesL fitL
    exact (asc_sorted.filter _).filter _
  · rw [h.2 s, List.take_length]
    unfold scalesL fitL
    rw [List.mem_filter, List.mem_filter, ← everyL_asc]
    have e : (!exB c ms s) = agreesB c s ms := by
      unfold exB agreesB
      rw [List.not_any_eq_all_not]
      simp
    rw [e]
    simp only [Bool.and_eq_true]
    constructor
    · rintro ⟨h1, h2, h3⟩; exact ⟨⟨h1, h3⟩, h2⟩
    · rintro ⟨⟨h1, h3⟩, h2⟩; exact ⟨h1, h2, h3⟩
theorem undScs : Try.prog.underlying 42 = some (.slice (Try.prog.elem 42)) := by kernel_rfl
theorem sizeScs (w : World) : (sizeOf (Try.prog.elem 42)).run Try.prog w = .ok 2 w := by
  obtain ⟨i0, hi⟩ := info_of_underlying Try.underlying27
  have h := scInfo
  rw [hi] at h
  simp at h
  have e : Try.prog.elem 42 = 27 := by kernel_rfl
  rw [e]
  simp [sizeOf, typeInfo, hi, h.2.1]
theorem scs_lo {a : Act} {o : Oper} {x h : Operand} {sa : Option Addr} {k sc n : Nat} (ho : o.op = .slice 42 x none (some h) none) (hx : a.eval x = .slice sa k sc) (hh : a.eval h = .int .i64 n) (hn : n ≤ sc) (w : World) :
    (execOp a.eval o).run Try.prog w = .ok (.value (.slice sa n sc)) w := by
  have e := run_slice_h (P := Try.prog) w 42 sa k sc undScs .i64 (n : Int) (by omega) (by omega)
  simp only [execOp, ho, hx, hh, Sem.run_bind, Option.map_some, Option.map_none, run_sliceAt_slice (P := Try.prog) w _ _ _ _ _ undScs, e, sizeScs, Result.andThen, sliced, Sem.run_pure]
  have hz : sa.map (fun x => x.add 0) = sa := by cases sa <;> simp [Addr.add]
  simp [hz]
theorem scs_hi {a : Act} {o : Oper} {x h : Operand} {sa : Option Addr} {k sc n : Nat} (ho : o.op = .slice 42 x (some h) none none) (hx : a.eval x = .slice sa k sc) (hh : a.eval h = .int .i64 n) (hn : n ≤ k) (w : World) :
    (execOp a.eval o).run Try.prog w = .ok (.value (.slice (if sc = n then sa else sa.map (·.add (n * 2))) (k - n) (sc - n))) w := by
  have e := run_slice_l (P := Try.prog) w 42 sa k sc undScs .i64 (n : Int) (by omega) (by omega)
  simp only [execOp, ho, hx, hh, Sem.run_bind, Option.map_some, Option.map_none, run_sliceAt_slice (P := Try.prog) w _ _ _ _ _ undScs, e, sizeScs, Result.andThen, sliced, Sem.run_pure]
  simp
theorem pairs_take {w : World} {sa : Option Addr} {k sc : Nat} {l : List Scl} (h : PairsAt w (.slice sa k sc) l) (n : Nat) (hn : n ≤ l.length) : n ≤ sc ∧ PairsAt w (.slice sa n sc) (l.take n) := by
  obtain ⟨h1, a, cap, e, hc, h2⟩ := h
  simp only [Value.slice.injEq] at e
  obtain ⟨rfl, rfl, rfl⟩ := e
  have hl : (l.take n).length = n := by rw [List.length_take]; omega
  refine ⟨by omega, by omega, sa, sc, by rw [hl], by omega, fun hne => ?_⟩
  obtain ⟨b, o, rfl, hcc⟩ := h2 (by rintro rfl; simp at hne)
  refine ⟨b, o, rfl, fun j hj => ?_⟩
  rw [List.getElem_take]
  exact hcc j (by omega)
theorem pairs_drop {w : World} {sa : Option Addr} {k sc : Nat} {l : List Scl} (h : PairsAt w (.slice sa k sc) l) (n : Nat) (hn : n ≤ l.length) : PairsAt w (.slice (if sc = n then sa else sa.map (·.add (n * 2))) (k - n) (sc - n)) (l.drop n) := by
  obtain ⟨h1, a, cap, e, hc, h2⟩ := h
  simp only [Value.slice.injEq] at e
  obtain ⟨rfl, rfl, rfl⟩ := e
  refine ⟨by rw [List.length_drop]; omega, _, sc - n, by rw [List.length_drop], by rw [List.length_drop]; omega, fun hne => ?_⟩
  have hlt : n < l.length := by
    have := List.length_pos_iff.2 hne
    rw [List.length_drop] at this
    omega
  obtain ⟨b, o, rfl, hcc⟩ := h2 (by rintro rfl; simp at hne)
  refine ⟨b, o + n * 2, ?_, fun j hj => ?_⟩
  · rw [if_neg (by omega)]
    simp [add_plain']
  · rw [List.getElem_drop]
    have h3 := hcc (n + j) (by rw [List.length_drop] at hj; omega)
    rw [show o + n * 2 + j * 2 = o + (n + j) * 2 by omega]
    exact h3
set_option maxRecDepth 100000 in
/-- Pairs are appended to a row of the call's own. -/
theorem run_pairs (w : World) (ty : TypeId) (base n n' : Nat) (v sv : Value) (L l L' : List Scl) (hn' : n + l.length = n') (hL : L ++ l = L') (hown : w.ownsRow base 27 2 v n (scsL L)) (hl : PairsAt w sv l) (hb : base ≤ w.heap.size) (hlen : n' ≤ 100000) :
    ∃ v' w', (Builtin.append_ #[42, 42] ty #[v, sv]).run Try.prog w = .ok v' w' ∧ w'.ownsRow base 27 2 v' n' (scsL L') ∧ w.grownBy w' v.ownBlock := by
  subst hn' hL
  obtain ⟨i0, hi⟩ := info_of_underlying Try.underlying27
  have HI : i0.zero = some (.agg #[.int .i64 0, .int .i64 0]) ∧ i0.size = 2 ∧ i0.bytes = 16 := by
    have h := scInfo
    rw [hi] at h
    simp at h
    exact h
  obtain ⟨_, A, c, rfl, _, hc⟩ := hl
  cases A with
  | none =>
    have hn : l = [] := by
      cases l with
      | nil => rfl
      | cons x l => obtain ⟨_, _, h, _⟩ := hc (by simp); cases h
    subst hn
    have hrun : (Builtin.append_ #[42, 42] ty #[v, .slice none 0 c]).run Try.prog w = .ok v w := by
      rcases hown.2 with ⟨rfl, h0⟩ | ⟨g, cap, cur, rfl, _, _, h1, _⟩
      · simp [Builtin.append_, run_underlying Try.underlying42, sizeOf, typeInfo, hi, Builtin.lenOf, Builtin.firstCells]
      · simp [Builtin.append_, run_underlying Try.underlying42, sizeOf, typeInfo, hi, Builtin.lenOf, Builtin.firstCells, h1, storeCells]
    exact ⟨v, w, hrun, by rw [List.append_nil]; exact hown, grown_refl w _⟩
  | some ad =>
    have hcells : ∀ j u, (scsL l)[j]? = some u → w.cell? (ad.add j) = some u := by
      intro j u hu
      have hlen := scsL_len l
      have hj : j < (scsL l).length := (List.getElem?_eq_some_iff.1 hu).1
      obtain ⟨b, o, e, hk⟩ := hc (by rintro rfl; simp [scsL] at hj)
      injection e with e
      subst e
      rw [add_plain']
      obtain ⟨i, hji⟩ : ∃ i, j = i * 2 ∨ j = i * 2 + 1 := ⟨j / 2, by omega⟩
      have hq : i < l.length := by omega
      obtain ⟨g1, g2⟩ := scsL_get l i hq
      obtain ⟨k1, k2⟩ := hk i hq
      rcases hji with rfl | rfl
      · rw [g1] at hu
        cases hu
        exact k1
      · rw [g2] at hu
        cases hu
        exact k2
    obtain ⟨v', w', h1, h2, h3, _, _⟩ := run_append_own_at (P := Try.prog) w base 42 ty 27 i0 _ 2 16 Try.underlying42 hi HI.1 HI.2.1 HI.2.2 rfl (by decide) v n _ hown ad l.length c (scsL l) (scsL_len l) hcells
      (by intro u hu; unfold scsL at hu; obtain ⟨x, _, hx⟩ := List.mem_flatMap.1 hu; simp at hx; rcases hx with rfl | rfl <;> rfl) (by unfold maxLen; omega) (by omega) hb
    exact ⟨v', w', h1, by unfold scsL at h2 ⊢; rw [List.flatMap_append]; exact h2, h3⟩
theorem step_pairs {ops : Array Oper} {o : Oper} {a : Act} {K : Act → World → Prop} {Q : Exit → Act → World → Prop} {E : Prop} {w : World} (hgd : o.guard = none) (s x : Operand)
    (ho : o.op = .call { callee := .builtin .append, args := #[s, x], argTypes := #[42, 42] })
    (base n n' : Nat) (v sv : Value) (L l L' : List Scl) (hs : a.eval s = v) (hx : a.eval x = sv) (hn' : n + l.length = n') (hL : L ++ l = L') (hown : w.ownsRow base 27 2 v n (scsL L)) (hl : PairsAt w sv l) (hb : base ≤ w.heap.size) (hlen : n' ≤ 100000)
    (h : ∀ v' w', w'.ownsRow base 27 2 v' n' (scsL L') → w.grownBy w' v.ownBlock → K (a.put o.dst v') w') :
    if Region.wanted o (yielded ops a.tmps) = true then Oper.wp Try.prog o a w K Q else E := by
  rw [if_pos (by simp [Region.wanted, hgd])]
  obtain ⟨v', w', hrun, h2, h3⟩ := run_pairs w o.type base n n' v sv L l L' hn' hL hown hl hb hlen
  unfold Oper.wp execOp
  simp only [ho, resolve, invoke, builtin, Sem.run_bind, Sem.run_pure, Result.andThen_ok, List.map_toArray, List.map_cons, List.map_nil, hs, hx, hrun]
  exact h v' w' h2 h3
theorem own_nil2 (w : World) (e : TypeId) (s base : Nat) (hb : base ≤ w.heap.size) : (w.alloc (.cells #[] e)).ownsRow base e s (.slice (some ⟨w.heap.size, 0, none⟩) 0 0) 0 [] :=
  ⟨by simp, .inr ⟨w.heap.size, 0, _, rfl, hb, heap_alloc_new w _, Nat.le_refl _, by decide, by simp, by simp⟩⟩
theorem pairs_one {w : World} {b : Nat} {s : Scl} (h : w.heap[b]? = some (.cells #[.int .i64 s.1, .int .i64 s.2] 27 (0, 0))) : PairsAt w (.slice (some ⟨b, 0, none⟩) 1 1) [s] := by
  refine ⟨by simp, _, 1, rfl, by simp, fun _ => ⟨b, 0, rfl, fun k hk => ?_⟩⟩
  obtain rfl : k = 0 := by simpa using hk
  exact ⟨cellOf h 0 _ rfl, cellOf h 1 _ rfl⟩
end Go.Proofs.Ythflbbjilebhlaa
