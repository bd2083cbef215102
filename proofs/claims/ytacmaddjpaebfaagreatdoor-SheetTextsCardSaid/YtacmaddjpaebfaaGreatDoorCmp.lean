/- Lists that are the same: what the reference's comparisons answer. -/
import Derived.Test.YtacmaddjpaebfaaGreatDoorRead
import Derived.Deep.QuietTactic
import Derived.BigQuiet
set_option linter.unusedSimpArgs false
set_option linter.unusedVariables false
namespace Go.Proofs.YtacmaddjpaebfaaGreatDoor
open Go Go.RowKit Hs

set_option maxRecDepth 100000 in
set_option maxHeartbeats 1000000 in
theorem ints_eq (va vb : Value) (l : List Int) (w : World) (ha : IntsAt w va l) (hb : IntsAt w vb l) :
    Calls Tryz.prog 29 #[va, vb] w fun e w' => e = .returned (.bool true) ∧ Below w.heap.size w w' := by
  obtain ⟨hm, a, ca, rfl, hca⟩ := id ha
  obtain ⟨_, b, cb, rfl, hcb⟩ := id hb
  have HA := Lib.hid ha
  have HB := Lib.hid hb
  have hm' : (l.length : Int) ≤ 4611686018427387904 := by omega
  clear ha hb hca hcb
  go_enter Tryz.func29, Tryz.ntmps29
  go_wp2
  go_loopw [5] (fun i wr => ∃ k : Nat, k ≤ l.length ∧ i = .int .i64 k ∧ Hid (Below w.heap.size w wr)) (fun i _ => l.length - (intOf i).toNat)
  case atStart => exact ⟨0, Nat.zero_le _, rfl, Below.refl _ _⟩
  case round =>
    obtain ⟨k, hk, rfl, HBB⟩ := hrel
    by_cases hlt : k < l.length
    · have ha := HA.out.below HBB.out
      have hb := HB.out.below HBB.out
      obtain ⟨_, a', ca', e1, hca⟩ := ha
      obtain ⟨_, b', cb', e2, hcb⟩ := hb
      simp only [Value.slice.injEq] at e1 e2
      obtain ⟨rfl, _, rfl⟩ := e1
      obtain ⟨rfl, _, rfl⟩ := e2
      have hne : l ≠ [] := by intro e; simp [e] at hlt
      obtain ⟨b1, o1, rfl, h1⟩ := hca hne
      obtain ⟨b2, o2, rfl, h2⟩ := hcb hne
      have c1 := h1 k hlt
      have c2 := h2 k hlt
      generalize l.getD k 0 = x at *
      have kI : (k : Int) < (l.length : Int) := by omega
      have hs := HBB.out.size
      clear hca hcb h1 h2
      go_wp2_with fail
      go_quiet (fail)
      have HBN : Hid (Below w.heap.size w (wr.drewN nq)) := HBB.out.trans ⟨rfl, rfl, rfl, Nat.le_refl _, fun _ _ => rfl⟩
      clear c1 c2
      go_wp2
      go_roundw
      case rel => exact ⟨k + 1, by omega, by go_num, HBN⟩
      case measure => simp [intOf]; omega
    · go_wp2
      go_ret
      exact ⟨rfl, HBB.out⟩

set_option maxRecDepth 100000 in
set_option maxHeartbeats 1000000 in
theorem words_eq (va vb : Value) (l : List ByteArray) (w : World) (ha : StrsAt w.heap.size w va l) (hb : StrsAt w.heap.size w vb l) :
    Calls Tryz.prog 93 #[va, vb] w fun e w' => e = .returned (.bool true) ∧ Below w.heap.size w w' := by
  obtain ⟨hm, a, ca, rfl, hca⟩ := id ha
  obtain ⟨_, b, cb, rfl, hcb⟩ := id hb
  have HA := Lib.hid ha
  have HB := Lib.hid hb
  have hm' : (l.length : Int) ≤ 4611686018427387904 := by omega
  clear ha hb hca hcb
  go_enter Tryz.func93, Tryz.ntmps93
  go_wp2
  go_loopw [5] (fun i wr => ∃ k : Nat, k ≤ l.length ∧ i = .int .i64 k ∧ Hid (Below w.heap.size w wr)) (fun i _ => l.length - (intOf i).toNat)
  case atStart => exact ⟨0, Nat.zero_le _, rfl, Below.refl _ _⟩
  case round =>
    obtain ⟨k, hk, rfl, HBB⟩ := hrel
    by_cases hlt : k < l.length
    · have ha := HA.out.below HBB.out
      have hb := HB.out.below HBB.out
      obtain ⟨_, a', ca', e1, hca⟩ := ha
      obtain ⟨_, b', cb', e2, hcb⟩ := hb
      simp only [Value.slice.injEq] at e1 e2
      obtain ⟨rfl, _, rfl⟩ := e1
      obtain ⟨rfl, _, rfl⟩ := e2
      have hne : l ≠ [] := by intro e; simp [e] at hlt
      obtain ⟨b1, o1, rfl, _, h1⟩ := hca hne
      obtain ⟨b2, o2, rfl, _, h2⟩ := hcb hne
      have c1 := h1 k hlt
      have c2 := h2 k hlt
      generalize l[k] = x at *
      have kI : (k : Int) < (l.length : Int) := by omega
      have hs := HBB.out.size
      clear hca hcb h1 h2
      go_wp2_with fail
      go_quiet (fail)
      have HBN : Hid (Below w.heap.size w (wr.drewN nq)) := HBB.out.trans ⟨rfl, rfl, rfl, Nat.le_refl _, fun _ _ => rfl⟩
      clear c1 c2
      go_wp2
      go_roundw
      case rel => exact ⟨k + 1, by omega, by go_num, HBN⟩
      case measure => simp [intOf]; omega
    · go_wp2
      go_ret
      exact ⟨rfl, HBB.out⟩

/-- A slice of spans. -/
def SpnAt (w : World) (v : Value) (l : List (Int × Int)) : Prop :=
  l.length ≤ 100 ∧ ∃ g o c, v = .slice (some ⟨g, o, none⟩) l.length c ∧ g < w.heap.size ∧ ∀ k (h : k < l.length), w.cell? ⟨g, o + k * 2, none⟩ = some (.int .i64 l[k].1) ∧ w.cell? ⟨g, o + k * 2 + 1, none⟩ = some (.int .i64 l[k].2)
theorem SpnAt.below {w w' : World} {v : Value} {l : List (Int × Int)} (h : SpnAt w v l) (hb : Below w.heap.size w w') : SpnAt w' v l := by
  obtain ⟨h0, g, o, c, e, hg, hc⟩ := h
  exact ⟨h0, g, o, c, e, Nat.lt_of_lt_of_le hg hb.size, fun k hk => ⟨(hb.cell (p := ⟨g, o + k * 2, none⟩) hg).trans (hc k hk).1, (hb.cell (p := ⟨g, o + k * 2 + 1, none⟩) hg).trans (hc k hk).2⟩⟩
theorem SpansAt.spn {n : Nat} {w : World} {v : Value} {l : List (Int × Int)} (h : SpansAt n w v l) (hl : l.length ≤ 100) : SpnAt w v l := by
  obtain ⟨g, e, _, hg, hc⟩ := h
  exact ⟨hl, g, 0, l.length, e, hg, fun k hk => by simpa using hc k hk⟩

set_option maxRecDepth 100000 in
set_option maxHeartbeats 1000000 in
theorem spans_eq (va vb : Value) (l : List (Int × Int)) (w : World) (ha : SpnAt w va l) (hb : SpnAt w vb l) :
    Calls Tryz.prog 24 #[va, vb] w fun e w' => e = .returned (.bool true) ∧ Below w.heap.size w w' := by
  obtain ⟨hm, a, oa, ca, rfl, hga, hca⟩ := id ha
  obtain ⟨_, b, ob, cb, rfl, hgb, hcb⟩ := id hb
  have HA := Lib.hid ha
  have HB := Lib.hid hb
  have HCA := Lib.hid hca
  have HCB := Lib.hid hcb
  have hm' : (l.length : Int) ≤ 100 := by omega
  clear ha hb hca hcb
  go_enter Tryz.func24, Tryz.ntmps24
  go_wp2
  go_loopw [5] (fun i wr => ∃ k : Nat, k ≤ l.length ∧ i = .int .i64 k ∧ Hid (Below w.heap.size w wr)) (fun i _ => l.length - (intOf i).toNat)
  case atStart => exact ⟨0, Nat.zero_le _, rfl, Below.refl _ _⟩
  case round =>
    obtain ⟨k, hk, rfl, HBB⟩ := hrel
    by_cases hlt : k < l.length
    · have c1 := (HBB.out.cell (p := ⟨a, oa + k * 2, none⟩) hga).trans (HCA.out k hlt).1
      have c2 := (HBB.out.cell (p := ⟨a, oa + k * 2 + 1, none⟩) hga).trans (HCA.out k hlt).2
      have c3 := (HBB.out.cell (p := ⟨b, ob + k * 2, none⟩) hgb).trans (HCB.out k hlt).1
      have c4 := (HBB.out.cell (p := ⟨b, ob + k * 2 + 1, none⟩) hgb).trans (HCB.out k hlt).2
      generalize l[k] = x at *
      obtain ⟨x, y⟩ := x
      simp only at c1 c2 c3 c4
      have kI : (k : Int) < (l.length : Int) := by omega
      have hs := HBB.out.size
      go_wp2_with fail
      go_quiet (fail)
      have HBN : Hid (Below w.heap.size w (wr.drewN nq)) := HBB.out.trans ⟨rfl, rfl, rfl, Nat.le_refl _, fun _ _ => rfl⟩
      clear c1 c2 c3 c4
      go_wp2
      go_roundw
      case rel => exact ⟨k + 1, by omega, by go_num, HBN⟩
      case measure => simp [intOf]; omega
    · go_wp2
      go_ret
      exact ⟨rfl, HBB.out⟩

set_option maxRecDepth 100000 in
set_option maxHeartbeats 2000000 in
theorem same_eq (s : Sheet) (pa na pb nb : Value) (w : World) (hA : StrsAt w.heap.size w pa s.pts) (hNA : NotesAt w.heap.size w na s.notes) (hB : StrsAt w.heap.size w pb s.pts) (hNB : NotesAt w.heap.size w nb s.notes) :
    Calls Tryz.prog 40 #[.agg #[.int .i64 s.iv, pa, na], .agg #[.int .i64 s.iv, pb, nb]] w fun e w' => e = .returned (.bool true) ∧ Below w.heap.size w w' := by
  obtain ⟨iv, pts, l⟩ := s
  simp only at hA hNA hB hNB ⊢
  obtain ⟨hm, a, ca, rfl, hca⟩ := id hNA
  obtain ⟨_, b, cb, rfl, hcb⟩ := id hNB
  have HCA := Lib.hid hca
  have HCB := Lib.hid hcb
  have hm' : (l.length : Int) ≤ 4611686018427387904 := by omega
  have B0 : Below w.heap.size w ((w.alloc (Obj.cells #[.int .i64 iv, pa, .slice a l.length ca] 25)).alloc (Obj.cells #[.int .i64 iv, pb, .slice b l.length cb] 25)) := by go_grown
  have hw := words_eq pa pb pts _ ((hA.below B0).mono B0.size) ((hB.below B0).mono B0.size)
  have HW := Lib.hid hw
  clear hw hA hNA hB hNB hca hcb
  have h1 := heap_alloc2_old w (Obj.cells #[.int .i64 iv, pa, .slice a l.length ca] 25) (Obj.cells #[.int .i64 iv, pb, .slice b l.length cb] 25)
  have h2 := heap_alloc2_new w (Obj.cells #[.int .i64 iv, pa, .slice a l.length ca] 25) (Obj.cells #[.int .i64 iv, pb, .slice b l.length cb] 25)
  have H1 := Lib.hid h1
  have H2 := Lib.hid h2
  clear h1 h2
  go_enter Tryz.func40, Tryz.ntmps40
  go_wp2_with fail
  refine HW.out.mono ?_
  rintro e w1 ⟨rfl, hb1⟩
  have h1 := (hb1.block _ (lt_of_block H1.out)).trans H1.out
  have h2 := (hb1.block _ (lt_of_block H2.out)).trans H2.out
  have HB1 : Hid (Below w.heap.size w w1) := B0.trans (hb1.mono B0.size)
  have c2 := cellOf h1 2 _ rfl
  have d2 := cellOf h2 2 _ rfl
  have G1 := Lib.hid h1
  have G2 := Lib.hid h2
  have hs1 := HB1.out.size
  have hl1 := lt_of_block h1
  have hl2 := lt_of_block h2
  clear hb1 B0 h1 h2 HW
  go_wp2_with fail
  clear c2 d2
  go_loopw [5] (fun i wr => ∃ k : Nat, k ≤ l.length ∧ i = .int .i64 k ∧ Hid (Below w1.heap.size w1 wr)) (fun i _ => l.length - (intOf i).toNat)
  case atStart => exact ⟨0, Nat.zero_le _, rfl, Below.refl _ _⟩
  case round =>
    obtain ⟨k, hk, rfl, HBB⟩ := hrel
    have c2 := cellOf ((HBB.out.block _ hl1).trans G1.out) 2 _ rfl
    have d2 := cellOf ((HBB.out.block _ hl2).trans G2.out) 2 _ rfl
    by_cases hlt : k < l.length
    · have hne : l ≠ [] := by intro e; simp [e] at hlt
      obtain ⟨b1, o1, rfl, hb1, q1⟩ := HCA.out hne
      obtain ⟨b2, o2, rfl, hb2, q2⟩ := HCB.out hne
      have hbw := HB1.out.trans (HBB.out.mono hs1)
      obtain ⟨x0, x1, x2, x3, x4⟩ := q1 k hlt
      obtain ⟨y0, y1, y2, y3, y4⟩ := q2 k hlt
      have x0 := (hbw.cell (p := ⟨b1, o1 + k * 5, none⟩) hb1).trans x0
      have x1 := (hbw.cell (p := ⟨b1, o1 + k * 5 + 1, none⟩) hb1).trans x1
      have x2 := (hbw.cell (p := ⟨b1, o1 + k * 5 + 2, none⟩) hb1).trans x2
      have x3 := (hbw.cell (p := ⟨b1, o1 + k * 5 + 3, none⟩) hb1).trans x3
      have x4 := (hbw.cell (p := ⟨b1, o1 + k * 5 + 4, none⟩) hb1).trans x4
      have y0 := (hbw.cell (p := ⟨b2, o2 + k * 5, none⟩) hb2).trans y0
      have y1 := (hbw.cell (p := ⟨b2, o2 + k * 5 + 1, none⟩) hb2).trans y1
      have y2 := (hbw.cell (p := ⟨b2, o2 + k * 5 + 2, none⟩) hb2).trans y2
      have y3 := (hbw.cell (p := ⟨b2, o2 + k * 5 + 3, none⟩) hb2).trans y3
      have y4 := (hbw.cell (p := ⟨b2, o2 + k * 5 + 4, none⟩) hb2).trans y4
      generalize l[k] = x at *
      have kI : (k : Int) < (l.length : Int) := by omega
      have hs := HBB.out.size
      clear hbw q1 q2
      go_wp2_with fail
      go_quiet (fail)
      have HBN : Hid (Below w1.heap.size w1 (wr.drewN nq)) := HBB.out.trans ⟨rfl, rfl, rfl, Nat.le_refl _, fun _ _ => rfl⟩
      clear c2 d2
      go_wp2
      go_roundw
      case rel => exact ⟨k + 1, by omega, by go_num, HBN⟩
      case measure => simp [intOf]; omega
    · go_wp2
      go_ret
      exact ⟨rfl, HB1.out.trans (HBB.out.mono hs1)⟩
end Go.Proofs.YtacmaddjpaebfaaGreatDoor
