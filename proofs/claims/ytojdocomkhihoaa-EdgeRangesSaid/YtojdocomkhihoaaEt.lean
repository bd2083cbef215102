/- Package edge: the error of an edge. -/
import Derived.Test.YtojdocomkhihoaaEs
set_option linter.unusedSimpArgs false
set_option linter.unusedVariables false
namespace Go.Proofs.Ytojdocomkhihoaa
open Go Go.RowKit Ed

theorem all_more (l : List (Int × Int)) (k : Nat) (h : k < l.length) (hf : (l.take k).all ptB = true) (hx : ptB l[k] = true) : (l.take (k + 1)).all ptB = true := by
  rw [List.take_succ_eq_append_getElem h, List.all_append, hf]
  simp [hx]
theorem all_not (l : List (Int × Int)) (k : Nat) (h : k < l.length) (hx : ptB l[k] = false) : l.all ptB = false := by
  rw [List.all_eq_false]
  exact ⟨l[k], List.getElem_mem h, by simp [hx]⟩
set_option maxRecDepth 100000 in
set_option maxHeartbeats 4000000 in
theorem edgeFault_any (d : Edg) (pv : Value) (n : Nat) (w : World) (hp : PairsAt w pv d.pts) (hn : n ≤ 5) :
    Calls Try.prog 50 #[.agg #[.int .i64 d.a, .int .i64 d.b, pv], .int .i64 n] w fun e w' => e = .returned (.int .i64 (edErr n d)) ∧ Below w.heap.size w w' := by
  obtain ⟨a, b, pts⟩ := d
  simp only at hp ⊢
  obtain ⟨lp, pa, pc, rfl, _⟩ := id hp
  obtain ⟨m, hm⟩ : ∃ m, pts.length = m := ⟨_, rfl⟩
  rw [hm] at lp hp ⊢
  have HM := Lib.hid hm
  have hB : Below w.heap.size w (w.alloc (Obj.cells #[.int .i64 a, .int .i64 b, .slice pa m pc] 71)) := by go_grown
  have HB := Lib.hid hB
  have HP := Lib.hid (hp.below hB)
  have HG := Lib.hid (heap_alloc_new w (Obj.cells #[.int .i64 a, .int .i64 b, .slice pa m pc] 71))
  have HE : Hid (edErr n ⟨a, b, pts⟩ = if inB 0 ((n : Int) - 1) a = false ∨ inB 0 ((n : Int) - 1) b = false then 4 else if a = b then 2 else if inB 1 4 (m : Int) = false then 3 else if pts.all ptB = false then 7 else 0) := by show _ = _; rw [← hm]; rfl
  have nI : (n : Int) ≤ 5 := by omega
  have lpI : (m : Int) ≤ 4611686018427387904 := by omega
  clear hp hB hm
  go_enter Try.func50, Try.ntmps50
  go_wp2_with fail
  have hsz : w.heap.size + 1 = (w.alloc (Obj.cells #[.int .i64 a, .int .i64 b, .slice pa m pc] 71)).heap.size := by simp
  generalize w.alloc (Obj.cells #[.int .i64 a, .int .i64 b, .slice pa m pc] 71) = w0 at *
  have h1 := within_2 0 ((n : Int) - 1) a b w0 (w.heap.size + 1) 3 hsz
  obtain ⟨B1, hB1⟩ : ∃ B, okIn 0 ((n : Int) - 1) a = B := ⟨_, rfl⟩
  obtain ⟨B2, hB2⟩ : ∃ B, okIn 0 ((n : Int) - 1) b = B := ⟨_, rfl⟩
  have e1 : inB 0 ((n : Int) - 1) a = B1 := hB1
  have e2 : inB 0 ((n : Int) - 1) b = B2 := hB2
  rw [hB1, hB2] at h1
  rw [e1, e2] at HE
  have HC1 := Lib.hid h1
  clear h1 hB1 e1 hB2 e2 hsz
  refine HC1.out.mono ?_
  rintro e w1 ⟨rfl, rfl⟩
  clear HC1
  have hb1 : Below w0.heap.size w0 (w0.alloc (Obj.cells #[.int .i64 a, .int .i64 b] 3)) := by go_grown
  have HB1 := Lib.hid (HB.out.trans (hb1.mono HB.out.size))
  have HG1 := Lib.hid ((hb1.block _ (lt_of_block HG.out)).trans HG.out)
  have HP1 := Lib.hid (HP.out.below hb1)
  generalize w0.alloc (Obj.cells #[.int .i64 a, .int .i64 b] 3) = w1 at *
  clear hb1 HB HG HP
  by_cases hbb : (B1 && B2) = false
  · have hor : B1 = false ∨ B2 = false := by revert hbb; cases B1 <;> cases B2 <;> simp
    rw [if_pos hor] at HE
    rw [hbb]
    clear hor hbb
    go_wp2_with fail
    go_ret
    exact ⟨by rw [HE.out]; rfl, HB1.out⟩
  · have hbt : (B1 && B2) = true := by simpa using hbb
    have hor : ¬ (B1 = false ∨ B2 = false) := by revert hbb; cases B1 <;> cases B2 <;> simp
    rw [if_neg hor] at HE
    rw [hbt]
    clear hor hbb hbt
    have g0 := cellOf HG1.out 0 _ rfl
    have g1 := cellOf HG1.out 1 _ rfl
    have g2 := cellOf HG1.out 2 _ rfl
    have gl := lt_of_block HG1.out
    by_cases hab : a = b
    · rw [if_pos hab] at HE
      have qab : (a == b) = true := by simp [hab]
      clear hab
      go_wp2_with fail
      go_ret
      exact ⟨by rw [HE.out]; rfl, HB1.out⟩
    · rw [if_neg hab] at HE
      have qab : (a == b) = false := by simp [hab]
      clear hab
      have h1 := within_1 1 4 (m : Int) w1 w1.heap.size 3 rfl
      obtain ⟨B3, hB3⟩ : ∃ B, okIn 1 4 (m : Int) = B := ⟨_, rfl⟩
      have e3 : inB 1 4 (m : Int) = B3 := hB3
      rw [hB3] at h1
      rw [e3] at HE
      have HC1 := Lib.hid h1
      have HB3 := Lib.hid hB3
      clear h1 hB3 e3
      go_wp2_with fail
      refine HC1.out.mono ?_
      rintro e w2 ⟨rfl, rfl⟩
      have hb1 : Below w1.heap.size w1 (w1.alloc (Obj.cells #[.int .i64 m] 3)) := by go_grown
      have HB2 := Lib.hid (HB1.out.trans (hb1.mono HB1.out.size))
      have HG2 := Lib.hid ((hb1.block _ (lt_of_block HG1.out)).trans HG1.out)
      have HP2 := Lib.hid (HP1.out.below hb1)
      generalize w1.alloc (Obj.cells #[.int .i64 m] 3) = w2 at *
      clear hb1 HB1 HG1 HP1 HC1 g0 g1 g2 gl
      cases B3
      · rw [if_pos rfl] at HE
        go_wp2_with fail
        go_ret
        exact ⟨by rw [HE.out]; rfl, HB2.out⟩
      · rw [if_neg (by simp)] at HE
        have m4 : m ≤ 4 := by have := HB3.out; unfold okIn at this; simp at this; omega
        have mI : (m : Int) ≤ 4 := by omega
        have g2 := cellOf HG2.out 2 _ rfl
        have gl := lt_of_block HG2.out
        go_wp2_with fail
        clear g2 gl qab
        go_loopg [30] m (fun g v wr => ∃ k : Nat, g + k = m ∧ v = .int .i64 k ∧ Hid ((pts.take k).all ptB = true) ∧ Hid (Below w2.heap.size w2 wr))
        case atStart => exact ⟨0, by omega, rfl, rfl, Below.refl _ _⟩
        case round =>
          obtain ⟨k, hk, rfl, HA, HL⟩ := hrel
          by_cases hkm : k < m
          · have kI : (k : Int) < (m : Int) := by omega
            have hk' : k < pts.length := by rw [HM.out]; exact hkm
            obtain ⟨pb, po, rfl, c0, c1⟩ := (HP2.out.below HL.out).get hk'
            have HMO := Lib.hid (all_more pts k hk' HA.out)
            have HNO := Lib.hid (all_not pts k hk')
            generalize pts[k] = p at *
            obtain ⟨x, y⟩ := p
            simp only at c0 c1
            obtain ⟨W1, hW1, q1, q2, hb, hsz⟩ := al2 wr (Obj.cells #[.int .i64 x, .int .i64 y] 74) (Obj.cells #[.int .i64 x, .int .i64 y] 3)
            have h1 := within_2 0 9000 x y (wr.alloc (Obj.cells #[.int .i64 x, .int .i64 y] 74)) (wr.heap.size + 1) 3 (by simp)
            obtain ⟨B4, hB4⟩ : ∃ B, (okIn 0 9000 x && okIn 0 9000 y) = B := ⟨_, rfl⟩
            have e4 : ptB (x, y) = B4 := hB4
            rw [hB4, hW1] at h1
            rw [e4] at HMO HNO
            have HC1 := Lib.hid h1
            have HW1 := Lib.hid hW1
            have HBW := Lib.hid (HL.out.trans (hb.mono HL.out.size))
            have hpb := World.block_lt_of_cell? wr ⟨pb, po + k * 2, none⟩ c0
            clear h1 hB4 e4 hW1 q1 q2 hb hsz
            go_wp2_with fail
            rw [HW1.out]
            refine HC1.out.mono ?_
            rintro e w3 ⟨rfl, rfl⟩
            clear HC1 HW1 c0 c1 hpb
            cases B4
            · have HF := Lib.hid (HNO.out rfl)
              rw [HF.out, if_pos rfl] at HE
              go_wp2_with fail
              go_ret
              exact ⟨by rw [HE.out]; rfl, HB2.out.trans (HBW.out.mono HB2.out.size)⟩
            · have HF := Lib.hid (HMO.out rfl)
              clear HMO HNO HA
              go_wp2
              go_roundg (gk - 1)
              case measure => omega
              case rel => exact ⟨k + 1, by omega, by go_num, HF, HBW⟩
          · have e : pts.take k = pts := List.take_of_length_le (by have := HM.out; omega)
            rw [e] at HA
            rw [HA.out, if_neg (by simp)] at HE
            have kI : ¬ (k : Int) < (m : Int) := by omega
            clear e hkm hk HA
            go_wp2
            go_ret
            exact ⟨by rw [HE.out]; rfl, HB2.out.trans (HL.out.mono HB2.out.size)⟩
end Go.Proofs.Ytojdocomkhihoaa
