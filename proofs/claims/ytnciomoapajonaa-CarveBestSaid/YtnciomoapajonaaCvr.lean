/- Package carve: why a surface is not good at another point. -/
import Derived.Test.YtnciomoapajonaaCvn
set_option linter.unusedSimpArgs false
set_option linter.unusedVariables false
namespace Go.Proofs.Ytnciomoapajonaa
open Go Go.RowKit Cv

theorem keep2 {W w w' : World} {b1 q1 b2 q2 : Nat} {v1 v2 : Value} (h : w.cell? ⟨b1, q1, none⟩ = some v1 ∧ w.cell? ⟨b2, q2, none⟩ = some v2 ∧ Hid (Below W.heap.size W w)) (hb : Below w.heap.size w w') :
    w'.cell? ⟨b1, q1, none⟩ = some v1 ∧ w'.cell? ⟨b2, q2, none⟩ = some v2 ∧ Hid (Below W.heap.size W w') := by
  obtain ⟨h1, h2, h3⟩ := h
  exact ⟨(hb.cell (p := ⟨b1, q1, none⟩) (World.block_lt_of_cell? w _ h1)).trans h1, (hb.cell (p := ⟨b2, q2, none⟩) (World.block_lt_of_cell? w _ h2)).trans h2, h3.out.trans (hb.mono h3.out.size)⟩
theorem within_is (st x : Int) {B : Bool} (W : World) (t : TypeId) (hB : okIn (-st) st x = B) (h1 : IntKind.i64.wrap (-st) = -st) (h2 : IntKind.i64.wrap x = x) :
    Calls Try.prog 49 #[.int .i64 (IntKind.i64.wrap (-st)), .int .i64 st, .slice (some ⟨W.heap.size, 0, none⟩) 1 1] (W.alloc (.cells #[.int .i64 (IntKind.i64.wrap x)] t)).drew fun e w' => e = .returned (.bool B) ∧ (W.alloc (.cells #[.int .i64 (IntKind.i64.wrap x)] t)).drew = w' := by
  have := within_any (-st) st _ [x] _ ((ints1 W W.heap.size rfl x t).below (w' := (W.alloc (.cells #[.int .i64 x] t)).drew) (by go_grown))
  rw [allIn_one, hB] at this
  rw [h1, h2]
  exact this
set_option maxRecDepth 100000 in
set_option maxHeartbeats 4000000 in
theorem why_succ (st : Int) (pv sv : Value) (l : List Pt) (s : List Int) (k : Nat) (w : World) (hP : PtsAt w pv l) (hS : IntsAt w sv s) (ha : k + 1 < l.length) (hb : k + 1 < s.length) (hsr : ∀ x, x ∈ s → 0 ≤ x ∧ x ≤ 9000) (hst : 0 ≤ st) (hst2 : st ≤ 200) :
    Calls Try.prog 61 #[.agg #[.int .i64 st, pv], sv, .int .i64 ((k + 1 : Nat) : Int)] w fun e w' => e = .returned (.int .i64 (whyV st l[k + 1] s[k + 1] s[k])) ∧ Below w.heap.size w w' := by
  obtain ⟨lp, pa, pc, rfl, _, _⟩ := id hP
  obtain ⟨ls, sa, sc, rfl, _, _⟩ := id hS
  obtain ⟨bl, o, rfl, c0, c1, c2⟩ := hP.get ha
  obtain ⟨bs, os, rfl, d0⟩ := hS.get hb
  obtain ⟨bs', os', e, d1⟩ := hS.get (show k < s.length by omega)
  simp only [Option.some.injEq, Addr.mk.injEq, and_true] at e
  obtain ⟨rfl, rfl⟩ := e
  have hbl : bl < w.heap.size := World.block_lt_of_cell? w ⟨bl, o + (k + 1) * 3, none⟩ c0
  have hbs : bs < w.heap.size := World.block_lt_of_cell? w ⟨bs, os + (k + 1), none⟩ d0
  obtain ⟨z0, z9⟩ := hsr s[k + 1] (List.getElem_mem _)
  obtain ⟨y0, y9⟩ := hsr (s[k]'(by omega)) (List.getElem_mem _)
  have kn : ¬ (k + 1 = 0) := by omega
  have hkI : ((k + 1 : Nat) : Int) = (k : Int) + 1 := by simp
  have aI : (k : Int) + 1 < (l.length : Int) := by omega
  have bI : (k : Int) + 1 < (s.length : Int) := by omega
  have cI : (k : Int) < (s.length : Int) := by omega
  have eI : (k : Int) ≤ 4611686018427387904 := by omega
  rw [hkI]
  clear hkI kn
  have lpI : (l.length : Int) ≤ 4611686018427387904 := by omega
  have lsI : (s.length : Int) ≤ 4611686018427387904 := by omega
  clear hP hS hsr
  generalize l[k + 1] = p at *
  generalize s[k + 1] = x at *
  generalize s[k]'(by omega) = y at *
  obtain ⟨pb, plo, phi⟩ := p
  simp only at c0 c1 c2 ⊢
  have hB : Below w.heap.size w (w.alloc (Obj.cells #[.int .i64 st, .slice (some ⟨bl, o, none⟩) l.length pc] 76)) := by go_grown
  have hA := heap_alloc_new w (Obj.cells #[.int .i64 st, .slice (some ⟨bl, o, none⟩) l.length pc] 76)
  have hbl2 : bl < (w.alloc (Obj.cells #[.int .i64 st, .slice (some ⟨bl, o, none⟩) l.length pc] 76)).heap.size := Nat.lt_of_lt_of_le hbl hB.size
  have hbs2 : bs < (w.alloc (Obj.cells #[.int .i64 st, .slice (some ⟨bl, o, none⟩) l.length pc] 76)).heap.size := Nat.lt_of_lt_of_le hbs hB.size
  have c0 := (hB.cell (p := ⟨bl, o + (k + 1) * 3, none⟩) hbl).trans c0
  have c1 := (hB.cell (p := ⟨bl, o + (k + 1) * 3 + 1, none⟩) hbl).trans c1
  have c2 := (hB.cell (p := ⟨bl, o + (k + 1) * 3 + 2, none⟩) hbl).trans c2
  have d0 := (hB.cell (p := ⟨bs, os + (k + 1), none⟩) hbs).trans d0
  have d1 := (hB.cell (p := ⟨bs, os + k, none⟩) hbs).trans d1
  go_enter Try.func61, Try.ntmps61
  go_upto_region 1 with fail
  have HB := Lib.hid hB
  clear hB
  generalize w.alloc (Obj.cells #[.int .i64 st, .slice (some ⟨bl, o, none⟩) l.length pc] 76) = w0 at *
  have a0 := cellOf hA 0 _ rfl
  have a1 := cellOf hA 1 _ rfl
  have hAlt := lt_of_block hA
  clear hA
  go_region
  have HX := Lib.hid (heap_alloc_new w0 (Obj.cells #[.int .i64 pb, .int .i64 plo, .int .i64 phi] 58))
  have HB1 : Hid (Below w.heap.size w (w0.alloc (Obj.cells #[.int .i64 pb, .int .i64 plo, .int .i64 phi] 58)).drew) := HB.out.trans (by go_grown)
  have HA1 : Hid ((w0.alloc (Obj.cells #[.int .i64 pb, .int .i64 plo, .int .i64 phi] 58)).drew.heap[w0.heap.size]? = _) := HX.out
  have b0 : Below w0.heap.size w0 (w0.alloc (Obj.cells #[.int .i64 pb, .int .i64 plo, .int .i64 phi] 58)).drew := by go_grown
  have a0 := (b0.cell (p := ⟨w.heap.size, 0, none⟩) hAlt).trans a0
  have d0 := (b0.cell (p := ⟨bs, os + (k + 1), none⟩) hbs2).trans d0
  have d1 := (b0.cell (p := ⟨bs, os + k, none⟩) hbs2).trans d1
  clear c0 c1 c2 HX b0 a1 hbl2 hbs2 hAlt
  have hps : w0.heap.size < (w0.alloc (Obj.cells #[.int .i64 pb, .int .i64 plo, .int .i64 phi] 58)).drew.heap.size := by simp
  go_step
  generalize (w0.alloc (Obj.cells #[.int .i64 pb, .int .i64 plo, .int .i64 phi] 58)).drew = w1 at *
  generalize w0.heap.size = bp at *
  have p1 := cellOf HA1.out 1 _ rfl
  have p2 := cellOf HA1.out 2 _ rfl
  by_cases h1 : x < plo
  · have HF : Hid ((whyV st ⟨pb, plo, phi⟩ x y) = 1) := by show _ = _; unfold whyV; rw [if_pos h1]
    go_wp2_with fail
    go_ret
    exact ⟨by rw [HF.out]; rfl, HB1.out⟩
  · have h1' : plo ≤ x := by omega
    by_cases h2 : phi < x
    · have HF : Hid ((whyV st ⟨pb, plo, phi⟩ x y) = 2) := by show _ = _; unfold whyV; rw [if_neg h1, if_pos h2]
      clear h1
      go_wp2_with fail
      go_ret
      exact ⟨by rw [HF.out]; rfl, HB1.out⟩
    · have h2' : x ≤ phi := by omega
      have HN := Lib.hid (And.intro h1 h2)
      clear h1 h2
      obtain ⟨B, HO⟩ : ∃ B, Hid (okIn (-st) st (x - y) = B) := ⟨_, rfl⟩
      have kp : (0 : Int) < (k : Int) + 1 := by omega
      have k0 : (0 : Int) ≤ (k : Int) := by omega
      cases B
      · have HF : Hid ((whyV st ⟨pb, plo, phi⟩ x y) = 3) := by show _ = _; unfold whyV; rw [if_neg HN.out.1, if_neg HN.out.2, if_pos HO.out]
        go_wp2_with fail
        generalize hi : (k : Int) + 1 = i at *
        have wI : IntKind.i64.wrap (i - 1) = (k : Int) := by rw [IntKind.wrap_i64]; omega
        clear hi
        have HWA : Hid (IntKind.i64.wrap (-st) = -st) := by show _ = _; rw [IntKind.wrap_i64]; omega
        have HWB : Hid (IntKind.i64.wrap (x - y) = x - y) := by show _ = _; rw [IntKind.wrap_i64]; omega
        go_region_held3 (fun W' => W'.cell? ⟨w.heap.size, 0, none⟩ = some (.int .i64 st) ∧ W'.cell? ⟨bs, os + k, none⟩ = some (.int .i64 y) ∧ Hid (Below w1.heap.size w1 W'))
          (first | exact ⟨a0, d1, (Below.refl _ _).drew⟩ | assumption | (refine keep2 ?_ ((Below.refl _ _).alloc (Nat.le_refl _) _); assumption) | (exact keep2 ⟨a0, d1, Below.refl _ _⟩ (((Below.refl _ _).alloc (Nat.le_refl _) _).drew)))
          ((go_at_call 49; refine (within_is st (x - y) w1 _ HO.out HWA.out HWB.out).mono ?_; rintro e w' ⟨rfl, rfl⟩))
        all_goals
          go_wp2_with fail
          go_ret
          exact ⟨by rw [HF.out]; rfl, HB1.out.trans (Below.mono (B := w1.heap.size) (by go_grown) HB1.out.size)⟩
      · have HF : Hid ((whyV st ⟨pb, plo, phi⟩ x y) = 0) := by show _ = _; unfold whyV; rw [if_neg HN.out.1, if_neg HN.out.2, HO.out, if_neg (by simp)]
        go_wp2_with fail
        generalize hi : (k : Int) + 1 = i at *
        have wI : IntKind.i64.wrap (i - 1) = (k : Int) := by rw [IntKind.wrap_i64]; omega
        clear hi
        have HWA : Hid (IntKind.i64.wrap (-st) = -st) := by show _ = _; rw [IntKind.wrap_i64]; omega
        have HWB : Hid (IntKind.i64.wrap (x - y) = x - y) := by show _ = _; rw [IntKind.wrap_i64]; omega
        go_region_held3 (fun W' => W'.cell? ⟨w.heap.size, 0, none⟩ = some (.int .i64 st) ∧ W'.cell? ⟨bs, os + k, none⟩ = some (.int .i64 y) ∧ Hid (Below w1.heap.size w1 W'))
          (first | exact ⟨a0, d1, (Below.refl _ _).drew⟩ | assumption | (refine keep2 ?_ ((Below.refl _ _).alloc (Nat.le_refl _) _); assumption) | (exact keep2 ⟨a0, d1, Below.refl _ _⟩ (((Below.refl _ _).alloc (Nat.le_refl _) _).drew)))
          ((go_at_call 49; refine (within_is st (x - y) w1 _ HO.out HWA.out HWB.out).mono ?_; rintro e w' ⟨rfl, rfl⟩))
        all_goals
          go_wp2_with fail
          go_ret
          exact ⟨by rw [HF.out]; rfl, HB1.out.trans (Below.mono (B := w1.heap.size) (by go_grown) HB1.out.size)⟩
end Go.Proofs.Ytnciomoapajonaa
