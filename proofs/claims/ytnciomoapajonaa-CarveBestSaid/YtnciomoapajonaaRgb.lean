/- The reference of package carve: Surface, Wrong, First; good. -/
import Derived.Test.YtnciomoapajonaaCvt
import Derived.Test.YtnciomoapajonaaCvbb
import Derived.Test.YtnciomoapajonaaCxi
import Derived.Test.YtnciomoapajonaaCwf
import Derived.Test.YtnciomoapajonaaByt
import Derived.Test.YtnciomoapajonaaCwh
import Derived.OwnWalk
import Derived.Laws.AppendOwn
import Derived.Test.YtnciomoapajonaaRca
set_option linter.unusedSimpArgs false
set_option linter.unusedVariables false
namespace Go.Proofs.Ytnciomoapajonaa
open Go Go.RowKit Cv

theorem nb_bad (st x : Int) (l : List Pt) (hx : 0 ≤ x) (a b : Nat) (hab : a < b) (hb : b < l.length) : noneB ⟨st, l⟩ x a b = badB x l (a, b) := by
  unfold noneB badB farL his los
  have ha : a < l.length := by omega
  have e : steps a b = (b : Int) - a := by unfold steps; omega
  have hm : 0 ≤ x * ((b : Int) - a) := Int.mul_nonneg hx (by omega)
  simp only [e]
  generalize x * ((b : Int) - a) = m at *
  simp [List.getD_eq_getElem?_getD, ha, hb]
  rw [← Bool.decide_or, decide_eq_decide]
  omega
theorem nb_self (st x : Int) (l : List Pt) (hok : ∀ p, p ∈ l → PtOk p) (a : Nat) (ha : a < l.length) : noneB ⟨st, l⟩ x a a = false := by
  unfold noneB his los
  have := (hok l[a] (List.getElem_mem _)).le
  rw [steps_self, Int.mul_zero]
  simp [List.getD_eq_getElem?_getD, ha]
  omega

theorem firstW_zero (f : Nat → Int) : ∀ g k, (firstW f k g).2 = 0 ↔ ∀ j, k ≤ j → j < k + g → f j = 0 := by
  intro g
  induction g with
  | zero => intro k; exact ⟨fun _ j h1 h2 => absurd h2 (by omega), fun _ => rfl⟩
  | succ g ih =>
    intro k
    rw [firstW]
    by_cases h : f k = 0
    · rw [if_pos h, ih]
      constructor
      · intro q j h1 h2
        by_cases e : j = k
        · rw [e]; exact h
        · exact q j (by omega) (by omega)
      · intro q j h1 h2
        exact q j (by omega) (by omega)
    · rw [if_neg h]
      exact ⟨fun q => absurd q h, fun q => absurd (q k (Nat.le_refl _) (by omega)) h⟩
theorem whyV0_zero (p : Pt) (x : Int) : whyV0 p x = 0 ↔ p.lo ≤ x ∧ x ≤ p.hi := by
  unfold whyV0
  split
  · omega
  · split <;> omega
theorem whyV_zero (st : Int) (p : Pt) (x y : Int) : whyV st p x y = 0 ↔ p.lo ≤ x ∧ x ≤ p.hi ∧ y - st ≤ x ∧ x - st ≤ y := by
  unfold whyV okIn
  split
  · omega
  · split
    · omega
    · split
      · rename_i h
        simp only [Bool.and_eq_false_iff, decide_eq_false_iff_not] at h
        omega
      · rename_i h
        simp only [Bool.and_eq_false_iff, decide_eq_false_iff_not] at h
        omega
/-- Whether a surface has no point that is not good. -/
def goodV (r : Row) (s : List Int) : Bool := decide ((firstW (whyAt r.st r.pts s) 0 s.length).2 = 0)
theorem goodV_iff (r : Row) (s : List Int) (hl : s.length = r.pts.length) : goodV r s = true ↔ GoodL r.st none r.pts s := by
  unfold goodV
  rw [decide_eq_true_iff, firstW_zero, goodL_iff]
  constructor
  · intro h
    refine ⟨hl, fun k hk => ?_, fun k hk => ?_, fun _ => rfl⟩
    · have := h k (Nat.zero_le _) (by omega)
      cases k with
      | zero => exact (whyV0_zero _ _).1 this
      | succ k => have := (whyV_zero _ _ _ _).1 this; exact ⟨this.1, this.2.1⟩
    · have := (whyV_zero _ _ _ _).1 (h (k + 1) (Nat.zero_le _) (by omega))
      exact ⟨this.2.2.1, this.2.2.2⟩
  · rintro ⟨_, h1, h2, _⟩ j _ hj
    cases j with
    | zero => exact (whyV0_zero _ _).2 (h1 0 (by omega))
    | succ k => exact (whyV_zero _ _ _ _).2 ⟨(h1 (k + 1) (by omega)).1, (h1 (k + 1) (by omega)).2, (h2 k (by omega)).1, (h2 k (by omega)).2⟩
theorem find_some_mem {α : Type} (p : α → Bool) (l : List α) (x : α) (h : l.find? p = some x) : x ∈ l ∧ p x = true := ⟨List.mem_of_find?_eq_some h, List.find?_some h⟩
/-- What Prevents names of a row without an error. -/
theorem prev_cases (r : Row) (h : errR r = 0) : (prevR r = (0, 0, 4) ∧ (boundsR r).2 = 0 ∧ crossB r = false) ∨
    ∃ a b : Nat, a < b ∧ b < r.pts.length ∧ prevR r = ((a : Int), (b : Int), 0) ∧ (boundsR r).2 = 9 ∧ r.st * ((b : Int) - a) < farL r.pts a b ∧ crossB r = true := by
  have hv := (check_valid r).1 h
  obtain ⟨st, l⟩ := r
  have hc := cross_fits ⟨st, l⟩ hv.s0
  have hn := none_fits ⟨st, l⟩ st
  simp only at hn
  unfold prevR boundsR boundE
  simp only [if_pos h]
  cases hf : (pairsL l.length).find? (badB st l) with
  | none =>
    have hall := List.find?_eq_none.1 hf
    have hcr : crossB ⟨st, l⟩ = false := by
      refine hc.2 (hn.1 fun a b hab hb => ?_)
      rcases Nat.lt_or_ge a b with q | q
      · rw [nb_bad st st l hv.s0 a b q hb]
        have := hall (a, b) ((mem_pairsL _ _).2 ⟨q, hb⟩)
        simpa using this
      · obtain rfl : a = b := by omega
        exact nb_self st st l hv.ok a hb
    rw [hcr]
    exact .inl ⟨rfl, rfl, rfl⟩
  | some p =>
    obtain ⟨hm, hb⟩ := find_some_mem _ _ _ hf
    obtain ⟨a, b⟩ := p
    have hm' := (mem_pairsL _ _).1 hm
    simp only at hm'
    have hcr : crossB ⟨st, l⟩ = true := by
      rw [← Bool.not_eq_false]
      intro q
      have := (hn.2 (hc.1 q)) a b (by omega) hm'.2
      rw [nb_bad st st l hv.s0 a b hm'.1 hm'.2, hb] at this
      cases this
    rw [hcr]
    refine .inr ⟨a, b, hm'.1, hm'.2, rfl, rfl, ?_, rfl⟩
    simpa [badB] using hb
theorem no_good (r : Row) (h : errR r = 0) (hc : crossB r = true) (s : List Int) (hl : s.length = r.pts.length) : goodV r s = false := by
  rw [← Bool.not_eq_true]
  intro q
  have := (good_iff r ((check_valid r).1 h).s0).2 ⟨s, (goodV_iff r s hl).1 q⟩
  rw [hc] at this
  cases this
end Go.Proofs.Ytnciomoapajonaa
namespace Go.Proofs.Ytnciomoapajonaa
open Go Go.RowKit Cv

/-- What a call of Any leaves: a list of its own, as long as the points, of heights. -/
def AnyP (n : Nat) (w : World) (e : Ending) (w' : World) : Prop := ∃ v s, e = .returned v ∧ s.length = n ∧ (∀ x, x ∈ s → 0 ≤ x ∧ x ≤ 9000) ∧ IntsAt w' v s ∧ Below w.heap.size w w'
set_option maxRecDepth 100000 in
set_option maxHeartbeats 4000000 in
theorem any_any (r : Row) (pv xv : Value) (l : List Nat) (w : World) (hP : PtsAt w pv r.pts) (hx : U8At w xv l) (hv : Valid r) :
    Calls Try.prog 41 #[.agg #[.int .i64 r.st, pv], xv] w (AnyP r.pts.length w) := by
  obtain ⟨i0, hi0⟩ := info_of_underlying Try.underlying3
  have HI : Hid (i0.zero = some (.int .i64 0) ∧ i0.size = 1 ∧ i0.bytes = 8) := by
    have h := intInfo
    rw [hi0] at h
    simp at h
    exact h
  obtain ⟨st, pts⟩ := r
  simp only at hP ⊢
  obtain ⟨lp, pa, pc, rfl, _, _⟩ := id hP
  have HS0 : 0 ≤ st := hv.s0
  have HS2 : st ≤ 200 := hv.s200
  have h10 : pts.length ≤ 10 := hv.n10
  have HOK := Lib.hid hv.ok
  have B0 : Below w.heap.size w (w.alloc (Obj.cells #[.int .i64 st, .slice pa pts.length pc] 24)) := by go_grown
  have HA := Lib.hid (heap_alloc_new w (Obj.cells #[.int .i64 st, .slice pa pts.length pc] 24))
  have HX := Lib.hid (hx.below B0)
  have HP := Lib.hid (hP.below B0)
  have HB := Lib.hid B0
  obtain ⟨_, xa, xc, rfl, _⟩ := id hx
  clear B0 hx hP hv
  have pI : (pts.length : Int) ≤ 10 := by omega
  go_enter Try.func41, Try.ntmps41
  go_wp2
  generalize w.alloc (Obj.cells #[.int .i64 st, .slice pa pts.length pc] 24) = W at *
  have hAlt := lt_of_block HA.out
  go_loopw [5, 6] (fun v i wr => ∃ (k : Nat) (s : List Int) (m : Nat) (sa : Option Addr) (sc : Nat), k ≤ pts.length ∧ Hid (m = k) ∧ Hid (s.length = k) ∧ i = .int .i64 k ∧ v = .slice sa m sc ∧ wr.ownsRow W.heap.size 3 1 v m (s.map (Value.int .i64)) ∧ Hid (∀ x, x ∈ s → 0 ≤ x ∧ x ≤ 9000) ∧ Hid (Below W.heap.size W wr)) (fun _ i _ => pts.length - (intOf i).toNat)
  case atStart => exact ⟨0, [], 0, none, 0, Nat.zero_le _, rfl, rfl, rfl, rfl, World.ownsRow_nil _ _ _ _, fun _ h => by (cases h), Below.refl _ _⟩
  case round =>
    obtain ⟨k, s, m, sa, sc, hk, hmk, hsl, rfl, rfl, hown, HSR, HBk⟩ := hrel
    have hAk := Lib.hid ((HBk.out.block _ hAlt).trans HA.out)
    have hs2 := HBk.out.size
    by_cases hlt : k < pts.length
    · have kl : (k : Int) < (pts.length : Int) := by omega
      have k8 : (k : Int) ≤ 9 := by omega
      obtain ⟨b, o, rfl, c0, c1, c2⟩ := (HP.out.below HBk.out).get hlt
      obtain ⟨_, _, pl0, pl9, ph0, ph9, plh, _⟩ := HOK.out pts[k] (List.getElem_mem _)
      generalize pts[k] = p at *
      obtain ⟨bd, lo, hi⟩ := p
      simp only at c0 c1 c2 pl0 pl9 ph0 ph9 plh
      have a0 := cellOf hAk.out 0 _ rfl
      have a1 := cellOf hAk.out 1 _ rfl
      have al := lt_of_block hAk.out
      cases k with
      | zero =>
        simp only [Nat.zero_mul, Nat.add_zero] at c0 c1 c2
        clear k8
        have kl : (0 : Int) < (pts.length : Int) := by omega
        have wn := Lib.hid (heap_alloc_new wr (Obj.cells #[.int .i64 bd, .int .i64 lo, .int .i64 hi] 58))
        have e1 := cellOf wn.out 1 _ rfl
        have e2 := cellOf wn.out 2 _ rfl
        have el := lt_of_block wn.out
        go_wp2_with fail
        have hBp : Below wr.heap.size wr (wr.alloc (Obj.cells #[.int .i64 bd, .int .i64 lo, .int .i64 hi] 58)) := by go_grown
        have hownA := Lib.hid (hown.alloc (Obj.cells #[.int .i64 bd, .int .i64 lo, .int .i64 hi] 58))
        have HBp := Lib.hid hBp
        clear hBp hown a0 a1 al c0 c1 c2
        generalize wr.alloc (Obj.cells #[.int .i64 bd, .int .i64 lo, .int .i64 hi] 58) = wp at *
        go_quiet (fail)
        go_wp2_with fail
        have hz := turnS_le HX.out 0
        have HTN : Hid (∀ n, Calls Try.prog 74 #[.slice xa l.length xc, .int .i64 0] (wp.drewN n) fun e w' => e = .returned (.int .i64 (turnS l 0)) ∧ w'.ownsRow W.heap.size 3 1 (.slice sa m sc) m (s.map (Value.int .i64)) ∧ Below W.heap.size W w') := fun n =>
          (turn_any (.slice xa l.length xc) l 0 (wp.drewN n) (((HX.out.below HBk.out).below HBp.out).below (w' := wp.drewN n) ⟨rfl, rfl, rfl, Nat.le_refl _, fun _ _ => rfl⟩) (by omega)).mono (by
            rintro e w' ⟨rfl, rfl⟩
            exact ⟨rfl, own_below hownA.out ⟨rfl, rfl, rfl, Nat.le_refl _, fun _ _ => rfl⟩, (HBk.out.trans (HBp.out.mono hs2)).trans (Below.mono (B := wp.heap.size) (w' := wp.drewN n) ⟨rfl, rfl, rfl, Nat.le_refl _, fun _ _ => rfl⟩ (by have := HBp.out.size; omega))⟩)
        generalize turnS l 0 = z at *
        have zI : (z : Int) ≤ 255 := by omega
        have dpos : (1 : Int) ≤ hi - lo + 1 := by omega
        have dz : (hi - lo + 1 == 0) = false := by rw [beq_eq_false_iff_ne]; omega
        have em : (z : Int).tmod (hi - lo + 1) = (z : Int) % (hi - lo + 1) := Int.tmod_eq_emod_of_nonneg (by omega)
        have em0 : 0 ≤ (z : Int) % (hi - lo + 1) := Int.emod_nonneg _ (by omega)
        have em1 : (z : Int) % (hi - lo + 1) < hi - lo + 1 := Int.emod_lt_of_pos _ (by omega)
        obtain ⟨d, hd⟩ : ∃ d : Int, (z : Int) % (hi - lo + 1) = d := ⟨_, rfl⟩
        rw [hd] at em em0 em1
        clear hd
        refine (HTN.out _).mono ?_
        rintro e wq ⟨rfl, hownQ, hBq⟩
        clear HTN
        have hownB := Lib.hid (hownQ.alloc (Obj.cells #[.int .i64 (lo + d)] 3))
        have HBq := Lib.hid hBq
        clear hBq
        clear hownQ hownA HBp wn e1 e2 el
        go_wp2_with (first
          | (at_builtin; refine wpList_append_own _ rfl _ _ 36 rfl W.heap.size 3 i0 (.int .i64 0) 1 8 Try.underlying36 hi0 HI.out.1 HI.out.2.1 HI.out.2.2 rfl (by decide) _ _ _ rfl hownB.out ⟨wq.heap.size, 0, none⟩ 1 1 [.int .i64 (lo + d)] rfl rfl ?c1 ?c2 ?c3 ?c4 ?c5 ?_))
        case c1 =>
          intro j u hj
          match j, hj with
          | 0, hj => simp at hj; subst hj; simp [Addr.add]
        case c2 => intro u hu; simp at hu; subst hu; rfl
        case c3 => have := hmk.out; unfold maxLen; omega
        case c4 => have := hmk.out; omega
        case c5 => have := HBq.out.size; simp; omega
        · intro v' w3 hown3 hgrow _
          have hB3 : Below W.heap.size W w3 := (HBq.out.alloc HBq.out.size (Obj.cells #[.int .i64 (lo + d)] 3)).grown hgrow (by simp; have := HBq.out.size; omega) (fun g hg => (hownB.out.lt g hg).1)
          obtain ⟨sa', sc', rfl⟩ := own_slice hown3
          have HB3 := Lib.hid hB3
          have HMK : Hid (m + 1 = 0 + 1) := by show _ = _; rw [hmk.out]
          have HSL : Hid ((s ++ [(lo + d)]).length = 0 + 1) := by show _ = _; rw [List.length_append, hsl.out]; rfl
          have HSR' : Hid (∀ x, x ∈ s ++ [(lo + d)] → 0 ≤ x ∧ x ≤ 9000) := by
            intro x hx
            rcases List.mem_append.1 hx with h | h
            · exact HSR.out x h
            · simp only [List.mem_singleton] at h; subst h; omega
          have ho3 : w3.ownsRow W.heap.size 3 1 (.slice sa' (m + 1) sc') (m + 1) ((s ++ [(lo + d)]).map (Value.int .i64)) := by
            rw [List.map_append]
            exact hown3
          clear hgrow hownB hB3 hown3
          go_wp2
          go_round
          case rel => exact ⟨0 + 1, s ++ [(lo + d)], m + 1, sa', sc', by omega, HMK, HSL, by go_num, rfl, ho3, HSR', HB3⟩
          case measure => simp [intOf]; omega
      | succ k =>
        simp only [Int.natCast_add, Int.natCast_one] at kl k8 c0 c1 c2
        have hks : k < s.length := by rw [hsl.out]; omega
        obtain ⟨ob, oo, hsa, d0⟩ := (intsAt_own (l := s) (by rw [hsl.out, ← hmk.out]; exact hown) (by rw [hsl.out]; omega)).get hks
        obtain ⟨y0, y9⟩ := HSR.out s[k] (List.getElem_mem hks)
        generalize s[k] = y at *
        subst hsa
        have wn := Lib.hid (heap_alloc_new wr (Obj.cells #[.int .i64 bd, .int .i64 lo, .int .i64 hi] 58))
        have e1 := cellOf wn.out 1 _ rfl
        have e2 := cellOf wn.out 2 _ rfl
        have el := lt_of_block wn.out
        have dl := World.block_lt_of_cell? wr ⟨ob, oo + k, none⟩ d0
        have kp : (0 : Int) < (k : Int) + 1 := by omega
        have hmI : (m : Int) = (k : Int) + 1 := by have := hmk.out; omega
        go_wp2_with fail
        have hBp : Below wr.heap.size wr (wr.alloc (Obj.cells #[.int .i64 bd, .int .i64 lo, .int .i64 hi] 58)) := by go_grown
        have hownA := Lib.hid (hown.alloc (Obj.cells #[.int .i64 bd, .int .i64 lo, .int .i64 hi] 58))
        have HBp := Lib.hid hBp
        have d0 := (hBp.cell (p := ⟨ob, oo + k, none⟩) dl).trans d0
        have a0 := (hBp.cell (p := ⟨w.heap.size, 0, none⟩) al).trans a0
        clear hBp hown a1 al dl c0 c1 c2
        generalize wr.alloc (Obj.cells #[.int .i64 bd, .int .i64 lo, .int .i64 hi] 58) = wp at *
        go_quiet (fail)
        go_wp2_with fail
        go_quiet (fail)
        have hL1 : lo ≤ max lo (y - st) := by omega
        have hH1 : min hi (y + st) ≤ hi := by omega
        generalize max lo (y - st) = L at *
        generalize min hi (y + st) = H at *
        clear d0 a0
        by_cases hLH : H < L
        · go_wp2_with fail
          go_quiet (fail)
          go_wp2_with fail
          have hz := turnS_le HX.out (k + 1)
          have HTN : Hid (∀ n, Calls Try.prog 74 #[.slice xa l.length xc, .int .i64 ((k : Int) + 1)] (wp.drewN n) fun e w' => e = .returned (.int .i64 (turnS l (k + 1))) ∧ w'.ownsRow W.heap.size 3 1 (.slice (some ⟨ob, oo, none⟩) m sc) m (s.map (Value.int .i64)) ∧ Below W.heap.size W w') := fun n =>
            (turn_any (.slice xa l.length xc) l (k + 1) (wp.drewN n) (((HX.out.below HBk.out).below HBp.out).below (w' := wp.drewN n) ⟨rfl, rfl, rfl, Nat.le_refl _, fun _ _ => rfl⟩) (by omega)).mono (by
              rintro e w' ⟨rfl, rfl⟩
              exact ⟨rfl, own_below hownA.out ⟨rfl, rfl, rfl, Nat.le_refl _, fun _ _ => rfl⟩, (HBk.out.trans (HBp.out.mono hs2)).trans (Below.mono (B := wp.heap.size) (w' := wp.drewN n) ⟨rfl, rfl, rfl, Nat.le_refl _, fun _ _ => rfl⟩ (by have := HBp.out.size; omega))⟩)
          generalize turnS l (k + 1) = z at *
          have zI : (z : Int) ≤ 255 := by omega
          refine (HTN.out _).mono ?_
          rintro e wq ⟨rfl, hownQ, hBq⟩
          clear HTN
          have hownB := Lib.hid (hownQ.alloc (Obj.cells #[.int .i64 lo] 3))
          have HBq := Lib.hid hBq
          clear hBq
          clear hownQ hownA HBp wn e1 e2 el
          go_wp2_with (first
            | (at_builtin; refine wpList_append_own _ rfl _ _ 36 rfl W.heap.size 3 i0 (.int .i64 0) 1 8 Try.underlying36 hi0 HI.out.1 HI.out.2.1 HI.out.2.2 rfl (by decide) _ _ _ rfl hownB.out ⟨wq.heap.size, 0, none⟩ 1 1 [.int .i64 lo] rfl rfl ?c1 ?c2 ?c3 ?c4 ?c5 ?_))
          case c1 =>
            intro j u hj
            match j, hj with
            | 0, hj => simp at hj; subst hj; simp [Addr.add]
          case c2 => intro u hu; simp at hu; subst hu; rfl
          case c3 => have := hmk.out; unfold maxLen; omega
          case c4 => have := hmk.out; omega
          case c5 => have := HBq.out.size; simp; omega
          · intro v' w3 hown3 hgrow _
            have hB3 : Below W.heap.size W w3 := (HBq.out.alloc HBq.out.size (Obj.cells #[.int .i64 lo] 3)).grown hgrow (by simp; have := HBq.out.size; omega) (fun g hg => (hownB.out.lt g hg).1)
            obtain ⟨sa', sc', rfl⟩ := own_slice hown3
            have HB3 := Lib.hid hB3
            have HMK : Hid (m + 1 = (k + 1) + 1) := by show _ = _; rw [hmk.out]
            have HSL : Hid ((s ++ [lo]).length = (k + 1) + 1) := by show _ = _; rw [List.length_append, hsl.out]; rfl
            have HSR' : Hid (∀ x, x ∈ s ++ [lo] → 0 ≤ x ∧ x ≤ 9000) := by
              intro x hx
              rcases List.mem_append.1 hx with h | h
              · exact HSR.out x h
              · simp only [List.mem_singleton] at h; subst h; omega
            have ho3 : w3.ownsRow W.heap.size 3 1 (.slice sa' (m + 1) sc') (m + 1) ((s ++ [lo]).map (Value.int .i64)) := by
              rw [List.map_append]
              exact hown3
            clear hgrow hownB hB3 hown3
            go_wp2
            go_round
            case rel => exact ⟨(k + 1) + 1, s ++ [lo], m + 1, sa', sc', by omega, HMK, HSL, by go_num, rfl, ho3, HSR', HB3⟩
            case measure => simp [intOf]; omega
        · have hL0 : 0 ≤ L := by omega
          have hL9 : L ≤ 9000 := by omega
          have hH0 : 0 ≤ H := by omega
          have hH9 : H ≤ 9000 := by omega
          clear hL1 hH1
          have hLH' : L ≤ H := by omega
          go_wp2_with fail
          have hz := turnS_le HX.out (k + 1)
          have HTN : Hid (∀ n, Calls Try.prog 74 #[.slice xa l.length xc, .int .i64 ((k : Int) + 1)] (wp.drewN n) fun e w' => e = .returned (.int .i64 (turnS l (k + 1))) ∧ w'.ownsRow W.heap.size 3 1 (.slice (some ⟨ob, oo, none⟩) m sc) m (s.map (Value.int .i64)) ∧ Below W.heap.size W w') := fun n =>
            (turn_any (.slice xa l.length xc) l (k + 1) (wp.drewN n) (((HX.out.below HBk.out).below HBp.out).below (w' := wp.drewN n) ⟨rfl, rfl, rfl, Nat.le_refl _, fun _ _ => rfl⟩) (by omega)).mono (by
              rintro e w' ⟨rfl, rfl⟩
              exact ⟨rfl, own_below hownA.out ⟨rfl, rfl, rfl, Nat.le_refl _, fun _ _ => rfl⟩, (HBk.out.trans (HBp.out.mono hs2)).trans (Below.mono (B := wp.heap.size) (w' := wp.drewN n) ⟨rfl, rfl, rfl, Nat.le_refl _, fun _ _ => rfl⟩ (by have := HBp.out.size; omega))⟩)
          generalize turnS l (k + 1) = z at *
          have zI : (z : Int) ≤ 255 := by omega
          have dpos : (1 : Int) ≤ H - L + 1 := by omega
          have dz : (H - L + 1 == 0) = false := by rw [beq_eq_false_iff_ne]; omega
          have em : (z : Int).tmod (H - L + 1) = (z : Int) % (H - L + 1) := Int.tmod_eq_emod_of_nonneg (by omega)
          have em0 : 0 ≤ (z : Int) % (H - L + 1) := Int.emod_nonneg _ (by omega)
          have em1 : (z : Int) % (H - L + 1) < H - L + 1 := Int.emod_lt_of_pos _ (by omega)
          obtain ⟨d, hd⟩ : ∃ d : Int, (z : Int) % (H - L + 1) = d := ⟨_, rfl⟩
          rw [hd] at em em0 em1
          clear hd
          refine (HTN.out _).mono ?_
          rintro e wq ⟨rfl, hownQ, hBq⟩
          clear HTN
          have hownB := Lib.hid (hownQ.alloc (Obj.cells #[.int .i64 (L + d)] 3))
          have HBq := Lib.hid hBq
          clear hBq
          clear hownQ hownA HBp wn e1 e2 el
          go_wp2_with (first
            | (at_builtin; refine wpList_append_own _ rfl _ _ 36 rfl W.heap.size 3 i0 (.int .i64 0) 1 8 Try.underlying36 hi0 HI.out.1 HI.out.2.1 HI.out.2.2 rfl (by decide) _ _ _ rfl hownB.out ⟨wq.heap.size, 0, none⟩ 1 1 [.int .i64 (L + d)] rfl rfl ?c1 ?c2 ?c3 ?c4 ?c5 ?_))
          case c1 =>
            intro j u hj
            match j, hj with
            | 0, hj => simp at hj; subst hj; simp [Addr.add]
          case c2 => intro u hu; simp at hu; subst hu; rfl
          case c3 => have := hmk.out; unfold maxLen; omega
          case c4 => have := hmk.out; omega
          case c5 => have := HBq.out.size; simp; omega
          · intro v' w3 hown3 hgrow _
            have hB3 : Below W.heap.size W w3 := (HBq.out.alloc HBq.out.size (Obj.cells #[.int .i64 (L + d)] 3)).grown hgrow (by simp; have := HBq.out.size; omega) (fun g hg => (hownB.out.lt g hg).1)
            obtain ⟨sa', sc', rfl⟩ := own_slice hown3
            have HB3 := Lib.hid hB3
            have HMK : Hid (m + 1 = (k + 1) + 1) := by show _ = _; rw [hmk.out]
            have HSL : Hid ((s ++ [(L + d)]).length = (k + 1) + 1) := by show _ = _; rw [List.length_append, hsl.out]; rfl
            have HSR' : Hid (∀ x, x ∈ s ++ [(L + d)] → 0 ≤ x ∧ x ≤ 9000) := by
              intro x hx
              rcases List.mem_append.1 hx with h | h
              · exact HSR.out x h
              · simp only [List.mem_singleton] at h; subst h; omega
            have ho3 : w3.ownsRow W.heap.size 3 1 (.slice sa' (m + 1) sc') (m + 1) ((s ++ [(L + d)]).map (Value.int .i64)) := by
              rw [List.map_append]
              exact hown3
            clear hgrow hownB hB3 hown3
            go_wp2
            go_round
            case rel => exact ⟨(k + 1) + 1, s ++ [(L + d)], m + 1, sa', sc', by omega, HMK, HSL, by go_num, rfl, ho3, HSR', HB3⟩
            case measure => simp [intOf]; omega
    · obtain rfl : k = pts.length := by omega
      have HIN : Hid (IntsAt wr (.slice sa m sc) s) := intsAt_own (by rw [hsl.out, ← hmk.out]; exact hown) (by rw [hsl.out]; omega)
      have hBB := Lib.hid (HB.out.trans (HBk.out.mono HB.out.size))
      clear hlt
      have a1 := cellOf hAk.out 1 _ rfl
      go_wp2
      go_ret
      exact ⟨_, s, rfl, hsl.out, HSR.out, HIN.out, hBB.out⟩
end Go.Proofs.Ytnciomoapajonaa
namespace Go.Proofs.Ytnciomoapajonaa
open Go Go.RowKit Cv

theorem firstE_no (s : List Int) (n : Nat) (h : s.length = n) (k : Nat) (hk : k < s.length) (hb : s[k] < 0 ∨ 9000 < s[k]) : surfE s n = 7 := by
  unfold surfE
  rw [if_neg (by simp [h]), if_pos (allIn_not 0 9000 s k hk hb)]
theorem firstE_ok (s : List Int) (n : Nat) (h : s.length = n) (ha : allIn 0 9000 s = true) : surfE s n = 0 := by
  unfold surfE
  rw [if_neg (by simp [h]), if_neg (by simp [ha])]
set_option maxRecDepth 100000 in
set_option maxHeartbeats 4000000 in
theorem surface_any (r : Row) (pv sv : Value) (s : List Int) (w : World) (hP : PtsAt w pv r.pts) (hS : IntsAt w sv s) :
    Calls Try.prog 62 #[.agg #[.int .i64 r.st, pv], sv] w fun e w' => e = .returned (.int .i64 (surfR r s)) ∧ Below w.heap.size w w' := by
  obtain ⟨st, pts⟩ := r
  simp only at hP ⊢
  obtain ⟨lp, pa, pc, rfl, _, _⟩ := id hP
  obtain ⟨ls, sa, sc, rfl, _, _⟩ := id hS
  have HP := Lib.hid hP
  have HS := Lib.hid hS
  clear hP hS
  have HW0 : Hid (Below w.heap.size w (w.alloc (Obj.cells #[.int .i64 st, .slice pa pts.length pc] 24))) := by show Below _ _ _; go_grown
  have HRB := Lib.hid (heap_alloc_new w (Obj.cells #[.int .i64 st, .slice pa pts.length pc] 24))
  have HC := Lib.hid (rcheck_any ⟨st, pts⟩ (.slice pa pts.length pc) (w.alloc (Obj.cells #[.int .i64 st, .slice pa pts.length pc] 24)) (HP.out.below HW0.out))
  obtain ⟨c1, HC1⟩ : ∃ c, Hid ((checkR ⟨st, pts⟩).1 = c) := ⟨_, rfl⟩
  obtain ⟨c2, HC2⟩ : ∃ c, Hid ((checkR ⟨st, pts⟩).2.1 = c) := ⟨_, rfl⟩
  obtain ⟨c3, HC3⟩ : ∃ c, Hid ((checkR ⟨st, pts⟩).2.2 = c) := ⟨_, rfl⟩
  have HE : Hid (errR ⟨st, pts⟩ = c3) := by show _ = _; unfold errR; rw [HC3.out]
  rw [HC1.out, HC2.out, HC3.out] at HC
  clear HC1 HC2 HC3
  have spI : (pts.length : Int) ≤ 4611686018427387904 := by omega
  have ssI : (s.length : Int) ≤ 4611686018427387904 := by omega
  go_enter Try.func62, Try.ntmps62
  go_wp2_with fail
  refine HC.out.mono ?_
  rintro e w0 ⟨rfl, hb⟩
  have HB0 := Lib.hid (HW0.out.trans (hb.mono HW0.out.size))
  have HR0 := Lib.hid ((hb.block _ (lt_of_block HRB.out)).trans HRB.out)
  have HS0 := Lib.hid (HS.out.below HB0.out)
  clear hb HC HRB HW0
  have r0 := cellOf HR0.out 0 _ rfl
  have r1 := cellOf HR0.out 1 _ rfl
  by_cases hz : c3 = 0
  · subst hz
    by_cases hl : s.length = pts.length
    · have tl : ((s.length : Int) != (pts.length : Int)) = false := by simp [hl]
      have HF : Hid (surfR ⟨st, pts⟩ s = surfE s pts.length) := by show _ = _; unfold surfR; rw [if_neg (by rw [HE.out]; simp)]
      have HL := Lib.hid hl
      clear hl
      go_wp2_with fail
      clear r0 r1 tl
      go_loopg [7, 8] s.length (fun g v i wr => ∃ k : Nat, g + k = s.length ∧ i = .int .i64 k ∧ ((v = .int .i64 0 ∧ Hid (allIn 0 9000 (s.take k) = true)) ∨ (v = .int .i64 7 ∧ Hid (surfE s pts.length = 7))) ∧ Hid (w0 = wr))
      case atStart => exact ⟨0, rfl, rfl, .inl ⟨rfl, rfl⟩, rfl⟩
      case round =>
        obtain ⟨k, hk, rfl, hv, HWR⟩ := hrel
        obtain rfl := HWR.out
        rcases hv with ⟨rfl, HA⟩ | ⟨rfl, HA⟩
        · by_cases hlt : k < s.length
          · have kI : (k : Int) < (s.length : Int) := by omega
            obtain ⟨b, o, rfl, hd⟩ := HS0.out.get hlt
            obtain ⟨B, HB⟩ : ∃ B, Hid (okIn 0 9000 s[k] = B) := ⟨okIn 0 9000 s[k], rfl⟩
            have HX : Hid (B = false → surfE s pts.length = 7) := fun hB => firstE_no s pts.length HL.out k hlt (by have := HB.out; rw [hB] at this; unfold okIn at this; simp only [Bool.and_eq_false_iff, decide_eq_false_iff_not] at this; omega)
            have HN : Hid (B = true → allIn 0 9000 (s.take (k + 1)) = true) := fun hB => allIn_more 0 9000 s k hlt HA.out (by have := HB.out; rw [hB] at this; unfold okIn at this; simp only [Bool.and_eq_true, decide_eq_true_eq] at this; omega) (by have := HB.out; rw [hB] at this; unfold okIn at this; simp only [Bool.and_eq_true, decide_eq_true_eq] at this; omega)
            clear HA
            generalize s[k] = x at *
            go_wp2_with fail
            refine (rin_any _ _ _ _).mono ?_
            rintro e w' ⟨rfl, rfl⟩
            rw [HB.out]
            cases B
            · have HY := Lib.hid (HX.out rfl)
              clear HX HN
              go_wp2
              go_roundg (gk - 1)
              case measure => omega
              case rel => exact ⟨k + 1, by omega, by go_num, .inr ⟨rfl, HY.out⟩, rfl⟩
            · have HY := Lib.hid (HN.out rfl)
              clear HX HN
              go_wp2
              go_roundg (gk - 1)
              case measure => omega
              case rel => exact ⟨k + 1, by omega, by go_num, .inl ⟨rfl, HY.out⟩, rfl⟩
          · have HX : Hid (surfE s pts.length = 0) := firstE_ok s pts.length HL.out (by have := HA.out; rwa [List.take_of_length_le (by omega)] at this)
            obtain rfl : k = s.length := by omega
            clear hlt hk HA
            go_wp2
            go_ret
            exact ⟨by rw [HF.out, HX.out]; rfl, HB0.out⟩
        · by_cases hlt : k < s.length
          · have kI : (k : Int) < (s.length : Int) := by omega
            go_wp2
            go_ret
            exact ⟨by rw [HF.out, HA.out]; rfl, HB0.out⟩
          · obtain rfl : k = s.length := by omega
            clear hlt hk
            go_wp2
            go_ret
            exact ⟨by rw [HF.out, HA.out]; rfl, HB0.out⟩
    · have tl : ((s.length : Int) != (pts.length : Int)) = true := by simp; omega
      have HF : Hid (surfR ⟨st, pts⟩ s = 3) := by show _ = _; unfold surfR surfE; rw [if_neg (by rw [HE.out]; simp), if_pos hl]
      clear hl
      go_wp2_with fail
      clear r0 r1 tl
      go_loopg [7, 8] 1 (fun g v i wr => v = .int .i64 3 ∧ i = .int .i64 0 ∧ Hid (w0 = wr))
      case atStart => exact ⟨rfl, rfl, rfl⟩
      case round =>
        obtain ⟨rfl, rfl, HWR⟩ := hrel
        obtain rfl := HWR.out
        by_cases hlt : (0 : Int) < (s.length : Int)
        · go_wp2
          go_ret
          exact ⟨by rw [HF.out]; rfl, HB0.out⟩
        · go_wp2
          go_ret
          exact ⟨by rw [HF.out]; rfl, HB0.out⟩
  · have HF : Hid (surfR ⟨st, pts⟩ s = c3) := by show _ = _; unfold surfR; rw [if_pos (by rw [HE.out]; exact hz), HE.out]
    have tz : (c3 == 0) = false := by simp [hz]
    go_wp2_with fail
    clear r0 r1
    go_loopg [7, 8] 1 (fun g v i wr => v = .int .i64 c3 ∧ i = .int .i64 0 ∧ Hid (w0 = wr))
    case atStart => exact ⟨rfl, rfl, rfl⟩
    case round =>
      obtain ⟨rfl, rfl, HWR⟩ := hrel
      obtain rfl := HWR.out
      by_cases hlt : (0 : Int) < (s.length : Int)
      · go_wp2
        go_ret
        exact ⟨by rw [HF.out]; rfl, HB0.out⟩
      · go_wp2
        go_ret
        exact ⟨by rw [HF.out]; rfl, HB0.out⟩

/-- Why a height behind others is not good. -/
def whyB (st : Int) (l : List Pt) (bl : List Int) (x : Int) : Int :=
  if bl.length = 0 then whyV0 (l.getD 0 default) x else whyV st (l.getD bl.length default) x (bl.getD (bl.length - 1) 0)
theorem whyB_is (st : Int) (l : List Pt) (s : List Int) (k : Nat) (hk : k < s.length) : whyB st l (s.take k) s[k] = whyAt st l s k := by
  have hl : (s.take k).length = k := by simp; omega
  unfold whyB
  rw [hl]
  cases k with
  | zero => simp [whyAt, List.getD_eq_getElem?_getD, hk]
  | succ k => simp [whyAt, List.getD_eq_getElem?_getD, hk, show k < s.length by omega]
set_option maxRecDepth 100000 in
set_option maxHeartbeats 4000000 in
theorem wrong_any (r : Row) (pv bv : Value) (bl : List Int) (x : Int) (w : World) (hP : PtsAt w pv r.pts) (hB : IntsAt w bv bl) (hv : Valid r) (hl : bl.length < r.pts.length) (hbl : ∀ y, y ∈ bl → 0 ≤ y ∧ y ≤ 9000) (hx0 : 0 ≤ x) (hx9 : x ≤ 9000) :
    Calls Try.prog 78 #[.agg #[.int .i64 r.st, pv], bv, .int .i64 x] w fun e w' => e = .returned (.int .i64 (whyB r.st r.pts bl x)) ∧ Below w.heap.size w w' := by
  obtain ⟨st, pts⟩ := r
  have st0 : 0 ≤ st := hv.s0
  have st2 : st ≤ 200 := hv.s200
  have h10 : pts.length ≤ 10 := hv.n10
  simp only at hP hl ⊢
  clear hv
  obtain ⟨lp, pa, pc, rfl, _, _⟩ := id hP
  obtain ⟨lb, ba, bc, rfl, _, _⟩ := id hB
  have hB0 : Below w.heap.size w (w.alloc (Obj.cells #[.int .i64 st, .slice pa pts.length pc] 24)) := by go_grown
  have HRB := Lib.hid (heap_alloc_new w (Obj.cells #[.int .i64 st, .slice pa pts.length pc] 24))
  obtain ⟨pb, po, rfl, c0, c1, c2⟩ := (hP.below hB0).get hl
  have hlI : (bl.length : Int) < (pts.length : Int) := by omega
  have l10 : (pts.length : Int) ≤ 10 := by omega
  have HB0 := Lib.hid hB0
  have HRl := lt_of_block HRB.out
  obtain ⟨k, hk⟩ : ∃ k, k = bl.length := ⟨_, rfl⟩
  cases k with
  | zero =>
    have HW : Hid (whyB st pts bl x = whyV0 pts[bl.length] x) := by
      show _ = _
      unfold whyB
      rw [if_pos hk.symm]
      simp [List.getD_eq_getElem?_getD, ← hk, show 0 < pts.length by omega]
    rw [HW.out]
    generalize pts[bl.length] = p at *
    obtain ⟨bd, lo, hi⟩ := p
    simp only at c0 c1 c2
    rw [← hk] at hlI c0 c1 c2 ⊢
    simp only [Nat.zero_mul, Nat.add_zero] at c0 c1 c2
    clear HW hP hB hB0 c0 hl hbl hk lb lp
    have hlI' : (0 : Int) < (pts.length : Int) := by omega
    clear hlI
    have ra := cellOf HRB.out 1 _ rfl
    by_cases t1 : x < lo
    · have HF : Hid (whyV0 ⟨bd, lo, hi⟩ x = 1) := by show _ = _; unfold whyV0; rw [if_pos t1]
      rw [HF.out]
      clear HF
      go_enter Try.func78, Try.ntmps78
      go_wp2
      go_ret
      exact ⟨rfl, HB0.out⟩
    · have t1' : lo ≤ x := by omega
      by_cases t2 : hi < x
      · have HF : Hid (whyV0 ⟨bd, lo, hi⟩ x = 2) := by show _ = _; unfold whyV0; rw [if_neg t1, if_pos t2]
        rw [HF.out]
        clear HF t1
        go_enter Try.func78, Try.ntmps78
        go_wp2
        go_ret
        exact ⟨rfl, HB0.out⟩
      · have t2' : x ≤ hi := by omega
        have HF : Hid (whyV0 ⟨bd, lo, hi⟩ x = 0) := by show _ = _; unfold whyV0; rw [if_neg t1, if_neg t2]
        rw [HF.out]
        clear HF t1 t2
        go_enter Try.func78, Try.ntmps78
        go_wp2_with fail
        generalize w.alloc (Obj.cells #[.int .i64 st, .slice (some ⟨pb, po, none⟩) pts.length pc] 24) = w1 at *
        go_quiet (fail)
        go_wp2
        go_ret
        exact ⟨rfl, HB0.out.trans ⟨rfl, rfl, rfl, Nat.le_refl _, fun _ _ => rfl⟩⟩
  | succ k =>
    have hk' : k < bl.length := by omega
    have HW : Hid (whyB st pts bl x = whyV st pts[bl.length] x bl[k]) := by
      show _ = _
      unfold whyB
      rw [if_neg (by omega)]
      simp [List.getD_eq_getElem?_getD, ← hk, show k + 1 < pts.length by omega, show k < bl.length by omega]
    rw [HW.out]
    obtain ⟨bb, bo, rfl, d0⟩ := (hB.below hB0).get hk'
    obtain ⟨y0, y9⟩ := hbl bl[k] (List.getElem_mem _)
    generalize bl[k] = y at *
    generalize pts[bl.length] = p at *
    obtain ⟨bd, lo, hi⟩ := p
    simp only at c0 c1 c2
    rw [← hk] at hlI c0 c1 c2 ⊢
    clear HW hP hB hB0 c0 hl hbl hk lb lp hk'
    have hkI : ((k + 1 : Nat) : Int) = (k : Int) + 1 := by simp
    rw [hkI] at hlI
    have kn : (k : Int) < 10 := by omega
    have kp : (0 : Int) < (k : Int) + 1 := by omega
    have rb := cellOf HRB.out 1 _ rfl
    by_cases t1 : x < lo
    · have HF : Hid (whyV st ⟨bd, lo, hi⟩ x y = 1) := by show _ = _; unfold whyV; rw [if_pos t1]
      rw [HF.out]
      clear HF
      go_enter Try.func78, Try.ntmps78
      go_wp2
      go_ret
      exact ⟨rfl, HB0.out⟩
    · have t1' : lo ≤ x := by omega
      by_cases t2 : hi < x
      · have HF : Hid (whyV st ⟨bd, lo, hi⟩ x y = 2) := by show _ = _; unfold whyV; rw [if_neg t1, if_pos t2]
        rw [HF.out]
        clear HF t1
        go_enter Try.func78, Try.ntmps78
        go_wp2
        go_ret
        exact ⟨rfl, HB0.out⟩
      · have t2' : x ≤ hi := by omega
        have HN := Lib.hid (And.intro t1 t2)
        clear t1 t2
        by_cases t3 : st < x - y
        · have HF : Hid (whyV st ⟨bd, lo, hi⟩ x y = 3) := by show _ = _; unfold whyV okIn; rw [if_neg HN.out.1, if_neg HN.out.2, if_pos (by simp; omega)]
          rw [HF.out]
          clear HF HN
          go_enter Try.func78, Try.ntmps78
          go_wp2_with fail
          have ra := cellOf HRB.out 0 _ rfl
          generalize w.alloc (Obj.cells #[.int .i64 st, .slice (some ⟨pb, po, none⟩) pts.length pc] 24) = w1 at *
          go_quiet (fail)
          go_wp2
          go_ret
          exact ⟨rfl, HB0.out.trans ⟨rfl, rfl, rfl, Nat.le_refl _, fun _ _ => rfl⟩⟩
        · have t3' : x - y ≤ st := by omega
          have d3 : decide (st < x - y) = false := by simp; omega
          by_cases t4 : st < y - x
          · have HF : Hid (whyV st ⟨bd, lo, hi⟩ x y = 3) := by show _ = _; unfold whyV okIn; rw [if_neg HN.out.1, if_neg HN.out.2, if_pos (by simp; omega)]
            rw [HF.out]
            clear HF HN
            go_enter Try.func78, Try.ntmps78
            go_wp2_with fail
            have ra := cellOf HRB.out 0 _ rfl
            generalize w.alloc (Obj.cells #[.int .i64 st, .slice (some ⟨pb, po, none⟩) pts.length pc] 24) = w1 at *
            go_quiet (fail)
            go_wp2
            go_ret
            exact ⟨rfl, HB0.out.trans ⟨rfl, rfl, rfl, Nat.le_refl _, fun _ _ => rfl⟩⟩
          · have t4' : y - x ≤ st := by omega
            have d4 : decide (st < y - x) = false := by simp; omega
            have HF : Hid (whyV st ⟨bd, lo, hi⟩ x y = 0) := by show _ = _; unfold whyV okIn; rw [if_neg HN.out.1, if_neg HN.out.2, if_neg (by simp; omega)]
            rw [HF.out]
            clear HF HN
            go_enter Try.func78, Try.ntmps78
            go_wp2_with fail
            have ra := cellOf HRB.out 0 _ rfl
            generalize w.alloc (Obj.cells #[.int .i64 st, .slice (some ⟨pb, po, none⟩) pts.length pc] 24) = w1 at *
            go_quiet (fail)
            go_wp2
            go_ret
            exact ⟨rfl, HB0.out.trans ⟨rfl, rfl, rfl, Nat.le_refl _, fun _ _ => rfl⟩⟩

theorem elemInts : Try.prog.elem 36 = 3 := by kernel_rfl
theorem undInts : Try.prog.underlying 36 = some (.slice (Try.prog.elem 36)) := by kernel_rfl
theorem sizeInts (w : World) : (sizeOf (Try.prog.elem 36)).run Try.prog w = .ok 1 w := by
  obtain ⟨i0, hi⟩ := info_of_underlying Try.underlying3
  have h := intInfo
  rw [hi] at h
  simp at h
  rw [elemInts]
  simp [sizeOf, typeInfo, hi, h.2.1]
/-- x[:at], carried out. -/
theorem exec_lo {a : Act} {o : Oper} {x h : Operand} {sa : Option Addr} {k sc n : Nat} (ho : o.op = .slice 36 x none (some h) none) (hx : a.eval x = .slice sa k sc) (hh : a.eval h = .int .i64 n) (hn : n ≤ sc) (w : World) :
    (execOp a.eval o).run Try.prog w = .ok (.value (.slice sa n sc)) w := by
  have e := run_slice_h (P := Try.prog) w 36 sa k sc undInts .i64 (n : Int) (by omega) (by omega)
  simp only [execOp, ho, hx, hh, Sem.run_bind, Option.map_some, Option.map_none, run_sliceAt_slice (P := Try.prog) w _ _ _ _ _ undInts, e, sizeInts, Result.andThen, sliced, Sem.run_pure]
  have hz : sa.map (fun x => x.add 0) = sa := by cases sa <;> simp [Addr.add]
  simp [hz]
theorem IntsAt.take {w : World} {sa : Option Addr} {n sc : Nat} {l : List Int} (h : IntsAt w (.slice sa n sc) l) (k : Nat) (hk : k ≤ l.length) : IntsAt w (.slice sa k sc) (l.take k) := by
  obtain ⟨h1, a, cap, e, hc, h2⟩ := h
  simp only [Value.slice.injEq] at e
  obtain ⟨rfl, rfl, rfl⟩ := e
  have hl : (l.take k).length = k := by simp; omega
  refine ⟨by omega, sa, sc, by rw [hl], by omega, fun hne => ?_⟩
  obtain ⟨b, o, rfl, hk'⟩ := h2 (by rintro rfl; simp at hne)
  refine ⟨b, o, rfl, fun j hj => ?_⟩
  rw [hl] at hj
  rw [hk' j (by omega)]
  simp [List.getElem_take]
set_option maxRecDepth 100000 in
set_option maxHeartbeats 4000000 in
theorem first_any (r : Row) (pv sv : Value) (s : List Int) (w : World) (hP : PtsAt w pv r.pts) (hS : IntsAt w sv s) (hv : Valid r) (hl : s.length = r.pts.length) (hs9 : ∀ x, x ∈ s → 0 ≤ x ∧ x ≤ 9000) :
    Calls Try.prog 63 #[.agg #[.int .i64 r.st, pv], sv] w fun e w' => e = .returned (.tuple #[.int .i64 (firstW (whyAt r.st r.pts s) 0 s.length).1, .int .i64 (firstW (whyAt r.st r.pts s) 0 s.length).2]) ∧ Below w.heap.size w w' := by
  obtain ⟨st, pts⟩ := r
  simp only at hP hl ⊢
  obtain ⟨lp, pa, pc, rfl, _, _⟩ := id hP
  obtain ⟨ls, sa, sc, rfl, lsc, _⟩ := id hS
  have hB : Below w.heap.size w (w.alloc (Obj.cells #[.int .i64 st, .slice pa pts.length pc] 24)) := by go_grown
  have HB := Lib.hid hB
  have HP := Lib.hid (hP.below hB)
  have HS := Lib.hid (hS.below hB)
  have HA := Lib.hid (heap_alloc_new w (Obj.cells #[.int .i64 st, .slice pa pts.length pc] 24))
  obtain ⟨f, HFF⟩ : ∃ f, Hid (whyAt st pts s = f) := ⟨_, rfl⟩
  rw [HFF.out]
  have hn10 : pts.length ≤ 10 := hv.n10
  have HV := Lib.hid hv
  have HS9 := Lib.hid hs9
  have HLE := Lib.hid hl
  clear hP hS hB hv hs9 hl
  go_enter Try.func63, Try.ntmps63
  go_wp2_with fail
  generalize w.alloc (Obj.cells #[.int .i64 st, .slice pa pts.length pc] 24) = w0 at *
  go_loopg [6] s.length (fun g i wr => ∃ k : Nat, g + k = s.length ∧ i = .int .i64 k ∧ Hid (firstW f 0 s.length = firstW f k g) ∧ Hid (Below w0.heap.size w0 wr))
  case atStart => exact ⟨0, rfl, rfl, rfl, Below.refl _ _⟩
  case round =>
    obtain ⟨k, hk, rfl, HI, HR⟩ := hrel
    by_cases hlt : k < s.length
    · have l0 := cellOf ((HR.out.block _ (lt_of_block HA.out)).trans HA.out) 0 _ rfl
      have l1 := cellOf ((HR.out.block _ (lt_of_block HA.out)).trans HA.out) 1 _ rfl
      obtain ⟨b, o, rfl, d0⟩ := (HS.out.below HR.out).get hlt
      obtain ⟨g', rfl⟩ : ∃ g', gk = g' + 1 := ⟨gk - 1, by omega⟩
      have HI2 : Hid (firstW f 0 s.length = if f k = 0 then firstW f (k + 1) g' else (k, f k)) := HI.out
      obtain ⟨y, HY⟩ : ∃ y, Hid (f k = y) := ⟨_, rfl⟩
      obtain ⟨x, HXE⟩ : ∃ x, Hid (s[k] = x) := ⟨s[k], rfl⟩
      rw [HXE.out] at d0
      have HC : Hid (∀ W', Below wr.heap.size wr W' → Calls Try.prog 78 #[.agg #[.int .i64 st, .slice pa pts.length pc], .slice (some ⟨b, o, none⟩) k sc, .int .i64 x] W' fun e w' => e = .returned (.int .i64 y) ∧ Below W'.heap.size W' w') := fun W' hW' => by
        have hx := HS9.out s[k] (List.getElem_mem _)
        have ht : (s.take k).length = k := by simp; omega
        have h := wrong_any ⟨st, pts⟩ (.slice pa pts.length pc) (.slice (some ⟨b, o, none⟩) k sc) (s.take k) s[k] W' ((HP.out.below HR.out).below hW') (((HS.out.below HR.out).below hW').take k (by omega)) HV.out (by rw [ht]; show k < pts.length; have := HLE.out; omega) (fun z hz => HS9.out z (List.mem_of_mem_take hz)) hx.1 hx.2
        rw [whyB_is _ _ _ _ hlt, HFF.out, HY.out, HXE.out] at h
        exact h
      rw [HY.out] at HI2
      have kI : (k : Int) < (s.length : Int) := by omega
      have k10 : k ≤ 10 := by have := HLE.out; omega
      have ksc : k ≤ sc := by omega
      have lsI : (s.length : Int) ≤ 4611686018427387904 := by omega
      go_wp2_with fail
      refine wp_region_noPanic ?_
      refine wp_region_held_drew (S := (fun W' => W'.cell? ⟨w.heap.size, 0, none⟩ = some (.int .i64 st) ∧ W'.cell? ⟨w.heap.size, 1, none⟩ = some (.slice pa pts.length pc) ∧ W'.cell? ⟨b, o + k, none⟩ = some (.int .i64 x) ∧ Below wr.heap.size wr W')) (by kernel_rfl) ?_ (fun hh0 => ?_)
      · try dsimp only
        exact ⟨l0, l1, d0, (Below.refl _ _).drew⟩
      refine wpAnyH_take (i := 0) (v := ?_) rfl (by as_aux_lemma => kernel_rfl) (by as_aux_lemma => kernel_rfl) (by as_aux_lemma => kernel_rfl) (fun _ _ _ h => h) (Or.inl ⟨by rfl, ?_⟩) (by assumption) ?_
      rotate_left
      · intro w hSw
        try dsimp only at hSw
        go_simp
        try with_reducible rfl
      try simp only [Act.put, List.getElem_toArray, List.getElem_cons_succ, List.getElem_cons_zero, List.setIfInBounds_toArray, List.set_cons_zero, List.set_cons_succ]
      refine wpAnyH_take (i := 1) (v := ?_) rfl (by as_aux_lemma => kernel_rfl) (by as_aux_lemma => kernel_rfl) (by as_aux_lemma => kernel_rfl) (fun _ _ _ h => h) (Or.inl ⟨by rfl, ?_⟩) (by assumption) ?_
      rotate_left
      · intro w hSw
        try dsimp only at hSw
        go_simp
        try with_reducible rfl
      try simp only [Act.put, List.getElem_toArray, List.getElem_cons_succ, List.getElem_cons_zero, List.setIfInBounds_toArray, List.set_cons_zero, List.set_cons_succ]
      refine wpAnyH_take (i := 2) (v := ?_) rfl (by as_aux_lemma => kernel_rfl) (by as_aux_lemma => kernel_rfl) (by as_aux_lemma => kernel_rfl) (fun _ _ _ h => h) (Or.inl ⟨by rfl, ?_⟩) (by assumption) ?_
      rotate_left
      · intro w hSw
        try dsimp only at hSw
        go_simp
        try with_reducible rfl
      try simp only [Act.put, List.getElem_toArray, List.getElem_cons_succ, List.getElem_cons_zero, List.setIfInBounds_toArray, List.set_cons_zero, List.set_cons_succ]
      refine wpAnyH_take (i := 3) (v := .slice (some ⟨b, o, none⟩) k sc) rfl (by as_aux_lemma => kernel_rfl) (by as_aux_lemma => kernel_rfl) (by as_aux_lemma => kernel_rfl) (fun _ _ _ h => h) (Or.inl ⟨by rfl, ?_⟩) (by assumption) ?_
      · exact fun w _ => exec_lo rfl rfl rfl (by omega) w
      try simp only [Act.put, List.getElem_toArray, List.getElem_cons_succ, List.getElem_cons_zero, List.setIfInBounds_toArray, List.set_cons_zero, List.set_cons_succ]
      refine wpAnyH_take (i := 4) (v := ?_) rfl (by as_aux_lemma => kernel_rfl) (by as_aux_lemma => kernel_rfl) (by as_aux_lemma => kernel_rfl) (fun _ _ _ h => h) (Or.inl ⟨by rfl, ?_⟩) (by assumption) ?_
      rotate_left
      · intro w hSw
        try dsimp only at hSw
        go_simp
        try with_reducible rfl
      try simp only [Act.put, List.getElem_toArray, List.getElem_cons_succ, List.getElem_cons_zero, List.setIfInBounds_toArray, List.set_cons_zero, List.set_cons_succ]
      refine wpAnyH_take (i := 5) (v := ?_) rfl (by as_aux_lemma => kernel_rfl) (by as_aux_lemma => kernel_rfl) (by as_aux_lemma => kernel_rfl) (fun _ _ _ h => h) (Or.inl ⟨by rfl, ?_⟩) (by assumption) ?_
      rotate_left
      · intro w hSw
        try dsimp only at hSw
        go_simp
        try with_reducible rfl
      try simp only [Act.put, List.getElem_toArray, List.getElem_cons_succ, List.getElem_cons_zero, List.setIfInBounds_toArray, List.set_cons_zero, List.set_cons_succ]
      refine wpAnyH_take (i := 6) (v := ?_) rfl (by as_aux_lemma => kernel_rfl) (by as_aux_lemma => kernel_rfl) (by as_aux_lemma => kernel_rfl) (fun _ _ _ h => h) (Or.inl ⟨by rfl, ?_⟩) (by assumption) ?_
      rotate_left
      · intro w hSw
        try dsimp only at hSw
        go_simp
        try with_reducible rfl
      try simp only [Act.put, List.getElem_toArray, List.getElem_cons_succ, List.getElem_cons_zero, List.setIfInBounds_toArray, List.set_cons_zero, List.set_cons_succ]
      refine wpAnyH_take (i := 7) (v := ?_) rfl (by as_aux_lemma => kernel_rfl) (by as_aux_lemma => kernel_rfl) (by as_aux_lemma => kernel_rfl) (fun _ _ _ h => h) (Or.inl ⟨by rfl, ?_⟩) (by assumption) ?_
      rotate_left
      · intro w hSw
        try dsimp only at hSw
        go_simp
        try with_reducible rfl
      try simp only [Act.put, List.getElem_toArray, List.getElem_cons_succ, List.getElem_cons_zero, List.setIfInBounds_toArray, List.set_cons_zero, List.set_cons_succ]
      refine wpAnyH_ready (rs := [8]) (by as_aux_lemma => kernel_rfl) (by simp) ?_
      refine AllReadyH.cons rfl (fun K hK => ?_) AllReadyH.nil
      go_simp
      refine (HC.out _ hh0.2.2.2).mono ?_
      rintro e w' ⟨rfl, hb⟩
      refine hK.out _ _ ?_ (fun hh1 => ?_)
      · try dsimp only
        exact ⟨(hb.cell (p := ⟨w.heap.size, 0, none⟩) (World.block_lt_of_cell? _ _ hh0.1)).trans hh0.1, (hb.cell (p := ⟨w.heap.size, 1, none⟩) (World.block_lt_of_cell? _ _ hh0.2.1)).trans hh0.2.1, (hb.cell (p := ⟨b, o + k, none⟩) (World.block_lt_of_cell? _ _ hh0.2.2.1)).trans hh0.2.2.1, hh0.2.2.2.trans (hb.mono hh0.2.2.2.size)⟩
      clear hK K hh0
      try simp only [Act.put, List.getElem_toArray, List.getElem_cons_succ, List.getElem_cons_zero, List.setIfInBounds_toArray, List.set_cons_zero, List.set_cons_succ]
      refine wpAnyH_ready (rs := [9]) (by as_aux_lemma => kernel_rfl) (by simp) ?_
      refine AllReadyH.cons rfl (fun K hK => ?_) AllReadyH.nil
      go_simp
      refine hK.out _ _ ?_ (fun hh2 => ?_)
      · try dsimp only
        exact hh1
      clear hK K hh1
      try simp only [Act.put, List.getElem_toArray, List.getElem_cons_succ, List.getElem_cons_zero, List.setIfInBounds_toArray, List.set_cons_zero, List.set_cons_succ]
      refine wpAnyH_done (by as_aux_lemma => kernel_rfl) ?_ _
      refine NoPanic.normal ?_
      have HR4 := Lib.hid (HR.out.trans (hh2.2.2.2.mono HR.out.size))
      clear HC l0 l1 d0
      by_cases hy : y = 0
      · have HI3 : Hid (firstW f 0 s.length = firstW f (k + 1) g') := by show _ = _; rw [HI2.out, if_pos hy]
        have ty : (y != 0) = false := by simp [hy]
        clear HI2 hy HI
        go_wp2
        go_roundg g'
        case measure => omega
        case rel => exact ⟨k + 1, by omega, by go_num, HI3, HR4.out⟩
      · have HI3 : Hid (firstW f 0 s.length = ((k : Int), y)) := by show _ = _; rw [HI2.out, if_neg hy]
        have ty : (y != 0) = true := by simp [hy]
        clear HI2 hy HI
        go_wp2
        go_ret2
        exact ⟨by rw [HI3.out]; rfl, HB.out.trans (HR4.out.mono HB.out.size)⟩
    · obtain rfl : k = s.length := by omega
      obtain rfl : gk = 0 := by omega
      clear hlt hk
      go_wp2
      go_ret2
      exact ⟨by rw [HI.out]; rfl, HB.out.trans (HR.out.mono HB.out.size)⟩

theorem surfR_good {r : Row} {s : List Int} (hv : Valid r) (hl : s.length = r.pts.length) (hs9 : ∀ x, x ∈ s → 0 ≤ x ∧ x ≤ 9000) : surfR r s = 0 := by
  unfold surfR
  rw [if_neg (by rw [(check_valid r).2 hv]; simp)]
  refine firstE_ok s _ hl ?_
  unfold allIn okIn
  rw [List.all_eq_true]
  intro x hx
  have := hs9 x hx
  simp [this.1, this.2]
set_option maxRecDepth 100000 in
set_option maxHeartbeats 4000000 in
theorem good_any (r : Row) (pv sv : Value) (s : List Int) (w : World) (hP : PtsAt w pv r.pts) (hS : IntsAt w sv s) (hv : Valid r) (hl : s.length = r.pts.length) (hs9 : ∀ x, x ∈ s → 0 ≤ x ∧ x ≤ 9000) :
    Calls Try.prog 42 #[.agg #[.int .i64 r.st, pv], sv] w fun e w' => e = .returned (.bool (goodV r s)) ∧ Below w.heap.size w w' := by
  have hz := surfR_good hv hl hs9
  have HZ : Hid (∀ W', Below w.heap.size w W' → Calls Try.prog 62 #[.agg #[.int .i64 r.st, pv], sv] W' fun e w' => e = .returned (.int .i64 0) ∧ Below W'.heap.size W' w') := fun W' hb => by
    have h := surface_any r pv sv s W' (hP.below hb) (hS.below hb)
    rwa [hz] at h
  have HF : Hid (∀ W', Below w.heap.size w W' → Calls Try.prog 63 #[.agg #[.int .i64 r.st, pv], sv] W' fun e w' => e = .returned (.tuple #[.int .i64 (firstW (whyAt r.st r.pts s) 0 s.length).1, .int .i64 (firstW (whyAt r.st r.pts s) 0 s.length).2]) ∧ Below W'.heap.size W' w') := fun W' hb => first_any r pv sv s W' (hP.below hb) (hS.below hb) hv hl hs9
  have HG : Hid (goodV r s = decide ((firstW (whyAt r.st r.pts s) 0 s.length).2 = 0)) := rfl
  rw [HG.out]
  clear HG
  generalize (firstW (whyAt r.st r.pts s) 0 s.length).1 = x1 at *
  generalize (firstW (whyAt r.st r.pts s) 0 s.length).2 = x2 at *
  obtain ⟨st, pts⟩ := r
  simp only at hP HF HZ ⊢
  obtain ⟨lp, pa, pc, rfl, _, _⟩ := id hP
  obtain ⟨ls, sa, sc, rfl, _, _⟩ := id hS
  have hB : Below w.heap.size w (w.alloc (Obj.cells #[.int .i64 st, .slice pa pts.length pc] 24)) := by go_grown
  have HB := Lib.hid hB
  have HA := Lib.hid (heap_alloc_new w (Obj.cells #[.int .i64 st, .slice pa pts.length pc] 24))
  clear hP hS hB hv hl hs9 hz
  go_enter Try.func42, Try.ntmps42
  go_wp2_with fail
  generalize w.alloc (Obj.cells #[.int .i64 st, .slice pa pts.length pc] 24) = w0 at *
  refine (HF.out _ HB.out).mono ?_
  rintro e w1 ⟨rfl, hb⟩
  have HB1 := Lib.hid (HB.out.trans (hb.mono HB.out.size))
  have ra := cellOf ((hb.block _ (lt_of_block HA.out)).trans HA.out) 0 _ rfl
  have rb := cellOf ((hb.block _ (lt_of_block HA.out)).trans HA.out) 1 _ rfl
  have rl := lt_of_block ((hb.block _ (lt_of_block HA.out)).trans HA.out)
  clear HF HB HA hb
  go_wp2_with fail
  refine (HZ.out _ HB1.out).mono ?_
  rintro e w2 ⟨rfl, hb⟩
  have HB2 := Lib.hid (HB1.out.trans (hb.mono HB1.out.size))
  clear HZ HB1 hb ra rb rl
  by_cases hx : x2 = 0
  · subst hx
    go_wp2
    go_ret
    exact ⟨rfl, HB2.out⟩
  · have tx : (x2 == 0) = false := by simp [hx]
    go_wp2
    go_ret
    exact ⟨by simp [hx], HB2.out⟩
end Go.Proofs.Ytnciomoapajonaa
