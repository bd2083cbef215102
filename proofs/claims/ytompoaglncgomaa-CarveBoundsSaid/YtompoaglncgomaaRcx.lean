/- The reference of package carve: Prevents. -/
import Derived.Test.YtompoaglncgomaaRca
import Derived.Test.YtompoaglncgomaaCxi
import Derived.Test.YtompoaglncgomaaCwf
set_option linter.unusedSimpArgs false
set_option linter.unusedVariables false
namespace Go.Proofs.Ytompoaglncgomaa
open Go Go.RowKit Cv

theorem steps_any (a b : Nat) (ha : a ≤ 10) (hb : b ≤ 10) (w : World) :
    Calls Try.prog 54 #[.int .i64 (a : Int), .int .i64 (b : Int)] w fun e w' => e = .returned (.int .i64 (steps a b)) ∧ w = w' := by
  have ha' : (a : Int) ≤ 10 := by omega
  have hb' : (b : Int) ≤ 10 := by omega
  go_enter Try.func54, Try.ntmps54
  go_wp2
  go_ret
  exact ⟨by unfold steps; rfl, rfl⟩

set_option maxRecDepth 100000 in
set_option maxHeartbeats 4000000 in
theorem none_any (r : Row) (pv : Value) (x : Int) (a b : Nat) (hx0 : 0 ≤ x) (hx9 : x ≤ 9000) (ha : a < r.pts.length) (hb : b < r.pts.length) (h10 : r.pts.length ≤ 10) (hok : ∀ p, p ∈ r.pts → PtOk p) (w : World) (hP : PtsAt w pv r.pts) :
    Calls Try.prog 58 #[.agg #[.int .i64 r.st, pv], .int .i64 x, .int .i64 (a : Int), .int .i64 (b : Int)] w fun e w' => e = .returned (.bool (noneB r x a b)) ∧ Below w.heap.size w w' := by
  obtain ⟨st, pts⟩ := r
  simp only at hP ha hb h10 hok ⊢
  obtain ⟨lp, pa, pc, rfl, _, _⟩ := id hP
  have oka := hok pts[a] (List.getElem_mem _)
  have okb := hok pts[b] (List.getElem_mem _)
  have HW0 : Hid (Below w.heap.size w (w.alloc (Obj.cells #[.int .i64 st, .slice pa pts.length pc] 24))) := by show Below _ _ _; go_grown
  have HRB := Lib.hid (heap_alloc_new w (Obj.cells #[.int .i64 st, .slice pa pts.length pc] 24))
  have hN : noneB ⟨st, pts⟩ x a b = (decide (pts[b].hi + x * steps a b < pts[a].lo) || decide (pts[a].hi + x * steps a b < pts[b].lo)) := by
    unfold noneB his los
    simp [List.getD_eq_getElem?_getD, ha, hb]
  rw [hN]
  clear hN
  obtain ⟨pb, po, rfl, a0, a1, a2⟩ := (hP.below HW0.out).get ha
  obtain ⟨pb', po', e, b0, b1, b2⟩ := (hP.below HW0.out).get hb
  simp only [Option.some.injEq, Addr.mk.injEq, and_true] at e
  obtain ⟨rfl, rfl⟩ := e
  clear hP hok
  have aI : (a : Int) < (pts.length : Int) := by omega
  have bI : (b : Int) < (pts.length : Int) := by omega
  generalize pts[a] = p at *
  generalize pts[b] = q at *
  obtain ⟨pbd, plo, phi⟩ := p
  obtain ⟨qbd, qlo, qhi⟩ := q
  simp only at a0 a1 a2 b0 b1 b2
  obtain ⟨_, _, pl0, pl9, ph0, ph9, _, _⟩ := oka
  obtain ⟨_, _, ql0, ql9, qh0, qh9, _, _⟩ := okb
  simp only at pl0 pl9 ph0 ph9 ql0 ql9 qh0 qh9 ⊢
  have hs : 0 ≤ steps a b ∧ steps a b ≤ 10 := ⟨steps_nonneg a b, by unfold steps; omega⟩
  have HS := Lib.hid (steps_any a b (by omega) (by omega))
  generalize steps a b = s at *
  have hxs0 : 0 ≤ x * s := Int.mul_nonneg hx0 hs.1
  have hxs9 : x * s ≤ 90000 := by
    have := Int.mul_le_mul hx9 hs.2 hs.1 (by omega : (0 : Int) ≤ 9000)
    omega
  go_enter Try.func58, Try.ntmps58
  go_wp2_with fail
  have r0 := cellOf HRB.out 0 _ rfl
  have r1 := cellOf HRB.out 1 _ rfl
  refine (HS.out _).mono ?_
  rintro e w' ⟨rfl, rfl⟩
  go_wp2_with fail
  generalize hf : x * s = f at *
  have HFQ := Lib.hid hf
  clear hf
  generalize w.alloc (Obj.cells #[.int .i64 st, .slice (some ⟨pb, po, none⟩) pts.length pc] 24) = w1 at *
  by_cases t1 : qhi + f < plo
  · go_quiet (fail)
    go_wp2
    go_ret
    exact ⟨by rw [HFQ.out]; simp [t1], HW0.out.trans ⟨rfl, rfl, rfl, Nat.le_refl _, fun _ _ => rfl⟩⟩
  · by_cases t2 : phi + f < qlo
    · go_quiet (fail)
      go_wp2
      go_ret
      exact ⟨by rw [HFQ.out]; simp [t2], HW0.out.trans ⟨rfl, rfl, rfl, Nat.le_refl _, fun _ _ => rfl⟩⟩
    · go_quiet (fail)
      go_wp2
      go_ret
      exact ⟨by rw [HFQ.out]; simp [t1, t2], HW0.out.trans ⟨rfl, rfl, rfl, Nat.le_refl _, fun _ _ => rfl⟩⟩
end Go.Proofs.Ytompoaglncgomaa
namespace Go.Proofs.Ytompoaglncgomaa
open Go Go.RowKit Cv

set_option maxRecDepth 100000 in
set_option maxHeartbeats 4000000 in
theorem some_any (r : Row) (pv : Value) (x : Int) (hx0 : 0 ≤ x) (hx9 : x ≤ 9000) (h10 : r.pts.length ≤ 10) (hok : ∀ p, p ∈ r.pts → PtOk p) (w : World) (hP : PtsAt w pv r.pts) :
    Calls Try.prog 53 #[.agg #[.int .i64 r.st, pv], .int .i64 x] w fun e w' => e = .returned (.bool (!crossB ⟨x, r.pts⟩)) ∧ Below w.heap.size w w' := by
  obtain ⟨st, pts⟩ := r
  simp only at hP h10 hok ⊢
  obtain ⟨lp, pa, pc, rfl, _, _⟩ := id hP
  have HP := Lib.hid hP
  have HOK := Lib.hid hok
  clear hP hok
  have HW0 : Hid (Below w.heap.size w (w.alloc (Obj.cells #[.int .i64 st, .slice pa pts.length pc] 24))) := by show Below _ _ _; go_grown
  have HRB := Lib.hid (heap_alloc_new w (Obj.cells #[.int .i64 st, .slice pa pts.length pc] 24))
  have hz : (w.alloc (Obj.cells #[.int .i64 st, .slice pa pts.length pc] 24)).heap.size = w.heap.size + 1 := by simp
  have HI : Hid ((∀ a b, a ≤ b → b < pts.length → noneB ⟨st, pts⟩ x a b = false) ↔ crossB ⟨x, pts⟩ = false) := (none_fits ⟨st, pts⟩ x).trans (cross_fits ⟨x, pts⟩ hx0).symm
  go_enter Try.func53, Try.ntmps53
  go_wp2_with fail
  generalize w.alloc (Obj.cells #[.int .i64 st, .slice pa pts.length pc] 24) = w0 at *
  go_loopg [5] pts.length (fun g i wr => ∃ k : Nat, g + k = pts.length ∧ i = .int .i64 k ∧ Hid (∀ a b, a ≤ b → b < pts.length → a < k → noneB ⟨st, pts⟩ x a b = false) ∧ Hid (Below w0.heap.size w0 wr))
  case atStart => exact ⟨0, rfl, rfl, fun a b _ _ h => absurd h (by omega), Below.refl _ _⟩
  case round =>
    obtain ⟨k, hk, rfl, HE, HR⟩ := hrel
    have r0 := cellOf ((HR.out.block _ (lt_of_block HRB.out)).trans HRB.out) 0 _ rfl
    have r1 := cellOf ((HR.out.block _ (lt_of_block HRB.out)).trans HRB.out) 1 _ rfl
    by_cases hlt : k < pts.length
    · have kI : (k : Int) < (pts.length : Int) := by omega
      obtain ⟨g', rfl⟩ : ∃ g', gk = g' + 1 := ⟨gk - 1, by omega⟩
      go_wp2_with fail
      clear r0 r1
      go_loopg [6] (pts.length - k) (fun g2 i2 wq => ∃ j : Nat, g2 + j = pts.length ∧ k ≤ j ∧ i2 = .int .i64 j ∧ Hid (∀ b, k ≤ b → b < j → noneB ⟨st, pts⟩ x k b = false) ∧ Hid (Below w0.heap.size w0 wq))
      case atStart => exact ⟨k, by omega, Nat.le_refl _, rfl, fun b h1 h2 => absurd h2 (by omega), HR.out⟩
      case round =>
        clear HR
        obtain ⟨j, hj, hkj, rfl, HE2, HR⟩ := hrel
        have r0 := cellOf ((HR.out.block _ (lt_of_block HRB.out)).trans HRB.out) 0 _ rfl
        have r1 := cellOf ((HR.out.block _ (lt_of_block HRB.out)).trans HRB.out) 1 _ rfl
        by_cases hlt2 : j < pts.length
        · have jI : (j : Int) < (pts.length : Int) := by omega
          have HC := Lib.hid (none_any ⟨st, pts⟩ (.slice pa pts.length pc) x k j hx0 hx9 hlt hlt2 h10 HOK.out wr ((HP.out.below HW0.out).below HR.out))
          obtain ⟨B, HB⟩ : ∃ B, Hid (noneB ⟨st, pts⟩ x k j = B) := ⟨_, rfl⟩
          rw [HB.out] at HC
          go_wp2_with fail
          refine HC.out.mono ?_
          rintro e w2 ⟨rfl, hb⟩
          have HR2 := Lib.hid (HR.out.trans (hb.mono HR.out.size))
          clear hb HC r0 r1
          cases B
          · have HE3 : Hid (∀ b, k ≤ b → b < j + 1 → noneB ⟨st, pts⟩ x k b = false) := fun b h1 h2 => by
              by_cases q : b = j
              · subst q; exact HB.out
              · exact HE2.out b h1 (by omega)
            clear HE2
            go_wp2
            go_roundg (gk - 1)
            case measure => omega
            case rel => exact ⟨j + 1, by omega, by omega, by go_num, HE3.out, HR2⟩
          · have HX : Hid (crossB ⟨x, pts⟩ = true) := by
              cases hc : crossB ⟨x, pts⟩
              · have := HI.out.2 hc k j hkj hlt2
                rw [HB.out] at this
                cases this
              · exact rfl
            clear HE2
            go_wp2
            go_ret
            exact ⟨by rw [HX.out]; rfl, HW0.out.trans (HR2.out.mono HW0.out.size)⟩
        · have HE3 : Hid (∀ a b, a ≤ b → b < pts.length → a < k + 1 → noneB ⟨st, pts⟩ x a b = false) := fun a b hab hb ha => by
            by_cases q : a = k
            · subst q; exact HE2.out b hab (by omega)
            · exact HE.out a b hab hb (by omega)
          obtain rfl : j = pts.length := by omega
          clear hlt2 hj HE2 HE
          go_wp2
          go_roundg g'
          case measure => omega
          case rel => exact ⟨k + 1, by omega, by go_num, HE3.out, HR⟩
    · have HX : Hid (crossB ⟨x, pts⟩ = false) := HI.out.1 fun a b hab hb => HE.out a b hab hb (by omega)
      obtain rfl : k = pts.length := by omega
      clear hlt hk HE
      go_wp2
      go_ret
      exact ⟨by rw [HX.out]; rfl, HW0.out.trans (HR.out.mono HW0.out.size)⟩
end Go.Proofs.Ytompoaglncgomaa
namespace Go.Proofs.Ytompoaglncgomaa
open Go Go.RowKit Cv

theorem need_9000 (l : List Pt) (hok : ∀ p, p ∈ l → PtOk p) : maxN l (pairsL l.length) ≤ 9000 := by
  rw [need_iff l hok 9000 (by omega), cross_fits ⟨9000, l⟩ (by show (0 : Int) ≤ 9000; omega)]
  intro a b ha hb
  have ha' : a < l.length := ha
  have hb' : b < l.length := hb
  show (l.map (·.lo)).getD a 0 ≤ (l.map (·.hi)).getD b 0 + 9000 * steps a b
  have h1 := hok l[a] (List.getElem_mem _)
  have h2 := hok l[b] (List.getElem_mem _)
  have e1 : (l.map (·.lo)).getD a 0 = l[a].lo := by simp [List.getD_eq_getElem?_getD, ha']
  have e2 : (l.map (·.hi)).getD b 0 = l[b].hi := by simp [List.getD_eq_getElem?_getD, hb']
  rw [e1, e2]
  have := h1.le; have := h1.l9; have := h2.h0; have := h1.l0
  by_cases q : a = b
  · subst q
    rw [steps_self]
    omega
  · have : 1 ≤ steps a b := by unfold steps; omega
    omega

set_option maxRecDepth 100000 in
set_option maxHeartbeats 4000000 in
theorem rneed_any (r : Row) (pv : Value) (w : World) (hP : PtsAt w pv r.pts) :
    Calls Try.prog 24 #[.agg #[.int .i64 r.st, pv]] w fun e w' => e = .returned (.tuple #[.int .i64 (needR r).1, .int .i64 (needR r).2]) ∧ Below w.heap.size w w' := by
  obtain ⟨st, pts⟩ := r
  simp only at hP ⊢
  obtain ⟨lp, pa, pc, rfl, _, _⟩ := id hP
  have HP := Lib.hid hP
  clear hP
  have HW0 : Hid (Below w.heap.size w (w.alloc (Obj.cells #[.int .i64 st, .slice pa pts.length pc] 24))) := by show Below _ _ _; go_grown
  have HRB := Lib.hid (heap_alloc_new w (Obj.cells #[.int .i64 st, .slice pa pts.length pc] 24))
  have HC := Lib.hid (rcheck_any ⟨st, pts⟩ (.slice pa pts.length pc) (w.alloc (Obj.cells #[.int .i64 st, .slice pa pts.length pc] 24)) (HP.out.below HW0.out))
  obtain ⟨c1, HC1⟩ : ∃ c, Hid ((checkR ⟨st, pts⟩).1 = c) := ⟨_, rfl⟩
  obtain ⟨c2, HC2⟩ : ∃ c, Hid ((checkR ⟨st, pts⟩).2.1 = c) := ⟨_, rfl⟩
  obtain ⟨c3, HC3⟩ : ∃ c, Hid ((checkR ⟨st, pts⟩).2.2 = c) := ⟨_, rfl⟩
  have HE : Hid (errR ⟨st, pts⟩ = c3) := by show _ = _; unfold errR; rw [HC3.out]
  rw [HC1.out, HC2.out, HC3.out] at HC
  clear HC1 HC2 HC3
  by_cases hz : c3 = 0
  · subst hz
    have hv := (check_valid _).1 HE.out
    have HOK := Lib.hid hv.ok
    have h10 : pts.length ≤ 10 := hv.n10
    clear hv
    have HNR : Hid (needR ⟨st, pts⟩ = (maxN pts (pairsL pts.length), 0)) := by show _ = _; unfold needR; rw [if_pos HE.out]
    have HIF : Hid (∀ x, 0 ≤ x → (maxN pts (pairsL pts.length) ≤ x ↔ crossB ⟨x, pts⟩ = false)) := fun x hx => need_iff pts HOK.out x hx
    have hN0 := maxN_zero pts (pairsL pts.length)
    have hN9 := need_9000 pts HOK.out
    generalize maxN pts (pairsL pts.length) = N at *
    go_enter Try.func24, Try.ntmps24
    go_wp2_with fail
    refine HC.out.mono ?_
    rintro e w0 ⟨rfl, hb⟩
    have HB0 := Lib.hid (HW0.out.trans (hb.mono HW0.out.size))
    have HR0 := Lib.hid ((hb.block _ (lt_of_block HRB.out)).trans HRB.out)
    clear hb HC HRB HW0
    go_wp2_with fail
    go_loopg [7, 8] 9000 (fun g u v wr => ∃ lo hi : Int, (g : Int) = hi - lo ∧ u = .int .i64 lo ∧ v = .int .i64 hi ∧ 0 ≤ lo ∧ lo ≤ N ∧ N ≤ hi ∧ hi ≤ 9000 ∧ Hid (Below w0.heap.size w0 wr))
    case atStart => exact ⟨0, 9000, rfl, rfl, rfl, by omega, hN0, hN9, by omega, Below.refl _ _⟩
    case round =>
      obtain ⟨lo, hi, hg, rfl, rfl, hl0, hlN, hNh, hh9, HR⟩ := hrel
      have r0 := cellOf ((HR.out.block _ (lt_of_block HR0.out)).trans HR0.out) 0 _ rfl
      have r1 := cellOf ((HR.out.block _ (lt_of_block HR0.out)).trans HR0.out) 1 _ rfl
      by_cases hlt : lo < hi
      · obtain ⟨m, HM, hm1, hm2⟩ : ∃ m, Hid ((lo + hi) / 2 = m) ∧ lo ≤ m ∧ m < hi := ⟨_, rfl, by omega, by omega⟩
        go_wp2_with fail
        rw [HM.out]
        have HSA := Lib.hid (some_any ⟨st, pts⟩ (.slice pa pts.length pc) m (by omega) (by omega) h10 HOK.out wr ((HP.out.below HB0.out).below HR.out))
        have HI := Lib.hid (HIF.out m (by omega))
        obtain ⟨B, HB⟩ : ∃ B, Hid (crossB ⟨m, pts⟩ = B) := ⟨_, rfl⟩
        simp only [HB.out] at HSA
        refine HSA.out.mono ?_
        rintro e w2 ⟨rfl, hb⟩
        have HR2 := Lib.hid (HR.out.trans (hb.mono HR.out.size))
        clear hb HSA r0 r1
        cases B
        · have hNm : N ≤ m := HI.out.2 HB.out
          go_wp2
          go_roundg (gk - (hi - m).toNat)
          case measure => omega
          case rel => exact ⟨lo, m, by omega, rfl, rfl, hl0, hlN, hNm, by omega, HR2.out⟩
        · have hNm : m + 1 ≤ N := by
            by_cases q : N ≤ m
            · have := HI.out.1 q; rw [HB.out] at this; cases this
            · omega
          go_wp2
          go_roundg (gk - (m + 1 - lo).toNat)
          case measure => omega
          case rel => exact ⟨m + 1, hi, by omega, by go_num, rfl, by omega, hNm, hNh, hh9, HR2.out⟩
      · obtain rfl : lo = hi := by omega
        obtain rfl : N = lo := by omega
        clear hlt
        go_wp2
        go_ret2
        exact ⟨by rw [HNR.out]; rfl, HB0.out.trans (HR.out.mono HB0.out.size)⟩
  · have HNR : Hid (needR ⟨st, pts⟩ = (0, c3)) := by show _ = _; unfold needR; rw [if_neg (by rw [HE.out]; exact hz), HE.out]
    have t3 : (c3 != 0) = true := by simp [hz]
    go_enter Try.func24, Try.ntmps24
    go_wp2_with fail
    refine HC.out.mono ?_
    rintro e w0 ⟨rfl, hb⟩
    have HB0 := Lib.hid (HW0.out.trans (hb.mono HW0.out.size))
    clear hb HC HRB HW0
    go_wp2
    go_ret2
    exact ⟨by rw [HNR.out]; rfl, HB0.out⟩
end Go.Proofs.Ytompoaglncgomaa
namespace Go.Proofs.Ytompoaglncgomaa
open Go Go.RowKit Cv

theorem none_bad (st x : Int) (l : List Pt) (hx : 0 ≤ x) (a b : Nat) (hab : a < b) (hb : b < l.length) : noneB ⟨st, l⟩ x a b = badB x l (a, b) := by
  unfold noneB badB farL his los
  have ha : a < l.length := by omega
  have e : steps a b = (b : Int) - a := by unfold steps; omega
  have hm : 0 ≤ x * ((b : Int) - a) := Int.mul_nonneg hx (by omega)
  simp only [e]
  generalize x * ((b : Int) - a) = m at *
  simp [List.getD_eq_getElem?_getD, ha, hb]
  rw [← Bool.decide_or, decide_eq_decide]
  omega
theorem none_self (st x : Int) (l : List Pt) (hok : ∀ p, p ∈ l → PtOk p) (a : Nat) (ha : a < l.length) : noneB ⟨st, l⟩ x a a = false := by
  unfold noneB his los
  have := (hok l[a] (List.getElem_mem _)).le
  rw [steps_self, Int.mul_zero]
  simp [List.getD_eq_getElem?_getD, ha]
  omega

set_option maxRecDepth 100000 in
set_option maxHeartbeats 4000000 in
theorem rprev_any (r : Row) (pv : Value) (w : World) (hP : PtsAt w pv r.pts) :
    Calls Try.prog 22 #[.agg #[.int .i64 r.st, pv]] w fun e w' => e = .returned (.tuple #[.int .i64 (prevR r).1, .int .i64 (prevR r).2.1, .int .i64 (prevR r).2.2]) ∧ Below w.heap.size w w' := by
  obtain ⟨st, pts⟩ := r
  simp only at hP ⊢
  obtain ⟨lp, pa, pc, rfl, _, _⟩ := id hP
  have HP := Lib.hid hP
  clear hP
  have HW0 : Hid (Below w.heap.size w (w.alloc (Obj.cells #[.int .i64 st, .slice pa pts.length pc] 24))) := by show Below _ _ _; go_grown
  have HRB := Lib.hid (heap_alloc_new w (Obj.cells #[.int .i64 st, .slice pa pts.length pc] 24))
  have HC := Lib.hid (rcheck_any ⟨st, pts⟩ (.slice pa pts.length pc) (w.alloc (Obj.cells #[.int .i64 st, .slice pa pts.length pc] 24)) (HP.out.below HW0.out))
  obtain ⟨c1, HC1⟩ : ∃ c, Hid ((checkR ⟨st, pts⟩).1 = c) := ⟨_, rfl⟩
  obtain ⟨c2, HC2⟩ : ∃ c, Hid ((checkR ⟨st, pts⟩).2.1 = c) := ⟨_, rfl⟩
  obtain ⟨c3, HC3⟩ : ∃ c, Hid ((checkR ⟨st, pts⟩).2.2 = c) := ⟨_, rfl⟩
  have HE : Hid (errR ⟨st, pts⟩ = c3) := by show _ = _; unfold errR; rw [HC3.out]
  rw [HC1.out, HC2.out, HC3.out] at HC
  clear HC1 HC2 HC3
  by_cases hz : c3 = 0
  · subst hz
    have hv := (check_valid _).1 HE.out
    have HOK := Lib.hid hv.ok
    have h10 : pts.length ≤ 10 := hv.n10
    have hs0 : 0 ≤ st := hv.s0
    have hs2 : st ≤ 200 := hv.s200
    clear hv
    have HS0 := Lib.hid hs0
    have HS2 := Lib.hid hs2
    go_enter Try.func22, Try.ntmps22
    go_wp2_with fail
    refine HC.out.mono ?_
    rintro e w0 ⟨rfl, hb⟩
    have HB0 := Lib.hid (HW0.out.trans (hb.mono HW0.out.size))
    have HR0 := Lib.hid ((hb.block _ (lt_of_block HRB.out)).trans HRB.out)
    clear hb HC HRB HW0
    go_wp2_with fail
    go_loopg [8] pts.length (fun g i wr => ∃ k : Nat, g + k = pts.length ∧ i = .int .i64 k ∧ Hid ((pairsL k).all (fun y => !badB st pts y) = true) ∧ Hid (Below w0.heap.size w0 wr))
    case atStart => exact ⟨0, rfl, rfl, rfl, Below.refl _ _⟩
    case round =>
      obtain ⟨k, hk, rfl, HA, HR⟩ := hrel
      have r0 := cellOf ((HR.out.block _ (lt_of_block HR0.out)).trans HR0.out) 0 _ rfl
      have r1 := cellOf ((HR.out.block _ (lt_of_block HR0.out)).trans HR0.out) 1 _ rfl
      by_cases hlt : k < pts.length
      · have kI : (k : Int) < (pts.length : Int) := by omega
        obtain ⟨g', rfl⟩ : ∃ g', gk = g' + 1 := ⟨gk - 1, by omega⟩
        go_wp2_with fail
        clear r0 r1
        go_loopg [9] (k + 1) (fun g2 i2 wq => ∃ (s : Nat) (v : Int), g2 + s = k + 1 ∧ v + s = k ∧ i2 = .int .i64 v ∧ Hid ((pairsL k ++ pTo k (s - 1)).all (fun y => !badB st pts y) = true) ∧ Hid (Below w0.heap.size w0 wq))
        case atStart => exact ⟨0, k, by omega, by omega, rfl, by show _ = _; simpa [pTo] using HA.out, HR.out⟩
        case round =>
          clear HR
          obtain ⟨s, v, hg2, hvs, rfl, HA2, HR⟩ := hrel
          have r0 := cellOf ((HR.out.block _ (lt_of_block HR0.out)).trans HR0.out) 0 _ rfl
          have r1 := cellOf ((HR.out.block _ (lt_of_block HR0.out)).trans HR0.out) 1 _ rfl
          by_cases hs : s ≤ k
          · obtain ⟨a, rfl⟩ : ∃ a : Nat, v = a := ⟨v.toNat, by omega⟩
            have hak : a < pts.length := by omega
            have a10 : (a : Int) ≤ 10 := by omega
            have HC := Lib.hid (none_any ⟨st, pts⟩ (.slice pa pts.length pc) st a k HS0.out (by have := HS2.out; omega) hak hlt h10 HOK.out wr ((HP.out.below HB0.out).below HR.out))
            obtain ⟨B, HB⟩ : ∃ B, Hid (noneB ⟨st, pts⟩ st a k = B) := ⟨_, rfl⟩
            rw [HB.out] at HC
            go_wp2_with fail
            refine HC.out.mono ?_
            rintro e w2 ⟨rfl, hb⟩
            have HR2 := Lib.hid (HR.out.trans (hb.mono HR.out.size))
            clear hb HC r0 r1
            cases B
            · have HA3 : Hid ((pairsL k ++ pTo k (s + 1 - 1)).all (fun y => !badB st pts y) = true) := by
                show _ = _
                rw [Nat.add_sub_cancel]
                cases s with
                | zero => exact HA2.out
                | succ s =>
                  have hA := HA2.out
                  rw [Nat.add_sub_cancel] at hA
                  rw [pTo_succ, ← List.append_assoc, List.all_append, hA]
                  have e : k - 1 - s = a := by omega
                  rw [e]
                  have := none_bad st st pts HS0.out a k (by omega) hlt
                  rw [HB.out] at this
                  simp [← this]
              clear HA2
              go_wp2
              go_roundg (gk - 1)
              case measure => omega
              case rel => exact ⟨s + 1, (a : Int) - 1, by omega, by omega, by go_num, HA3.out, HR2⟩
            · have HPR : Hid (prevR ⟨st, pts⟩ = ((a : Int), (k : Int), 0)) := by
                show _ = _
                unfold prevR
                rw [if_pos HE.out]
                cases s with
                | zero =>
                  have e : a = k := by omega
                  have := none_self st st pts HOK.out k hlt
                  have hB := HB.out
                  rw [e, this] at hB
                  cases hB
                | succ s =>
                  have hA := HA2.out
                  rw [Nat.add_sub_cancel] at hA
                  have hpre := part_pre pts.length k (s + 1) hs hlt
                  rw [pTo_succ, ← List.append_assoc] at hpre
                  have e : k - 1 - s = a := by omega
                  rw [e] at hpre
                  have hb := none_bad st st pts HS0.out a k (by omega) hlt
                  rw [HB.out] at hb
                  have := find_first (badB st pts) (pairsL pts.length) _ (a, k) hpre hA hb.symm
                  simp only [this]
              clear HA2 HA
              go_wp2
              go_ret3
              exact ⟨by rw [HPR.out]; rfl, HB0.out.trans (HR2.out.mono HB0.out.size)⟩
          · obtain rfl : v = -1 := by omega
            have HA3 : Hid ((pairsL (k + 1)).all (fun y => !badB st pts y) = true) := by
              show _ = _
              have hA := HA2.out
              have e : s - 1 = k := by omega
              rw [e] at hA
              exact hA
            clear HA2 HA hs hvs
            go_wp2
            go_roundg g'
            case measure => omega
            case rel => exact ⟨k + 1, by omega, by go_num, HA3.out, HR⟩
      · have HPR : Hid (prevR ⟨st, pts⟩ = (0, 0, 4)) := by
          show _ = _
          unfold prevR
          rw [if_pos HE.out]
          have e : k = pts.length := by omega
          have hA := HA.out
          rw [e] at hA
          have := find_no (badB st pts) (pairsL pts.length) hA
          simp only [this]
        obtain rfl : k = pts.length := by omega
        clear hlt hk HA
        go_wp2
        go_ret3
        exact ⟨by rw [HPR.out]; rfl, HB0.out.trans (HR.out.mono HB0.out.size)⟩
  · have HPR : Hid (prevR ⟨st, pts⟩ = (0, 0, c3)) := by show _ = _; unfold prevR; rw [if_neg (by rw [HE.out]; exact hz), HE.out]
    have t3 : (c3 != 0) = true := by simp [hz]
    go_enter Try.func22, Try.ntmps22
    go_wp2_with fail
    refine HC.out.mono ?_
    rintro e w0 ⟨rfl, hb⟩
    have HB0 := Lib.hid (HW0.out.trans (hb.mono HW0.out.size))
    clear hb HC HRB HW0
    go_wp2
    go_ret3
    exact ⟨by rw [HPR.out]; rfl, HB0.out⟩
end Go.Proofs.Ytompoaglncgomaa
