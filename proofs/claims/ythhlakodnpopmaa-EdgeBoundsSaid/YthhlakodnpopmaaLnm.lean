/- Package edge: the fewest edges without which changes agree. -/
import Derived.Test.YthhlakodnpopmaaLrm
set_option linter.unusedSimpArgs false
set_option linter.unusedVariables false
namespace Go.Proofs.Ythhlakodnpopmaa
open Go Go.RowKit Go.Shelf Ed

set_option maxHeartbeats 400000 in
theorem rhas_any (x : Int) (v : Value) (l : List Int) (w : World) (hv : IntsAt w v l) :
    Calls Try.prog 78 #[v, .int .i64 x] w fun e w' => e = .returned (.bool (decide (x ∈ l))) ∧ w = w' := by
  obtain ⟨hm, a, cap, rfl, _, _⟩ := id hv
  have hm' : (l.length : Int) ≤ 4611686018427387904 := by omega
  have HC := Lib.hid hv
  clear hv
  go_enter Try.func78, Try.ntmps78
  go_wp2
  go_loop [5] (fun i => ∃ k : Nat, k ≤ l.length ∧ i = .int .i64 k ∧ Hid (x ∉ l.take k)) (fun i => l.length - (intOf i).toNat)
  case atStart => exact ⟨0, Nat.zero_le _, rfl, by show _ ∉ _; simp⟩
  case round =>
    obtain ⟨k, hk, rfl, HW⟩ := hrel
    by_cases hlt : k < l.length
    · obtain ⟨b, o, rfl, hck⟩ := HC.out.get hlt
      have HX : Hid (l[k] = x → x ∈ l) := fun e => e ▸ List.getElem_mem hlt
      have HN : Hid (l[k] ≠ x → x ∉ l.take (k + 1)) := fun e h => by
        rw [List.take_succ_eq_append_getElem hlt, List.mem_append] at h
        rcases h with h | h
        · exact HW.out h
        · simp at h; exact e h.symm
      have kI : (k : Int) < (l.length : Int) := by omega
      generalize l[k] = y at *
      by_cases hy : y = x
      · have e1 : (y == x) = true := by simp [hy]
        have HY := Lib.hid (HX.out hy)
        clear hy HX HN
        go_wp2
        go_ret
        exact ⟨by simp [HY.out], rfl⟩
      · have e1 : (y == x) = false := by simp [hy]
        have HY := Lib.hid (HN.out hy)
        clear hy HX HN
        go_wp2
        go_round
        case rel => exact ⟨k + 1, by omega, by go_num, HY.out⟩
        case measure => simp [intOf]; omega
    · have kI : ¬ (k : Int) < (l.length : Int) := by omega
      have HY : Hid (x ∉ l) := by show _ ∉ _; have := HW.out; rwa [List.take_of_length_le (by omega)] at this
      clear hlt
      go_wp2
      go_ret
      exact ⟨by simp [HY.out], rfl⟩
theorem natV_lsI (s k : Nat) : natV (lstK s k) = (lsI s k).map (Value.int .i64) := by
  unfold natV lsI
  rw [List.map_map]
  rfl
theorem bit_u8 (s n : Nat) : ((((s : Int) / 2 ^ n).tmod 2) == 1) = s.testBit n := by
  have e : ((s : Int) / 2 ^ n) = ((s / 2 ^ n : Nat) : Int) := by push_cast; rfl
  rw [e, Nat.testBit_eq_decide_div_mod_eq]
  generalize s / 2 ^ n = q
  have h := tmod_nat q 2
  have h' : (q : Int).tmod 2 = ((q % 2 : Nat) : Int) := h
  rw [h']
  by_cases h : q % 2 = 1
  · simp only [h, decide_true, beq_iff_eq]; omega
  · simp only [h, decide_false, beq_eq_false_iff_ne]; omega
set_option maxRecDepth 100000 in
set_option maxHeartbeats 4000000 in
theorem lchosen_any (tol : Int) (sv ev : Value) (m s : Nat) (hs : s ≤ 255) (hm : m ≤ 8) (w : World) (hev : ∃ a c, ev = .slice a m c) :
    Calls Try.prog 44 #[.agg #[.int .i64 tol, sv, ev], .int .u8 s] w fun e w' => ∃ v, e = .returned v ∧ IntsAt w' v (lsI s m) ∧ Below w.heap.size w w' := by
  obtain ⟨ea, ec, rfl⟩ := hev
  obtain ⟨i0, hi0⟩ := info_of_underlying Try.underlying3
  have HI : Hid (i0.zero = some (.int .i64 0) ∧ i0.size = 1 ∧ i0.bytes = 8) := by
    have h := intInfo
    rw [hi0] at h
    simp at h
    exact h
  obtain ⟨W, hW⟩ : ∃ W, w.alloc (Obj.cells #[.int .i64 tol, sv, .slice ea m ec] 25) = W := ⟨_, rfl⟩
  have hb : Below w.heap.size w W := by rw [← hW]; exact (Below.refl _ _).alloc (Nat.le_refl _) _
  have HR : Hid (W.heap[w.heap.size]? = some (Obj.cells #[.int .i64 tol, sv, .slice ea m ec] 25)) := by show _ = _; rw [← hW]; exact heap_alloc_new w _
  have HW := Lib.hid hW
  have HB := Lib.hid hb
  have mI : (m : Int) ≤ 8 := by omega
  have sI : (s : Int) ≤ 255 := by omega
  have own0 : W.ownsRow W.heap.size 3 1 (.slice none 0 0) 0 (natV (lstK s 0)) := World.ownsRow_nil _ _ _ _
  clear hW hb
  go_enter Try.func44, Try.ntmps44
  go_wp2_with fail
  rw [HW.out]
  go_loopg [5, 6] m (fun g nv v wr => ∃ (k : Nat) (na : Option Addr) (nl nc : Nat), g + k = m ∧ v = .int .i64 k ∧ nv = .slice na nl nc ∧ Hid (nl = (lstK s k).length) ∧ wr.ownsRow W.heap.size 3 1 (.slice na nl nc) nl (natV (lstK s k)) ∧ Hid (Below W.heap.size W wr))
  case atStart => exact ⟨0, none, 0, 0, by omega, rfl, rfl, rfl, own0, Below.refl _ _⟩
  case round =>
    clear own0
    obtain ⟨k, na, nl, nc, hk, rfl, rfl, HNL, hown, HL⟩ := hrel
    have R1 := Lib.hid ((HL.out.block _ (lt_of_block HR.out)).trans HR.out)
    have c2 := cellOf R1.out 2 _ rfl
    have cl := lt_of_block R1.out
    have HLS := HL.out.size
    have hnl8 : nl ≤ 8 := by have := HNL.out; have := lstK_le s k; omega
    have nlI : (nl : Int) ≤ 8 := by omega
    by_cases hkm : k < m
    · have kI : (k : Int) < (m : Int) := by omega
      have kI8 : (k : Int) < 8 := by omega
      have HSC := Lib.hid (lstK_succ s k)
      cases hb : s.testBit k
      · have tb : ((((s : Int) / 2 ^ k).tmod 2) == 1) = false := by rw [bit_u8, hb]
        rw [hb, if_neg (by simp)] at HSC
        have HO : Hid (wr.ownsRow W.heap.size 3 1 (.slice na nl nc) nl (natV (lstK s (k + 1)))) := by show World.ownsRow _ _ _ _ _ _ _; rw [HSC.out]; exact hown
        have HN2 : Hid (nl = (lstK s (k + 1)).length) := by show _ = _; rw [HSC.out]; exact HNL.out
        clear hb hown HSC HNL
        go_wp2_with fail
        go_roundg (gk - 1)
        case measure => omega
        case rel => exact ⟨k + 1, na, nl, nc, by omega, by go_num, rfl, HN2, HO.out, HL⟩
      · have tb : ((((s : Int) / 2 ^ k).tmod 2) == 1) = true := by rw [bit_u8, hb]
        rw [hb, if_pos rfl] at HSC
        have hownA := hown.alloc (Obj.cells #[.int .i64 (k : Int)] 3)
        have hba : Below wr.heap.size wr (wr.alloc (Obj.cells #[.int .i64 (k : Int)] 3)) := (Below.refl _ _).alloc (Nat.le_refl _) _
        have PB := Lib.hid (HL.out.trans (hba.mono HL.out.size))
        clear hba hb hown
        go_wp2_with (at_builtin; refine wpList_append_own _ rfl _ _ 26 rfl W.heap.size 3 i0 (.int .i64 0) 1 8 Try.underlying26 hi0 HI.out.1 HI.out.2.1 HI.out.2.2 rfl (by decide) _ _ _ rfl hownA ⟨wr.heap.size, 0, none⟩ 1 1 [.int .i64 (k : Int)] rfl rfl ?pa1 ?pa2 ?pa3 ?pa4 ?pa5 ?_)
        case pa1 =>
          intro j u hj
          match j, hj with
          | 0, hj => simp at hj; subst hj; exact cellOf (heap_alloc_new wr (Obj.cells #[.int .i64 (k : Int)] 3)) 0 _ rfl
          | j + 1, hj => simp at hj
        case pa2 => intro u hu; simp at hu; subst hu; rfl
        case pa3 => unfold maxLen; omega
        case pa4 => omega
        case pa5 => simp; omega
        intro v' w3 hown3 hgrow _
        have hB3 := Lib.hid (PB.out.grown hgrow PB.out.size (fun g hg => (hownA.lt g hg).1))
        obtain ⟨la', lc', rfl⟩ := own_slice hown3
        have HO3 : Hid (w3.ownsRow W.heap.size 3 1 (.slice la' (nl + 1) lc') (nl + 1) (natV (lstK s (k + 1)))) := by
          show World.ownsRow _ _ _ _ _ _ _
          rw [HSC.out]
          have : natV (lstK s k ++ [k]) = natV (lstK s k) ++ [.int .i64 (k : Int)] := by simp [natV]
          rw [this]
          exact hown3
        have HN2 : Hid (nl + 1 = (lstK s (k + 1)).length) := by show _ = _; rw [HSC.out, List.length_append]; have := HNL.out; simp; exact this
        obtain ⟨nq, hnq⟩ : ∃ q, nl + 1 = q := ⟨_, rfl⟩
        rw [hnq] at HO3 HN2 ⊢
        clear hown3 hgrow hownA c2 cl tb HSC HNL hnq
        go_wp2
        go_roundg (gk - 1)
        case measure => omega
        case rel => exact ⟨k + 1, la', nq, lc', by omega, by go_num, rfl, HN2, HO3.out, hB3⟩
    · obtain rfl : k = m := by omega
      have kI : ¬ (k : Int) < (k : Int) := by omega
      have HO : Hid (IntsAt wr (.slice na nl nc) (lsI s k)) := intsAt_own (l := lsI s k) (by
        rw [natV_lsI] at hown
        have e : (lsI s k).length = nl := by simp [lsI]; exact HNL.out.symm
        rw [e]; exact hown) (by simp [lsI]; have := lstK_le s k; omega)
      clear hkm hk hown
      go_wp2
      go_ret
      exact ⟨_, rfl, HO.out, HB.out.trans (HL.out.mono HB.out.size)⟩
theorem resK_lt {s m j : Nat} (h : j ∈ resK s m) : j < m := List.mem_range.1 (List.mem_filter.1 h).1
set_option maxRecDepth 100000 in
set_option maxHeartbeats 8000000 in
theorem rless_any (c : Cas) (hm8 : c.eds.length ≤ 8) (sv ev lv : Value) (l : List Int) (s : Nat) (w : World) (hC : CasAt w c sv ev) (hL : IntsAt w lv l) (hs : ∀ i, i < c.eds.length → decide ((i : Int) ∈ l) = s.testBit i) :
    Calls Try.prog 43 #[.agg #[.int .i64 c.tol, sv, ev], lv] w fun e w' => ∃ ev', e = .returned (.agg #[.int .i64 c.tol, sv, ev']) ∧ CasAt w' (lessC c s) sv ev' ∧ Below w.heap.size w w' := by
  obtain ⟨sa, n, sc, rfl⟩ : ∃ a n cc, sv = .slice a n cc := by obtain ⟨_, a, cap, h, _⟩ := hC.shs; exact ⟨_, _, _, h⟩
  obtain ⟨la, ln, lc, rfl⟩ : ∃ a n cc, lv = .slice a n cc := by obtain ⟨_, a, cap, h, _⟩ := hL; exact ⟨_, _, _, h⟩
  obtain ⟨m, hm⟩ : ∃ m, c.eds.length = m := ⟨_, rfl⟩
  have hE := hC.eds
  obtain ⟨_, ea, ec, rfl, _⟩ := id hE
  obtain ⟨P, hP⟩ := hE.vals
  rw [hm] at hE hm8 hs ⊢
  obtain ⟨i1, hi1⟩ := info_of_underlying Try.underlying71
  have HI1 : Hid (i1.zero = some (.agg #[.int .i64 0, .int .i64 0, .slice none 0 0]) ∧ i1.size = 3 ∧ i1.bytes = 40) := by
    have h := edgeInfo
    rw [hi1] at h
    simp at h
    exact h
  obtain ⟨W, hW, q1, q2, hb, hsz⟩ := al2 w (Obj.cells #[.int .i64 c.tol, .slice sa n sc, .slice ea m ec] 25) (Obj.cells #[.int .i64 0, .slice none 0 0, .slice none 0 0] 25)
  have HR := Lib.hid q1
  have HQ := Lib.hid q2
  have HLL := Lib.hid (hL.below hb)
  have HSH := Lib.hid hC.shs
  have HPP := Lib.hid hP
  have HW := Lib.hid hW
  have HB := Lib.hid hb
  have HM := Lib.hid hm
  have HS := Lib.hid hs
  have mI : (m : Int) ≤ 8 := by omega
  have HWS0 : w.heap.size + 2 ≤ W.heap.size := by omega
  generalize c.tol = tol at *
  have own0 : W.ownsRow W.heap.size 71 3 (.slice none 0 0) 0 (eRow c.eds P (resK s 0)) := World.ownsRow_nil _ _ _ _
  clear hW hb hE hC hm hL hP q1 q2 hsz hs
  go_enter Try.func43, Try.ntmps43
  go_wp2_with fail
  rw [HW.out]
  go_loopg [5, 6] m (fun g nv v wr => ∃ (k : Nat) (na : Option Addr) (nl nc : Nat), g + k = m ∧ v = .int .i64 k ∧ nv = .slice na nl nc ∧ Hid (nl = (resK s k).length) ∧ wr.ownsRow W.heap.size 71 3 (.slice na nl nc) nl (eRow c.eds P (resK s k)) ∧ Hid (Below W.heap.size W wr))
  case atStart => exact ⟨0, none, 0, 0, by omega, rfl, rfl, rfl, own0, Below.refl _ _⟩
  case round =>
    clear own0
    obtain ⟨k, na, nl, nc, hk, rfl, rfl, HNL, hown, HL⟩ := hrel
    have R1 := Lib.hid ((HL.out.block _ (lt_of_block HR.out)).trans HR.out)
    have c0 := cellOf R1.out 0 _ rfl
    have c1 := cellOf R1.out 1 _ rfl
    have c2 := cellOf R1.out 2 _ rfl
    have cl := lt_of_block R1.out
    have HLS := HL.out.size
    have hnl8 : nl ≤ 8 := by have := HNL.out; have := resK_le s k; omega
    have nlI : (nl : Int) ≤ 8 := by omega
    by_cases hkm : k < m
    · have kI : (k : Int) < (m : Int) := by omega
      have kI8 : (k : Int) < 8 := by omega
      have hk' : k < c.eds.length := by have := HM.out; omega
      have HSC := Lib.hid (resK_succ s k)
      have HHA := Lib.hid (rhas_any (k : Int) _ l wr (HLL.out.below HL.out))
      rw [HS.out k hkm] at HHA
      obtain ⟨hpp, eb, eo, heq, d0, d1, d2⟩ := HPP.out k hk'
      subst heq
      obtain ⟨pa, np, pc, hpk⟩ : ∃ pa np pc, P k = .slice pa np pc := by obtain ⟨_, a, cap, h, _⟩ := hpp; exact ⟨_, _, _, h⟩
      have d0 := keepK (keepK d0 HB.out) HL.out
      have d1 := keepK (keepK d1 HB.out) HL.out
      have d2 := keepK (keepK d2 HB.out) HL.out
      rw [hpk] at d2
      have HER := Lib.hid (eRow_append c.eds P (resK s k) k)
      rw [getD_lt _ _ hk', hpk] at HER
      generalize c.eds[k] = d at *
      obtain ⟨da, db, ps⟩ := d
      simp only at d0 d1 HER
      clear hpp hk' hpk
      go_wp2_with fail
      refine HHA.out.mono ?_
      rintro e w' ⟨rfl, rfl⟩
      cases hb : s.testBit k
      · rw [hb, if_neg (by simp)] at HSC
        have hownA := hown.alloc (Obj.cells #[.int .i64 da, .int .i64 db, .slice pa np pc] 71)
        have hba : Below wr.heap.size wr (wr.alloc (Obj.cells #[.int .i64 da, .int .i64 db, .slice pa np pc] 71)) := (Below.refl _ _).alloc (Nat.le_refl _) _
        have PB := Lib.hid (HL.out.trans (hba.mono HL.out.size))
        have HKN := Lib.hid (cells3_new wr 71 (.int .i64 da) (.int .i64 db) (.slice pa np pc))
        have dl := World.block_lt_of_cell? wr _ d0
        clear hba hb hown
        go_wp2_with (at_builtin; refine wpList_append_own _ rfl _ _ 23 rfl W.heap.size 71 i1 (.agg #[.int .i64 0, .int .i64 0, .slice none 0 0]) 3 40 Try.underlying23 hi1 HI1.out.1 HI1.out.2.1 HI1.out.2.2 rfl (by decide) _ _ _ rfl hownA ⟨wr.heap.size, 0, none⟩ 1 1 [.int .i64 da, .int .i64 db, .slice pa np pc] rfl rfl HKN.out (by intro u hu; simp at hu; rcases hu with rfl | rfl | rfl <;> rfl) (by unfold maxLen; omega) (by omega) (by simp; omega) ?_)
        intro v' w3 hown3 hgrow _
        have hB3 := Lib.hid (PB.out.grown hgrow PB.out.size (fun g hg => (hownA.lt g hg).1))
        obtain ⟨la', lc', rfl⟩ := own_slice hown3
        have HO3 : Hid (w3.ownsRow W.heap.size 71 3 (.slice la' (nl + 1) lc') (nl + 1) (eRow c.eds P (resK s (k + 1)))) := by
          show World.ownsRow _ _ _ _ _ _ _
          rw [HSC.out, HER.out]
          exact hown3
        have HN2 : Hid (nl + 1 = (resK s (k + 1)).length) := by show _ = _; rw [HSC.out, List.length_append]; have := HNL.out; simp; exact this
        obtain ⟨nq, hnq⟩ : ∃ q, nl + 1 = q := ⟨_, rfl⟩
        rw [hnq] at HO3 HN2 ⊢
        clear hown3 hgrow hownA c0 c1 c2 cl d0 d1 d2 dl HSC HNL hnq HHA HKN
        go_wp2
        go_roundg (gk - 1)
        case measure => omega
        case rel => exact ⟨k + 1, la', nq, lc', by omega, by go_num, rfl, HN2, HO3.out, hB3⟩
      · rw [hb, if_pos rfl] at HSC
        have HO : Hid (wr.ownsRow W.heap.size 71 3 (.slice na nl nc) nl (eRow c.eds P (resK s (k + 1)))) := by show World.ownsRow _ _ _ _ _ _ _; rw [HSC.out]; exact hown
        have HN2 : Hid (nl = (resK s (k + 1)).length) := by show _ = _; rw [HSC.out]; exact HNL.out
        clear hb hown HSC HNL c0 c1 c2 cl d0 d1 d2 HHA
        go_wp2_with fail
        go_roundg (gk - 1)
        case measure => omega
        case rel => exact ⟨k + 1, na, nl, nc, by omega, by go_num, rfl, HN2, HO.out, HL⟩
    · obtain rfl : k = m := by omega
      have kI : ¬ (k : Int) < (k : Int) := by omega
      have Q1 := Lib.hid ((HL.out.block _ (lt_of_block HQ.out)).trans HQ.out)
      have q0 := cellOf Q1.out 0 _ rfl
      have q1 := cellOf Q1.out 1 _ rfl
      have q2 := cellOf Q1.out 2 _ rfl
      have ql := lt_of_block Q1.out
      have f0 := frozen_of_row _ _ 0 _ _ Q1.out
      have f1 := frozen_of_row _ _ 1 _ _ Q1.out
      have f2 := frozen_of_row _ _ 2 _ _ Q1.out
      have g2 := frozen_of_row _ _ 2 _ _ R1.out
      clear hkm hk
      go_wp2_with fail
      have hA := own_other (own_other (own_other (own_other hown ⟨w.heap.size, 2, none⟩ (by simp; omega) (.slice na nl nc)) ⟨w.heap.size + 1, 0, none⟩ (by simp; omega) (.int .i64 tol)) ⟨w.heap.size + 1, 1, none⟩ (by simp; omega) (.slice sa n sc)) ⟨w.heap.size + 1, 2, none⟩ (by simp; omega) (.slice na nl nc)
      have hbf := put3_below (g := w.heap.size + 1) (a := .int .i64 tol) (b := .slice sa n sc) (c := .slice na nl nc) ((HB.out.trans (HL.out.mono HB.out.size)).setCell (p := ⟨w.heap.size, 2, none⟩) (Nat.le_refl _) (.slice na nl nc)) (by omega)
      have hres := put3_at (V := wr.setCell ⟨w.heap.size, 2, none⟩ (.slice na nl nc)) (g := w.heap.size + 1) (a := .int .i64 tol) (b := .slice sa n sc) (c := .slice na nl nc) ((heap_setCell_other wr ⟨w.heap.size, 2, none⟩ (w.heap.size + 1) _ (by simp)).trans Q1.out)
      refine bodyPost_ret (case_result rfl _ _ (w.heap.size + 1) _ _ _ rfl hres) rfl ⟨_, rfl, ⟨HSH.out.below hbf, ?_⟩, hbf⟩
      show EdgsAt _ _ ((resK s c.eds.length).map fun j => c.eds.getD j default)
      rw [HM.out]
      have hnl := HNL.out
      subst hnl
      refine edgsAt_own (P := P) hA (by omega) fun j hj => ?_
      have hj' : j < c.eds.length := by rw [HM.out]; exact resK_lt hj
      rw [getD_lt _ _ hj']
      exact (HPP.out j hj').1.below hbf
end Go.Proofs.Ythhlakodnpopmaa
namespace Go.Proofs.Ythhlakodnpopmaa
open Go Go.RowKit Go.Shelf Ed

theorem best_len (l : List (List Int)) : (bestS fewE [] l).2 = true ∧ l = [] ∨ (bestS fewE [] l).2 = false ∧ (bestS fewE [] l).1 ∈ l ∧ ∀ y, y ∈ l → (bestS fewE [] l).1.length ≤ y.length := by
  have h : ∀ (n : Nat) (l : List (List Int)), l.length = n → (bestS fewE [] l).2 = true ∧ l = [] ∨ (bestS fewE [] l).2 = false ∧ (bestS fewE [] l).1 ∈ l ∧ ∀ y, y ∈ l → (bestS fewE [] l).1.length ≤ y.length := by
    intro n
    induction n with
    | zero => intro l hl; rw [List.length_eq_zero_iff.1 hl]; exact .inl ⟨rfl, rfl⟩
    | succ n ih =>
      intro l hl
      have hne : l ≠ [] := by rintro rfl; simp at hl
      rw [← List.dropLast_concat_getLast hne]
      generalize l.getLast hne = x
      have hd : l.dropLast.length = n := by rw [List.length_dropLast]; omega
      generalize l.dropLast = k at *
      right
      rw [bestS_snoc]
      rcases ih k hd with ⟨h1, rfl⟩ | ⟨h1, h2, h3⟩
      · rw [h1]
        simp
      · rw [h1, Bool.false_or]
        generalize bestS fewE [] k = r at *
        cases hb : fewE x r.1
        · rw [if_neg (by simp)]
          refine ⟨h1, List.mem_append_left _ h2, fun y hy => ?_⟩
          rcases List.mem_append.1 hy with hy | hy
          · exact h3 y hy
          · rw [List.mem_singleton.1 hy]
            unfold fewE at hb
            simp at hb
            omega
        · rw [if_pos rfl]
          refine ⟨rfl, by simp, fun y hy => ?_⟩
          rcases List.mem_append.1 hy with hy | hy
          · have := h3 y hy
            unfold fewE at hb
            simp at hb
            simp only
            omega
          · rw [List.mem_singleton.1 hy]
            exact Nat.le_refl _
  exact h _ l rfl
theorem lstK_mod (b m : Nat) : lstK (b % 2 ^ m) m = lstK b m := by
  unfold lstK
  apply List.filter_congr
  intro j hj
  have : j < m := List.mem_range.1 hj
  rw [Nat.testBit_mod_two_pow]
  simp [this]
theorem resK_mod (b m : Nat) : resK (b % 2 ^ m) m = resK b m := by
  unfold resK
  apply List.filter_congr
  intro j hj
  have : j < m := List.mem_range.1 hj
  rw [Nat.testBit_mod_two_pow]
  simp [this]
theorem less_mod (c : Cas) (b : Nat) : lessC c (b % 2 ^ c.eds.length) = lessC c b := by unfold lessC; rw [resK_mod]
/-- Without: some edges without which changes agree, and no fewer do. -/
theorem named_spec (c : Cas) (h : errC c = 0) : ∃ s, withoutE c = (lsI s c.eds.length, 0) ∧ canS c s = true ∧ ∀ b, canS c b = true → (lsI s c.eds.length).length ≤ (lsI b c.eds.length).length := by
  have hv := valid_of h
  have hall : canS c (2 ^ c.eds.length - 1) = true := by
    rw [canS_iff c hv]
    refine ⟨fun _ => 0, ⟨fun i hi => ?_, fun e he => ?_⟩⟩
    · have h0 : 0 ≤ (sysA (lessC c (2 ^ c.eds.length - 1))).most i := (sys_fine (lessC c (2 ^ c.eds.length - 1)) (less_valid c hv _) (wsC _)).m0 i hi
      omega
    · exfalso
      have e0 : (lessC c (2 ^ c.eds.length - 1)).eds = [] := by
        unfold lessC
        have : resK (2 ^ c.eds.length - 1) c.eds.length = [] := by
          unfold resK
          rw [List.filter_eq_nil_iff]
          intro j hj
          have : j < c.eds.length := List.mem_range.1 hj
          rw [Nat.testBit_two_pow_sub_one]
          simp [this]
        rw [this]
        rfl
      simp only [sysC, e0, List.length_nil, List.range_zero, List.map_nil, List.not_mem_nil] at he
  have hmem : ∀ b, canS c b = true → lsI b c.eds.length ∈ spareL c := by
    intro b hb
    have hb' : canS c (b % 2 ^ c.eds.length) = true := by unfold canS at hb ⊢; rw [less_mod]; exact hb
    have e : lsI b c.eds.length = lsI (b % 2 ^ c.eds.length) c.eds.length := by unfold lsI; rw [lstK_mod]
    unfold spareL spareTo
    rw [List.mem_filterMap]
    exact ⟨b % 2 ^ c.eds.length, (setsL_mem _ _).2 (Nat.mod_lt _ (Nat.pow_pos (by omega))), by rw [if_pos hb', e]⟩
  rcases best_len (spareL c) with ⟨_, h2⟩ | ⟨_, h2, h3⟩
  · have := hmem _ hall
    rw [h2] at this
    simp at this
  · have hw : withoutE c = ((bestS fewE [] (spareL c)).1, 0) := by unfold withoutE withoutC; rw [if_neg (by simp [h])]
    unfold spareL spareTo at h2
    obtain ⟨s, _, hs⟩ := List.mem_filterMap.1 h2
    by_cases hc : canS c s = true
    · rw [if_pos hc] at hs
      injection hs with hs
      have hs' : (bestS fewE [] (spareL c)).1 = lsI s c.eds.length := hs.symm
      refine ⟨s, by rw [hw, hs'], hc, fun b hb => ?_⟩
      have := h3 _ (hmem b hb)
      rw [hs'] at this
      exact this
    · rw [if_neg hc] at hs
      cases hs
theorem lsI_mem (s m i : Nat) (hi : i < m) : decide ((i : Int) ∈ lsI s m) = s.testBit i := by
  unfold lsI lstK
  rw [Bool.eq_iff_iff, decide_eq_true_eq]
  constructor
  · intro h
    obtain ⟨j, hj, e⟩ := List.mem_map.1 h
    have : j = i := by omega
    subst this
    exact (List.mem_filter.1 hj).2
  · intro h
    exact List.mem_map.2 ⟨i, List.mem_filter.2 ⟨List.mem_range.2 hi, h⟩, rfl⟩
theorem lsI_length (s m : Nat) : (lsI s m).length ≤ m := by
  unfold lsI
  rw [List.length_map]
  exact lstK_le s m
theorem lsI_in (s m k : Nat) (hk : k < (lsI s m).length) : 0 ≤ (lsI s m)[k] ∧ (lsI s m)[k] < m := by
  have h : (lsI s m)[k] ∈ lsI s m := List.getElem_mem hk
  generalize (lsI s m)[k] = z at *
  unfold lsI at h
  obtain ⟨j, hj, e⟩ := List.mem_map.1 h
  have := List.mem_range.1 (List.mem_filter.1 hj).1
  omega
theorem lsI_asc (s m k : Nat) (hk : k + 1 < (lsI s m).length) : (lsI s m)[k]'(by omega) < (lsI s m)[k + 1] := by
  have h : (lsI s m).Pairwise (· < ·) := by
    unfold lsI lstK
    rw [List.pairwise_map]
    exact ((List.pairwise_lt_range (n := m)).filter _).imp fun h => by omega
  exact List.pairwise_iff_getElem.1 h k (k + 1) (by omega) hk (by omega)
theorem err_zero2 {c : Cas} (h : errC c = 0) : inB 0 50 c.tol = true ∧ ¬ (inB 1 5 (c.shs.length : Int) = false ∨ 8 < c.eds.length) ∧ (∀ j, j < c.shs.length → shErr (c.shs.take j) (c.shs.getD j default) = 0) ∧ ∀ j, j < c.eds.length → edErr c.shs.length (c.eds.getD j default) = 0 := by
  unfold errC checkC at h
  split at h
  · simp at h
  · rename_i h1
    split at h
    · simp at h
    · rename_i h2
      split at h
      · rename_i h3; exact absurd h h3
      · rename_i h3
        split at h
        · rename_i h4; exact absurd h h4
        · rename_i h4
          refine ⟨by simpa using h1, h2, fun j hj => ?_, fun j hj => ?_⟩
          · exact (firstW_zero _ _ _).1 (Classical.not_not.1 h3) j (Nat.zero_le _) (by omega)
          · exact (firstW_zero _ _ _).1 (Classical.not_not.1 h4) j (Nat.zero_le _) (by omega)
theorem less_err (c : Cas) (h : errC c = 0) (s : Nat) : errC (lessC c s) = 0 := by
  obtain ⟨h1, h2, h3, h4⟩ := err_zero2 h
  have hv := valid_of h
  have := checkC_ok (c := lessC c s) h1 (by
    intro hq
    rcases hq with hq | hq
    · exact h2 (Or.inl hq)
    · have := (less_valid c hv s).m8
      omega) h3 (fun j hj => by
    have hj' : j < (resK s c.eds.length).length := by simpa [lessC] using hj
    have e : (lessC c s).eds.getD j default = c.eds.getD (resK s c.eds.length)[j] default := by simp [lessC, List.getD_eq_getElem?_getD, hj']
    rw [e]
    exact h4 _ (resK_lt (List.getElem_mem hj')))
  unfold errC
  rw [this]
end Go.Proofs.Ythhlakodnpopmaa
