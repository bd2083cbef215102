/- EdgeTurned: the call returns true, whatever its arguments and the memory in which it begins; its arguments read as they did. -/
import Derived.Test.YthhlakodnpopmaaLrm
import Derived.Test.YthhlakodnpopmaaLom
import Derived.Test.YthhlakodnpopmaaEar
import Derived.Maps.AppendAt
import Derived.Laws.StructEq
import Derived.Deep.DeepCutAuto
import Derived.Test.YthhlakodnpopmaaRows
import Derived.ProofKit
import Derived.JoinedOf
import Derived.JoinedAt
set_option linter.unusedSimpArgs false
set_option linter.unusedVariables false
namespace Go.Proofs.Ythhlakodnpopmaa
open Go Go.RowKit Go.Shelf Ed

set_option maxHeartbeats 400000 in
theorem rhas_any (x : Int) (v : Value) (l : List Int) (w : World) (hv : IntsAt w v l) :
    Calls Try.prog 78 #[v, .int .i64 x] w fun e w' => e = .returned (.bool (decide (x ∈ l))) ∧ w = w' := by
  obtain ⟨hm, a, cap, rfl, _, _⟩ := id hv
  have hm' : (l.length : Int) ≤ 4611686018427387904 := by omega
  have HC := Lib.hid hv
  clear hv
  go_enter Try.func78, Try.ntmps78
  go_wp2
  go_loop [5] (fun i => ∃ k : Nat, k ≤ l.length ∧ i = .int .i64 k ∧ Hid (x ∉ l.take k)) (fun i => l.length - (intOf i).toNat)
  case atStart => exact ⟨0, Nat.zero_le _, rfl, by show _ ∉ _; simp⟩
  case round =>
    obtain ⟨k, hk, rfl, HW⟩ := hrel
    by_cases hlt : k < l.length
    · obtain ⟨b, o, rfl, hck⟩ := HC.out.get hlt
      have HX : Hid (l[k] = x → x ∈ l) := fun e => e ▸ List.getElem_mem hlt
      have HN : Hid (l[k] ≠ x → x ∉ l.take (k + 1)) := fun e h => by
        rw [List.take_succ_eq_append_getElem hlt, List.mem_append] at h
        rcases h with h | h
        · exact HW.out h
        · simp at h; exact e h.symm
      have kI : (k : Int) < (l.length : Int) := by omega
      generalize l[k] = y at *
      by_cases hy : y = x
      · have e1 : (y == x) = true := by simp [hy]
        have HY := Lib.hid (HX.out hy)
        clear hy HX HN
        go_wp2
        go_ret
        exact ⟨by simp [HY.out], rfl⟩
      · have e1 : (y == x) = false := by simp [hy]
        have HY := Lib.hid (HN.out hy)
        clear hy HX HN
        go_wp2
        go_round
        case rel => exact ⟨k + 1, by omega, by go_num, HY.out⟩
        case measure => simp [intOf]; omega
    · have kI : ¬ (k : Int) < (l.length : Int) := by omega
      have HY : Hid (x ∉ l) := by show _ ∉ _; have := HW.out; rwa [List.take_of_length_le (by omega)] at this
      clear hlt
      go_wp2
      go_ret
      exact ⟨by simp [HY.out], rfl⟩
theorem natV_lsI (s k : Nat) : natV (lstK s k) = (lsI s k).map (Value.int .i64) := by
  unfold natV lsI
  rw [List.map_map]
  rfl
theorem bit_u8 (s n : Nat) : ((((s : Int) / 2 ^ n).tmod 2) == 1) = s.testBit n := by
  have e : ((s : Int) / 2 ^ n) = ((s / 2 ^ n : Nat) : Int) := by push_cast; rfl
  rw [e, Nat.testBit_eq_decide_div_mod_eq]
  generalize s / 2 ^ n = q
  have h := tmod_nat q 2
  have h' : (q : Int).tmod 2 = ((q % 2 : Nat) : Int) := h
  rw [h']
  by_cases h : q % 2 = 1
  · simp only [h, decide_true, beq_iff_eq]; omega
  · simp only [h, decide_false, beq_eq_false_iff_ne]; omega
set_option maxRecDepth 100000 in
set_option maxHeartbeats 4000000 in
theorem lchosen_any (tol : Int) (sv ev : Value) (m s : Nat) (hs : s ≤ 255) (hm : m ≤ 8) (w : World) (hev : ∃ a c, ev = .slice a m c) :
    Calls Try.prog 44 #[.agg #[.int .i64 tol, sv, ev], .int .u8 s] w fun e w' => ∃ v, e = .returned v ∧ IntsAt w' v (lsI s m) ∧ Below w.heap.size w w' := by
  obtain ⟨ea, ec, rfl⟩ := hev
  obtain ⟨i0, hi0⟩ := info_of_underlying Try.underlying3
  have HI : Hid (i0.zero = some (.int .i64 0) ∧ i0.size = 1 ∧ i0.bytes = 8) := by
    have h := intInfo
    rw [hi0] at h
    simp at h
    exact h
  obtain ⟨W, hW⟩ : ∃ W, w.alloc (Obj.cells #[.int .i64 tol, sv, .slice ea m ec] 25) = W := ⟨_, rfl⟩
  have hb : Below w.heap.size w W := by rw [← hW]; exact (Below.refl _ _).alloc (Nat.le_refl _) _
  have HR : Hid (W.heap[w.heap.size]? = some (Obj.cells #[.int .i64 tol, sv, .slice ea m ec] 25)) := by show _ = _; rw [← hW]; exact heap_alloc_new w _
  have HW := Lib.hid hW
  have HB := Lib.hid hb
  have mI : (m : Int) ≤ 8 := by omega
  have sI : (s : Int) ≤ 255 := by omega
  have own0 : W.ownsRow W.heap.size 3 1 (.slice none 0 0) 0 (natV (lstK s 0)) := World.ownsRow_nil _ _ _ _
  clear hW hb
  go_enter Try.func44, Try.ntmps44
  go_wp2_with fail
  rw [HW.out]
  go_loopg [5, 6] m (fun g nv v wr => ∃ (k : Nat) (na : Option Addr) (nl nc : Nat), g + k = m ∧ v = .int .i64 k ∧ nv = .slice na nl nc ∧ Hid (nl = (lstK s k).length) ∧ wr.ownsRow W.heap.size 3 1 (.slice na nl nc) nl (natV (lstK s k)) ∧ Hid (Below W.heap.size W wr))
  case atStart => exact ⟨0, none, 0, 0, by omega, rfl, rfl, rfl, own0, Below.refl _ _⟩
  case round =>
    clear own0
    obtain ⟨k, na, nl, nc, hk, rfl, rfl, HNL, hown, HL⟩ := hrel
    have R1 := Lib.hid ((HL.out.block _ (lt_of_block HR.out)).trans HR.out)
    have c2 := cellOf R1.out 2 _ rfl
    have cl := lt_of_block R1.out
    have HLS := HL.out.size
    have hnl8 : nl ≤ 8 := by have := HNL.out; have := lstK_le s k; omega
    have nlI : (nl : Int) ≤ 8 := by omega
    by_cases hkm : k < m
    · have kI : (k : Int) < (m : Int) := by omega
      have kI8 : (k : Int) < 8 := by omega
      have HSC := Lib.hid (lstK_succ s k)
      cases hb : s.testBit k
      · have tb : ((((s : Int) / 2 ^ k).tmod 2) == 1) = false := by rw [bit_u8, hb]
        rw [hb, if_neg (by simp)] at HSC
        have HO : Hid (wr.ownsRow W.heap.size 3 1 (.slice na nl nc) nl (natV (lstK s (k + 1)))) := by show World.ownsRow _ _ _ _ _ _ _; rw [HSC.out]; exact hown
        have HN2 : Hid (nl = (lstK s (k + 1)).length) := by show _ = _; rw [HSC.out]; exact HNL.out
        clear hb hown HSC HNL
        go_wp2_with fail
        go_roundg (gk - 1)
        case measure => omega
        case rel => exact ⟨k + 1, na, nl, nc, by omega, by go_num, rfl, HN2, HO.out, HL⟩
      · have tb : ((((s : Int) / 2 ^ k).tmod 2) == 1) = true := by rw [bit_u8, hb]
        rw [hb, if_pos rfl] at HSC
        have hownA := hown.alloc (Obj.cells #[.int .i64 (k : Int)] 3)
        have hba : Below wr.heap.size wr (wr.alloc (Obj.cells #[.int .i64 (k : Int)] 3)) := (Below.refl _ _).alloc (Nat.le_refl _) _
        have PB := Lib.hid (HL.out.trans (hba.mono HL.out.size))
        clear hba hb hown
        go_wp2_with (at_builtin; refine wpList_append_own _ rfl _ _ 26 rfl W.heap.size 3 i0 (.int .i64 0) 1 8 Try.underlying26 hi0 HI.out.1 HI.out.2.1 HI.out.2.2 rfl (by decide) _ _ _ rfl hownA ⟨wr.heap.size, 0, none⟩ 1 1 [.int .i64 (k : Int)] rfl rfl ?pa1 ?pa2 ?pa3 ?pa4 ?pa5 ?_)
        case pa1 =>
          intro j u hj
          match j, hj with
          | 0, hj => simp at hj; subst hj; exact cellOf (heap_alloc_new wr (Obj.cells #[.int .i64 (k : Int)] 3)) 0 _ rfl
          | j + 1, hj => simp at hj
        case pa2 => intro u hu; simp at hu; subst hu; rfl
        case pa3 => unfold maxLen; omega
        case pa4 => omega
        case pa5 => simp; omega
        intro v' w3 hown3 hgrow _
        have hB3 := Lib.hid (PB.out.grown hgrow PB.out.size (fun g hg => (hownA.lt g hg).1))
        obtain ⟨la', lc', rfl⟩ := own_slice hown3
        have HO3 : Hid (w3.ownsRow W.heap.size 3 1 (.slice la' (nl + 1) lc') (nl + 1) (natV (lstK s (k + 1)))) := by
          show World.ownsRow _ _ _ _ _ _ _
          rw [HSC.out]
          have : natV (lstK s k ++ [k]) = natV (lstK s k) ++ [.int .i64 (k : Int)] := by simp [natV]
          rw [this]
          exact hown3
        have HN2 : Hid (nl + 1 = (lstK s (k + 1)).length) := by show _ = _; rw [HSC.out, List.length_append]; have := HNL.out; simp; exact this
        obtain ⟨nq, hnq⟩ : ∃ q, nl + 1 = q := ⟨_, rfl⟩
        rw [hnq] at HO3 HN2 ⊢
        clear hown3 hgrow hownA c2 cl tb HSC HNL hnq
        go_wp2
        go_roundg (gk - 1)
        case measure => omega
        case rel => exact ⟨k + 1, la', nq, lc', by omega, by go_num, rfl, HN2, HO3.out, hB3⟩
    · obtain rfl : k = m := by omega
      have kI : ¬ (k : Int) < (k : Int) := by omega
      have HO : Hid (IntsAt wr (.slice na nl nc) (lsI s k)) := intsAt_own (l := lsI s k) (by
        rw [natV_lsI] at hown
        have e : (lsI s k).length = nl := by simp [lsI]; exact HNL.out.symm
        rw [e]; exact hown) (by simp [lsI]; have := lstK_le s k; omega)
      clear hkm hk hown
      go_wp2
      go_ret
      exact ⟨_, rfl, HO.out, HB.out.trans (HL.out.mono HB.out.size)⟩
theorem resK_lt {s m j : Nat} (h : j ∈ resK s m) : j < m := List.mem_range.1 (List.mem_filter.1 h).1
set_option maxRecDepth 100000 in
set_option maxHeartbeats 8000000 in
theorem rless_any (c : Cas) (hm8 : c.eds.length ≤ 8) (sv ev lv : Value) (l : List Int) (s : Nat) (w : World) (hC : CasAt w c sv ev) (hL : IntsAt w lv l) (hs : ∀ i, i < c.eds.length → decide ((i : Int) ∈ l) = s.testBit i) :
    Calls Try.prog 43 #[.agg #[.int .i64 c.tol, sv, ev], lv] w fun e w' => ∃ ev', e = .returned (.agg #[.int .i64 c.tol, sv, ev']) ∧ CasAt w' (lessC c s) sv ev' ∧ Below w.heap.size w w' := by
  obtain ⟨sa, n, sc, rfl⟩ : ∃ a n cc, sv = .slice a n cc := by obtain ⟨_, a, cap, h, _⟩ := hC.shs; exact ⟨_, _, _, h⟩
  obtain ⟨la, ln, lc, rfl⟩ : ∃ a n cc, lv = .slice a n cc := by obtain ⟨_, a, cap, h, _⟩ := hL; exact ⟨_, _, _, h⟩
  obtain ⟨m, hm⟩ : ∃ m, c.eds.length = m := ⟨_, rfl⟩
  have hE := hC.eds
  obtain ⟨_, ea, ec, rfl, _⟩ := id hE
  obtain ⟨P, hP⟩ := hE.vals
  rw [hm] at hE hm8 hs ⊢
  obtain ⟨i1, hi1⟩ := info_of_underlying Try.underlying71
  have HI1 : Hid (i1.zero = some (.agg #[.int .i64 0, .int .i64 0, .slice none 0 0]) ∧ i1.size = 3 ∧ i1.bytes = 40) := by
    have h := edgeInfo
    rw [hi1] at h
    simp at h
    exact h
  obtain ⟨W, hW, q1, q2, hb, hsz⟩ := al2 w (Obj.cells #[.int .i64 c.tol, .slice sa n sc, .slice ea m ec] 25) (Obj.cells #[.int .i64 0, .slice none 0 0, .slice none 0 0] 25)
  have HR := Lib.hid q1
  have HQ := Lib.hid q2
  have HLL := Lib.hid (hL.below hb)
  have HSH := Lib.hid hC.shs
  have HPP := Lib.hid hP
  have HW := Lib.hid hW
  have HB := Lib.hid hb
  have HM := Lib.hid hm
  have HS := Lib.hid hs
  have mI : (m : Int) ≤ 8 := by omega
  have HWS0 : w.heap.size + 2 ≤ W.heap.size := by omega
  generalize c.tol = tol at *
  have own0 : W.ownsRow W.heap.size 71 3 (.slice none 0 0) 0 (eRow c.eds P (resK s 0)) := World.ownsRow_nil _ _ _ _
  clear hW hb hE hC hm hL hP q1 q2 hsz hs
  go_enter Try.func43, Try.ntmps43
  go_wp2_with fail
  rw [HW.out]
  go_loopg [5, 6] m (fun g nv v wr => ∃ (k : Nat) (na : Option Addr) (nl nc : Nat), g + k = m ∧ v = .int .i64 k ∧ nv = .slice na nl nc ∧ Hid (nl = (resK s k).length) ∧ wr.ownsRow W.heap.size 71 3 (.slice na nl nc) nl (eRow c.eds P (resK s k)) ∧ Hid (Below W.heap.size W wr))
  case atStart => exact ⟨0, none, 0, 0, by omega, rfl, rfl, rfl, own0, Below.refl _ _⟩
  case round =>
    clear own0
    obtain ⟨k, na, nl, nc, hk, rfl, rfl, HNL, hown, HL⟩ := hrel
    have R1 := Lib.hid ((HL.out.block _ (lt_of_block HR.out)).trans HR.out)
    have c0 := cellOf R1.out 0 _ rfl
    have c1 := cellOf R1.out 1 _ rfl
    have c2 := cellOf R1.out 2 _ rfl
    have cl := lt_of_block R1.out
    have HLS := HL.out.size
    have hnl8 : nl ≤ 8 := by have := HNL.out; have := resK_le s k; omega
    have nlI : (nl : Int) ≤ 8 := by omega
    by_cases hkm : k < m
    · have kI : (k : Int) < (m : Int) := by omega
      have kI8 : (k : Int) < 8 := by omega
      have hk' : k < c.eds.length := by have := HM.out; omega
      have HSC := Lib.hid (resK_succ s k)
      have HHA := Lib.hid (rhas_any (k : Int) _ l wr (HLL.out.below HL.out))
      rw [HS.out k hkm] at HHA
      obtain ⟨hpp, eb, eo, heq, d0, d1, d2⟩ := HPP.out k hk'
      subst heq
      obtain ⟨pa, np, pc, hpk⟩ : ∃ pa np pc, P k = .slice pa np pc := by obtain ⟨_, a, cap, h, _⟩ := hpp; exact ⟨_, _, _, h⟩
      have d0 := keepK (keepK d0 HB.out) HL.out
      have d1 := keepK (keepK d1 HB.out) HL.out
      have d2 := keepK (keepK d2 HB.out) HL.out
      rw [hpk] at d2
      have HER := Lib.hid (eRow_append c.eds P (resK s k) k)
      rw [getD_lt _ _ hk', hpk] at HER
      generalize c.eds[k] = d at *
      obtain ⟨da, db, ps⟩ := d
      simp only at d0 d1 HER
      clear hpp hk' hpk
      go_wp2_with fail
      refine HHA.out.mono ?_
      rintro e w' ⟨rfl, rfl⟩
      cases hb : s.testBit k
      · rw [hb, if_neg (by simp)] at HSC
        have hownA := hown.alloc (Obj.cells #[.int .i64 da, .int .i64 db, .slice pa np pc] 71)
        have hba : Below wr.heap.size wr (wr.alloc (Obj.cells #[.int .i64 da, .int .i64 db, .slice pa np pc] 71)) := (Below.refl _ _).alloc (Nat.le_refl _) _
        have PB := Lib.hid (HL.out.trans (hba.mono HL.out.size))
        have HKN := Lib.hid (cells3_new wr 71 (.int .i64 da) (.int .i64 db) (.slice pa np pc))
        have dl := World.block_lt_of_cell? wr _ d0
        clear hba hb hown
        go_wp2_with (at_builtin; refine wpList_append_own _ rfl _ _ 23 rfl W.heap.size 71 i1 (.agg #[.int .i64 0, .int .i64 0, .slice none 0 0]) 3 40 Try.underlying23 hi1 HI1.out.1 HI1.out.2.1 HI1.out.2.2 rfl (by decide) _ _ _ rfl hownA ⟨wr.heap.size, 0, none⟩ 1 1 [.int .i64 da, .int .i64 db, .slice pa np pc] rfl rfl HKN.out (by intro u hu; simp at hu; rcases hu with rfl | rfl | rfl <;> rfl) (by unfold maxLen; omega) (by omega) (by simp; omega) ?_)
        intro v' w3 hown3 hgrow _
        have hB3 := Lib.hid (PB.out.grown hgrow PB.out.size (fun g hg => (hownA.lt g hg).1))
        obtain ⟨la', lc', rfl⟩ := own_slice hown3
        have HO3 : Hid (w3.ownsRow W.heap.size 71 3 (.slice la' (nl + 1) lc') (nl + 1) (eRow c.eds P (resK s (k + 1)))) := by
          show World.ownsRow _ _ _ _ _ _ _
          rw [HSC.out, HER.out]
          exact hown3
        have HN2 : Hid (nl + 1 = (resK s (k + 1)).length) := by show _ = _; rw [HSC.out, List.length_append]; have := HNL.out; simp; exact this
        obtain ⟨nq, hnq⟩ : ∃ q, nl + 1 = q := ⟨_, rfl⟩
        rw [hnq] at HO3 HN2 ⊢
        clear hown3 hgrow hownA c0 c1 c2 cl d0 d1 d2 dl HSC HNL hnq HHA HKN
        go_wp2
        go_roundg (gk - 1)
        case measure => omega
        case rel => exact ⟨k + 1, la', nq, lc', by omega, by go_num, rfl, HN2, HO3.out, hB3⟩
      · rw [hb, if_pos rfl] at HSC
        have HO : Hid (wr.ownsRow W.heap.size 71 3 (.slice na nl nc) nl (eRow c.eds P (resK s (k + 1)))) := by show World.ownsRow _ _ _ _ _ _ _; rw [HSC.out]; exact hown
        have HN2 : Hid (nl = (resK s (k + 1)).length) := by show _ = _; rw [HSC.out]; exact HNL.out
        clear hb hown HSC HNL c0 c1 c2 cl d0 d1 d2 HHA
        go_wp2_with fail
        go_roundg (gk - 1)
        case measure => omega
        case rel => exact ⟨k + 1, na, nl, nc, by omega, by go_num, rfl, HN2, HO.out, HL⟩
    · obtain rfl : k = m := by omega
      have kI : ¬ (k : Int) < (k : Int) := by omega
      have Q1 := Lib.hid ((HL.out.block _ (lt_of_block HQ.out)).trans HQ.out)
      have q0 := cellOf Q1.out 0 _ rfl
      have q1 := cellOf Q1.out 1 _ rfl
      have q2 := cellOf Q1.out 2 _ rfl
      have ql := lt_of_block Q1.out
      have f0 := frozen_of_row _ _ 0 _ _ Q1.out
      have f1 := frozen_of_row _ _ 1 _ _ Q1.out
      have f2 := frozen_of_row _ _ 2 _ _ Q1.out
      have g2 := frozen_of_row _ _ 2 _ _ R1.out
      clear hkm hk
      go_wp2_with fail
      have hA := own_other (own_other (own_other (own_other hown ⟨w.heap.size, 2, none⟩ (by simp; omega) (.slice na nl nc)) ⟨w.heap.size + 1, 0, none⟩ (by simp; omega) (.int .i64 tol)) ⟨w.heap.size + 1, 1, none⟩ (by simp; omega) (.slice sa n sc)) ⟨w.heap.size + 1, 2, none⟩ (by simp; omega) (.slice na nl nc)
      have hbf := put3_below (g := w.heap.size + 1) (a := .int .i64 tol) (b := .slice sa n sc) (c := .slice na nl nc) ((HB.out.trans (HL.out.mono HB.out.size)).setCell (p := ⟨w.heap.size, 2, none⟩) (Nat.le_refl _) (.slice na nl nc)) (by omega)
      have hres := put3_at (V := wr.setCell ⟨w.heap.size, 2, none⟩ (.slice na nl nc)) (g := w.heap.size + 1) (a := .int .i64 tol) (b := .slice sa n sc) (c := .slice na nl nc) ((heap_setCell_other wr ⟨w.heap.size, 2, none⟩ (w.heap.size + 1) _ (by simp)).trans Q1.out)
      refine bodyPost_ret (case_result rfl _ _ (w.heap.size + 1) _ _ _ rfl hres) rfl ⟨_, rfl, ⟨HSH.out.below hbf, ?_⟩, hbf⟩
      show EdgsAt _ _ ((resK s c.eds.length).map fun j => c.eds.getD j default)
      rw [HM.out]
      have hnl := HNL.out
      subst hnl
      refine edgsAt_own (P := P) hA (by omega) fun j hj => ?_
      have hj' : j < c.eds.length := by rw [HM.out]; exact resK_lt hj
      rw [getD_lt _ _ hj']
      exact (HPP.out j hj').1.below hbf
end Go.Proofs.Ythhlakodnpopmaa
namespace Go.Proofs.Ythhlakodnpopmaa
open Go Go.RowKit Go.Shelf Ed

theorem best_len (l : List (List Int)) : (bestS fewE [] l).2 = true ∧ l = [] ∨ (bestS fewE [] l).2 = false ∧ (bestS fewE [] l).1 ∈ l ∧ ∀ y, y ∈ l → (bestS fewE [] l).1.length ≤ y.length := by
  have h : ∀ (n : Nat) (l : List (List Int)), l.length = n → (bestS fewE [] l).2 = true ∧ l = [] ∨ (bestS fewE [] l).2 = false ∧ (bestS fewE [] l).1 ∈ l ∧ ∀ y, y ∈ l → (bestS fewE [] l).1.length ≤ y.length := by
    intro n
    induction n with
    | zero => intro l hl; rw [List.length_eq_zero_iff.1 hl]; exact .inl ⟨rfl, rfl⟩
    | succ n ih =>
      intro l hl
      have hne : l ≠ [] := by rintro rfl; simp at hl
      rw [← List.dropLast_concat_getLast hne]
      generalize l.getLast hne = x
      have hd : l.dropLast.length = n := by rw [List.length_dropLast]; omega
      generalize l.dropLast = k at *
      right
      rw [bestS_snoc]
      rcases ih k hd with ⟨h1, rfl⟩ | ⟨h1, h2, h3⟩
      · rw [h1]
        simp
      · rw [h1, Bool.false_or]
        generalize bestS fewE [] k = r at *
        cases hb : fewE x r.1
        · rw [if_neg (by simp)]
          refine ⟨h1, List.mem_append_left _ h2, fun y hy => ?_⟩
          rcases List.mem_append.1 hy with hy | hy
          · exact h3 y hy
          · rw [List.mem_singleton.1 hy]
            unfold fewE at hb
            simp at hb
            omega
        · rw [if_pos rfl]
          refine ⟨rfl, by simp, fun y hy => ?_⟩
          rcases List.mem_append.1 hy with hy | hy
          · have := h3 y hy
            unfold fewE at hb
            simp at hb
            simp only
            omega
          · rw [List.mem_singleton.1 hy]
            exact Nat.le_refl _
  exact h _ l rfl
theorem lstK_mod (b m : Nat) : lstK (b % 2 ^ m) m = lstK b m := by
  unfold lstK
  apply List.filter_congr
  intro j hj
  have : j < m := List.mem_range.1 hj
  rw [Nat.testBit_mod_two_pow]
  simp [this]
theorem resK_mod (b m : Nat) : resK (b % 2 ^ m) m = resK b m := by
  unfold resK
  apply List.filter_congr
  intro j hj
  have : j < m := List.mem_range.1 hj
  rw [Nat.testBit_mod_two_pow]
  simp [this]
theorem less_mod (c : Cas) (b : Nat) : lessC c (b % 2 ^ c.eds.length) = lessC c b := by unfold lessC; rw [resK_mod]
/-- Without: some edges without which changes agree, and no fewer do. -/
theorem named_spec (c : Cas) (h : errC c = 0) : ∃ s, withoutE c = (lsI s c.eds.length, 0) ∧ canS c s = true ∧ ∀ b, canS c b = true → (lsI s c.eds.length).length ≤ (lsI b c.eds.length).length := by
  have hv := valid_of h
  have hall : canS c (2 ^ c.eds.length - 1) = true := by
    rw [canS_iff c hv]
    refine ⟨fun _ => 0, ⟨fun i hi => ?_, fun e he => ?_⟩⟩
    · have h0 : 0 ≤ (sysA (lessC c (2 ^ c.eds.length - 1))).most i := (sys_fine (lessC c (2 ^ c.eds.length - 1)) (less_valid c hv _) (wsC _)).m0 i hi
      omega
    · exfalso
      have e0 : (lessC c (2 ^ c.eds.length - 1)).eds = [] := by
        unfold lessC
        have : resK (2 ^ c.eds.length - 1) c.eds.length = [] := by
          unfold resK
          rw [List.filter_eq_nil_iff]
          intro j hj
          have : j < c.eds.length := List.mem_range.1 hj
          rw [Nat.testBit_two_pow_sub_one]
          simp [this]
        rw [this]
        rfl
      simp only [sysC, e0, List.length_nil, List.range_zero, List.map_nil, List.not_mem_nil] at he
  have hmem : ∀ b, canS c b = true → lsI b c.eds.length ∈ spareL c := by
    intro b hb
    have hb' : canS c (b % 2 ^ c.eds.length) = true := by unfold canS at hb ⊢; rw [less_mod]; exact hb
    have e : lsI b c.eds.length = lsI (b % 2 ^ c.eds.length) c.eds.length := by unfold lsI; rw [lstK_mod]
    unfold spareL spareTo
    rw [List.mem_filterMap]
    exact ⟨b % 2 ^ c.eds.length, (setsL_mem _ _).2 (Nat.mod_lt _ (Nat.pow_pos (by omega))), by rw [if_pos hb', e]⟩
  rcases best_len (spareL c) with ⟨_, h2⟩ | ⟨_, h2, h3⟩
  · have := hmem _ hall
    rw [h2] at this
    simp at this
  · have hw : withoutE c = ((bestS fewE [] (spareL c)).1, 0) := by unfold withoutE withoutC; rw [if_neg (by simp [h])]
    unfold spareL spareTo at h2
    obtain ⟨s, _, hs⟩ := List.mem_filterMap.1 h2
    by_cases hc : canS c s = true
    · rw [if_pos hc] at hs
      injection hs with hs
      have hs' : (bestS fewE [] (spareL c)).1 = lsI s c.eds.length := hs.symm
      refine ⟨s, by rw [hw, hs'], hc, fun b hb => ?_⟩
      have := h3 _ (hmem b hb)
      rw [hs'] at this
      exact this
    · rw [if_neg hc] at hs
      cases hs
theorem lsI_mem (s m i : Nat) (hi : i < m) : decide ((i : Int) ∈ lsI s m) = s.testBit i := by
  unfold lsI lstK
  rw [Bool.eq_iff_iff, decide_eq_true_eq]
  constructor
  · intro h
    obtain ⟨j, hj, e⟩ := List.mem_map.1 h
    have : j = i := by omega
    subst this
    exact (List.mem_filter.1 hj).2
  · intro h
    exact List.mem_map.2 ⟨i, List.mem_filter.2 ⟨List.mem_range.2 hi, h⟩, rfl⟩
theorem lsI_length (s m : Nat) : (lsI s m).length ≤ m := by
  unfold lsI
  rw [List.length_map]
  exact lstK_le s m
theorem lsI_in (s m k : Nat) (hk : k < (lsI s m).length) : 0 ≤ (lsI s m)[k] ∧ (lsI s m)[k] < m := by
  have h : (lsI s m)[k] ∈ lsI s m := List.getElem_mem hk
  generalize (lsI s m)[k] = z at *
  unfold lsI at h
  obtain ⟨j, hj, e⟩ := List.mem_map.1 h
  have := List.mem_range.1 (List.mem_filter.1 hj).1
  omega
theorem lsI_asc (s m k : Nat) (hk : k + 1 < (lsI s m).length) : (lsI s m)[k]'(by omega) < (lsI s m)[k + 1] := by
  have h : (lsI s m).Pairwise (· < ·) := by
    unfold lsI lstK
    rw [List.pairwise_map]
    exact ((List.pairwise_lt_range (n := m)).filter _).imp fun h => by omega
  exact List.pairwise_iff_getElem.1 h k (k + 1) (by omega) hk (by omega)
theorem err_zero2 {c : Cas} (h : errC c = 0) : inB 0 50 c.tol = true ∧ ¬ (inB 1 5 (c.shs.length : Int) = false ∨ 8 < c.eds.length) ∧ (∀ j, j < c.shs.length → shErr (c.shs.take j) (c.shs.getD j default) = 0) ∧ ∀ j, j < c.eds.length → edErr c.shs.length (c.eds.getD j default) = 0 := by
  unfold errC checkC at h
  split at h
  · simp at h
  · rename_i h1
    split at h
    · simp at h
    · rename_i h2
      split at h
      · rename_i h3; exact absurd h h3
      · rename_i h3
        split at h
        · rename_i h4; exact absurd h h4
        · rename_i h4
          refine ⟨by simpa using h1, h2, fun j hj => ?_, fun j hj => ?_⟩
          · exact (firstW_zero _ _ _).1 (Classical.not_not.1 h3) j (Nat.zero_le _) (by omega)
          · exact (firstW_zero _ _ _).1 (Classical.not_not.1 h4) j (Nat.zero_le _) (by omega)
theorem less_err (c : Cas) (h : errC c = 0) (s : Nat) : errC (lessC c s) = 0 := by
  obtain ⟨h1, h2, h3, h4⟩ := err_zero2 h
  have hv := valid_of h
  have := checkC_ok (c := lessC c s) h1 (by
    intro hq
    rcases hq with hq | hq
    · exact h2 (Or.inl hq)
    · have := (less_valid c hv s).m8
      omega) h3 (fun j hj => by
    have hj' : j < (resK s c.eds.length).length := by simpa [lessC] using hj
    have e : (lessC c s).eds.getD j default = c.eds.getD (resK s c.eds.length)[j] default := by simp [lessC, List.getD_eq_getElem?_getD, hj']
    rw [e]
    exact h4 _ (resK_lt (List.getElem_mem hj')))
  unfold errC
  rw [this]
end Go.Proofs.Ythhlakodnpopmaa
namespace Go.Proofs.Ythhlakodnpopmaa
open Go Go.RowKit Go.Shelf Ed

/-- Edges in memory, with the values of their points. -/
def EdgV (w : World) (v : Value) (eds : List Edg) (P : Nat → Value) : Prop :=
  ∃ a c, v = .slice a eds.length c ∧ eds.length ≤ c ∧ (∀ k (hk : k < eds.length), PairsAt w (P k) eds[k].pts) ∧ (eds ≠ [] → ∃ b o, a = some ⟨b, o, none⟩ ∧ ∀ j u, (eRow eds P (List.range eds.length))[j]? = some u → w.cell? ((⟨b, o, none⟩ : Addr).add j) = some u)
theorem eRow_cells {w : World} {b o : Nat} {eds : List Edg} {P : Nat → Value} (h : ∀ k (hk : k < eds.length), w.cell? ⟨b, o + k * 3, none⟩ = some (.int .i64 eds[k].a) ∧ w.cell? ⟨b, o + k * 3 + 1, none⟩ = some (.int .i64 eds[k].b) ∧ w.cell? ⟨b, o + k * 3 + 2, none⟩ = some (P k)) :
    ∀ j u, (eRow eds P (List.range eds.length))[j]? = some u → w.cell? ((⟨b, o, none⟩ : Addr).add j) = some u := by
  intro j u hu
  have hj : j < eds.length * 3 := by
    have := (List.getElem?_eq_some_iff.1 hu).1
    rw [eRow_length, List.length_range] at this
    exact this
  have hk : j / 3 < eds.length := by omega
  obtain ⟨c0, c1, c2⟩ := h _ hk
  have g := eRow_get eds P (List.range eds.length) (j / 3) (by rw [List.length_range]; exact hk)
  rw [List.getElem_range, getD_lt _ _ hk] at g
  rw [Go.WideShapes.add_plain]
  have hr : j % 3 = 0 ∨ j % 3 = 1 ∨ j % 3 = 2 := by omega
  rcases hr with q | q | q
  · have e : j = j / 3 * 3 := by omega
    rw [e] at hu ⊢
    rw [g.1] at hu
    rw [← hu]
    exact c0
  · have e : j = j / 3 * 3 + 1 := by omega
    have e2 : o + j = o + j / 3 * 3 + 1 := by omega
    rw [e2]
    rw [e, g.2.1] at hu
    rw [← hu]
    exact c1
  · have e : j = j / 3 * 3 + 2 := by omega
    have e2 : o + j = o + j / 3 * 3 + 2 := by omega
    rw [e2]
    rw [e, g.2.2] at hu
    rw [← hu]
    exact c2
theorem EdgsAt.v {w : World} {a : Option Addr} {n c : Nat} {eds : List Edg} (h : EdgsAt w (.slice a n c) eds) : ∃ P, EdgV w (.slice a n c) eds P := by
  obtain ⟨P, hP⟩ := h.vals
  obtain ⟨_, a', c', e, hc, _⟩ := id h
  injection e with e1 e2 e3
  subst e1 e2 e3
  refine ⟨P, a, c, rfl, hc, fun k hk => (hP k hk).1, fun hne => ?_⟩
  obtain ⟨_, b, o, e, _⟩ := hP 0 (List.length_pos_iff.2 hne)
  subst e
  refine ⟨b, o, rfl, eRow_cells fun k hk => ?_⟩
  obtain ⟨_, b', o', e, c0, c1, c2⟩ := hP k hk
  injection e with e
  injection e with e1 e2
  subst e1 e2
  exact ⟨c0, c1, c2⟩
theorem eRow_one (eds : List Edg) (P : Nat → Value) (hP : ∀ k, k < eds.length → (P k).oneCell' = true) : ∀ u ∈ eRow eds P (List.range eds.length), u.oneCell' = true := by
  intro u hu
  obtain ⟨j, hj, hs⟩ := List.mem_flatMap.1 hu
  simp at hs
  rcases hs with rfl | rfl | rfl
  · rfl
  · rfl
  · exact hP j (List.mem_range.1 hj)
theorem EdgV.one {w : World} {v : Value} {eds : List Edg} {P : Nat → Value} (h : EdgV w v eds P) : ∀ u ∈ eRow eds P (List.range eds.length), u.oneCell' = true := by
  obtain ⟨_, _, _, _, hp, _⟩ := h
  refine eRow_one eds P fun k hk => ?_
  obtain ⟨_, a, c, e, _⟩ := hp k hk
  rw [e]
  rfl
set_option maxRecDepth 100000 in
/-- Edges are appended to a row of the call's own. -/
theorem run_edges (w : World) (ty : TypeId) (base n : Nat) (v sv : Value) (xs : List Value) (eds : List Edg) (P : Nat → Value) (hown : w.ownsRow base 71 3 v n xs) (hl : EdgV w sv eds P) (hb : base ≤ w.heap.size)
    (hlen : n + eds.length ≤ 1000) :
    ∃ v' w', (Builtin.append_ #[23, 23] ty #[v, sv]).run Try.prog w = .ok v' w' ∧ w'.ownsRow base 71 3 v' (n + eds.length) (xs ++ eRow eds P (List.range eds.length)) ∧ w.grownBy w' v.ownBlock := by
  obtain ⟨i0, hi⟩ := info_of_underlying Try.underlying71
  have HI : i0.zero = some (.agg #[.int .i64 0, .int .i64 0, .slice none 0 0]) ∧ i0.size = 3 ∧ i0.bytes = 40 := by
    have h := edgeInfo
    rw [hi] at h
    simp at h
    exact h
  obtain ⟨A, c, rfl, hc, hp, hne⟩ := id hl
  cases A with
  | none =>
    have he : eds = [] := by
      cases eds with
      | nil => rfl
      | cons x l => obtain ⟨_, _, h, _⟩ := hne (by simp); cases h
    subst he
    have hrun : (Builtin.append_ #[23, 23] ty #[v, .slice none 0 c]).run Try.prog w = .ok v w := by
      rcases hown.2 with ⟨rfl, h0⟩ | ⟨g, cap, cur, rfl, _, _, h1, _⟩
      · simp [Builtin.append_, run_underlying Try.underlying23, sizeOf, typeInfo, hi, Builtin.lenOf, Builtin.firstCells]
      · simp [Builtin.append_, run_underlying Try.underlying23, sizeOf, typeInfo, hi, Builtin.lenOf, Builtin.firstCells, h1, storeCells]
    exact ⟨v, w, hrun, by simpa [eRow] using hown, grown_refl w _⟩
  | some ad =>
    have hk : ∀ j u, (eRow eds P (List.range eds.length))[j]? = some u → w.cell? (ad.add j) = some u := by
      intro j u hu
      by_cases he : eds = []
      · subst he
        simp [eRow] at hu
      · obtain ⟨b, o, e, hk⟩ := hne he
        injection e with e
        subst e
        exact hk j u hu
    obtain ⟨v', w', h1, h2, h3, _, _⟩ := run_append_own_at (P := Try.prog) w base 23 ty 71 i0 _ 3 40 Try.underlying23 hi HI.1 HI.2.1 HI.2.2 rfl (by decide) v n _ hown ad eds.length c (eRow eds P (List.range eds.length)) (by rw [eRow_length, List.length_range]) hk
      hl.one (by unfold maxLen; omega) (by omega) hb
    exact ⟨v', w', h1, h2, h3⟩
theorem wpl_edges {ops : Array Oper} {rest : List Oper} {o : Oper} {a : Act} {Q : Exit → Act → World → Prop} {w : World} (hgd : o.guard = none) (s x : Operand)
    (ho : o.op = .call { callee := .builtin .append, args := #[s, x], argTypes := #[23, 23] })
    (base n : Nat) (v sv : Value) (xs : List Value) (eds : List Edg) (P : Nat → Value) (hs : a.eval s = v) (hx : a.eval x = sv) (hown : w.ownsRow base 71 3 v n xs) (hl : EdgV w sv eds P) (hb : base ≤ w.heap.size)
    (hlen : n + eds.length ≤ 1000)
    (h : ∀ v' w', w'.ownsRow base 71 3 v' (n + eds.length) (xs ++ eRow eds P (List.range eds.length)) → w.grownBy w' v.ownBlock → wpList Try.prog ops Q rest (a.put o.dst v') w') : wpList Try.prog ops Q (o :: rest) a w := by
  refine wpList_plain hgd fun K hK => ?_
  obtain ⟨v', w', hr, h2, h3⟩ := run_edges w o.type base n v sv xs eds P hown hl hb hlen
  unfold Oper.wp execOp
  simp only [ho, resolve, invoke, builtin, Sem.run_bind, Sem.run_pure, Result.andThen_ok, List.map_toArray, List.map_cons, List.map_nil, hs, hx, hr]
  exact hK _ _ (h v' w' h2 h3)
end Go.Proofs.Ythhlakodnpopmaa
namespace Go.Proofs.Ythhlakodnpopmaa
open Go Go.RowKit Go.Shelf Ed

/-- What the law asks of Range and Least of a case and one of the same sheets whose changes agree with the first, too. -/
theorem more_facts (c d : Cas) (h : errC c = 0) (he : errC d = 0) (hs : d.shs = c.shs) (hag : ∀ y, Ag (sysA d) y → Ag (sysA c) y) (i : Nat) (hi : i < c.shs.length) :
    ((rangeE d i = ((0, 0), 9) ∧ leastE d = ([], 0, 9)) ∧ ((rangeE c i = ((0, 0), 9) ∧ leastE c = ([], 0, 9)) ∨ (rangeE c i).2 = 0 ∧ (leastE c).2.2 = 0)) ∨
    ((rangeE d i).2 = 0 ∧ (leastE d).2.2 = 0 ∧ (rangeE c i).2 = 0 ∧ (leastE c).2.2 = 0 ∧ (rangeE c i).1.1 ≤ (rangeE d i).1.1 ∧ (rangeE d i).1.2 ≤ (rangeE c i).1.2 ∧ (leastE c).2.1 ≤ (leastE d).2.1) := by
  have hi2 : i < d.shs.length := by rw [hs]; exact hi
  have hcost : ∀ y, costF (sysA d) y = costF (sysA c) y := by
    intro y
    have h1 : (sysA d).n = (sysA c).n := by simp [sysC, hs]
    have h2 : ∀ j, (sysA d).wt j = (sysA c).wt j := fun j => by show (d.shs.getD j default).wt = (c.shs.getD j default).wt; rw [hs]
    unfold costF
    rw [h1]
    simp only [h2]
  rcases range_spec d he i hi2 with ⟨h1, hno⟩ | ⟨h1, h2⟩
  · left
    refine ⟨⟨h1, least_no d he hno⟩, ?_⟩
    rcases range_spec c h i hi with ⟨h3, hno2⟩ | ⟨h3, h4⟩
    · exact .inl ⟨h3, least_no _ h hno2⟩
    · right
      refine ⟨h3, ?_⟩
      rcases least_spec _ h with ⟨_, hno2⟩ | ⟨h5, _⟩
      · obtain ⟨y, hy, _⟩ := h4.lo
        exact absurd hy (hno2 _)
      · exact h5
  · right
    obtain ⟨y, hy, ey⟩ := h2.lo
    obtain ⟨y', hy', ey'⟩ := h2.hi
    rcases least_spec d he with ⟨_, hno⟩ | ⟨h5, h6⟩
    · exact absurd hy (hno _)
    · rcases range_spec _ h i hi with ⟨_, hno2⟩ | ⟨h3, h4⟩
      · exact absurd (hag y hy) (hno2 _)
      · rcases least_spec _ h with ⟨_, hno2⟩ | ⟨h7, h8⟩
        · exact absurd (hag y hy) (hno2 _)
        · refine ⟨h1, h5, h3, h7, ?_, ?_, ?_⟩
          · have := h4.all y (hag y hy); omega
          · have := h4.all y' (hag y' hy'); omega
          · rw [h8.cost, h6.cost]
            exact Int.le_trans (h8.mn.2 _ (hag _ h6.ag)) (by rw [hcost]; exact Int.le_refl _)
theorem want_less_fold (t : Int) : ∀ (l : List (Int × Int)) (s s' : Int × Int), s.1 ≤ s'.1 → s'.2 ≤ s.2 → (l.foldl (wantStep t) s).1 ≤ (l.foldl (wantStep t) s').1 ∧ (l.foldl (wantStep t) s').2 ≤ (l.foldl (wantStep t) s).2 := by
  intro l
  induction l with
  | nil => intro s s' h1 h2; exact ⟨h1, h2⟩
  | cons p l ih =>
    intro s s' h1 h2
    rw [List.foldl_cons, List.foldl_cons]
    apply ih
    · simp only [wantStep]; omega
    · simp only [wantStep]; omega
theorem want_snoc (t : Int) (l : List (Int × Int)) (p : Int × Int) : (wantS t l).1 ≤ (wantS t (l ++ [p])).1 ∧ (wantS t (l ++ [p])).2 ≤ (wantS t l).2 := by
  unfold wantS
  rw [List.foldl_append, List.foldl_cons, List.foldl_nil]
  generalize l.foldl (wantStep t) _ = s
  simp only [wantStep]
  omega
/-- Cases of the same sheets of which the second's edges keep the first's, with wants that are no wider. -/
theorem ag_less (c d : Cas) (hm : c.eds.length ≤ 8) (hm' : d.eds.length ≤ 8) (hs : d.shs = c.shs) (ht : d.tol = c.tol) (hl : c.eds.length ≤ d.eds.length)
    (he : ∀ i, i < c.eds.length → (d.eds.getD i default).a = (c.eds.getD i default).a ∧ (d.eds.getD i default).b = (c.eds.getD i default).b ∧ (wantS c.tol (c.eds.getD i default).pts).1 ≤ (wantS c.tol (d.eds.getD i default).pts).1 ∧ (wantS c.tol (d.eds.getD i default).pts).2 ≤ (wantS c.tol (c.eds.getD i default).pts).2)
    (y : Nat → Int) (hy : Ag (sysA d) y) : Ag (sysA c) y := by
  refine ⟨fun i hi => ?_, fun e he' => ?_⟩
  · have hi' : i < c.shs.length := by simpa [sysC] using hi
    have h1 := hy.bx i (by simpa [sysC, hs] using hi')
    have h2 : (sysA d).most i = (sysA c).most i := by show (d.shs.getD i default).most = (c.shs.getD i default).most; rw [hs]
    rw [h2] at h1
    exact h1
  · simp only [sysC, List.mem_map, List.mem_range] at he'
    obtain ⟨i, hi, rfl⟩ := he'
    have hi' : i < c.eds.length := hi
    have h1 := hy.ed ⟨(d.eds.getD i default).a.toNat, (d.eds.getD i default).b.toNat, (wL (wsC d) i).1, (wL (wsC d) i).2⟩ (by simp only [sysC, List.mem_map, List.mem_range]; exact ⟨i, by omega, rfl⟩)
    have h2 := wsTo_get (wantF c) c.eds.length i hi' hm
    have h3 := wsTo_get (wantF d) d.eds.length i (by omega) hm'
    have e2 : wL (wsC c) i = wantF c i := Prod.ext h2.1 h2.2
    have e3 : wL (wsC d) i = wantF d i := Prod.ext h3.1 h3.2
    obtain ⟨g1, g2, g3, g4⟩ := he i hi'
    rw [e3] at h1
    rw [e2]
    unfold wantF at h1 ⊢
    rw [ht] at h1
    have h1' : (wantS c.tol (d.eds.getD i default).pts).1 ≤ y (d.eds.getD i default).a.toNat - y (d.eds.getD i default).b.toNat ∧ y (d.eds.getD i default).a.toNat - y (d.eds.getD i default).b.toNat ≤ (wantS c.tol (d.eds.getD i default).pts).2 := h1
    rw [g1, g2] at h1'
    show (wantS c.tol (c.eds.getD i default).pts).1 ≤ y (c.eds.getD i default).a.toNat - y (c.eds.getD i default).b.toNat ∧ y (c.eds.getD i default).a.toNat - y (c.eds.getD i default).b.toNat ≤ (wantS c.tol (c.eds.getD i default).pts).2
    omega
/-- The case of the law EdgeMore. -/
def moreC (c : Cas) (x : Edg) (k : Nat) : Cas :=
  if k < c.eds.length ∧ x.pts ≠ [] then ⟨c.tol, c.shs, c.eds.set k ⟨(c.eds.getD k default).a, (c.eds.getD k default).b, (c.eds.getD k default).pts ++ [x.pts.headD default]⟩⟩
  else ⟨c.tol, c.shs, c.eds ++ [x]⟩
theorem more_ag (c : Cas) (x : Edg) (k : Nat) (h : errC c = 0) (he : errC (moreC c x k) = 0) (y : Nat → Int) (hy : Ag (sysA (moreC c x k)) y) : Ag (sysA c) y := by
  have hv := valid_of h
  have hv' := valid_of he
  have m8 := hv.m8
  have m8' := hv'.m8
  unfold moreC at hy m8'
  by_cases hk : k < c.eds.length ∧ x.pts ≠ []
  · rw [if_pos hk] at hy m8'
    refine ag_less c _ m8 m8' rfl rfl (by simp) (fun i hi => ?_) y hy
    simp only [List.getD_eq_getElem?_getD, List.getElem?_set]
    by_cases hik : k = i
    · subst hik
      simp only [if_true, hk.1, Option.getD_some]
      exact ⟨trivial, trivial, want_snoc _ _ _⟩
    · simp only [if_neg hik]
      exact ⟨trivial, trivial, by omega, by omega⟩
  · rw [if_neg hk] at hy m8'
    refine ag_less c _ m8 m8' rfl rfl (by simp) (fun i hi => ?_) y hy
    have : (c.eds ++ [x]).getD i default = c.eds.getD i default := by simp [List.getD_eq_getElem?_getD, List.getElem?_append_left hi]
    simp only [this]
    exact ⟨trivial, trivial, by omega, by omega⟩
end Go.Proofs.Ythhlakodnpopmaa
namespace Go.Proofs.Ythhlakodnpopmaa
open Go Go.RowKit Go.Shelf Ed

theorem EdgV.below {w w' : World} {v : Value} {eds : List Edg} {P : Nat → Value} (h : EdgV w v eds P) (hb : Below w.heap.size w w') : EdgV w' v eds P := by
  obtain ⟨a, c, rfl, hc, hp, hne⟩ := h
  refine ⟨a, c, rfl, hc, fun k hk => (hp k hk).below hb, fun hn => ?_⟩
  obtain ⟨b, o, rfl, hk⟩ := hne hn
  exact ⟨b, o, rfl, fun j u hu => (hb.cell (World.block_lt_of_cell? w _ (hk j u hu))).trans (hk j u hu)⟩
theorem edgsAt_row {w : World} {B : Nat} {v : Value} {eds : List Edg} {P : Nat → Value} (h : w.ownsRow B 71 3 v eds.length (eRow eds P (List.range eds.length))) (hl : eds.length ≤ 4611686018427387904) (hp : ∀ k (hk : k < eds.length), PairsAt w (P k) eds[k].pts) : EdgsAt w v eds := by
  have e : (List.range eds.length).map (fun j => eds.getD j default) = eds := by
    apply List.ext_getElem (by simp)
    intro i h1 h2
    simp [List.getD_eq_getElem?_getD, h2]
  have h' := edgsAt_own (w := w) (base := B) (v := v) (eds := eds) (P := P) (js := List.range eds.length) (by rw [List.length_range]; exact h) (by rw [List.length_range]; exact hl) (fun j hj => by
    have hj' : j < eds.length := List.mem_range.1 hj
    rw [getD_lt _ _ hj']
    exact hp j hj')
  rwa [e] at h'
theorem eRow_congr (l m : List Edg) (P Q : Nat → Value) (n : Nat) (h : ∀ k, k < n → (l.getD k default).a = (m.getD k default).a ∧ (l.getD k default).b = (m.getD k default).b ∧ P k = Q k) : eRow l P (List.range n) = eRow m Q (List.range n) := by
  unfold eRow
  rw [List.flatMap_def, List.flatMap_def]
  congr 1
  apply List.map_congr_left
  intro k hk
  obtain ⟨h1, h2, h3⟩ := h k (List.mem_range.1 hk)
  rw [h1, h2, h3]
theorem eRow_snoc (eds : List Edg) (x : Edg) (P : Nat → Value) (pv : Value) :
    eRow eds P (List.range eds.length) ++ [.int .i64 x.a, .int .i64 x.b, pv] = eRow (eds ++ [x]) (fun j => if j = eds.length then pv else P j) (List.range (eds ++ [x]).length) := by
  rw [List.length_append, List.length_singleton, List.range_succ, eRow_append]
  have e1 : (eds ++ [x]).getD eds.length default = x := by simp [List.getD_eq_getElem?_getD]
  rw [e1, if_pos rfl]
  congr 1
  refine eRow_congr _ _ _ _ _ fun k hk => ?_
  have e2 : (eds ++ [x]).getD k default = eds.getD k default := by simp [List.getD_eq_getElem?_getD, List.getElem?_append_left hk]
  rw [e2, if_neg (by omega)]
  exact ⟨rfl, rfl, rfl⟩
theorem eRow_set (eds : List Edg) (P : Nat → Value) (pv : Value) (k : Nat) (hk : k < eds.length) (l : List (Int × Int)) :
    (eRow eds P (List.range eds.length)).set (k * 3 + 2) pv = eRow (eds.set k ⟨(eds.getD k default).a, (eds.getD k default).b, l⟩) (fun j => if j = k then pv else P j) (List.range (eds.set k ⟨(eds.getD k default).a, (eds.getD k default).b, l⟩).length) := by
  have hlen : (eds.set k ⟨(eds.getD k default).a, (eds.getD k default).b, l⟩).length = eds.length := List.length_set ..
  rw [hlen]
  have hd : ∀ i, ((eds.set k ⟨(eds.getD k default).a, (eds.getD k default).b, l⟩).getD i default).a = (eds.getD i default).a ∧ ((eds.set k ⟨(eds.getD k default).a, (eds.getD k default).b, l⟩).getD i default).b = (eds.getD i default).b := by
    intro i
    simp only [List.getD_eq_getElem?_getD, List.getElem?_set]
    by_cases e : k = i
    · subst e; simp [hk]
    · simp [e]
  apply List.ext_getElem?
  intro j
  by_cases hj : j < eds.length * 3
  · have hi : j / 3 < (List.range eds.length).length := by rw [List.length_range]; omega
    have g := eRow_get eds P (List.range eds.length) (j / 3) hi
    have g' := eRow_get (eds.set k ⟨(eds.getD k default).a, (eds.getD k default).b, l⟩) (fun j => if j = k then pv else P j) (List.range eds.length) (j / 3) hi
    rw [List.getElem_range] at g g'
    rw [(hd (j / 3)).1, (hd (j / 3)).2] at g'
    have hr : j = j / 3 * 3 ∨ j = j / 3 * 3 + 1 ∨ j = j / 3 * 3 + 2 := by omega
    rcases hr with q | q | q
    · rw [List.getElem?_set_ne (by omega), q, g.1, g'.1]
    · rw [List.getElem?_set_ne (by omega), q, g.2.1, g'.2.1]
    · by_cases e : j / 3 = k
      · have q2 : j = k * 3 + 2 := by omega
        rw [q, g'.2.2, if_pos e, ← q, q2]
        exact List.getElem?_set_self (by rw [eRow_length, List.length_range]; omega)
      · rw [List.getElem?_set_ne (by omega), q, g.2.2, g'.2.2, if_neg e]
  · rw [List.getElem?_eq_none (by rw [List.length_set, eRow_length, List.length_range]; omega), List.getElem?_eq_none (by rw [eRow_length, List.length_range]; omega)]
/-- One edge gets other points. -/
theorem edgsAt_set {w : World} {B g n cap k : Nat} {eds : List Edg} {P : Nat → Value} {pv : Value} (hn : n = eds.length) (hk : k < eds.length) (l : List (Int × Int)) (h : w.ownsRow B 71 3 (.slice (some ⟨g, 0, none⟩) n cap) n (eRow eds P (List.range eds.length))) (hl : eds.length ≤ 4611686018427387904)
    (hp : ∀ i (hi : i < eds.length), PairsAt (w.setCell ⟨g, k * 3 + 2, none⟩ pv) (P i) eds[i].pts) (hpv : PairsAt (w.setCell ⟨g, k * 3 + 2, none⟩ pv) pv l) :
    EdgsAt (w.setCell ⟨g, k * 3 + 2, none⟩ pv) (.slice (some ⟨g, 0, none⟩) n cap) (eds.set k ⟨(eds.getD k default).a, (eds.getD k default).b, l⟩) := by
  subst hn
  have h1 := (h.stored (k * 3 + 2) pv).1
  rw [eRow_set eds P pv k hk l] at h1
  have hlen : (eds.set k ⟨(eds.getD k default).a, (eds.getD k default).b, l⟩).length = eds.length := List.length_set ..
  have h2 := edgsAt_row (B := B) (by rw [hlen] at h1 ⊢; exact h1) (by rw [hlen]; exact hl) (fun i hi => ?_)
  · exact h2
  · rw [hlen] at hi
    by_cases e : k = i
    · subst e
      rw [List.getElem_set_self, if_pos rfl]
      exact hpv
    · rw [List.getElem_set_ne e, if_neg (by omega)]
      exact hp i hi
/-- One edge more. -/
theorem edgsAt_snoc {w : World} {B n : Nat} {v pv : Value} {eds : List Edg} {x : Edg} {P : Nat → Value} (hn : n = eds.length) (h : w.ownsRow B 71 3 v (n + 1) (eRow eds P (List.range eds.length) ++ [.int .i64 x.a, .int .i64 x.b, pv])) (hl : eds.length ≤ 1000)
    (hp : ∀ i (hi : i < eds.length), PairsAt w (P i) eds[i].pts) (hpv : PairsAt w pv x.pts) : EdgsAt w v (eds ++ [x]) := by
  subst hn
  rw [eRow_snoc] at h
  have hlen : (eds ++ [x]).length = eds.length + 1 := by simp
  refine edgsAt_row (B := B) (by rw [hlen] at h ⊢; exact h) (by rw [hlen]; omega) (fun i hi => ?_)
  by_cases e : i = eds.length
  · subst e
    rw [if_pos rfl]
    simpa using hpv
  · rw [if_neg e, List.getElem_append_left (by omega)]
    exact hp i (by omega)
end Go.Proofs.Ythhlakodnpopmaa
namespace Go.Proofs.Ythhlakodnpopmaa
open Go Go.RowKit Go.Shelf Ed

theorem eRow_put (eds : List Edg) (P : Nat → Value) (pv : Value) (k : Nat) (hk : k < eds.length) (d : Edg) :
    (((eRow eds P (List.range eds.length)).set (k * 3) (.int .i64 d.a)).set (k * 3 + 1) (.int .i64 d.b)).set (k * 3 + 2) pv = eRow (eds.set k d) (fun j => if j = k then pv else P j) (List.range (eds.set k d).length) := by
  have hlen : (eds.set k d).length = eds.length := List.length_set ..
  rw [hlen]
  have hd : ∀ i, (eds.set k d).getD i default = if k = i then d else eds.getD i default := by
    intro i
    simp only [List.getD_eq_getElem?_getD, List.getElem?_set]
    by_cases e : k = i
    · subst e; simp [hk]
    · simp [e]
  apply List.ext_getElem?
  intro j
  by_cases hj : j < eds.length * 3
  · have hi : j / 3 < (List.range eds.length).length := by rw [List.length_range]; omega
    have g := eRow_get eds P (List.range eds.length) (j / 3) hi
    have g' := eRow_get (eds.set k d) (fun j => if j = k then pv else P j) (List.range eds.length) (j / 3) hi
    rw [List.getElem_range] at g g'
    rw [hd (j / 3)] at g'
    have hL : (eRow eds P (List.range eds.length)).length = eds.length * 3 := by rw [eRow_length, List.length_range]
    have hr : j = j / 3 * 3 ∨ j = j / 3 * 3 + 1 ∨ j = j / 3 * 3 + 2 := by omega
    by_cases e : j / 3 = k
    · rw [if_pos e.symm] at g'
      rcases hr with q | q | q
      · rw [List.getElem?_set_ne (by omega), List.getElem?_set_ne (by omega), q, g'.1, show j / 3 * 3 = k * 3 by omega]
        exact List.getElem?_set_self (by omega)
      · rw [List.getElem?_set_ne (by omega), q, g'.2.1, show j / 3 * 3 + 1 = k * 3 + 1 by omega]
        exact List.getElem?_set_self (by rw [List.length_set]; omega)
      · rw [q, g'.2.2, if_pos e, show j / 3 * 3 + 2 = k * 3 + 2 by omega]
        exact List.getElem?_set_self (by rw [List.length_set, List.length_set]; omega)
    · rw [if_neg (fun h => e h.symm)] at g'
      rw [List.getElem?_set_ne (by omega), List.getElem?_set_ne (by omega), List.getElem?_set_ne (by omega)]
      rcases hr with q | q | q
      · rw [q, g.1, g'.1]
      · rw [q, g.2.1, g'.2.1]
      · rw [q, g.2.2, g'.2.2, if_neg e]
  · rw [List.getElem?_eq_none (by rw [List.length_set, List.length_set, List.length_set, eRow_length, List.length_range]; omega), List.getElem?_eq_none (by rw [eRow_length, List.length_range]; omega)]
/-- The world after it. -/
def putE (w : World) (g k : Nat) (d : Edg) (pv : Value) : World := ((w.setCell ⟨g, k * 3, none⟩ (.int .i64 d.a)).setCell ⟨g, k * 3 + 1, none⟩ (.int .i64 d.b)).setCell ⟨g, k * 3 + 2, none⟩ pv
theorem putE_own {w : World} {B g n cap k : Nat} {xs : List Value} {d : Edg} {pv : Value} (h : w.ownsRow B 71 3 (.slice (some ⟨g, 0, none⟩) n cap) n xs) :
    (putE w g k d pv).ownsRow B 71 3 (.slice (some ⟨g, 0, none⟩) n cap) n (((xs.set (k * 3) (.int .i64 d.a)).set (k * 3 + 1) (.int .i64 d.b)).set (k * 3 + 2) pv) :=
  (((h.stored (k * 3) _).1.stored (k * 3 + 1) _).1.stored (k * 3 + 2) _).1
theorem putE_kept {w : World} {B B' g n n' cap k : Nat} {xs ys : List Value} {d : Edg} {pv v : Value} (h : w.ownsRow B 71 3 (.slice (some ⟨g, 0, none⟩) n cap) n xs) (hp : w.ownsRow B' 74 2 v n' ys) :
    (putE w g k d pv).ownsRow B' 74 2 v n' ys := by
  have s1 := h.stored (k * 3) (.int .i64 d.a)
  have p1 := hp.kept s1.2 (own_apart (by decide) hp h)
  have s2 := s1.1.stored (k * 3 + 1) (.int .i64 d.b)
  have p2 := p1.kept s2.2 (own_apart (by decide) p1 s1.1)
  have s3 := s2.1.stored (k * 3 + 2) pv
  exact p2.kept s3.2 (own_apart (by decide) p2 s2.1)
theorem putE_below {w0 w : World} {B g k : Nat} {d : Edg} {pv : Value} (h : Below B w0 w) (hg : B ≤ g) : Below B w0 (putE w g k d pv) :=
  ((h.setCell (p := ⟨g, k * 3, none⟩) hg _).setCell (p := ⟨g, k * 3 + 1, none⟩) hg _).setCell (p := ⟨g, k * 3 + 2, none⟩) hg _
theorem edgsAt_put {w : World} {B g n cap k : Nat} {eds : List Edg} {P : Nat → Value} {pv : Value} {d : Edg} (hn : n = eds.length) (hk : k < eds.length) (h : w.ownsRow B 71 3 (.slice (some ⟨g, 0, none⟩) n cap) n (eRow eds P (List.range eds.length))) (hl : eds.length ≤ 4611686018427387904)
    (hp : ∀ i (hi : i < eds.length), PairsAt (putE w g k d pv) (P i) eds[i].pts) (hpv : PairsAt (putE w g k d pv) pv d.pts) :
    EdgsAt (putE w g k d pv) (.slice (some ⟨g, 0, none⟩) n cap) (eds.set k d) := by
  subst hn
  have h1 := putE_own (k := k) (d := d) (pv := pv) h
  rw [eRow_put eds P pv k hk d] at h1
  have hlen : (eds.set k d).length = eds.length := List.length_set ..
  have h2 := edgsAt_row (B := B) (by rw [hlen] at h1 ⊢; exact h1) (by rw [hlen]; exact hl) (fun i hi => ?_)
  · exact h2
  · rw [hlen] at hi
    by_cases e : k = i
    · subst e
      rw [List.getElem_set_self, if_pos rfl]
      exact hpv
    · rw [List.getElem_set_ne e, if_neg (by omega)]
      exact hp i hi
end Go.Proofs.Ythhlakodnpopmaa
namespace Go.Proofs.Ythhlakodnpopmaa
open Go Go.RowKit Go.Shelf Ed

/-- A point and an edge whose sheets change places. -/
def swP (p : Int × Int) : Int × Int := (p.2, p.1)
def swE (d : Edg) : Edg := ⟨d.b, d.a, d.pts.map swP⟩
def swC (c : Cas) (k : Nat) : Cas := ⟨c.tol, c.shs, c.eds.set k (swE (c.eds.getD k default))⟩
theorem want_sw_fold (tol : Int) : ∀ (l : List (Int × Int)) (s : Int × Int), (l.map swP).foldl (wantStep tol) (-s.2, -s.1) = (-(l.foldl (wantStep tol) s).2, -(l.foldl (wantStep tol) s).1) := by
  intro l
  induction l with
  | nil => intro s; rfl
  | cons p l ih =>
    intro s
    rw [List.map_cons, List.foldl_cons, List.foldl_cons, ← ih]
    congr 1
    simp only [wantStep, swP, Prod.mk.injEq]
    omega
theorem want_sw (tol : Int) (l : List (Int × Int)) : wantS tol (l.map swP) = (-(wantS tol l).2, -(wantS tol l).1) := by
  have h := want_sw_fold tol l (-9000 - tol, 9000 + tol)
  have e : ((-(9000 + tol), -(-9000 - tol)) : Int × Int) = (-9000 - tol, 9000 + tol) := by
    simp only [Prod.mk.injEq]
    omega
  unfold wantS
  rw [← h]
  simp only [e]
theorem swC_get (c : Cas) (k i : Nat) (hk : k < c.eds.length) : (swC c k).eds.getD i default = if k = i then swE (c.eds.getD k default) else c.eds.getD i default := by
  simp only [swC, List.getD_eq_getElem?_getD, List.getElem?_set]
  by_cases e : k = i
  · subst e; simp [hk]
  · simp [e]
theorem swC_len (c : Cas) (k : Nat) : (swC c k).eds.length = c.eds.length := by simp [swC]
theorem sw_edErr (n : Nat) (d : Edg) (h : edErr n d = 0) : edErr n (swE d) = 0 := by
  have hp : d.pts.all ptB = true → (d.pts.map swP).all ptB = true := by
    intro h
    rw [List.all_eq_true] at h ⊢
    intro p hp
    obtain ⟨p', hp', rfl⟩ := List.mem_map.1 hp
    have := h p' hp'
    unfold ptB swP at *
    simp only [Bool.and_eq_true] at this ⊢
    exact ⟨this.2, this.1⟩
  unfold edErr at h ⊢
  simp only [swE, List.length_map]
  split at h
  · simp at h
  · rename_i h1
    split at h
    · simp at h
    · rename_i h2
      split at h
      · simp at h
      · rename_i h3
        split at h
        · simp at h
        · rename_i h4
          rw [if_neg (by rintro (q | q); exact h1 (Or.inr q); exact h1 (Or.inl q)), if_neg (fun q => h2 q.symm), if_neg h3]
          exact if_neg (by rw [show (d.pts.map swP).all ptB = true from hp (by simpa using h4)]; simp)
theorem sw_err (c : Cas) (h : errC c = 0) (k : Nat) (hk : k < c.eds.length) : errC (swC c k) = 0 := by
  obtain ⟨h1, h2, h3, h4⟩ := err_zero2 h
  have := checkC_ok (c := swC c k) h1 (by rw [swC_len]; exact h2) h3 (fun j hj => by
    rw [swC_len] at hj
    rw [swC_get c k j hk]
    by_cases e : k = j
    · rw [if_pos e]; exact sw_edErr _ _ (h4 k hk)
    · rw [if_neg e]; exact h4 j hj)
  unfold errC
  rw [this]
theorem sw_want (c : Cas) (k i : Nat) (hk : k < c.eds.length) : wantF (swC c k) i = if k = i then (-(wantF c k).2, -(wantF c k).1) else wantF c i := by
  unfold wantF
  rw [swC_get c k i hk]
  by_cases e : k = i
  · rw [if_pos e, if_pos e]
    exact want_sw _ _
  · rw [if_neg e, if_neg e]
    rfl
theorem wL_wsF (c : Cas) (i : Nat) (hi : i < c.eds.length) (h8 : c.eds.length ≤ 8) : wL (wsC c) i = wantF c i := by
  have h2 := wsTo_get (wantF c) c.eds.length i hi h8
  exact Prod.ext h2.1 h2.2
theorem sw_wL (c : Cas) (k i : Nat) (hk : k < c.eds.length) (h8 : c.eds.length ≤ 8) (hi : i < c.eds.length) : wL (wsC (swC c k)) i = if k = i then (-(wL (wsC c) k).2, -(wL (wsC c) k).1) else wL (wsC c) i := by
  rw [wL_wsF _ i (by rw [swC_len]; exact hi) (by rw [swC_len]; exact h8), sw_want c k i hk, wL_wsF c k hk h8, wL_wsF c i hi h8]
theorem sw_ag (c : Cas) (k : Nat) (hk : k < c.eds.length) (h8 : c.eds.length ≤ 8) (y : Nat → Int) : Ag (sysA (swC c k)) y ↔ Ag (sysA c) y := by
  have he : ∀ i, i < c.eds.length → ((wL (wsC (swC c k)) i).1 ≤ y ((swC c k).eds.getD i default).a.toNat - y ((swC c k).eds.getD i default).b.toNat ∧ y ((swC c k).eds.getD i default).a.toNat - y ((swC c k).eds.getD i default).b.toNat ≤ (wL (wsC (swC c k)) i).2 ↔
      (wL (wsC c) i).1 ≤ y (c.eds.getD i default).a.toNat - y (c.eds.getD i default).b.toNat ∧ y (c.eds.getD i default).a.toNat - y (c.eds.getD i default).b.toNat ≤ (wL (wsC c) i).2) := by
    intro i hi
    rw [sw_wL c k i hk h8 hi, swC_get c k i hk]
    by_cases e : k = i
    · subst e
      rw [if_pos rfl, if_pos rfl]
      simp only [swE]
      omega
    · rw [if_neg e, if_neg e]
  constructor
  · intro hy
    refine ⟨fun i hi => hy.bx i hi, fun e he' => ?_⟩
    simp only [sysC, List.mem_map, List.mem_range] at he'
    obtain ⟨i, hi, rfl⟩ := he'
    exact (he i hi).1 (hy.ed ⟨((swC c k).eds.getD i default).a.toNat, ((swC c k).eds.getD i default).b.toNat, (wL (wsC (swC c k)) i).1, (wL (wsC (swC c k)) i).2⟩ (by simp only [sysC, List.mem_map, List.mem_range]; exact ⟨i, by rw [swC_len]; exact hi, rfl⟩))
  · intro hy
    refine ⟨fun i hi => hy.bx i hi, fun e he' => ?_⟩
    simp only [sysC, List.mem_map, List.mem_range] at he'
    obtain ⟨i, hi, rfl⟩ := he'
    rw [swC_len] at hi
    exact (he i hi).2 (hy.ed ⟨(c.eds.getD i default).a.toNat, (c.eds.getD i default).b.toNat, (wL (wsC c) i).1, (wL (wsC c) i).2⟩ (by simp only [sysC, List.mem_map, List.mem_range]; exact ⟨i, hi, rfl⟩))
theorem sw_cost (c : Cas) (k : Nat) (y : Nat → Int) : costF (sysA (swC c k)) y = costF (sysA c) y := rfl
theorem sw_mn (c : Cas) (k : Nat) (hk : k < c.eds.length) (h8 : c.eds.length ≤ 8) (y : Nat → Int) : Mn (sysA (swC c k)) y ↔ Mn (sysA c) y := by
  constructor
  · intro h
    exact ⟨(sw_ag c k hk h8 y).1 h.1, fun z hz => h.2 z ((sw_ag c k hk h8 z).2 hz)⟩
  · intro h
    exact ⟨(sw_ag c k hk h8 y).2 h.1, fun z hz => h.2 z ((sw_ag c k hk h8 z).1 hz)⟩
theorem sw_least (c : Cas) (h : errC c = 0) (k : Nat) (hk : k < c.eds.length) : leastE (swC c k) = leastE c := by
  have hd := sw_err c h k hk
  have h8 := (valid_of h).m8
  rcases least_spec c h with ⟨h1, hno⟩ | ⟨h1, h2⟩
  · rw [h1]
    exact least_no _ hd fun y hy => hno y ((sw_ag c k hk h8 y).1 hy)
  · have e : leastE c = ((leastE c).1, (leastE c).2.1, 0) := by rw [← h1]
    rw [e]
    exact least_is _ hd ⟨h2.len, (sw_ag c k hk h8 _).2 h2.ag, (sw_mn c k hk h8 _).2 h2.mn, fun y hy => h2.bot y ((sw_mn c k hk h8 y).1 hy), h2.cost⟩
theorem sw_range (c : Cas) (h : errC c = 0) (k : Nat) (hk : k < c.eds.length) (i : Nat) (hi : i < c.shs.length) : rangeE (swC c k) i = rangeE c i := by
  have hd := sw_err c h k hk
  have h8 := (valid_of h).m8
  rcases range_spec c h i hi with ⟨h1, hno⟩ | ⟨h1, h2⟩
  · rw [h1]
    exact range_no _ hd i hi fun y hy => hno y ((sw_ag c k hk h8 y).1 hy)
  · have e : rangeE c i = ((rangeE c i).1, 0) := by rw [← h1]
    rw [e]
    refine range_is _ hd i hi ⟨fun y hy => h2.all y ((sw_ag c k hk h8 y).1 hy), ?_, ?_⟩
    · obtain ⟨y, hy, ey⟩ := h2.lo; exact ⟨y, (sw_ag c k hk h8 y).2 hy, ey⟩
    · obtain ⟨y, hy, ey⟩ := h2.hi; exact ⟨y, (sw_ag c k hk h8 y).2 hy, ey⟩
theorem givStep_sw (a b : Nat) (y : Int) (g : List Int) (h : a ≠ b) : givStep b a (-y) g = givStep a b y g := by
  have e1 : (g.set a (g.getD a 0 + y)).getD b 0 = g.getD b 0 := by simp [List.getD_eq_getElem?_getD, List.getElem?_set_ne h]
  have e2 : (g.set b (g.getD b 0 + -y)).getD a 0 = g.getD a 0 := by simp [List.getD_eq_getElem?_getD, List.getElem?_set_ne (Ne.symm h)]
  unfold givStep
  rw [e1, e2, List.set_comm _ _ h]
  congr 2 <;> omega
theorem max_neg_sw (p lo hi : Int) : max (-p) 0 * -hi + min (-p) 0 * -lo = max p 0 * lo + min p 0 * hi := by
  have e1 : max (-p) 0 = -min p 0 := by omega
  have e2 : min (-p) 0 = -max p 0 := by omega
  rw [e1, e2, Int.neg_mul_neg, Int.neg_mul_neg]
  omega
/-- Bounds of pushes one of which is turned with its edge. -/
theorem sw_bound (c : Cas) (h : errC c = 0) (k : Nat) (hk : k < c.eds.length) (l : List Int) (hl : l.length = c.eds.length) (hb : ∀ v, v ∈ l → -32768 ≤ v ∧ v ≤ 32767) :
    boundE (swC c k) (l.set k (-(l.getD k 0))) = boundE c l := by
  have hv := valid_of h
  have h8 := hv.m8
  have hd := sw_err c h k hk
  have hin : ∀ m : List Int, (∀ v, v ∈ m → -32768 ≤ v ∧ v ≤ 32768) → allIn (-100000) 100000 m = true := by
    intro m hm
    unfold allIn okIn
    rw [List.all_eq_true]
    intro v hvm
    have := hm v hvm
    simp
    omega
  have hkl : k < l.length := by omega
  have i1 : allIn (-100000) 100000 l = true := hin l fun v hvm => by have := hb v hvm; omega
  have i2 : allIn (-100000) 100000 (l.set k (-(l.getD k 0))) = true := hin _ fun v hvm => by
    rcases List.mem_or_eq_of_mem_set hvm with q | q
    · have := hb v q; omega
    · subst q
      have e : l.getD k 0 = l[k] := by simp [List.getD_eq_getElem?_getD, hkl]
      have := hb _ (List.getElem_mem hkl)
      rw [e]; omega
  have ht : tornK (wsC (swC c k)) (swC c k).eds.length = tornK (wsC c) c.eds.length := by
    rw [swC_len]
    unfold tornK
    rw [Bool.eq_iff_iff, List.any_eq_true, List.any_eq_true]
    have q : ∀ i, i < c.eds.length → (((wL (wsC (swC c k)) i).2 < (wL (wsC (swC c k)) i).1) ↔ (wL (wsC c) i).2 < (wL (wsC c) i).1) := by
      intro i hi
      rw [sw_wL c k i hk h8 hi]
      by_cases e : k = i
      · subst e; rw [if_pos rfl]; simp only; omega
      · rw [if_neg e]
    constructor
    · rintro ⟨i, hi, hx⟩
      exact ⟨i, hi, by have := (q i (List.mem_range.1 hi)).1 (by simpa using hx); simpa using this⟩
    · rintro ⟨i, hi, hx⟩
      exact ⟨i, hi, by have := (q i (List.mem_range.1 hi)).2 (by simpa using hx); simpa using this⟩
  have hp1 : ∀ i, (pad8 l).getD i 0 = l.getD i 0 := fun i => pad8_get l (by omega) i
  have hp2 : ∀ i, (pad8 (l.set k (-(l.getD k 0)))).getD i 0 = if k = i then -(l.getD k 0) else l.getD i 0 := fun i => by
    rw [pad8_get _ (by rw [List.length_set]; omega) i]
    simp only [List.getD_eq_getElem?_getD, List.getElem?_set]
    by_cases e : k = i
    · subst e; simp [hkl]
    · simp [e]
  have hE : ∀ j, j ≤ c.eds.length → bndE (wsC (swC c k)) (pad8 (l.set k (-(l.getD k 0)))) j = bndE (wsC c) (pad8 l) j := by
    intro j
    induction j with
    | zero => intro _; rfl
    | succ j ih =>
      intro hj
      simp only [bndE]
      rw [ih (by omega), sw_wL c k j hk h8 (by omega), hp1, hp2]
      by_cases e : k = j
      · subst e
        rw [if_pos rfl, if_pos rfl]
        simp only
        rw [max_neg_sw]
      · rw [if_neg e, if_neg e]
  have hG : ∀ j, j ≤ c.eds.length → givTo (swC c k).eds (pad8 (l.set k (-(l.getD k 0)))) j = givTo c.eds (pad8 l) j := by
    intro j
    induction j with
    | zero => intro _; rfl
    | succ j ih =>
      intro hj
      simp only [givTo]
      rw [ih (by omega), swC_get c k j hk, hp1, hp2]
      by_cases e : k = j
      · subst e
        rw [if_pos rfl, if_pos rfl]
        have hed := hv.ed _ (List.getElem_mem hk)
        have hne : (c.eds.getD k default).a.toNat ≠ (c.eds.getD k default).b.toNat := by
          rw [getD_lt _ _ hk]
          have := hed.a0; have := hed.b0; have := hed.ne
          omega
        exact givStep_sw _ _ _ _ hne
      · rw [if_neg e, if_neg e]
  have b1 : boundE c l = if tornK (wsC c) c.eds.length = true then (0, 9) else (bndC c (wsC c) (pad8 l), 0) := by
    unfold boundE
    rw [if_neg (by simp [h]), if_neg (by omega), i1, if_neg (by simp)]
  have b2 : boundE (swC c k) (l.set k (-(l.getD k 0))) = if tornK (wsC (swC c k)) (swC c k).eds.length = true then (0, 9) else (bndC (swC c k) (wsC (swC c k)) (pad8 (l.set k (-(l.getD k 0)))), 0) := by
    unfold boundE
    rw [if_neg (by simp [hd]), if_neg (by rw [List.length_set, swC_len]; omega), i2, if_neg (by simp)]
  have b3 : bndC (swC c k) (wsC (swC c k)) (pad8 (l.set k (-(l.getD k 0)))) = bndC c (wsC c) (pad8 l) := by
    unfold bndC
    rw [swC_len, hE c.eds.length (Nat.le_refl _), hG c.eds.length (Nat.le_refl _)]
    rfl
  rw [b1, b2, b3, ht]
end Go.Proofs.Ythhlakodnpopmaa
namespace Go.Proofs.Ythhlakodnpopmaa
open Go Go.RowKit Ed Go.ChangeShapes Go.WideShapes Go.Deep Go.Joins

def I16At (w : World) (v : Value) (l : List Int) : Prop :=
  l.length ≤ 4611686018427387904 ∧ ∃ a cap, v = .slice a l.length cap ∧ (l ≠ [] → ∃ b o, a = some ⟨b, o, none⟩ ∧ ∀ k, k < l.length → w.cell? ⟨b, o + k, none⟩ = some (.int .i16 (l.getD k 0)) ∧ -32768 ≤ l.getD k 0 ∧ l.getD k 0 ≤ 32767)
theorem I16At.below {w w' : World} {v : Value} {l : List Int} (h : I16At w v l) (hb : Below w.heap.size w w') : I16At w' v l := by
  obtain ⟨h1, a, cap, rfl, h2⟩ := h
  refine ⟨h1, a, cap, rfl, fun hne => ?_⟩
  obtain ⟨b, o, rfl, hc⟩ := h2 hne
  exact ⟨b, o, rfl, fun k hk => ⟨(hb.cell (p := ⟨b, o + k, none⟩) (World.block_lt_of_cell? w _ (hc k hk).1)).trans (hc k hk).1, (hc k hk).2⟩⟩
/-- What a law reads at an index, round and round. -/
def turnI (l : List Int) (n : Nat) : Int := if l = [] then 0 else l.getD (n % l.length) 0
theorem turnI_bd {w : World} {v : Value} {l : List Int} (h : I16At w v l) (n : Nat) : -32768 ≤ turnI l n ∧ turnI l n ≤ 32767 := by
  unfold turnI
  split
  · omega
  · rename_i hne
    obtain ⟨_, a, cap, _, h2⟩ := h
    obtain ⟨b, o, _, hc⟩ := h2 hne
    exact (hc (n % l.length) (Nat.mod_lt _ (List.length_pos_iff.2 hne))).2
theorem cellsI16 : Try.prog.cellsOf 54 = 1 := by kernel_rfl
theorem bytesI16 : Try.prog.bytesOf 54 = 2 := by kernel_rfl
section
variable {H : Type} {enc : TypeId × Value → H} {W : World} {sp : Nat → Bool} {base : Nat} {v : Value} {d : DataW H} {p : List MemPlace}
set_option maxRecDepth 100000 in
theorem open_i16s (hok : Value.okWide Try.prog W .any base 52 v) (h : DataW.Trod enc Try.prog W 0 sp true 52 v d p) (hw : ∀ x ∈ d.weights Try.prog 52, x ≤ reachBytes) :
    ∃ l : List Int, I16At W v l := by
  obtain ⟨a0, len0, cap0, rfl⟩ := okWide_slice Try.underlying52 hok
  obtain ⟨fuel, hf⟩ := h
  have hf' : DataW.trod enc Try.prog W 0 sp true fuel 52 [.slice a0 len0 cap0] = some (d, p) := hf
  rcases open_slice1 Try.underlying52 cellsI16 hf' with ⟨hcs, _⟩ | ⟨a, len, cap, m, n', V, D, Pl, hcs, _, hl, hm, hmm, hx, hel⟩
  · simp only [List.cons.injEq, Value.slice.injEq, and_true] at hcs
    obtain ⟨rfl, rfl, rfl⟩ := hcs
    exact ⟨[], by simp, none, 0, rfl, fun h => absurd rfl h⟩
  · simp only [List.cons.injEq, Value.slice.injEq, and_true] at hcs
    obtain ⟨rfl, rfl, rfl⟩ := hcs
    have hlm : len0 ≤ m := by rw [hmm]; split <;> omega
    have hd : d = .slice ((List.range len0).map D) ((List.range (m - len0)).map fun j => D (len0 + j)) := congrArg Prod.fst hx
    have hb : len0 * 2 ≤ reachBytes := by
      have := hw ((((List.range len0).map D).length + ((List.range (m - len0)).map fun j => D (len0 + j)).length) * 2) (by rw [hd]; simp [DataW.weights, Try.underlying52, bytesI16])
      simp only [List.length_map, List.length_range] at this
      omega
    have hr : reachBytes = 140737488351232 := rfl
    obtain ⟨f, hfl⟩ := choose_lt (α := Int) (n := len0) (p := fun i x => W.cell? (a.add i) = some (.int .i16 x) ∧ -32768 ≤ x ∧ x ≤ 32767) (fun i hi => by
      obtain ⟨h1, h2⟩ := hel i (by omega)
      obtain ⟨k, e, _, w⟩ := DataW.trod_int Try.underlying54 h2
      simp only [List.cons.injEq, and_true] at e
      have bd := bounds_i16 w
      exact ⟨k, by rw [h1, e], bd⟩)
    refine ⟨(List.range len0).map f, by simp; omega, some a, cap0, by simp, fun hne => ?_⟩
    have h0 : 0 < len0 := by
      rcases Nat.eq_zero_or_pos len0 with h | h
      · subst h; exact absurd rfl hne
      · exact h
    obtain ⟨b, o, spot⟩ := a
    have hspot : spot = none := by simpa [Addr.add] using World.cell?_spot (hfl 0 h0).1
    subst hspot
    refine ⟨b, o, rfl, fun k hk => ?_⟩
    have hk' : k < len0 := by simpa using hk
    have hc := hfl k hk'
    rw [add_plain] at hc
    simpa [List.getD_eq_getElem?_getD, hk'] using hc
end
end Go.Proofs.Ythhlakodnpopmaa
namespace Go.Proofs.Ythhlakodnpopmaa
open Go Go.RowKit Go.Shelf Ed

def onK (l : List Int) (k : Nat) : List Int := (List.range k).map (turnI l)
theorem onK_succ (l : List Int) (k : Nat) : onK l (k + 1) = onK l k ++ [turnI l k] := by simp [onK, List.range_succ]
theorem onK_length (l : List Int) (k : Nat) : (onK l k).length = k := by simp [onK]
theorem onK_get (l : List Int) (n k : Nat) (h : k < n) : (onK l n).getD k 0 = turnI l k := by simp [onK, List.getD_eq_getElem?_getD, h]
theorem run_app1 (w : World) (ty : TypeId) (base n : Nat) (v : Value) (xs : List Value) (g : Nat) (x : Int) (hown : w.ownsRow base 3 1 v n xs) (hc : w.cell? ⟨g, 0, none⟩ = some (.int .i64 x)) (hn : n ≤ 1000) (hb : base ≤ w.heap.size) :
    ∃ v' w', (Builtin.append_ #[26, 26] ty #[v, .slice (some ⟨g, 0, none⟩) 1 1]).run Try.prog w = .ok v' w' ∧ w'.ownsRow base 3 1 v' (n + 1) (xs ++ [.int .i64 x]) ∧ w.grownBy w' v.ownBlock ∧ (v'.ownBlock = v.ownBlock ∨ v'.ownBlock = some w.heap.size) := by
  obtain ⟨i0, hi⟩ := info_of_underlying Try.underlying3
  have HI : i0.zero = some (.int .i64 0) ∧ i0.size = 1 ∧ i0.bytes = 8 := by
    have h := intInfo
    rw [hi] at h
    simp at h
    exact h
  obtain ⟨v', w', h1, h2, h3, _, h5⟩ := run_append_own_at (P := Try.prog) w base 26 ty 3 i0 _ 1 8 Try.underlying26 hi HI.1 HI.2.1 HI.2.2 rfl (by decide) v n xs hown ⟨g, 0, none⟩ 1 1 [.int .i64 x] rfl
    (by
      intro j u hj
      match j, hj with
      | 0, hj => simp at hj; subst hj; exact hc
      | j + 1, hj => simp at hj) (by intro u hu; simp at hu; subst hu; rfl) (by unfold maxLen; omega) (by omega) hb
  exact ⟨v', w', h1, h2, h3, h5⟩
theorem wpl_app1 {ops : Array Oper} {rest : List Oper} {o : Oper} {a : Act} {Q : Exit → Act → World → Prop} {w : World} (hgd : o.guard = none) (s x : Operand)
    (ho : o.op = .call { callee := .builtin .append, args := #[s, x], argTypes := #[26, 26] })
    (base n : Nat) (v : Value) (xs : List Value) (g : Nat) (y : Int) (hs : a.eval s = v) (hx : a.eval x = .slice (some ⟨g, 0, none⟩) 1 1) (hown : w.ownsRow base 3 1 v n xs) (hc : w.cell? ⟨g, 0, none⟩ = some (.int .i64 y)) (hn : n ≤ 1000) (hb : base ≤ w.heap.size)
    (h : ∀ v' w', w'.ownsRow base 3 1 v' (n + 1) (xs ++ [.int .i64 y]) → w.grownBy w' v.ownBlock → (v'.ownBlock = v.ownBlock ∨ v'.ownBlock = some w.heap.size) → wpList Try.prog ops Q rest (a.put o.dst v') w') : wpList Try.prog ops Q (o :: rest) a w := by
  refine wpList_plain hgd fun K hK => ?_
  obtain ⟨v', w', hr, h2, h3, h4⟩ := run_app1 w o.type base n v xs g y hown hc hn hb
  unfold Oper.wp execOp
  simp only [ho, resolve, invoke, builtin, Sem.run_bind, Sem.run_pure, Result.andThen_ok, List.map_toArray, List.map_cons, List.map_nil, hs, hx, hr]
  exact hK _ _ (h v' w' h2 h3 h4)
/-- Rows that lie in different blocks. -/
def Dis (a b : Option Nat) : Prop := ∀ q, a = some q → b ≠ some q
theorem Dis.or {a b : Option Nat} (h : Dis a b) : b = none ∨ b ≠ a := by
  cases b with
  | none => exact .inl rfl
  | some q => exact .inr fun e => h q e.symm rfl
theorem Dis.symm {a b : Option Nat} (h : Dis a b) : Dis b a := fun q hq e => h q e hq
theorem Dis.next {a b c : Option Nat} {n : Nat} (h : Dis a b) (hc : c = a ∨ c = some n) (hb : ∀ q, b = some q → q < n) : Dis c b := by
  intro q hq e
  rcases hc with rfl | rfl
  · exact h q hq e
  · have := hb q e
    simp only [Option.some.injEq] at hq
    omega
end Go.Proofs.Ythhlakodnpopmaa
namespace Go.Proofs.Ythhlakodnpopmaa
open Go Go.RowKit Go.Shelf Ed

theorem keepT {B : Nat} {w w' : World} {b q : Nat} {v : Value} (h : w.cell? ⟨b, q, none⟩ = some v) (hb : Below B w w') (hl : b < B) : w'.cell? ⟨b, q, none⟩ = some v := (hb.cell (p := ⟨b, q, none⟩) hl).trans h
set_option maxRecDepth 100000 in
set_option maxHeartbeats 16000000 in
theorem lturned_any (c : Cas) (sv ev pv : Value) (l : List Int) (x y : Nat) (w : World) (hx : x ≤ 255) (hy : y ≤ 255) (hC : CasAt w c sv ev) (hL : I16At w pv l) :
    Calls Try.prog 15 #[.agg #[.int .i64 c.tol, sv, ev], pv, .agg #[.int .u8 x, .int .u8 y]] w fun e w' => e = .returned (.bool true) ∧ Below w.heap.size w w' := by
  obtain ⟨sa, n, sc, rfl, hn⟩ : ∃ a n cc, sv = .slice a n cc ∧ n = c.shs.length := by obtain ⟨_, a, cap, h, _⟩ := hC.shs; exact ⟨_, _, _, h, rfl⟩
  obtain ⟨ea, m, ec, rfl, hm⟩ : ∃ a n cc, ev = .slice a n cc ∧ n = c.eds.length := by obtain ⟨_, a, cap, h, _⟩ := hC.eds; exact ⟨_, _, _, h, rfl⟩
  obtain ⟨pa, p, pc, rfl, hp⟩ : ∃ a n cc, pv = .slice a n cc ∧ n = l.length := by obtain ⟨_, a, cap, h, _⟩ := hL; exact ⟨_, _, _, h, rfl⟩
  obtain ⟨tol, htol⟩ : ∃ t, c.tol = t := ⟨_, rfl⟩
  obtain ⟨i0, hi0⟩ := info_of_underlying Try.underlying74
  have HI0 : Hid (i0.zero = some (.agg #[.int .i64 0, .int .i64 0]) ∧ i0.size = 2 ∧ i0.bytes = 16) := by
    have h := pointInfo2
    rw [hi0] at h
    simp at h
    exact h
  have HTOL := Lib.hid htol
  have HN := Lib.hid hn
  have HM := Lib.hid hm
  have HP := Lib.hid hp
  have nlim : (n : Int) ≤ 4611686018427387904 := by have := hC.shs.1; omega
  have mlim : (m : Int) ≤ 4611686018427387904 := by have := hC.eds.1; omega
  have plim : (p : Int) ≤ 4611686018427387904 := by have := hL.1; omega
  obtain ⟨W, hW, r1, r2, hb, hsz⟩ := al2 w (Obj.cells #[.int .i64 tol, .slice sa n sc, .slice ea m ec] 25) (Obj.cells #[.int .u8 x, .int .u8 y] 72)
  have HR := Lib.hid r1
  have HZ := Lib.hid r2
  have HC := Lib.hid (hC.below hb)
  have HX := Lib.hid (hL.below hb)
  have HW := Lib.hid hW
  have HB := Lib.hid hb
  rw [htol]
  clear hW hb hC hL htol hn hm hp r1 r2 hsz
  go_enter Try.func15, Try.ntmps15
  go_wp2_with fail
  rw [HW.out]
  clear HW
  have r0 := cellOf HR.out 0 _ rfl
  have r1 := cellOf HR.out 1 _ rfl
  have r2 := cellOf HR.out 2 _ rfl
  have rl := lt_of_block HR.out
  have z0 := cellOf HZ.out 0 _ rfl
  have z1 := cellOf HZ.out 1 _ rfl
  have zl := lt_of_block HZ.out
  go_wp2_with fail
  clear r0 r1 r2 rl z0 z1 zl
  have hcall := lvalid_any c _ _ W HC.out
  rw [HTOL.out] at hcall
  refine hcall.mono ?_
  clear hcall
  rintro e w1 ⟨rfl, hb⟩
  have HR' := Lib.hid ((hb.block _ (lt_of_block HR.out)).trans HR.out)
  have HZ' := Lib.hid ((hb.block _ (lt_of_block HZ.out)).trans HZ.out)
  have HC' := Lib.hid (HC.out.below hb)
  have HX' := Lib.hid (HX.out.below hb)
  have HB' := Lib.hid (HB.out.trans (hb.mono HB.out.size))
  clear HR
  have HR := HR'
  clear HR'
  clear HZ
  have HZ := HZ'
  clear HZ'
  clear HC
  have HC := HC'
  clear HC'
  clear HX
  have HX := HX'
  clear HX'
  clear HB
  have HB := HB'
  clear HB'
  clear hb
  by_cases h0 : errC c = 0
  · skip
    have HV := Lib.hid (valid_of h0)
    have H0 := Lib.hid h0
    rw [show decide (errC c = 0) = true by simp [h0]]
    clear h0
    have n1 : 1 ≤ n := by have := HV.out.n1; have := HN.out; omega
    have n5 : n ≤ 5 := by have := HV.out.n5; have := HN.out; omega
    have m8 : m ≤ 8 := by have := HV.out.m8; have := HM.out; omega
    have n1I : (1 : Int) ≤ n := by omega
    have n5I : (n : Int) ≤ 5 := by omega
    have m8I : (m : Int) ≤ 8 := by omega
    by_cases hm0 : m = 0
    · skip
      have mz : ((m : Int) == 0) = true := by simp; omega
      have mz2 : (m : Int) = 0 := by omega
      have r0 := cellOf HR.out 0 _ rfl
      have r1 := cellOf HR.out 1 _ rfl
      have r2 := cellOf HR.out 2 _ rfl
      have rl := lt_of_block HR.out
      have z0 := cellOf HZ.out 0 _ rfl
      have z1 := cellOf HZ.out 1 _ rfl
      have zl := lt_of_block HZ.out
      go_wp2_with fail
      clear r0 r1 r2 rl z0 z1 zl
      refine (awake_any w1).mono ?_
      rintro e wz ⟨rfl, hb⟩
      have HBF := Lib.hid (HB.out.trans (hb.mono HB.out.size))
      clear hb
      go_wp2_with fail
      go_ret
      exact ⟨rfl, HBF.out⟩
    · skip
      have mz : ((m : Int) == 0) = false := by rw [beq_eq_false_iff_ne]; omega
      have mz1 : ¬ (m : Int) = -1 := by omega
      have nz : ((n : Int) == 0) = false := by rw [beq_eq_false_iff_ne]; omega
      have nd0 : ¬ n = 0 := by omega
      have nd1 : ¬ (n : Int) = -1 := by omega
      have em := tmod_nat x m
      have en := tmod_nat y n
      have hkm : x % m < m := Nat.mod_lt _ (by omega)
      have him : y % n < n := Nat.mod_lt _ (by omega)
      generalize hxk : x % m = k at *
      generalize hyi : y % n = i at *
      clear hxk hyi
      have kI : (k : Int) < (m : Int) := by omega
      have iI : (i : Int) < (n : Int) := by omega
      have xI : (x : Int) ≤ 255 := by omega
      have yI : (y : Int) ≤ 255 := by omega
      have r0 := cellOf HR.out 0 _ rfl
      have r1 := cellOf HR.out 1 _ rfl
      have r2 := cellOf HR.out 2 _ rfl
      have rl := lt_of_block HR.out
      have z0 := cellOf HZ.out 0 _ rfl
      have z1 := cellOf HZ.out 1 _ rfl
      have zl := lt_of_block HZ.out
      go_wp2_with fail
      go_quiet (fail)
      clear r0 r1 r2 rl z0 z1 zl
      clear mz mz1 nz nd0 nd1 em en xI yI
      have hb : Below w1.heap.size w1 (w1.drewN nq) := ⟨rfl, rfl, rfl, Nat.le_refl _, fun _ _ => rfl⟩
      have HR' := Lib.hid ((hb.block _ (lt_of_block HR.out)).trans HR.out)
      have HZ' := Lib.hid ((hb.block _ (lt_of_block HZ.out)).trans HZ.out)
      have HC' := Lib.hid (HC.out.below hb)
      have HX' := Lib.hid (HX.out.below hb)
      have HB' := Lib.hid (HB.out.trans (hb.mono HB.out.size))
      clear HR
      have HR := HR'
      clear HR'
      clear HZ
      have HZ := HZ'
      clear HZ'
      clear HC
      have HC := HC'
      clear HC'
      clear HX
      have HX := HX'
      clear HX'
      clear HB
      have HB := HB'
      clear HB'
      clear hb
      obtain ⟨w2, hw2⟩ : ∃ V, w1.drewN nq = V := ⟨_, rfl⟩
      rw [hw2] at HR HZ HC HX HB ⊢
      clear hw2
      have hba : Below w2.heap.size w2 ((w2.alloc (Obj.cells #[.int .i64 tol, .slice sa n sc, .slice ea m ec] 25)).alloc (Obj.cells #[] 71)) := by go_grown
      have hszA : ((w2.alloc (Obj.cells #[.int .i64 tol, .slice sa n sc, .slice ea m ec] 25)).alloc (Obj.cells #[] 71)).heap.size = w2.heap.size + 2 := by simp
      have hownA : ((w2.alloc (Obj.cells #[.int .i64 tol, .slice sa n sc, .slice ea m ec] 25)).alloc (Obj.cells #[] 71)).ownsRow (w2.heap.size + 1) 71 3 (.slice (some ⟨w2.heap.size + 1, 0, none⟩) 0 0) 0 [] := by
        have h := own_made (w2.alloc (Obj.cells #[.int .i64 tol, .slice sa n sc, .slice ea m ec] 25)) 71 3
        rw [show (w2.alloc (Obj.cells #[.int .i64 tol, .slice sa n sc, .slice ea m ec] 25)).heap.size = w2.heap.size + 1 by simp] at h
        exact h
      have hyA : ((w2.alloc (Obj.cells #[.int .i64 tol, .slice sa n sc, .slice ea m ec] 25)).alloc (Obj.cells #[] 71)).heap[w2.heap.size]? = some (Obj.cells #[.int .i64 tol, .slice sa n sc, .slice ea m ec] 25) := by
        have hb1 := (Below.refl (w2.alloc (Obj.cells #[.int .i64 tol, .slice sa n sc, .slice ea m ec] 25)).heap.size (w2.alloc (Obj.cells #[.int .i64 tol, .slice sa n sc, .slice ea m ec] 25))).alloc (Nat.le_refl _) (Obj.cells #[] 71)
        exact (hb1.block _ (by simp)).trans (heap_alloc_new w2 _)
      obtain ⟨P, hEV1⟩ := HC.out.eds.v
      have hEV := hEV1.below hba
      have HEV := Lib.hid hEV1
      have HYA := Lib.hid hyA
      have HBA := Lib.hid hba
      have hlenA : 0 + c.eds.length ≤ 1000 := by have := HM.out; omega
      have hbsA : w2.heap.size + 1 ≤ ((w2.alloc (Obj.cells #[.int .i64 tol, .slice sa n sc, .slice ea m ec] 25)).alloc (Obj.cells #[] 71)).heap.size := by omega
      clear hyA hba hEV1
      have r0 := cellOf HR.out 0 _ rfl
      have r1 := cellOf HR.out 1 _ rfl
      have r2 := cellOf HR.out 2 _ rfl
      have rl := lt_of_block HR.out
      have z0 := cellOf HZ.out 0 _ rfl
      have z1 := cellOf HZ.out 1 _ rfl
      have zl := lt_of_block HZ.out
      go_wp2_with (at_builtin; refine wpl_edges rfl _ _ rfl (w2.heap.size + 1) 0 _ _ [] c.eds P rfl rfl hownA hEV hbsA hlenA ?_)
      clear r0 r1 r2 rl z0 z1 zl
      intro v' w4 hown4 hgrow
      have hgb : ∀ g, (Value.slice (some ⟨w2.heap.size + 1, 0, none⟩) 0 0).ownBlock = some g → w2.heap.size + 1 ≤ g := fun g hg => (hownA.lt g hg).1
      have HL4 := Lib.hid (HBA.out.grown hgrow (by omega) (fun g hg => by have := hgb g hg; omega))
      have Y4 := Lib.hid ((hgrow.block _ (lt_of_block HYA.out) (fun e => by have := hgb _ e.symm; omega)).trans HYA.out)
      have hown5 : w4.ownsRow (w2.heap.size + 1) 71 3 v' m (eRow c.eds P (List.range c.eds.length)) := by
        rw [HM.out]
        exact hown4
      obtain ⟨na, nc, rfl⟩ := own_slice hown5
      have HO5 := Lib.hid hown5
      have h1l : w2.heap.size + 1 < w4.heap.size := by have := hgrow.size; simp at this; omega
      clear hown4 hown5 hgrow hgb HYA HBA hownA hEV hlenA hbsA hszA
      have R4 := Lib.hid ((HL4.out.block _ (lt_of_block HR.out)).trans HR.out)
      have Z4 := Lib.hid ((HL4.out.block _ (lt_of_block HZ.out)).trans HZ.out)
      have r0 := cellOf R4.out 0 _ rfl
      have r1 := cellOf R4.out 1 _ rfl
      have r2 := cellOf R4.out 2 _ rfl
      have rl := lt_of_block R4.out
      have z0 := cellOf Z4.out 0 _ rfl
      have z1 := cellOf Z4.out 1 _ rfl
      have zl := lt_of_block Z4.out
      have y0 := cellOf Y4.out 0 _ rfl
      have y1 := cellOf Y4.out 1 _ rfl
      have y2 := cellOf Y4.out 2 _ rfl
      have yl := lt_of_block Y4.out
      have y2f := frozen_of_row _ _ 2 _ _ Y4.out
      have rl1 := lt_of_block HR.out
      have zl1 := lt_of_block HZ.out
      go_wp2_with fail
      clear r0 r1 r2 rl z0 z1 zl y0 y1 y2 yl y2f rl1 zl1
      clear R4 Z4
      obtain ⟨g, rfl⟩ := own_some HO5.out (by omega)
      have hgB := (HO5.out.lt g rfl).1
      have hgl := (HO5.out.lt g rfl).2
      obtain ⟨wo, hwr⟩ : ∃ V, (w4.setCell ⟨w2.heap.size, 2, none⟩ (.slice (some ⟨g, 0, none⟩) m nc)) = V := ⟨_, rfl⟩
      have HLW : Hid (Below w2.heap.size w2 wo) := by show Below _ _ _; rw [← hwr]; exact HL4.out.setCell (p := ⟨w2.heap.size, 2, none⟩) (Nat.le_refl _) _
      have YW : Hid (wo.heap[w2.heap.size]? = some (.cells #[.int .i64 tol, .slice sa n sc, .slice (some ⟨g, 0, none⟩) m nc] 25 (0, 0))) := by show _ = _; rw [← hwr]; exact heap_setCell_same w4 w2.heap.size 2 _ _ _ Y4.out
      have HOW : Hid (wo.ownsRow (w2.heap.size + 1) 71 3 (.slice (some ⟨g, 0, none⟩) m nc) m (eRow c.eds P (List.range c.eds.length))) := by show World.ownsRow _ _ _ _ _ _ _; rw [← hwr]; exact own_other HO5.out ⟨w2.heap.size, 2, none⟩ (by simp) _
      have hwl : w2.heap.size + 1 < wo.heap.size := by rw [← hwr]; simp; omega
      have HGL : Hid (g < wo.heap.size) := by show _ < _; rw [← hwr]; simp; omega
      rw [hwr]
      clear hwr HO5 HL4 Y4
      have hkc : k < c.eds.length := by have := HM.out; omega
      obtain ⟨eb, eo, ka, kc, heq, d0, d1, d2, hkp⟩ := HC.out.eds.get hkc
      subst heq
      have hebl := World.block_lt_of_cell? w2 _ d2
      obtain ⟨⟨da, db, kp⟩, hde⟩ : ∃ d, c.eds[k] = d := ⟨_, rfl⟩
      rw [hde] at d0 d1 d2 hkp
      simp only at d0 d1 d2 hkp
      obtain ⟨kn, hkn⟩ : ∃ q, kp.length = q := ⟨_, rfl⟩
      rw [hkn] at d2 hkp
      have HKP := Lib.hid hkp
      have HDE := Lib.hid hde
      have HKN := Lib.hid hkn
      clear hkp hde hkn
      have D2 := Lib.hid d2
      have rl1 := lt_of_block HR.out
      have r2c := cellOf ((HLW.out.block _ (lt_of_block HR.out)).trans HR.out) 2 _ rfl
      have d0 := (HLW.out.cell (p := ⟨eb, eo + k * 3, none⟩) (World.block_lt_of_cell? w2 _ d0)).trans d0
      have d1 := (HLW.out.cell (p := ⟨eb, eo + k * 3 + 1, none⟩) (World.block_lt_of_cell? w2 _ d1)).trans d1
      have d2 := (HLW.out.cell (p := ⟨eb, eo + k * 3 + 2, none⟩) hebl).trans d2
      have KA : ∀ W' : World, Below wo.heap.size wo W' → (W'.cell? ⟨w.heap.size, 2, none⟩ = some (.slice (some ⟨eb, eo, none⟩) m ec) ∧ W'.cell? ⟨eb, eo + k * 3, none⟩ = some (.int .i64 da) ∧ W'.cell? ⟨eb, eo + k * 3 + 1, none⟩ = some (.int .i64 db) ∧ Below wo.heap.size wo W') := fun W' hb => ⟨keepK r2c hb, keepK d0 hb, keepK d1 hb, hb⟩
      refine wp_region_noPanic ?_
      refine wp_region_held_drew (S := (fun W' => W'.cell? ⟨w.heap.size, 2, none⟩ = some (.slice (some ⟨eb, eo, none⟩) m ec) ∧ W'.cell? ⟨eb, eo + k * 3, none⟩ = some (.int .i64 da) ∧ W'.cell? ⟨eb, eo + k * 3 + 1, none⟩ = some (.int .i64 db) ∧ Below wo.heap.size wo W')) (by kernel_rfl) ?_ (fun hh0 => ?_)
      · exact KA _ (Below.refl _ _).drew
      refine wpAnyH_take (i := 0) (v := ?_) rfl (by as_aux_lemma => kernel_rfl) (by as_aux_lemma => kernel_rfl) (by as_aux_lemma => kernel_rfl) (fun _ _ _ h => h) (Or.inl ⟨by rfl, ?_⟩) (by assumption) ?_
      rotate_left
      · intro w hSw
        try dsimp only at hSw
        go_simp
        try with_reducible rfl
      try simp only [Act.put, List.getElem_toArray, List.getElem_cons_succ, List.getElem_cons_zero, List.setIfInBounds_toArray, List.set_cons_zero, List.set_cons_succ]
      refine wpAnyH_take (i := 1) (v := ?_) rfl (by as_aux_lemma => kernel_rfl) (by as_aux_lemma => kernel_rfl) (by as_aux_lemma => kernel_rfl) (fun _ _ _ h => h) (Or.inl ⟨by rfl, ?_⟩) (by assumption) ?_
      rotate_left
      · intro w hSw
        try dsimp only at hSw
        go_simp
        try with_reducible rfl
      try simp only [Act.put, List.getElem_toArray, List.getElem_cons_succ, List.getElem_cons_zero, List.setIfInBounds_toArray, List.set_cons_zero, List.set_cons_succ]
      refine wpAnyH_take (i := 2) (v := ?_) rfl (by as_aux_lemma => kernel_rfl) (by as_aux_lemma => kernel_rfl) (by as_aux_lemma => kernel_rfl) (fun _ _ _ h => h) (Or.inl ⟨by rfl, ?_⟩) (by assumption) ?_
      rotate_left
      · intro w hSw
        try dsimp only at hSw
        go_simp
        try with_reducible rfl
      try simp only [Act.put, List.getElem_toArray, List.getElem_cons_succ, List.getElem_cons_zero, List.setIfInBounds_toArray, List.set_cons_zero, List.set_cons_succ]
      refine wpAnyH_take (i := 3) (v := ?_) rfl (by as_aux_lemma => kernel_rfl) (by as_aux_lemma => kernel_rfl) (by as_aux_lemma => kernel_rfl) (fun _ _ _ h => h) (Or.inl ⟨by rfl, ?_⟩) (by assumption) ?_
      rotate_left
      · intro w hSw
        try dsimp only at hSw
        go_simp
        try with_reducible rfl
      try simp only [Act.put, List.getElem_toArray, List.getElem_cons_succ, List.getElem_cons_zero, List.setIfInBounds_toArray, List.set_cons_zero, List.set_cons_succ]
      refine wpAnyH_take (i := 4) (v := ?_) rfl (by as_aux_lemma => kernel_rfl) (by as_aux_lemma => kernel_rfl) (by as_aux_lemma => kernel_rfl) (fun _ _ _ h => h) (Or.inl ⟨by rfl, ?_⟩) (by assumption) ?_
      rotate_left
      · intro w hSw
        try dsimp only at hSw
        go_simp
        try with_reducible rfl
      try simp only [Act.put, List.getElem_toArray, List.getElem_cons_succ, List.getElem_cons_zero, List.setIfInBounds_toArray, List.set_cons_zero, List.set_cons_succ]
      refine wpAnyH_take (i := 5) (v := ?_) rfl (by as_aux_lemma => kernel_rfl) (by as_aux_lemma => kernel_rfl) (by as_aux_lemma => kernel_rfl) (fun _ _ _ h => h) (Or.inl ⟨by rfl, ?_⟩) (by assumption) ?_
      rotate_left
      · intro w hSw
        try dsimp only at hSw
        go_simp
        try with_reducible rfl
      try simp only [Act.put, List.getElem_toArray, List.getElem_cons_succ, List.getElem_cons_zero, List.setIfInBounds_toArray, List.set_cons_zero, List.set_cons_succ]
      refine wpAnyH_take (i := 6) (v := ?_) rfl (by as_aux_lemma => kernel_rfl) (by as_aux_lemma => kernel_rfl) (by as_aux_lemma => kernel_rfl) (fun _ _ _ h => h) (Or.inl ⟨by rfl, ?_⟩) (by assumption) ?_
      rotate_left
      · intro w hSw
        try dsimp only at hSw
        go_simp
        try with_reducible rfl
      try simp only [Act.put, List.getElem_toArray, List.getElem_cons_succ, List.getElem_cons_zero, List.setIfInBounds_toArray, List.set_cons_zero, List.set_cons_succ]
      refine wpAnyH_take (i := 7) (v := ?_) rfl (by as_aux_lemma => kernel_rfl) (by as_aux_lemma => kernel_rfl) (by as_aux_lemma => kernel_rfl) (fun _ _ _ h => h) (Or.inl ⟨by rfl, ?_⟩) (by assumption) ?_
      rotate_left
      · intro w hSw
        try dsimp only at hSw
        go_simp
        try with_reducible rfl
      try simp only [Act.put, List.getElem_toArray, List.getElem_cons_succ, List.getElem_cons_zero, List.setIfInBounds_toArray, List.set_cons_zero, List.set_cons_succ]
      refine wpAnyH_take (i := 8) (v := ?_) rfl (by as_aux_lemma => kernel_rfl) (by as_aux_lemma => kernel_rfl) (by as_aux_lemma => kernel_rfl) (fun _ _ _ h => h) (Or.inl ⟨by rfl, ?_⟩) (by assumption) ?_
      rotate_left
      · intro w hSw
        try dsimp only at hSw
        go_simp
        try with_reducible rfl
      try simp only [Act.put, List.getElem_toArray, List.getElem_cons_succ, List.getElem_cons_zero, List.setIfInBounds_toArray, List.set_cons_zero, List.set_cons_succ]
      refine wpAnyH_take (i := 9) (v := ?_) rfl (by as_aux_lemma => kernel_rfl) (by as_aux_lemma => kernel_rfl) (by as_aux_lemma => kernel_rfl) (fun _ _ _ h => h) (Or.inl ⟨by rfl, ?_⟩) (by assumption) ?_
      rotate_left
      · intro w hSw
        try dsimp only at hSw
        go_simp
        try with_reducible rfl
      try simp only [Act.put, List.getElem_toArray, List.getElem_cons_succ, List.getElem_cons_zero, List.setIfInBounds_toArray, List.set_cons_zero, List.set_cons_succ]
      refine wpAnyH_take (i := 10) (v := ?_) rfl (by as_aux_lemma => kernel_rfl) (by as_aux_lemma => kernel_rfl) (by as_aux_lemma => kernel_rfl) (fun _ _ _ h => h) (Or.inl ⟨by rfl, ?_⟩) (by assumption) ?_
      rotate_left
      · intro w hSw
        try dsimp only at hSw
        go_simp
        try with_reducible rfl
      try simp only [Act.put, List.getElem_toArray, List.getElem_cons_succ, List.getElem_cons_zero, List.setIfInBounds_toArray, List.set_cons_zero, List.set_cons_succ]
      refine wpAnyH_take (i := 11) (v := ?_) rfl (by as_aux_lemma => kernel_rfl) (by as_aux_lemma => kernel_rfl) (by as_aux_lemma => kernel_rfl) (fun _ _ _ h => h) (Or.inl ⟨by rfl, ?_⟩) (by assumption) ?_
      rotate_left
      · intro w hSw
        try dsimp only at hSw
        go_simp
        try with_reducible rfl
      try simp only [Act.put, List.getElem_toArray, List.getElem_cons_succ, List.getElem_cons_zero, List.setIfInBounds_toArray, List.set_cons_zero, List.set_cons_succ]
      refine wpAnyH_take (i := 12) (v := ?_) rfl (by as_aux_lemma => kernel_rfl) (by as_aux_lemma => kernel_rfl) (by as_aux_lemma => kernel_rfl) (fun _ _ _ h => h) (Or.inl ⟨by rfl, ?_⟩) (by assumption) ?_
      rotate_left
      · intro w hSw
        try dsimp only at hSw
        go_simp
        try with_reducible rfl
      try simp only [Act.put, List.getElem_toArray, List.getElem_cons_succ, List.getElem_cons_zero, List.setIfInBounds_toArray, List.set_cons_zero, List.set_cons_succ]
      refine wpAnyH_ready (rs := [13]) (by as_aux_lemma => kernel_rfl) (by simp) ?_
      refine AllReadyH.cons rfl (fun K hK => ?_) AllReadyH.nil
      go_simp
      refine hK.out _ _ (KA _ ((hh0.2.2.2).alloc (hh0.2.2.2).size _)) (fun hh1 => ?_)
      clear hK K
      try simp only [Act.put, List.getElem_toArray, List.getElem_cons_succ, List.getElem_cons_zero, List.setIfInBounds_toArray, List.set_cons_zero, List.set_cons_succ]
      refine wpAnyH_ready (rs := [14]) (by as_aux_lemma => kernel_rfl) (by simp) ?_
      refine AllReadyH.cons rfl (fun K hK => ?_) AllReadyH.nil
      go_simp
      refine hK.out _ _ ?_ (fun hh2 => ?_)
      · first | exact KA _ (two_below hh1.2.2.2 (by omega)) | exact KA _ ((hh1.2.2.2).setCell (by simp; omega) _) | exact KA _ ((hh0.2.2.2).alloc (hh0.2.2.2).size _)
      clear hK K
      try simp only [Act.put, List.getElem_toArray, List.getElem_cons_succ, List.getElem_cons_zero, List.setIfInBounds_toArray, List.set_cons_zero, List.set_cons_succ]
      refine wpAnyH_done (by as_aux_lemma => kernel_rfl) ?_ _
      refine NoPanic.normal ?_
      have HBZ := Lib.hid (hh2.2.2.2)
      have hb5 : Below wo.heap.size wo (wo.alloc (Obj.cells #[.int .i64 db, .int .i64 da, .slice none 0 0] 71)).drew := ((Below.refl _ _).alloc (Nat.le_refl _) _).drew
      have HY0 : Hid ((wo.alloc (Obj.cells #[.int .i64 db, .int .i64 da, .slice none 0 0] 71)).drew.heap[wo.heap.size]? = some (Obj.cells #[.int .i64 db, .int .i64 da, .slice none 0 0] 71)) := heap_alloc_new wo _
      have hvl0 : wo.heap.size < (wo.alloc (Obj.cells #[.int .i64 db, .int .i64 da, .slice none 0 0] 71)).drew.heap.size := by have := lt_of_block HY0.out; exact this
      have HB5 := Lib.hid hb5
      clear hb5 HBZ KA r2c d0 d1 d2
      obtain ⟨w5, hw5⟩ : ∃ V, (wo.alloc (Obj.cells #[.int .i64 db, .int .i64 da, .slice none 0 0] 71)).drew = V := ⟨_, rfl⟩
      rw [hw5] at HB5 HY0 hvl0 ⊢
      clear hw5
      obtain ⟨v, hv⟩ : ∃ u, wo.heap.size = u := ⟨_, rfl⟩
      rw [hv] at HB5 HY0 hvl0 HGL hwl ⊢
      have HVE := Lib.hid hv
      clear hv
      have kn4 : kn ≤ 4 := by have h := HV.out.ed _ (List.getElem_mem hkc); have h2 := h.p4; rw [HDE.out] at h2; have := HKN.out; simp only at h2; omega
      have kn1 : 0 < kn := by have h := HV.out.ed _ (List.getElem_mem hkc); have h2 := h.p1; rw [HDE.out] at h2; have := HKN.out; simp only at h2; omega
      obtain ⟨kb, ko, heq, hkb0, hkb1⟩ := HKP.out.get (k := 0) (by have := HKN.out; omega)
      subst heq
      have hkbl := World.block_lt_of_cell? w2 _ hkb0
      clear hkb0 hkb1
      have own0 : w5.ownsRow (v + 1) 74 2 (.slice none 0 0) 0 (flatP ((kp.map swP).take 0)) := World.ownsRow_nil _ _ _ _
      go_wp2_with fail
      go_loopg [11] kn (fun g va wr => ∃ (j : Nat) (qa : Option Addr) (qc : Nat), g + j = kn ∧ va = .int .i64 j ∧ Hid (wr.heap[v]? = some (.cells #[.int .i64 db, .int .i64 da, .slice qa j qc] 71 (0, 0))) ∧ wr.ownsRow (v + 1) 74 2 (.slice qa j qc) j (flatP ((kp.map swP).take j)) ∧ Hid (Below v w5 wr) ∧ v < wr.heap.size)
      case atStart => exact ⟨0, none, 0, by omega, rfl, HY0, own0, Below.refl _ _, hvl0⟩
      case round =>
        clear own0
        obtain ⟨j, qa, qc, hj, rfl, HY, OP, HL, hvl⟩ := hrel
        have hv2 : w2.heap.size + 1 < v := hwl
        have HL2 := Lib.hid (HLW.out.trans ((HB5.out.trans HL.out).mono (by omega)))
        have rl1 := lt_of_block HR.out
        have r2 := cellOf ((HL2.out.block _ (lt_of_block HR.out)).trans HR.out) 2 _ rfl
        have d2 := (HL2.out.cell (p := ⟨eb, eo + k * 3 + 2, none⟩) hebl).trans D2.out
        by_cases hjn : j < kn
        · have jI : (j : Int) < (kn : Int) := by omega
          have hj' : j < kp.length := by rw [HKN.out]; exact hjn
          obtain ⟨kb', ko', heq, p0, p1⟩ := HKP.out.get hj'
          injection heq with heq
          injection heq with h1 h2
          subst h1 h2
          have p0 := (HL2.out.cell (p := ⟨kb, ko + j * 2, none⟩) hkbl).trans p0
          have p1 := (HL2.out.cell (p := ⟨kb, ko + j * 2 + 1, none⟩) hkbl).trans p1
          have HTK : Hid ((kp.map swP).take (j + 1) = (kp.map swP).take j ++ [swP kp[j]]) := by show _ = _; rw [List.take_succ_eq_append_getElem (by rw [List.length_map]; exact hj'), List.getElem_map]
          generalize kp[j] = pp at *
          obtain ⟨px, py⟩ := pp
          simp only at p0 p1
          have y2 := cellOf HY.out 2 _ rfl
          have kn4I : (kn : Int) ≤ 4 := by omega
          clear hj'
          go_wp2_with fail
          have KA : ∀ W' : World, Below (v + 1) wr W' → (W'.cell? ⟨w.heap.size, 2, none⟩ = some (.slice (some ⟨eb, eo, none⟩) m ec) ∧ W'.cell? ⟨eb, eo + k * 3 + 2, none⟩ = some (.slice (some ⟨kb, ko, none⟩) kn kc) ∧ W'.cell? ⟨kb, ko + j * 2, none⟩ = some (.int .i64 px) ∧ W'.cell? ⟨kb, ko + j * 2 + 1, none⟩ = some (.int .i64 py) ∧ W'.cell? ⟨v, 2, none⟩ = some (.slice qa j qc) ∧ Below (v + 1) wr W') := fun W' hb => ⟨keepT r2 hb (by omega), keepT d2 hb (by omega), keepT p0 hb (by omega), keepT p1 hb (by omega), keepT y2 hb (by omega), hb⟩
          refine wp_region_noPanic ?_
          refine wp_region_last (S := (fun W' : World => W'.cell? ⟨w.heap.size, 2, none⟩ = some (.slice (some ⟨eb, eo, none⟩) m ec) ∧ W'.cell? ⟨eb, eo + k * 3 + 2, none⟩ = some (.slice (some ⟨kb, ko, none⟩) kn kc) ∧ W'.cell? ⟨kb, ko + j * 2, none⟩ = some (.int .i64 px) ∧ W'.cell? ⟨kb, ko + j * 2 + 1, none⟩ = some (.int .i64 py) ∧ W'.cell? ⟨v, 2, none⟩ = some (.slice qa j qc) ∧ Below (v + 1) wr W')) 26 (by kernel_rfl) (by decide) (fun inv0 => ?_)
          have hh0 := KA _ (Below.refl _ _).drew
          refine wpAnyZ_take (i := 0) (v := ?_) rfl (Lib.hid ⟨by as_aux_lemma => kernel_rfl, by as_aux_lemma => kernel_rfl, by as_aux_lemma => kernel_rfl, rfl⟩) (by decide) inv0 (by as_aux_lemma => kernel_rfl) (by as_aux_lemma => kernel_rfl) (fun _ _ _ h => h) (Or.inl ⟨by rfl, ?_⟩) hh0 (fun inv1 => ?_)
          rotate_left
          · intro w hSw
            try dsimp only at hSw
            go_simp
            try with_reducible rfl
          clear inv0
          try simp only [Act.put, List.getElem_toArray, List.getElem_cons_succ, List.getElem_cons_zero, List.setIfInBounds_toArray, List.set_cons_zero, List.set_cons_succ]
          refine wpAnyZ_take (i := 1) (v := ?_) rfl (Lib.hid ⟨by as_aux_lemma => kernel_rfl, by as_aux_lemma => kernel_rfl, by as_aux_lemma => kernel_rfl, rfl⟩) (by decide) inv1 (by as_aux_lemma => kernel_rfl) (by as_aux_lemma => kernel_rfl) (fun _ _ _ h => h) (Or.inl ⟨by rfl, ?_⟩) hh0 (fun inv2 => ?_)
          rotate_left
          · intro w hSw
            try dsimp only at hSw
            go_simp
            try with_reducible rfl
          clear inv1
          try simp only [Act.put, List.getElem_toArray, List.getElem_cons_succ, List.getElem_cons_zero, List.setIfInBounds_toArray, List.set_cons_zero, List.set_cons_succ]
          refine wpAnyZ_take (i := 2) (v := ?_) rfl (Lib.hid ⟨by as_aux_lemma => kernel_rfl, by as_aux_lemma => kernel_rfl, by as_aux_lemma => kernel_rfl, rfl⟩) (by decide) inv2 (by as_aux_lemma => kernel_rfl) (by as_aux_lemma => kernel_rfl) (fun _ _ _ h => h) (Or.inl ⟨by rfl, ?_⟩) hh0 (fun inv3 => ?_)
          rotate_left
          · intro w hSw
            try dsimp only at hSw
            go_simp
            try with_reducible rfl
          clear inv2
          try simp only [Act.put, List.getElem_toArray, List.getElem_cons_succ, List.getElem_cons_zero, List.setIfInBounds_toArray, List.set_cons_zero, List.set_cons_succ]
          refine wpAnyZ_take (i := 3) (v := ?_) rfl (Lib.hid ⟨by as_aux_lemma => kernel_rfl, by as_aux_lemma => kernel_rfl, by as_aux_lemma => kernel_rfl, rfl⟩) (by decide) inv3 (by as_aux_lemma => kernel_rfl) (by as_aux_lemma => kernel_rfl) (fun _ _ _ h => h) (Or.inl ⟨by rfl, ?_⟩) hh0 (fun inv4 => ?_)
          rotate_left
          · intro w hSw
            try dsimp only at hSw
            go_simp
            try with_reducible rfl
          clear inv3
          try simp only [Act.put, List.getElem_toArray, List.getElem_cons_succ, List.getElem_cons_zero, List.setIfInBounds_toArray, List.set_cons_zero, List.set_cons_succ]
          refine wpAnyZ_take (i := 4) (v := ?_) rfl (Lib.hid ⟨by as_aux_lemma => kernel_rfl, by as_aux_lemma => kernel_rfl, by as_aux_lemma => kernel_rfl, rfl⟩) (by decide) inv4 (by as_aux_lemma => kernel_rfl) (by as_aux_lemma => kernel_rfl) (fun _ _ _ h => h) (Or.inl ⟨by rfl, ?_⟩) hh0 (fun inv5 => ?_)
          rotate_left
          · intro w hSw
            try dsimp only at hSw
            go_simp
            try with_reducible rfl
          clear inv4
          try simp only [Act.put, List.getElem_toArray, List.getElem_cons_succ, List.getElem_cons_zero, List.setIfInBounds_toArray, List.set_cons_zero, List.set_cons_succ]
          refine wpAnyZ_take (i := 5) (v := ?_) rfl (Lib.hid ⟨by as_aux_lemma => kernel_rfl, by as_aux_lemma => kernel_rfl, by as_aux_lemma => kernel_rfl, rfl⟩) (by decide) inv5 (by as_aux_lemma => kernel_rfl) (by as_aux_lemma => kernel_rfl) (fun _ _ _ h => h) (Or.inl ⟨by rfl, ?_⟩) hh0 (fun inv6 => ?_)
          rotate_left
          · intro w hSw
            try dsimp only at hSw
            go_simp
            try with_reducible rfl
          clear inv5
          try simp only [Act.put, List.getElem_toArray, List.getElem_cons_succ, List.getElem_cons_zero, List.setIfInBounds_toArray, List.set_cons_zero, List.set_cons_succ]
          refine wpAnyZ_take (i := 6) (v := ?_) rfl (Lib.hid ⟨by as_aux_lemma => kernel_rfl, by as_aux_lemma => kernel_rfl, by as_aux_lemma => kernel_rfl, rfl⟩) (by decide) inv6 (by as_aux_lemma => kernel_rfl) (by as_aux_lemma => kernel_rfl) (fun _ _ _ h => h) (Or.inl ⟨by rfl, ?_⟩) hh0 (fun inv7 => ?_)
          rotate_left
          · intro w hSw
            try dsimp only at hSw
            go_simp
            try with_reducible rfl
          clear inv6
          try simp only [Act.put, List.getElem_toArray, List.getElem_cons_succ, List.getElem_cons_zero, List.setIfInBounds_toArray, List.set_cons_zero, List.set_cons_succ]
          refine wpAnyZ_take (i := 7) (v := ?_) rfl (Lib.hid ⟨by as_aux_lemma => kernel_rfl, by as_aux_lemma => kernel_rfl, by as_aux_lemma => kernel_rfl, rfl⟩) (by decide) inv7 (by as_aux_lemma => kernel_rfl) (by as_aux_lemma => kernel_rfl) (fun _ _ _ h => h) (Or.inl ⟨by rfl, ?_⟩) hh0 (fun inv8 => ?_)
          rotate_left
          · intro w hSw
            try dsimp only at hSw
            go_simp
            try with_reducible rfl
          clear inv7
          try simp only [Act.put, List.getElem_toArray, List.getElem_cons_succ, List.getElem_cons_zero, List.setIfInBounds_toArray, List.set_cons_zero, List.set_cons_succ]
          refine wpAnyZ_take (i := 8) (v := ?_) rfl (Lib.hid ⟨by as_aux_lemma => kernel_rfl, by as_aux_lemma => kernel_rfl, by as_aux_lemma => kernel_rfl, rfl⟩) (by decide) inv8 (by as_aux_lemma => kernel_rfl) (by as_aux_lemma => kernel_rfl) (fun _ _ _ h => h) (Or.inl ⟨by rfl, ?_⟩) hh0 (fun inv9 => ?_)
          rotate_left
          · intro w hSw
            try dsimp only at hSw
            go_simp
            try with_reducible rfl
          clear inv8
          try simp only [Act.put, List.getElem_toArray, List.getElem_cons_succ, List.getElem_cons_zero, List.setIfInBounds_toArray, List.set_cons_zero, List.set_cons_succ]
          refine wpAnyZ_take (i := 9) (v := ?_) rfl (Lib.hid ⟨by as_aux_lemma => kernel_rfl, by as_aux_lemma => kernel_rfl, by as_aux_lemma => kernel_rfl, rfl⟩) (by decide) inv9 (by as_aux_lemma => kernel_rfl) (by as_aux_lemma => kernel_rfl) (fun _ _ _ h => h) (Or.inl ⟨by rfl, ?_⟩) hh0 (fun inv10 => ?_)
          rotate_left
          · intro w hSw
            try dsimp only at hSw
            go_simp
            try with_reducible rfl
          clear inv9
          try simp only [Act.put, List.getElem_toArray, List.getElem_cons_succ, List.getElem_cons_zero, List.setIfInBounds_toArray, List.set_cons_zero, List.set_cons_succ]
          refine wpAnyZ_take (i := 10) (v := ?_) rfl (Lib.hid ⟨by as_aux_lemma => kernel_rfl, by as_aux_lemma => kernel_rfl, by as_aux_lemma => kernel_rfl, rfl⟩) (by decide) inv10 (by as_aux_lemma => kernel_rfl) (by as_aux_lemma => kernel_rfl) (fun _ _ _ h => h) (Or.inl ⟨by rfl, ?_⟩) hh0 (fun inv11 => ?_)
          rotate_left
          · intro w hSw
            try dsimp only at hSw
            go_simp
            try with_reducible rfl
          clear inv10
          try simp only [Act.put, List.getElem_toArray, List.getElem_cons_succ, List.getElem_cons_zero, List.setIfInBounds_toArray, List.set_cons_zero, List.set_cons_succ]
          refine wpAnyZ_take (i := 11) (v := ?_) rfl (Lib.hid ⟨by as_aux_lemma => kernel_rfl, by as_aux_lemma => kernel_rfl, by as_aux_lemma => kernel_rfl, rfl⟩) (by decide) inv11 (by as_aux_lemma => kernel_rfl) (by as_aux_lemma => kernel_rfl) (fun _ _ _ h => h) (Or.inl ⟨by rfl, ?_⟩) hh0 (fun inv12 => ?_)
          rotate_left
          · intro w hSw
            try dsimp only at hSw
            go_simp
            try with_reducible rfl
          clear inv11
          try simp only [Act.put, List.getElem_toArray, List.getElem_cons_succ, List.getElem_cons_zero, List.setIfInBounds_toArray, List.set_cons_zero, List.set_cons_succ]
          refine wpAnyZ_take (i := 12) (v := ?_) rfl (Lib.hid ⟨by as_aux_lemma => kernel_rfl, by as_aux_lemma => kernel_rfl, by as_aux_lemma => kernel_rfl, rfl⟩) (by decide) inv12 (by as_aux_lemma => kernel_rfl) (by as_aux_lemma => kernel_rfl) (fun _ _ _ h => h) (Or.inl ⟨by rfl, ?_⟩) hh0 (fun inv13 => ?_)
          rotate_left
          · intro w hSw
            try dsimp only at hSw
            go_simp
            try with_reducible rfl
          clear inv12
          try simp only [Act.put, List.getElem_toArray, List.getElem_cons_succ, List.getElem_cons_zero, List.setIfInBounds_toArray, List.set_cons_zero, List.set_cons_succ]
          refine wpAnyZ_take (i := 13) (v := ?_) rfl (Lib.hid ⟨by as_aux_lemma => kernel_rfl, by as_aux_lemma => kernel_rfl, by as_aux_lemma => kernel_rfl, rfl⟩) (by decide) inv13 (by as_aux_lemma => kernel_rfl) (by as_aux_lemma => kernel_rfl) (fun _ _ _ h => h) (Or.inl ⟨by rfl, ?_⟩) hh0 (fun inv14 => ?_)
          rotate_left
          · intro w hSw
            try dsimp only at hSw
            go_simp
            try with_reducible rfl
          clear inv13
          try simp only [Act.put, List.getElem_toArray, List.getElem_cons_succ, List.getElem_cons_zero, List.setIfInBounds_toArray, List.set_cons_zero, List.set_cons_succ]
          refine wpAnyZ_take (i := 14) (v := ?_) rfl (Lib.hid ⟨by as_aux_lemma => kernel_rfl, by as_aux_lemma => kernel_rfl, by as_aux_lemma => kernel_rfl, rfl⟩) (by decide) inv14 (by as_aux_lemma => kernel_rfl) (by as_aux_lemma => kernel_rfl) (fun _ _ _ h => h) (Or.inl ⟨by rfl, ?_⟩) hh0 (fun inv15 => ?_)
          rotate_left
          · intro w hSw
            try dsimp only at hSw
            go_simp
            try with_reducible rfl
          clear inv14
          try simp only [Act.put, List.getElem_toArray, List.getElem_cons_succ, List.getElem_cons_zero, List.setIfInBounds_toArray, List.set_cons_zero, List.set_cons_succ]
          refine wpAnyZ_take (i := 15) (v := ?_) rfl (Lib.hid ⟨by as_aux_lemma => kernel_rfl, by as_aux_lemma => kernel_rfl, by as_aux_lemma => kernel_rfl, rfl⟩) (by decide) inv15 (by as_aux_lemma => kernel_rfl) (by as_aux_lemma => kernel_rfl) (fun _ _ _ h => h) (Or.inl ⟨by rfl, ?_⟩) hh0 (fun inv16 => ?_)
          rotate_left
          · intro w hSw
            try dsimp only at hSw
            go_simp
            try with_reducible rfl
          clear inv15
          try simp only [Act.put, List.getElem_toArray, List.getElem_cons_succ, List.getElem_cons_zero, List.setIfInBounds_toArray, List.set_cons_zero, List.set_cons_succ]
          refine wpAnyZ_take (i := 16) (v := ?_) rfl (Lib.hid ⟨by as_aux_lemma => kernel_rfl, by as_aux_lemma => kernel_rfl, by as_aux_lemma => kernel_rfl, rfl⟩) (by decide) inv16 (by as_aux_lemma => kernel_rfl) (by as_aux_lemma => kernel_rfl) (fun _ _ _ h => h) (Or.inl ⟨by rfl, ?_⟩) hh0 (fun inv17 => ?_)
          rotate_left
          · intro w hSw
            try dsimp only at hSw
            go_simp
            try with_reducible rfl
          clear inv16
          try simp only [Act.put, List.getElem_toArray, List.getElem_cons_succ, List.getElem_cons_zero, List.setIfInBounds_toArray, List.set_cons_zero, List.set_cons_succ]
          refine wpAnyZ_take (i := 17) (v := ?_) rfl (Lib.hid ⟨by as_aux_lemma => kernel_rfl, by as_aux_lemma => kernel_rfl, by as_aux_lemma => kernel_rfl, rfl⟩) (by decide) inv17 (by as_aux_lemma => kernel_rfl) (by as_aux_lemma => kernel_rfl) (fun _ _ _ h => h) (Or.inl ⟨by rfl, ?_⟩) hh0 (fun inv18 => ?_)
          rotate_left
          · intro w hSw
            try dsimp only at hSw
            go_simp
            try with_reducible rfl
          clear inv17
          try simp only [Act.put, List.getElem_toArray, List.getElem_cons_succ, List.getElem_cons_zero, List.setIfInBounds_toArray, List.set_cons_zero, List.set_cons_succ]
          refine wpAnyZ_take (i := 18) (v := ?_) rfl (Lib.hid ⟨by as_aux_lemma => kernel_rfl, by as_aux_lemma => kernel_rfl, by as_aux_lemma => kernel_rfl, rfl⟩) (by decide) inv18 (by as_aux_lemma => kernel_rfl) (by as_aux_lemma => kernel_rfl) (fun _ _ _ h => h) (Or.inl ⟨by rfl, ?_⟩) hh0 (fun inv19 => ?_)
          rotate_left
          · intro w hSw
            try dsimp only at hSw
            go_simp
            try with_reducible rfl
          clear inv18
          try simp only [Act.put, List.getElem_toArray, List.getElem_cons_succ, List.getElem_cons_zero, List.setIfInBounds_toArray, List.set_cons_zero, List.set_cons_succ]
          refine wpAnyZ_take (i := 19) (v := ?_) rfl (Lib.hid ⟨by as_aux_lemma => kernel_rfl, by as_aux_lemma => kernel_rfl, by as_aux_lemma => kernel_rfl, rfl⟩) (by decide) inv19 (by as_aux_lemma => kernel_rfl) (by as_aux_lemma => kernel_rfl) (fun _ _ _ h => h) (Or.inl ⟨by rfl, ?_⟩) hh0 (fun inv20 => ?_)
          rotate_left
          · intro w hSw
            try dsimp only at hSw
            go_simp
            try with_reducible rfl
          clear inv19
          try simp only [Act.put, List.getElem_toArray, List.getElem_cons_succ, List.getElem_cons_zero, List.setIfInBounds_toArray, List.set_cons_zero, List.set_cons_succ]
          refine wpAnyZ_take (i := 20) (v := ?_) rfl (Lib.hid ⟨by as_aux_lemma => kernel_rfl, by as_aux_lemma => kernel_rfl, by as_aux_lemma => kernel_rfl, rfl⟩) (by decide) inv20 (by as_aux_lemma => kernel_rfl) (by as_aux_lemma => kernel_rfl) (fun _ _ _ h => h) (Or.inl ⟨by rfl, ?_⟩) hh0 (fun inv21 => ?_)
          rotate_left
          · intro w hSw
            try dsimp only at hSw
            go_simp
            try with_reducible rfl
          clear inv20
          try simp only [Act.put, List.getElem_toArray, List.getElem_cons_succ, List.getElem_cons_zero, List.setIfInBounds_toArray, List.set_cons_zero, List.set_cons_succ]
          refine wpAnyZ_take (i := 21) (v := ?_) rfl (Lib.hid ⟨by as_aux_lemma => kernel_rfl, by as_aux_lemma => kernel_rfl, by as_aux_lemma => kernel_rfl, rfl⟩) (by decide) inv21 (by as_aux_lemma => kernel_rfl) (by as_aux_lemma => kernel_rfl) (fun _ _ _ h => h) (Or.inl ⟨by rfl, ?_⟩) hh0 (fun inv22 => ?_)
          rotate_left
          · intro w hSw
            try dsimp only at hSw
            go_simp
            try with_reducible rfl
          clear inv21
          try simp only [Act.put, List.getElem_toArray, List.getElem_cons_succ, List.getElem_cons_zero, List.setIfInBounds_toArray, List.set_cons_zero, List.set_cons_succ]
          refine wpAnyZ_take (i := 22) (v := ?_) rfl (Lib.hid ⟨by as_aux_lemma => kernel_rfl, by as_aux_lemma => kernel_rfl, by as_aux_lemma => kernel_rfl, rfl⟩) (by decide) inv22 (by as_aux_lemma => kernel_rfl) (by as_aux_lemma => kernel_rfl) (fun _ _ _ h => h) (Or.inl ⟨by rfl, ?_⟩) hh0 (fun inv23 => ?_)
          rotate_left
          · intro w hSw
            try dsimp only at hSw
            go_simp
            try with_reducible rfl
          clear inv22
          try simp only [Act.put, List.getElem_toArray, List.getElem_cons_succ, List.getElem_cons_zero, List.setIfInBounds_toArray, List.set_cons_zero, List.set_cons_succ]
          refine wpAnyZ_all (rs := [23]) (by as_aux_lemma => kernel_rfl) (by simp) ?_
          intro i hi
          obtain rfl : i = 23 := by simpa using hi
          refine step_Z rfl (fun K hK => ?_)
          go_simp
          have hh1 := KA _ (((Below.refl (v + 1) wr).drew).alloc (show v + 1 ≤ wr.drew.heap.size from hvl) (Obj.cells #[.int .i64 py, .int .i64 px] 74))
          refine hK.out _ _ (fun _ => hh1) ?_
          have inv24 := hinv_set inv23 (by as_aux_lemma => kernel_rfl) (by decide : 23 < 26)
          clear hK K hh0 inv23
          try simp only [Act.put, List.getElem_toArray, List.getElem_cons_succ, List.getElem_cons_zero, List.setIfInBounds_toArray, List.set_cons_zero, List.set_cons_succ]
          refine wpAnyZ_all (rs := [24]) (by as_aux_lemma => kernel_rfl) (by simp) ?_
          intro i hi
          obtain rfl : i = 24 := by simpa using hi
          refine step_Z rfl (fun K hK => ?_)
          refine step_app (by rfl) _ _ 69 74 (by rfl) i0 (.agg #[.int .i64 0, .int .i64 0]) 2 16 Try.underlying69 hi0 HI0.out.1 HI0.out.2.1 HI0.out.2.2 rfl (by decide) (v + 1) j _ _ ⟨wr.heap.size, 0, none⟩ 1 1 [.int .i64 py, .int .i64 px] (by rfl) (by rfl) (OP.drew.alloc (Obj.cells #[.int .i64 py, .int .i64 px] 74)) rfl ?pa1 ?pa2 (by simp; omega) (by unfold maxLen; omega) (by omega) ?_
          case pa1 =>
            intro j' u' hj'
            match j', hj' with
            | 0, hj' => simp at hj'; subst hj'; exact cellOf (heap_alloc_new wr.drew (Obj.cells #[.int .i64 py, .int .i64 px] 74)) 0 _ rfl
            | 1, hj' => simp at hj'; subst hj'; exact cellOf (heap_alloc_new wr.drew (Obj.cells #[.int .i64 py, .int .i64 px] 74)) 1 _ rfl
            | j' + 2, hj' => simp at hj'
          case pa2 =>
            intro u' hu'
            simp at hu'
            rcases hu' with rfl | rfl <;> rfl
          intro v1 V1 ho1 hg1 hl1 _
          have HB1 := Lib.hid ((((Below.refl (v + 1) wr).drew).alloc (show v + 1 ≤ wr.drew.heap.size from hvl) (Obj.cells #[.int .i64 py, .int .i64 px] 74)).grown hg1 (by simp; omega) (fun q hq => (hl1 q hq).1))
          have HY1 := Lib.hid ((HB1.out.block v (by omega)).trans HY.out)
          have ho2 : V1.ownsRow (v + 1) 74 2 v1 (j + 1) (flatP ((kp.map swP).take (j + 1))) := by
            rw [HTK.out, flatP_append]
            exact ho1
          obtain ⟨qa', qc', rfl⟩ := own_slice ho2
          have HO2 := Lib.hid ho2
          clear ho1 hg1 hl1 ho2
          have hh2 := KA _ HB1.out
          refine hK.out _ _ (fun _ => hh2) ?_
          have inv25 := hinv_set inv24 (by as_aux_lemma => kernel_rfl) (by decide : 24 < 26)
          clear hK K hh1 inv24
          try simp only [Act.put, List.getElem_toArray, List.getElem_cons_succ, List.getElem_cons_zero, List.setIfInBounds_toArray, List.set_cons_zero, List.set_cons_succ]
          refine wpAnyZ_take (i := 25) (v := ?_) rfl (Lib.hid ⟨by as_aux_lemma => kernel_rfl, by as_aux_lemma => kernel_rfl, by as_aux_lemma => kernel_rfl, rfl⟩) (by decide) inv25 (by as_aux_lemma => kernel_rfl) (by as_aux_lemma => kernel_rfl) (fun _ _ _ h => h) (Or.inl ⟨by rfl, ?_⟩) hh2 (fun inv26 => ?_)
          rotate_left
          · intro w hSw
            try dsimp only at hSw
            go_simp
            try with_reducible rfl
          clear inv25
          try simp only [Act.put, List.getElem_toArray, List.getElem_cons_succ, List.getElem_cons_zero, List.setIfInBounds_toArray, List.set_cons_zero, List.set_cons_succ]
          refine wpAnyZ_all (rs := [26]) (by as_aux_lemma => kernel_rfl) (by simp) ?_
          intro i hi
          obtain rfl : i = 26 := by simpa using hi
          refine step_Z rfl (fun K hK => ?_)
          have y2f := frozen_of_row _ _ 2 _ _ HY1.out
          go_simp
          refine hK.out _ _ (fun h => absurd rfl h) ?_
          clear hK K
          try simp only [Act.put, List.getElem_toArray, List.getElem_cons_succ, List.getElem_cons_zero, List.setIfInBounds_toArray, List.set_cons_zero, List.set_cons_succ]
          refine wpAnyZ_done (by as_aux_lemma => kernel_rfl) ?_ _
          refine NoPanic.normal ?_
          have hz1 := HB1.out.size
          have HBW := Lib.hid (HL.out.trans (HB1.out.mono (by omega)))
          clear KA r2 d2 p0 p1 y2 y2f HY OP HL HL2 HB1
          go_wp2_with fail
          go_roundg (gk - 1)
          case measure => omega
          case rel => exact ⟨j + 1, qa', qc', by omega, by go_num, heap_setCell_same V1 v 2 _ _ (.slice qa' (j + 1) qc') HY1.out, own_other HO2.out ⟨v, 2, none⟩ (by simp) _, HBW.out.setCell (by simp) _, by simp; omega⟩
        · have hjk : j = kn := by omega
          subst hjk
          have jI : ¬ (j : Int) < (j : Int) := by omega
          have HBL : Hid (Below wo.heap.size wo wr) := by show Below _ _ _; rw [HVE.out]; exact HB5.out.trans HL.out
          have HOV := Lib.hid (own_below HOW.out HBL.out)
          have YV := Lib.hid ((HBL.out.block _ (lt_of_block YW.out)).trans YW.out)
          have HEQ0 := (eRow_get c.eds P (List.range c.eds.length) k (by rw [List.length_range]; exact hkc))
          rw [List.getElem_range] at HEQ0
          have gc0 := (HOV.out.cellAt (k * 3) (by omega)).trans HEQ0.1
          have gc1 := (HOV.out.cellAt (k * 3 + 1) (by omega)).trans HEQ0.2.1
          have gc2 := (HOV.out.cellAt (k * 3 + 2) (by omega)).trans HEQ0.2.2
          have gf0 := HOV.out.frozenAt (k * 3)
          have gf1 := HOV.out.frozenAt (k * 3 + 1)
          have gf2 := HOV.out.frozenAt (k * 3 + 2)
          have y0 := cellOf HY.out 0 _ rfl
          have y1 := cellOf HY.out 1 _ rfl
          have y2 := cellOf HY.out 2 _ rfl
          have v2 := cellOf YV.out 2 _ rfl
          have hgv : g < v := HGL.out
          have r0 := cellOf ((HL2.out.block _ (lt_of_block HR.out)).trans HR.out) 0 _ rfl
          have r1 := cellOf ((HL2.out.block _ (lt_of_block HR.out)).trans HR.out) 1 _ rfl
          have rgn : w.heap.size < g := by omega
          clear HEQ0
          go_wp2_with fail
          clear r0 r1 r2 d2 gc0 gc1 gc2 gf0 gf1 gf2 y0 y1 y2 v2 jI
          have HTW : Hid (wr.ownsRow (v + 1) 74 2 (.slice qa j qc) j (flatP (kp.map swP))) := by
            show World.ownsRow _ _ _ _ _ _ _
            have e : (kp.map swP).take j = kp.map swP := by rw [List.take_of_length_le]; rw [List.length_map, HKN.out]; exact Nat.le_refl _
            rw [e] at OP
            exact OP
          obtain ⟨wv, hwv⟩ : ∃ V, ((wr.setCell ⟨g, k * 3, none⟩ (.int .i64 db)).setCell ⟨g, k * 3 + 1, none⟩ (.int .i64 da)).setCell ⟨g, k * 3 + 2, none⟩ (.slice qa j qc) = V := ⟨_, rfl⟩
          rw [hwv]
          have hwv2 : putE wr g k ⟨db, da, kp.map swP⟩ (.slice qa j qc) = wv := hwv
          clear hwv
          have HBE : Hid (Below w2.heap.size w2 wv) := by show Below _ _ _; rw [← hwv2]; exact putE_below HL2.out (by omega)
          have HDD : Hid (EdgsAt wv (.slice (some ⟨g, 0, none⟩) m nc) (swC c k).eds) := by
            obtain ⟨_, _, _, _, hPP, _⟩ := HEV.out
            show EdgsAt wv _ (c.eds.set k (swE (c.eds.getD k default)))
            rw [getD_lt _ _ hkc, HDE.out]
            have hbe := HBE.out
            rw [← hwv2] at hbe ⊢
            exact edgsAt_put (d := ⟨db, da, kp.map swP⟩) HM.out hkc HOV.out (by have := HM.out; omega) (fun i hi => (hPP i hi).below hbe) (pairsAt_ownP (by rw [List.length_map, HKN.out]) (putE_kept HOV.out HTW.out) (by rw [List.length_map, HKN.out]; omega))
          have HD : Hid (CasAt wv (swC c k) (.slice sa n sc) (.slice (some ⟨g, 0, none⟩) m nc)) := ⟨HC.out.shs.below HBE.out, HDD.out⟩
          have HV2 : Hid (wv.heap[w2.heap.size]? = some (.cells #[.int .i64 tol, .slice sa n sc, .slice (some ⟨g, 0, none⟩) m nc] 25 (0, 0))) := by
            show _ = _
            rw [← hwv2]
            exact ((putE_below (B := w2.heap.size + 1) (Below.refl _ wr) (by omega)).block _ (by omega)).trans YV.out
          clear hwv2 HDD OP HL HL2 HY YV HOV HBL HTW rgn hgv rl1 hv2 D2
          have HR' := Lib.hid ((HBE.out.block _ (lt_of_block HR.out)).trans HR.out)
          have HZ' := Lib.hid ((HBE.out.block _ (lt_of_block HZ.out)).trans HZ.out)
          have HC' := Lib.hid (HC.out.below HBE.out)
          have HX' := Lib.hid (HX.out.below HBE.out)
          have HB' := Lib.hid (HB.out.trans (HBE.out.mono HB.out.size))
          clear HR
          have HR := HR'
          clear HR'
          clear HZ
          have HZ := HZ'
          clear HZ'
          clear HC
          have HC := HC'
          clear HC'
          clear HX
          have HX := HX'
          clear HX'
          clear HB
          have HB := HB'
          clear HB'
          clear HBE HEV HB5 HLW YW HOW HGL HVE hwl hgB hgl hebl hkbl kn4 hjn hj
          have HTD : Hid ((swC c k).tol = tol) := HTOL.out
          have hin : inB 0 ((c.eds.length : Int) - 1) (k : Int) = true := by unfold inB; simp; omega
          have hinF : inB 0 (((swC c k).eds.length : Int) - 1) (k : Int) = true := by rw [swC_len]; exact hin
          have hw1 := wantsA_ok H0.out hin
          have hw2 := wantsA_ok (sw_err c H0.out k hkc) hinF
          rw [Int.toNat_natCast] at hw1 hw2
          rw [sw_want c k k hkc, if_pos rfl] at hw2
          have hwb := wantS_bd c.tol HV.out.t0 HV.out.t50 (c.eds.getD k default).pts (by rw [getD_lt _ _ hkc]; exact (HV.out.ed _ (List.getElem_mem hkc)).pt) (c.eds.getD k default).pts.length (Nat.le_refl _)
          rw [List.take_length] at hwb
          change -9050 ≤ (wantF c k).1 ∧ (wantF c k).1 ≤ 9050 ∧ -9050 ≤ (wantF c k).2 ∧ (wantF c k).2 ≤ 9050 at hwb
          clear hin hinF
          have hwb := wantS_bd c.tol HV.out.t0 HV.out.t50 (c.eds.getD k default).pts (by rw [getD_lt _ _ hkc]; exact (HV.out.ed _ (List.getElem_mem hkc)).pt) (c.eds.getD k default).pts.length (Nat.le_refl _)
          rw [List.take_length] at hwb
          change -9050 ≤ (wantF c k).1 ∧ (wantF c k).1 ≤ 9050 ∧ -9050 ≤ (wantF c k).2 ∧ (wantF c k).2 ≤ 9050 at hwb
          have hw : ∃ lo hi er : Int, wantsA c k = ((lo, hi), er) ∧ wantsA (swC c k) k = ((-hi, -lo), er) ∧ -9050 ≤ lo ∧ lo ≤ 9050 ∧ -9050 ≤ hi ∧ hi ≤ 9050 := by
            by_cases hlt : (wantF c k).2 < (wantF c k).1
            · refine ⟨0, 0, 9, ?_, ?_, by omega, by omega, by omega, by omega⟩
              · rw [hw1, if_pos hlt]
              · rw [hw2, if_pos (by simp only; omega)]
                rfl
            · refine ⟨(wantF c k).1, (wantF c k).2, 0, ?_, ?_, by omega, by omega, by omega, by omega⟩
              · rw [hw1, if_neg hlt]
              · rw [hw2, if_neg (by simp only; omega)]
          clear hw1 hw2
          obtain ⟨lo, hi, er, hw1, hw2, l1, l2, l3, l4⟩ := hw
          obtain ⟨nh, hnh⟩ : ∃ z, -hi = z := ⟨_, rfl⟩
          obtain ⟨nl, hnl⟩ : ∃ z, -lo = z := ⟨_, rfl⟩
          rw [hnh, hnl] at hw2
          have n1w : IntKind.i64.wrap (-hi) = nh := by rw [← hnh, IntKind.wrap_i64] <;> omega
          have n2w : IntKind.i64.wrap (-lo) = nl := by rw [← hnl, IntKind.wrap_i64] <;> omega
          have HW1 := Lib.hid hw1
          have HW2 := Lib.hid hw2
          clear hwb hw1 hw2 hnh hnl
          have hcall := wants_any c _ _ (k : Int) wv HC.out
          rw [HTOL.out] at hcall
          refine hcall.mono ?_
          clear hcall
          rintro e y5 ⟨rfl, hb⟩
          have HR' := Lib.hid ((hb.block _ (lt_of_block HR.out)).trans HR.out)
          have HZ' := Lib.hid ((hb.block _ (lt_of_block HZ.out)).trans HZ.out)
          have HC' := Lib.hid (HC.out.below hb)
          have HX' := Lib.hid (HX.out.below hb)
          have HB' := Lib.hid (HB.out.trans (hb.mono HB.out.size))
          have HV2' := Lib.hid ((hb.block _ (lt_of_block HV2.out)).trans HV2.out)
          have HD' := Lib.hid (HD.out.below hb)
          clear HR
          have HR := HR'
          clear HR'
          clear HZ
          have HZ := HZ'
          clear HZ'
          clear HC
          have HC := HC'
          clear HC'
          clear HX
          have HX := HX'
          clear HX'
          clear HB
          have HB := HB'
          clear HB'
          clear HV2
          have HV2 := HV2'
          clear HV2'
          clear HD
          have HD := HD'
          clear HD'
          clear hb
          rw [HW1.out]
          simp only
          have HR5 := Lib.hid HR.out
          have HZ5 := Lib.hid HZ.out
          have HC5 := Lib.hid HC.out
          have HX5 := Lib.hid HX.out
          have HB5 := Lib.hid HB.out
          have HV25 := Lib.hid HV2.out
          have HD5 := Lib.hid HD.out
          have HL5 := Lib.hid (Below.refl y5.heap.size y5)
          have r0 := cellOf HR.out 0 _ rfl
          have r1 := cellOf HR.out 1 _ rfl
          have r2 := cellOf HR.out 2 _ rfl
          have rl := lt_of_block HR.out
          have z0 := cellOf HZ.out 0 _ rfl
          have z1 := cellOf HZ.out 1 _ rfl
          have zl := lt_of_block HZ.out
          have v0 := cellOf HV2.out 0 _ rfl
          have v1 := cellOf HV2.out 1 _ rfl
          have v2 := cellOf HV2.out 2 _ rfl
          have vl := lt_of_block HV2.out
          go_wp2_with fail
          clear r0 r1 r2 rl z0 z1 zl v0 v1 v2 vl
          have hb := (Below.refl y5.heap.size y5).alloc (Nat.le_refl _) (Obj.cells #[.int .i64 lo, .int .i64 hi] 31)
          have HS1 := Lib.hid (heap_alloc_new y5 (Obj.cells #[.int .i64 lo, .int .i64 hi] 31))
          have HR' := Lib.hid ((hb.block _ (lt_of_block HR.out)).trans HR.out)
          have HZ' := Lib.hid ((hb.block _ (lt_of_block HZ.out)).trans HZ.out)
          have HC' := Lib.hid (HC.out.below hb)
          have HX' := Lib.hid (HX.out.below hb)
          have HB' := Lib.hid (HB.out.trans (hb.mono HB.out.size))
          have HV2' := Lib.hid ((hb.block _ (lt_of_block HV2.out)).trans HV2.out)
          have HD' := Lib.hid (HD.out.below hb)
          have HL5' := Lib.hid (HL5.out.trans (hb.mono HL5.out.size))
          clear HR
          have HR := HR'
          clear HR'
          clear HZ
          have HZ := HZ'
          clear HZ'
          clear HC
          have HC := HC'
          clear HC'
          clear HX
          have HX := HX'
          clear HX'
          clear HB
          have HB := HB'
          clear HB'
          clear HV2
          have HV2 := HV2'
          clear HV2'
          clear HD
          have HD := HD'
          clear HD'
          clear HL5
          have HL5 := HL5'
          clear HL5'
          clear hb
          generalize y5.alloc (Obj.cells #[.int .i64 lo, .int .i64 hi] 31) = y6 at *
          obtain ⟨u12, hu12⟩ : ∃ u, y5.heap.size = u := ⟨_, rfl⟩
          rw [hu12] at HS1 ⊢
          have HUu12 := Lib.hid hu12
          clear hu12
          have hcall := wants_any (swC c k) _ _ (k : Int) y6 HD.out
          rw [HTD.out] at hcall
          refine hcall.mono ?_
          clear hcall
          rintro e y7 ⟨rfl, hb⟩
          have HR' := Lib.hid ((hb.block _ (lt_of_block HR.out)).trans HR.out)
          have HZ' := Lib.hid ((hb.block _ (lt_of_block HZ.out)).trans HZ.out)
          have HC' := Lib.hid (HC.out.below hb)
          have HX' := Lib.hid (HX.out.below hb)
          have HB' := Lib.hid (HB.out.trans (hb.mono HB.out.size))
          have HV2' := Lib.hid ((hb.block _ (lt_of_block HV2.out)).trans HV2.out)
          have HD' := Lib.hid (HD.out.below hb)
          have HL5' := Lib.hid (HL5.out.trans (hb.mono HL5.out.size))
          have HS1' := Lib.hid ((hb.block _ (lt_of_block HS1.out)).trans HS1.out)
          clear HR
          have HR := HR'
          clear HR'
          clear HZ
          have HZ := HZ'
          clear HZ'
          clear HC
          have HC := HC'
          clear HC'
          clear HX
          have HX := HX'
          clear HX'
          clear HB
          have HB := HB'
          clear HB'
          clear HV2
          have HV2 := HV2'
          clear HV2'
          clear HD
          have HD := HD'
          clear HD'
          clear HL5
          have HL5 := HL5'
          clear HL5'
          clear HS1
          have HS1 := HS1'
          clear HS1'
          clear hb
          rw [HW2.out]
          simp only
          have r0 := cellOf HR.out 0 _ rfl
          have r1 := cellOf HR.out 1 _ rfl
          have r2 := cellOf HR.out 2 _ rfl
          have rl := lt_of_block HR.out
          have z0 := cellOf HZ.out 0 _ rfl
          have z1 := cellOf HZ.out 1 _ rfl
          have zl := lt_of_block HZ.out
          have v0 := cellOf HV2.out 0 _ rfl
          have v1 := cellOf HV2.out 1 _ rfl
          have v2 := cellOf HV2.out 2 _ rfl
          have vl := lt_of_block HV2.out
          have s0 := cellOf HS1.out 0 _ rfl
          have s1 := cellOf HS1.out 1 _ rfl
          have sl := lt_of_block HS1.out
          go_wp2_with fail
          clear r0 r1 r2 rl z0 z1 zl v0 v1 v2 vl s0 s1 sl
          have u12l := lt_of_block HS1.out
          have hb := (Below.refl y7.heap.size y7).alloc (Nat.le_refl _) (Obj.cells #[.int .i64 nh, .int .i64 nl] 31)
          have HS2 := Lib.hid (heap_alloc_new y7 (Obj.cells #[.int .i64 nh, .int .i64 nl] 31))
          have HR' := Lib.hid ((hb.block _ (lt_of_block HR.out)).trans HR.out)
          have HZ' := Lib.hid ((hb.block _ (lt_of_block HZ.out)).trans HZ.out)
          have HC' := Lib.hid (HC.out.below hb)
          have HX' := Lib.hid (HX.out.below hb)
          have HB' := Lib.hid (HB.out.trans (hb.mono HB.out.size))
          have HV2' := Lib.hid ((hb.block _ (lt_of_block HV2.out)).trans HV2.out)
          have HD' := Lib.hid (HD.out.below hb)
          have HL5' := Lib.hid (HL5.out.trans (hb.mono HL5.out.size))
          have HS1' := Lib.hid ((hb.block _ (lt_of_block HS1.out)).trans HS1.out)
          clear HR
          have HR := HR'
          clear HR'
          clear HZ
          have HZ := HZ'
          clear HZ'
          clear HC
          have HC := HC'
          clear HC'
          clear HX
          have HX := HX'
          clear HX'
          clear HB
          have HB := HB'
          clear HB'
          clear HV2
          have HV2 := HV2'
          clear HV2'
          clear HD
          have HD := HD'
          clear HD'
          clear HL5
          have HL5 := HL5'
          clear HL5'
          clear HS1
          have HS1 := HS1'
          clear HS1'
          clear hb
          generalize y7.alloc (Obj.cells #[.int .i64 nh, .int .i64 nl] 31) = y8 at *
          obtain ⟨u14, hu14⟩ : ∃ u, y7.heap.size = u := ⟨_, rfl⟩
          rw [hu14] at HS2 ⊢
          have HUu14 := Lib.hid hu14
          clear hu14
          have s0c := cellOf HS1.out 0 _ rfl
          have s1c := cellOf HS1.out 1 _ rfl
          have q0c := cellOf HS2.out 0 _ rfl
          have q1c := cellOf HS2.out 1 _ rfl
          have KA : ∀ W' : World, Below y8.heap.size y8 W' → (W'.cell? ⟨u12, 0, none⟩ = some (.int .i64 lo) ∧ W'.cell? ⟨u12, 1, none⟩ = some (.int .i64 hi) ∧ W'.cell? ⟨u14, 0, none⟩ = some (.int .i64 nh) ∧ W'.cell? ⟨u14, 1, none⟩ = some (.int .i64 nl) ∧ Below y8.heap.size y8 W') := fun W' hb => ⟨keepK s0c hb, keepK s1c hb, keepK q0c hb, keepK q1c hb, hb⟩
          refine wp_region_noPanic ?_
          refine wp_region_held_drew (S := (fun W' => W'.cell? ⟨u12, 0, none⟩ = some (.int .i64 lo) ∧ W'.cell? ⟨u12, 1, none⟩ = some (.int .i64 hi) ∧ W'.cell? ⟨u14, 0, none⟩ = some (.int .i64 nh) ∧ W'.cell? ⟨u14, 1, none⟩ = some (.int .i64 nl) ∧ Below y8.heap.size y8 W')) (by kernel_rfl) ?_ (fun hh0 => ?_)
          · exact KA _ (Below.refl _ _).drew
          refine wpAnyH_take (i := 0) (v := ?_) rfl (by as_aux_lemma => kernel_rfl) (by as_aux_lemma => kernel_rfl) (by as_aux_lemma => kernel_rfl) (fun _ _ _ h => h) (Or.inl ⟨by rfl, ?_⟩) (by assumption) ?_
          rotate_left
          · intro w hSw
            try dsimp only at hSw
            go_simp
            try with_reducible rfl
          try simp only [Act.put, List.getElem_toArray, List.getElem_cons_succ, List.getElem_cons_zero, List.setIfInBounds_toArray, List.set_cons_zero, List.set_cons_succ]
          refine wpAnyH_take (i := 1) (v := ?_) rfl (by as_aux_lemma => kernel_rfl) (by as_aux_lemma => kernel_rfl) (by as_aux_lemma => kernel_rfl) (fun _ _ _ h => h) (Or.inl ⟨by rfl, ?_⟩) (by assumption) ?_
          rotate_left
          · intro w hSw
            try dsimp only at hSw
            go_simp
            try with_reducible rfl
          try simp only [Act.put, List.getElem_toArray, List.getElem_cons_succ, List.getElem_cons_zero, List.setIfInBounds_toArray, List.set_cons_zero, List.set_cons_succ]
          refine wpAnyH_take (i := 2) (v := ?_) rfl (by as_aux_lemma => kernel_rfl) (by as_aux_lemma => kernel_rfl) (by as_aux_lemma => kernel_rfl) (fun _ _ _ h => h) (Or.inl ⟨by rfl, ?_⟩) (by assumption) ?_
          rotate_left
          · intro w hSw
            try dsimp only at hSw
            go_simp
            try with_reducible rfl
          try simp only [Act.put, List.getElem_toArray, List.getElem_cons_succ, List.getElem_cons_zero, List.setIfInBounds_toArray, List.set_cons_zero, List.set_cons_succ]
          refine wpAnyH_take (i := 3) (v := ?_) rfl (by as_aux_lemma => kernel_rfl) (by as_aux_lemma => kernel_rfl) (by as_aux_lemma => kernel_rfl) (fun _ _ _ h => h) (Or.inl ⟨by rfl, ?_⟩) (by assumption) ?_
          rotate_left
          · intro w hSw
            try dsimp only at hSw
            go_simp
            try with_reducible rfl
          try simp only [Act.put, List.getElem_toArray, List.getElem_cons_succ, List.getElem_cons_zero, List.setIfInBounds_toArray, List.set_cons_zero, List.set_cons_succ]
          refine wpAnyH_take (i := 4) (v := ?_) rfl (by as_aux_lemma => kernel_rfl) (by as_aux_lemma => kernel_rfl) (by as_aux_lemma => kernel_rfl) (fun _ _ _ h => h) (Or.inl ⟨by rfl, ?_⟩) (by assumption) ?_
          rotate_left
          · intro w hSw
            try dsimp only at hSw
            go_simp
            try with_reducible rfl
          try simp only [Act.put, List.getElem_toArray, List.getElem_cons_succ, List.getElem_cons_zero, List.setIfInBounds_toArray, List.set_cons_zero, List.set_cons_succ]
          refine wpAnyH_take (i := 5) (v := ?_) rfl (by as_aux_lemma => kernel_rfl) (by as_aux_lemma => kernel_rfl) (by as_aux_lemma => kernel_rfl) (fun _ _ _ h => h) (Or.inl ⟨by rfl, ?_⟩) (by assumption) ?_
          rotate_left
          · intro w hSw
            try dsimp only at hSw
            go_simp
            try with_reducible rfl
          try simp only [Act.put, List.getElem_toArray, List.getElem_cons_succ, List.getElem_cons_zero, List.setIfInBounds_toArray, List.set_cons_zero, List.set_cons_succ]
          refine wpAnyH_take (i := 6) (v := ?_) rfl (by as_aux_lemma => kernel_rfl) (by as_aux_lemma => kernel_rfl) (by as_aux_lemma => kernel_rfl) (fun _ _ _ h => h) (Or.inl ⟨by rfl, ?_⟩) (by assumption) ?_
          rotate_left
          · intro w hSw
            try dsimp only at hSw
            go_simp
            try with_reducible rfl
          try simp only [Act.put, List.getElem_toArray, List.getElem_cons_succ, List.getElem_cons_zero, List.setIfInBounds_toArray, List.set_cons_zero, List.set_cons_succ]
          refine wpAnyH_take (i := 7) (v := ?_) rfl (by as_aux_lemma => kernel_rfl) (by as_aux_lemma => kernel_rfl) (by as_aux_lemma => kernel_rfl) (fun _ _ _ h => h) (Or.inl ⟨by rfl, ?_⟩) (by assumption) ?_
          rotate_left
          · intro w hSw
            try dsimp only at hSw
            go_simp
            try with_reducible rfl
          try simp only [Act.put, List.getElem_toArray, List.getElem_cons_succ, List.getElem_cons_zero, List.setIfInBounds_toArray, List.set_cons_zero, List.set_cons_succ]
          refine wpAnyH_take (i := 8) (v := ?_) rfl (by as_aux_lemma => kernel_rfl) (by as_aux_lemma => kernel_rfl) (by as_aux_lemma => kernel_rfl) (fun _ _ _ h => h) (Or.inl ⟨by rfl, ?_⟩) (by assumption) ?_
          rotate_left
          · intro w hSw
            try dsimp only at hSw
            go_simp
            try with_reducible rfl
          try simp only [Act.put, List.getElem_toArray, List.getElem_cons_succ, List.getElem_cons_zero, List.setIfInBounds_toArray, List.set_cons_zero, List.set_cons_succ]
          refine wpAnyH_take (i := 9) (v := ?_) rfl (by as_aux_lemma => kernel_rfl) (by as_aux_lemma => kernel_rfl) (by as_aux_lemma => kernel_rfl) (fun _ _ _ h => h) (Or.inl ⟨by rfl, ?_⟩) (by assumption) ?_
          rotate_left
          · intro w hSw
            try dsimp only at hSw
            go_simp
            try with_reducible rfl
          try simp only [Act.put, List.getElem_toArray, List.getElem_cons_succ, List.getElem_cons_zero, List.setIfInBounds_toArray, List.set_cons_zero, List.set_cons_succ]
          refine wpAnyH_take (i := 10) (v := ?_) rfl (by as_aux_lemma => kernel_rfl) (by as_aux_lemma => kernel_rfl) (by as_aux_lemma => kernel_rfl) (fun _ _ _ h => h) (Or.inl ⟨by rfl, ?_⟩) (by assumption) ?_
          rotate_left
          · intro w hSw
            try dsimp only at hSw
            go_simp
            try with_reducible rfl
          try simp only [Act.put, List.getElem_toArray, List.getElem_cons_succ, List.getElem_cons_zero, List.setIfInBounds_toArray, List.set_cons_zero, List.set_cons_succ]
          refine wpAnyH_ready (rs := [11]) (by as_aux_lemma => kernel_rfl) (by simp) ?_
          refine AllReadyH.cons rfl (fun K hK => ?_) AllReadyH.nil
          go_simp
          refine (lspan_any _ _ _).mono ?_
          rintro e ws ⟨rfl, hbs⟩
          refine hK.out _ _ (KA _ (Below.trans hh0.2.2.2.2 (Below.mono hbs (hh0.2.2.2.2).size))) (fun hh1 => ?_)
          clear hK K
          try simp only [Act.put, List.getElem_toArray, List.getElem_cons_succ, List.getElem_cons_zero, List.setIfInBounds_toArray, List.set_cons_zero, List.set_cons_succ]
          refine wpAnyH_take (i := 12) (v := ?_) rfl (by as_aux_lemma => kernel_rfl) (by as_aux_lemma => kernel_rfl) (by as_aux_lemma => kernel_rfl) (fun _ _ _ h => h) (Or.inl ⟨by rfl, ?_⟩) (by assumption) ?_
          rotate_left
          · intro w hSw
            try dsimp only at hSw
            go_simp
            try with_reducible rfl
          try simp only [Act.put, List.getElem_toArray, List.getElem_cons_succ, List.getElem_cons_zero, List.setIfInBounds_toArray, List.set_cons_zero, List.set_cons_succ]
          refine wpAnyH_take (i := 13) (v := ?_) rfl (by as_aux_lemma => kernel_rfl) (by as_aux_lemma => kernel_rfl) (by as_aux_lemma => kernel_rfl) (fun _ _ _ h => h) (Or.inl ⟨by rfl, ?_⟩) (by assumption) ?_
          rotate_left
          · intro w hSw
            try dsimp only at hSw
            go_simp
            try with_reducible rfl
          try simp only [Act.put, List.getElem_toArray, List.getElem_cons_succ, List.getElem_cons_zero, List.setIfInBounds_toArray, List.set_cons_zero, List.set_cons_succ]
          refine wpAnyH_done (by as_aux_lemma => kernel_rfl) ?_ _
          refine NoPanic.normal ?_
          have HBZ := Lib.hid (hh1.2.2.2.2)
          clear KA s0c s1c q0c q1c n1w n2w HW1 HW2 l1 l2 l3 l4
          have HR' := Lib.hid ((HBZ.out.block _ (lt_of_block HR.out)).trans HR.out)
          have HZ' := Lib.hid ((HBZ.out.block _ (lt_of_block HZ.out)).trans HZ.out)
          have HC' := Lib.hid (HC.out.below HBZ.out)
          have HX' := Lib.hid (HX.out.below HBZ.out)
          have HB' := Lib.hid (HB.out.trans (HBZ.out.mono HB.out.size))
          have HV2' := Lib.hid ((HBZ.out.block _ (lt_of_block HV2.out)).trans HV2.out)
          have HD' := Lib.hid (HD.out.below HBZ.out)
          have HL5' := Lib.hid (HL5.out.trans (HBZ.out.mono HL5.out.size))
          have HS1' := Lib.hid ((HBZ.out.block _ (lt_of_block HS1.out)).trans HS1.out)
          have HS2' := Lib.hid ((HBZ.out.block _ (lt_of_block HS2.out)).trans HS2.out)
          clear HR
          have HR := HR'
          clear HR'
          clear HZ
          have HZ := HZ'
          clear HZ'
          clear HC
          have HC := HC'
          clear HC'
          clear HX
          have HX := HX'
          clear HX'
          clear HB
          have HB := HB'
          clear HB'
          clear HV2
          have HV2 := HV2'
          clear HV2'
          clear HD
          have HD := HD'
          clear HD'
          clear HL5
          have HL5 := HL5'
          clear HL5'
          clear HS1
          have HS1 := HS1'
          clear HS1'
          clear HS2
          have HS2 := HS2'
          clear HS2'
          clear HBZ
          have hin : i < c.shs.length := by have := HN.out; omega
          obtain ⟨⟨⟨rlo, rhi⟩, re⟩, hr⟩ : ∃ r, rangeE c i = r := ⟨_, rfl⟩
          have HR2 := Lib.hid ((sw_range c H0.out k hkc i hin).trans hr)
          have HR1 := Lib.hid hr
          clear hin hr
          have r0 := cellOf HR.out 0 _ rfl
          have r1 := cellOf HR.out 1 _ rfl
          have r2 := cellOf HR.out 2 _ rfl
          have rl := lt_of_block HR.out
          have z0 := cellOf HZ.out 0 _ rfl
          have z1 := cellOf HZ.out 1 _ rfl
          have zl := lt_of_block HZ.out
          have v0 := cellOf HV2.out 0 _ rfl
          have v1 := cellOf HV2.out 1 _ rfl
          have v2 := cellOf HV2.out 2 _ rfl
          have vl := lt_of_block HV2.out
          go_wp2_with fail
          clear r0 r1 r2 rl z0 z1 zl v0 v1 v2 vl
          have hcall := rangeT_any c _ _ (i : Int) ws HC.out
          rw [HTOL.out] at hcall
          refine hcall.mono ?_
          clear hcall
          rintro e y9 ⟨rfl, hb⟩
          have HR' := Lib.hid ((hb.block _ (lt_of_block HR.out)).trans HR.out)
          have HZ' := Lib.hid ((hb.block _ (lt_of_block HZ.out)).trans HZ.out)
          have HC' := Lib.hid (HC.out.below hb)
          have HX' := Lib.hid (HX.out.below hb)
          have HB' := Lib.hid (HB.out.trans (hb.mono HB.out.size))
          have HV2' := Lib.hid ((hb.block _ (lt_of_block HV2.out)).trans HV2.out)
          have HD' := Lib.hid (HD.out.below hb)
          have HL5' := Lib.hid (HL5.out.trans (hb.mono HL5.out.size))
          have HS1' := Lib.hid ((hb.block _ (lt_of_block HS1.out)).trans HS1.out)
          have HS2' := Lib.hid ((hb.block _ (lt_of_block HS2.out)).trans HS2.out)
          clear HR
          have HR := HR'
          clear HR'
          clear HZ
          have HZ := HZ'
          clear HZ'
          clear HC
          have HC := HC'
          clear HC'
          clear HX
          have HX := HX'
          clear HX'
          clear HB
          have HB := HB'
          clear HB'
          clear HV2
          have HV2 := HV2'
          clear HV2'
          clear HD
          have HD := HD'
          clear HD'
          clear HL5
          have HL5 := HL5'
          clear HL5'
          clear HS1
          have HS1 := HS1'
          clear HS1'
          clear HS2
          have HS2 := HS2'
          clear HS2'
          clear hb
          rw [HR1.out]
          simp only
          have lu1 := lt_of_block HR5.out
          have lu2 := lt_of_block HZ5.out
          have lu3 := lt_of_block HV25.out
          rw [HUu12.out] at lu1 lu2 lu3
          have s0f := frozen_of_row _ _ 0 _ _ HS1.out
          have s1f := frozen_of_row _ _ 1 _ _ HS1.out
          have r0 := cellOf HR.out 0 _ rfl
          have r1 := cellOf HR.out 1 _ rfl
          have r2 := cellOf HR.out 2 _ rfl
          have rl := lt_of_block HR.out
          have z0 := cellOf HZ.out 0 _ rfl
          have z1 := cellOf HZ.out 1 _ rfl
          have zl := lt_of_block HZ.out
          have v0 := cellOf HV2.out 0 _ rfl
          have v1 := cellOf HV2.out 1 _ rfl
          have v2 := cellOf HV2.out 2 _ rfl
          have vl := lt_of_block HV2.out
          have s0 := cellOf HS1.out 0 _ rfl
          have s1 := cellOf HS1.out 1 _ rfl
          have sl := lt_of_block HS1.out
          go_wp2_with fail
          clear r0 r1 r2 rl z0 z1 zl v0 v1 v2 vl s0 s1 sl
          clear s0f s1f
          rw [HUu14.out] at u12l
          obtain ⟨ya, hst⟩ : ∃ V, (y9.setCell ⟨u12, 0, none⟩ (.int .i64 rlo)).setCell ⟨u12, 1, none⟩ (.int .i64 rhi) = V := ⟨_, rfl⟩
          have HL6 : Hid (Below y5.heap.size y5 ya) := by
            show Below _ _ _
            have hle : y5.heap.size ≤ u12 := by rw [HUu12.out]; omega
            rw [← hst]
            exact (HL5.out.setCell (p := ⟨u12, 0, none⟩) hle _).setCell (p := ⟨u12, 1, none⟩) hle _
          have HM1 : Hid (ya.heap[u12]? = some (Obj.cells #[.int .i64 rlo, .int .i64 rhi] 31)) := by
            show _ = _
            rw [← hst]
            exact heap_setCell_same _ u12 1 _ _ _ (heap_setCell_same y9 u12 0 _ _ _ HS1.out)
          have HM2 := Lib.hid ((heap_setCell_other (y9.setCell ⟨u12, 0, none⟩ (.int .i64 rlo)) ⟨u12, 1, none⟩ u14 (.int .i64 rhi) (by simp; omega)).trans ((heap_setCell_other y9 ⟨u12, 0, none⟩ u14 (.int .i64 rlo) (by simp; omega)).trans HS2.out))
          rw [hst] at HM2 ⊢
          clear hst HR HZ HC HX HB HV2 HD HS1 HS2 HL5
          have HL5 := HL6
          have HS1 := HM1
          have HS2 := HM2
          clear HL6 HM1 HM2
          have HR := Lib.hid ((HL5.out.block _ (lt_of_block HR5.out)).trans HR5.out)
          have HZ := Lib.hid ((HL5.out.block _ (lt_of_block HZ5.out)).trans HZ5.out)
          have HC := Lib.hid (HC5.out.below HL5.out)
          have HX := Lib.hid (HX5.out.below HL5.out)
          have HB := Lib.hid (HB5.out.trans (HL5.out.mono HB5.out.size))
          have HV2 := Lib.hid ((HL5.out.block _ (lt_of_block HV25.out)).trans HV25.out)
          have HD := Lib.hid (HD5.out.below HL5.out)
          have hcall := rangeT_any (swC c k) _ _ (i : Int) ya HD.out
          rw [HTD.out] at hcall
          refine hcall.mono ?_
          clear hcall
          rintro e yb ⟨rfl, hb⟩
          have HR' := Lib.hid ((hb.block _ (lt_of_block HR.out)).trans HR.out)
          have HZ' := Lib.hid ((hb.block _ (lt_of_block HZ.out)).trans HZ.out)
          have HC' := Lib.hid (HC.out.below hb)
          have HX' := Lib.hid (HX.out.below hb)
          have HB' := Lib.hid (HB.out.trans (hb.mono HB.out.size))
          have HV2' := Lib.hid ((hb.block _ (lt_of_block HV2.out)).trans HV2.out)
          have HD' := Lib.hid (HD.out.below hb)
          have HL5' := Lib.hid (HL5.out.trans (hb.mono HL5.out.size))
          have HS1' := Lib.hid ((hb.block _ (lt_of_block HS1.out)).trans HS1.out)
          have HS2' := Lib.hid ((hb.block _ (lt_of_block HS2.out)).trans HS2.out)
          clear HR
          have HR := HR'
          clear HR'
          clear HZ
          have HZ := HZ'
          clear HZ'
          clear HC
          have HC := HC'
          clear HC'
          clear HX
          have HX := HX'
          clear HX'
          clear HB
          have HB := HB'
          clear HB'
          clear HV2
          have HV2 := HV2'
          clear HV2'
          clear HD
          have HD := HD'
          clear HD'
          clear HL5
          have HL5 := HL5'
          clear HL5'
          clear HS1
          have HS1 := HS1'
          clear HS1'
          clear HS2
          have HS2 := HS2'
          clear HS2'
          clear hb
          rw [HR2.out]
          simp only
          have s0f := frozen_of_row _ _ 0 _ _ HS2.out
          have s1f := frozen_of_row _ _ 1 _ _ HS2.out
          have lv1 : w.heap.size < u14 := by omega
          have lv2 : w2.heap.size < u14 := by omega
          have r0 := cellOf HR.out 0 _ rfl
          have r1 := cellOf HR.out 1 _ rfl
          have r2 := cellOf HR.out 2 _ rfl
          have rl := lt_of_block HR.out
          have z0 := cellOf HZ.out 0 _ rfl
          have z1 := cellOf HZ.out 1 _ rfl
          have zl := lt_of_block HZ.out
          have v0 := cellOf HV2.out 0 _ rfl
          have v1 := cellOf HV2.out 1 _ rfl
          have v2 := cellOf HV2.out 2 _ rfl
          have vl := lt_of_block HV2.out
          have s0 := cellOf HS1.out 0 _ rfl
          have s1 := cellOf HS1.out 1 _ rfl
          have sl := lt_of_block HS1.out
          have t0 := cellOf HS2.out 0 _ rfl
          have t1 := cellOf HS2.out 1 _ rfl
          have tl := lt_of_block HS2.out
          go_wp2_with fail
          clear r0 r1 r2 rl z0 z1 zl v0 v1 v2 vl s0 s1 sl t0 t1 tl
          clear s0f s1f
          obtain ⟨yc, hst⟩ : ∃ V, (yb.setCell ⟨u14, 0, none⟩ (.int .i64 rlo)).setCell ⟨u14, 1, none⟩ (.int .i64 rhi) = V := ⟨_, rfl⟩
          have HL6 : Hid (Below y5.heap.size y5 yc) := by
            show Below _ _ _
            have hle : y5.heap.size ≤ u14 := by rw [HUu12.out]; omega
            rw [← hst]
            exact (HL5.out.setCell (p := ⟨u14, 0, none⟩) hle _).setCell (p := ⟨u14, 1, none⟩) hle _
          have HM1 : Hid (yc.heap[u14]? = some (Obj.cells #[.int .i64 rlo, .int .i64 rhi] 31)) := by
            show _ = _
            rw [← hst]
            exact heap_setCell_same _ u14 1 _ _ _ (heap_setCell_same yb u14 0 _ _ _ HS2.out)
          have HM2 := Lib.hid ((heap_setCell_other (yb.setCell ⟨u14, 0, none⟩ (.int .i64 rlo)) ⟨u14, 1, none⟩ u12 (.int .i64 rhi) (by simp; omega)).trans ((heap_setCell_other yb ⟨u14, 0, none⟩ u12 (.int .i64 rlo) (by simp; omega)).trans HS1.out))
          rw [hst] at HM2 ⊢
          clear hst HR HZ HC HX HB HV2 HD HS1 HS2 HL5
          have HL5 := HL6
          have HS2 := HM1
          have HS1 := HM2
          clear HL6 HM1 HM2
          have HR := Lib.hid ((HL5.out.block _ (lt_of_block HR5.out)).trans HR5.out)
          have HZ := Lib.hid ((HL5.out.block _ (lt_of_block HZ5.out)).trans HZ5.out)
          have HC := Lib.hid (HC5.out.below HL5.out)
          have HX := Lib.hid (HX5.out.below HL5.out)
          have HB := Lib.hid (HB5.out.trans (HL5.out.mono HB5.out.size))
          have HV2 := Lib.hid ((HL5.out.block _ (lt_of_block HV25.out)).trans HV25.out)
          have HD := Lib.hid (HD5.out.below HL5.out)
          obtain ⟨⟨la, ca, le⟩, hl⟩ : ∃ r, leastE c = r := ⟨_, rfl⟩
          have HE2 := Lib.hid ((sw_least c H0.out k hkc).trans hl)
          have HE1 := Lib.hid hl
          clear hl
          have hcall := least1_any c _ _ yc HC.out
          rw [HTOL.out] at hcall
          refine hcall.mono ?_
          clear hcall
          rintro e yd ⟨lv, rfl, hI, hb⟩
          have HR' := Lib.hid ((hb.block _ (lt_of_block HR.out)).trans HR.out)
          have HZ' := Lib.hid ((hb.block _ (lt_of_block HZ.out)).trans HZ.out)
          have HC' := Lib.hid (HC.out.below hb)
          have HX' := Lib.hid (HX.out.below hb)
          have HB' := Lib.hid (HB.out.trans (hb.mono HB.out.size))
          have HV2' := Lib.hid ((hb.block _ (lt_of_block HV2.out)).trans HV2.out)
          have HD' := Lib.hid (HD.out.below hb)
          have HL5' := Lib.hid (HL5.out.trans (hb.mono HL5.out.size))
          have HS1' := Lib.hid ((hb.block _ (lt_of_block HS1.out)).trans HS1.out)
          have HS2' := Lib.hid ((hb.block _ (lt_of_block HS2.out)).trans HS2.out)
          clear HR
          have HR := HR'
          clear HR'
          clear HZ
          have HZ := HZ'
          clear HZ'
          clear HC
          have HC := HC'
          clear HC'
          clear HX
          have HX := HX'
          clear HX'
          clear HB
          have HB := HB'
          clear HB'
          clear HV2
          have HV2 := HV2'
          clear HV2'
          clear HD
          have HD := HD'
          clear HD'
          clear HL5
          have HL5 := HL5'
          clear HL5'
          clear HS1
          have HS1 := HS1'
          clear HS1'
          clear HS2
          have HS2 := HS2'
          clear HS2'
          clear hb
          rw [HE1.out] at hI ⊢
          simp only at hI ⊢
          have HI := Lib.hid hI
          clear hI
          have r0 := cellOf HR.out 0 _ rfl
          have r1 := cellOf HR.out 1 _ rfl
          have r2 := cellOf HR.out 2 _ rfl
          have rl := lt_of_block HR.out
          have z0 := cellOf HZ.out 0 _ rfl
          have z1 := cellOf HZ.out 1 _ rfl
          have zl := lt_of_block HZ.out
          have v0 := cellOf HV2.out 0 _ rfl
          have v1 := cellOf HV2.out 1 _ rfl
          have v2 := cellOf HV2.out 2 _ rfl
          have vl := lt_of_block HV2.out
          have s0 := cellOf HS1.out 0 _ rfl
          have s1 := cellOf HS1.out 1 _ rfl
          have sl := lt_of_block HS1.out
          have t0 := cellOf HS2.out 0 _ rfl
          have t1 := cellOf HS2.out 1 _ rfl
          have tl := lt_of_block HS2.out
          go_wp2_with fail
          clear r0 r1 r2 rl z0 z1 zl v0 v1 v2 vl s0 s1 sl t0 t1 tl
          have hcall := least1_any (swC c k) _ _ yd HD.out
          rw [HTD.out] at hcall
          refine hcall.mono ?_
          clear hcall
          rintro e ye ⟨lw, rfl, hI, hb⟩
          have HR' := Lib.hid ((hb.block _ (lt_of_block HR.out)).trans HR.out)
          have HZ' := Lib.hid ((hb.block _ (lt_of_block HZ.out)).trans HZ.out)
          have HC' := Lib.hid (HC.out.below hb)
          have HX' := Lib.hid (HX.out.below hb)
          have HB' := Lib.hid (HB.out.trans (hb.mono HB.out.size))
          have HV2' := Lib.hid ((hb.block _ (lt_of_block HV2.out)).trans HV2.out)
          have HD' := Lib.hid (HD.out.below hb)
          have HL5' := Lib.hid (HL5.out.trans (hb.mono HL5.out.size))
          have HS1' := Lib.hid ((hb.block _ (lt_of_block HS1.out)).trans HS1.out)
          have HS2' := Lib.hid ((hb.block _ (lt_of_block HS2.out)).trans HS2.out)
          have HI' := Lib.hid (HI.out.below hb)
          clear HR
          have HR := HR'
          clear HR'
          clear HZ
          have HZ := HZ'
          clear HZ'
          clear HC
          have HC := HC'
          clear HC'
          clear HX
          have HX := HX'
          clear HX'
          clear HB
          have HB := HB'
          clear HB'
          clear HV2
          have HV2 := HV2'
          clear HV2'
          clear HD
          have HD := HD'
          clear HD'
          clear HL5
          have HL5 := HL5'
          clear HL5'
          clear HS1
          have HS1 := HS1'
          clear HS1'
          clear HS2
          have HS2 := HS2'
          clear HS2'
          clear HI
          have HI := HI'
          clear HI'
          clear hb
          rw [HE2.out] at hI ⊢
          simp only at hI ⊢
          have HJ := Lib.hid hI
          clear hI
          have r0 := cellOf HR.out 0 _ rfl
          have r1 := cellOf HR.out 1 _ rfl
          have r2 := cellOf HR.out 2 _ rfl
          have rl := lt_of_block HR.out
          have z0 := cellOf HZ.out 0 _ rfl
          have z1 := cellOf HZ.out 1 _ rfl
          have zl := lt_of_block HZ.out
          have v0 := cellOf HV2.out 0 _ rfl
          have v1 := cellOf HV2.out 1 _ rfl
          have v2 := cellOf HV2.out 2 _ rfl
          have vl := lt_of_block HV2.out
          have s0 := cellOf HS1.out 0 _ rfl
          have s1 := cellOf HS1.out 1 _ rfl
          have sl := lt_of_block HS1.out
          have t0 := cellOf HS2.out 0 _ rfl
          have t1 := cellOf HS2.out 1 _ rfl
          have tl := lt_of_block HS2.out
          go_wp2_with fail
          clear r0 r1 r2 rl z0 z1 zl v0 v1 v2 vl s0 s1 sl t0 t1 tl
          have hcall := ints_eq _ _ la ye HI.out HJ.out
          refine hcall.mono ?_
          clear hcall
          rintro e yf ⟨rfl, hb⟩
          have HR' := Lib.hid ((hb.block _ (lt_of_block HR.out)).trans HR.out)
          have HZ' := Lib.hid ((hb.block _ (lt_of_block HZ.out)).trans HZ.out)
          have HC' := Lib.hid (HC.out.below hb)
          have HX' := Lib.hid (HX.out.below hb)
          have HB' := Lib.hid (HB.out.trans (hb.mono HB.out.size))
          have HV2' := Lib.hid ((hb.block _ (lt_of_block HV2.out)).trans HV2.out)
          have HD' := Lib.hid (HD.out.below hb)
          have HL5' := Lib.hid (HL5.out.trans (hb.mono HL5.out.size))
          have HS1' := Lib.hid ((hb.block _ (lt_of_block HS1.out)).trans HS1.out)
          have HS2' := Lib.hid ((hb.block _ (lt_of_block HS2.out)).trans HS2.out)
          have HI' := Lib.hid (HI.out.below hb)
          have HJ' := Lib.hid (HJ.out.below hb)
          clear HR
          have HR := HR'
          clear HR'
          clear HZ
          have HZ := HZ'
          clear HZ'
          clear HC
          have HC := HC'
          clear HC'
          clear HX
          have HX := HX'
          clear HX'
          clear HB
          have HB := HB'
          clear HB'
          clear HV2
          have HV2 := HV2'
          clear HV2'
          clear HD
          have HD := HD'
          clear HD'
          clear HL5
          have HL5 := HL5'
          clear HL5'
          clear HS1
          have HS1 := HS1'
          clear HS1'
          clear HS2
          have HS2 := HS2'
          clear HS2'
          clear HI
          have HI := HI'
          clear HI'
          clear HJ
          have HJ := HJ'
          clear HJ'
          clear hb
          have r0 := cellOf HR.out 0 _ rfl
          have r1 := cellOf HR.out 1 _ rfl
          have r2 := cellOf HR.out 2 _ rfl
          have rl := lt_of_block HR.out
          have z0 := cellOf HZ.out 0 _ rfl
          have z1 := cellOf HZ.out 1 _ rfl
          have zl := lt_of_block HZ.out
          have v0 := cellOf HV2.out 0 _ rfl
          have v1 := cellOf HV2.out 1 _ rfl
          have v2 := cellOf HV2.out 2 _ rfl
          have vl := lt_of_block HV2.out
          have s0 := cellOf HS1.out 0 _ rfl
          have s1 := cellOf HS1.out 1 _ rfl
          have sl := lt_of_block HS1.out
          have t0 := cellOf HS2.out 0 _ rfl
          have t1 := cellOf HS2.out 1 _ rfl
          have tl := lt_of_block HS2.out
          go_wp2_with fail
          clear r0 r1 r2 rl z0 z1 zl v0 v1 v2 vl s0 s1 sl t0 t1 tl
          clear HS1 HS2 HI HJ HL5
          try clear HR5 HZ5 HC5 HX5 HB5 HV25 HD5
          have HRF := Lib.hid HR.out
          have HZF := Lib.hid HZ.out
          have HCF := Lib.hid HC.out
          have HXF := Lib.hid HX.out
          have HBF := Lib.hid HB.out
          have HV2F := Lib.hid HV2.out
          have HDF := Lib.hid HD.out
          obtain ⟨i1, hi1⟩ := info_of_underlying Try.underlying3
          have HTB := Lib.hid (turnI_bd HX.out)
          have own1 : Hid (yf.ownsRow yf.heap.size 3 1 (.slice none 0 0) 0 ((onK l 0).map (Value.int .i64))) := World.ownsRow_nil _ _ _ _
          have dis0 : Hid (Dis (Value.slice none 0 0).ownBlock (Value.slice none 0 0).ownBlock) := fun q hq => by cases hq
          go_loopg [22, 23, 24, 25] m (fun gg v1 v2 iv v25 wr => ∃ (z : Nat) (oa : Option Addr) (oc : Nat) (ta : Option Addr) (tc : Nat), gg + z = m ∧ iv = .int .i64 z ∧ v1 = .slice oa z oc ∧ v2 = .slice ta z tc ∧ Hid (wr.ownsRow yf.heap.size 3 1 (.slice oa z oc) z ((onK l z).map (Value.int .i64))) ∧ Hid (wr.ownsRow yf.heap.size 3 1 (.slice ta z tc) z ((onK l z).map (Value.int .i64))) ∧ Hid (Dis (Value.slice oa z oc).ownBlock (Value.slice ta z tc).ownBlock) ∧ Hid (Below yf.heap.size yf wr))
          case atStart => exact ⟨0, none, 0, none, 0, by omega, rfl, rfl, rfl, own1, own1, dis0, Below.refl _ _⟩
          case round =>
            clear own1 dis0
            obtain ⟨z, oa, oc, ta, tc, hz, rfl, rfl, rfl, HO1, HO2, HDI, HLP⟩ := hrel
            have BZ := HLP.out.size
            have HR' := Lib.hid ((HLP.out.block _ (lt_of_block HR.out)).trans HR.out)
            have HZ' := Lib.hid ((HLP.out.block _ (lt_of_block HZ.out)).trans HZ.out)
            have HC' := Lib.hid (HC.out.below HLP.out)
            have HX' := Lib.hid (HX.out.below HLP.out)
            have HB' := Lib.hid (HB.out.trans (HLP.out.mono HB.out.size))
            have HV2' := Lib.hid ((HLP.out.block _ (lt_of_block HV2.out)).trans HV2.out)
            have HD' := Lib.hid (HD.out.below HLP.out)
            clear HR
            have HR := HR'
            clear HR'
            clear HZ
            have HZ := HZ'
            clear HZ'
            clear HC
            have HC := HC'
            clear HC'
            clear HX
            have HX := HX'
            clear HX'
            clear HB
            have HB := HB'
            clear HB'
            clear HV2
            have HV2 := HV2'
            clear HV2'
            clear HD
            have HD := HD'
            clear HD'
            by_cases hzm : z < m
            · skip
              have zI : (z : Int) < (m : Int) := by omega
              have hsn := onK_succ l z
              have htb := HTB.out z
              obtain ⟨u, hu⟩ : ∃ y, turnI l z = y := ⟨_, rfl⟩
              rw [hu] at hsn htb
              have HSN := Lib.hid hsn
              have s1 : IntKind.i64.wrap u = u := by rw [IntKind.wrap_i64] <;> omega
              clear hsn
              by_cases hl0 : p = 0
              · skip
                have hu0 : u = 0 := by rw [← hu]; unfold turnI; rw [if_pos (List.length_eq_zero_iff.1 (by rw [← HP.out]; exact hl0))]
                have pI : ¬ (0 : Int) < (p : Int) := by omega
                clear hu hl0 htb
                subst hu0
                have r0 := cellOf HR.out 0 _ rfl
                have r1 := cellOf HR.out 1 _ rfl
                have r2 := cellOf HR.out 2 _ rfl
                have rl := lt_of_block HR.out
                have z0 := cellOf HZ.out 0 _ rfl
                have z1 := cellOf HZ.out 1 _ rfl
                have zl := lt_of_block HZ.out
                have v0 := cellOf HV2.out 0 _ rfl
                have v1 := cellOf HV2.out 1 _ rfl
                have v2 := cellOf HV2.out 2 _ rfl
                have vl := lt_of_block HV2.out
                go_wp2_with (at_builtin; refine wpl_app1 rfl _ _ rfl yf.heap.size z _ _ wr.heap.size 0 rfl rfl (HO1.out.alloc _) (cellOf (heap_alloc_new wr (Obj.cells #[.int .i64 0] 3)) 0 _ rfl) (by omega) (by simp; omega) ?_)
                clear r0 r1 r2 rl z0 z1 zl v0 v1 v2 vl
                intro v1' wa ho1 hg1 hd1
                obtain ⟨oa', oc', rfl⟩ := own_slice ho1
                have hA : Below wr.heap.size wr (wr.alloc (Obj.cells #[.int .i64 0] 3)) := (Below.refl _ _).alloc (Nat.le_refl _) _
                have hsA : (wr.alloc (Obj.cells #[.int .i64 0] 3)).heap.size = wr.heap.size + 1 := by simp
                have PA := (HLP.out.trans (hA.mono BZ)).grown hg1 (by omega) (fun q hq => by have := (HO1.out.lt q hq).1; omega)
                have OA1 : Hid (wa.ownsRow yf.heap.size 3 1 (.slice oa' (z + 1) oc') (z + 1) ((onK l (z + 1)).map (Value.int .i64))) := by
                  show World.ownsRow _ _ _ _ _ _ _
                  rw [HSN.out, List.map_append]
                  exact ho1
                have OA2 := Lib.hid ((HO2.out.alloc (Obj.cells #[.int .i64 0] 3)).kept hg1 HDI.out.or)
                have DA := Lib.hid (HDI.out.next hd1 (fun q hq => by have := (HO2.out.lt q hq).2; omega))
                have hgs := hg1.size
                have PAH := Lib.hid PA
                have BA : yf.heap.size ≤ wa.heap.size := PA.size
                clear ho1 hg1 hd1 HO1 HO2 HDI hA hsA PA hgs
                have hB : Below wa.heap.size wa (wa.alloc (Obj.cells #[.int .i64 0] 3)) := (Below.refl _ _).alloc (Nat.le_refl _) _
                have hsB : (wa.alloc (Obj.cells #[.int .i64 0] 3)).heap.size = wa.heap.size + 1 := by simp
                go_wp2_with (at_builtin; refine wpl_app1 rfl _ _ rfl yf.heap.size z _ _ wa.heap.size 0 rfl rfl (OA2.out.alloc _) (cellOf (heap_alloc_new wa (Obj.cells #[.int .i64 0] 3)) 0 _ rfl) (by omega) (by simp; omega) ?_)
                intro v2' wc ho2 hg2 hd2
                obtain ⟨ta', tc', rfl⟩ := own_slice ho2
                have PC := Lib.hid ((PAH.out.trans (hB.mono BA)).grown hg2 (by omega) (fun q hq => by have := (OA2.out.lt q hq).1; omega))
                have OC2 : Hid (wc.ownsRow yf.heap.size 3 1 (.slice ta' (z + 1) tc') (z + 1) ((onK l (z + 1)).map (Value.int .i64))) := by
                  show World.ownsRow _ _ _ _ _ _ _
                  rw [HSN.out, List.map_append]
                  exact ho2
                have OC1 := Lib.hid ((OA1.out.alloc (Obj.cells #[.int .i64 0] 3)).kept hg2 DA.out.symm.or)
                have DC := Lib.hid ((DA.out.symm.next hd2 (fun q hq => by have := (OA1.out.lt q hq).2; omega)).symm)
                clear ho2 hg2 hd2 OA1 OA2 DA PAH hB hsB s1 HSN BA
                go_wp2
                go_roundg (gk - 1)
                case measure => omega
                case rel => exact ⟨z + 1, oa', oc', ta', tc', by omega, by go_num, rfl, rfl, OC1, OC2, DC, PC⟩
              · skip
                have pI : (0 : Int) < (p : Int) := by omega
                have pn : ¬ p = 0 := hl0
                have pn1 : ¬ (p : Int) = -1 := by omega
                have pz : ((p : Int) == 0) = false := by rw [beq_eq_false_iff_ne]; omega
                have hne : l ≠ [] := fun e => hl0 (by rw [HP.out, e]; rfl)
                obtain ⟨_, a', cap', e, h2⟩ := HX.out
                injection e with e1 e2 e3
                obtain ⟨lb, lo, e4, hcl⟩ := h2 hne
                have hkl : z % l.length < l.length := Nat.mod_lt _ (List.length_pos_iff.2 hne)
                have e0 := (hcl _ hkl).1
                have hy2 : l.getD (z % l.length) 0 = u := by rw [← hu]; unfold turnI; rw [if_neg hne]
                rw [hy2] at e0
                subst e4
                subst e1
                rw [← HP.out] at e0 hkl
                have em : (z : Int).tmod (p : Int) = ((z % p : Nat) : Int) := tmod_nat z p
                obtain ⟨kp', hkp⟩ : ∃ q, z % p = q := ⟨_, rfl⟩
                rw [hkp] at e0 hkl em
                have kpI : (kp' : Int) < (p : Int) := by omega
                clear hu hy2 hcl h2 hne e2 e3 hkp
                have r0 := cellOf HR.out 0 _ rfl
                have r1 := cellOf HR.out 1 _ rfl
                have r2 := cellOf HR.out 2 _ rfl
                have rl := lt_of_block HR.out
                have z0 := cellOf HZ.out 0 _ rfl
                have z1 := cellOf HZ.out 1 _ rfl
                have zl := lt_of_block HZ.out
                have v0 := cellOf HV2.out 0 _ rfl
                have v1 := cellOf HV2.out 1 _ rfl
                have v2 := cellOf HV2.out 2 _ rfl
                have vl := lt_of_block HV2.out
                go_wp2_with (at_builtin; refine wpl_app1 rfl _ _ rfl yf.heap.size z _ _ wr.heap.size u rfl rfl (HO1.out.alloc _) (cellOf (heap_alloc_new wr (Obj.cells #[.int .i64 u] 3)) 0 _ rfl) (by omega) (by simp; omega) ?_)
                clear r0 r1 r2 rl z0 z1 zl v0 v1 v2 vl
                clear e0 em
                intro v1' wa ho1 hg1 hd1
                obtain ⟨oa', oc', rfl⟩ := own_slice ho1
                have hA : Below wr.heap.size wr (wr.alloc (Obj.cells #[.int .i64 u] 3)) := (Below.refl _ _).alloc (Nat.le_refl _) _
                have hsA : (wr.alloc (Obj.cells #[.int .i64 u] 3)).heap.size = wr.heap.size + 1 := by simp
                have PA := (HLP.out.trans (hA.mono BZ)).grown hg1 (by omega) (fun q hq => by have := (HO1.out.lt q hq).1; omega)
                have OA1 : Hid (wa.ownsRow yf.heap.size 3 1 (.slice oa' (z + 1) oc') (z + 1) ((onK l (z + 1)).map (Value.int .i64))) := by
                  show World.ownsRow _ _ _ _ _ _ _
                  rw [HSN.out, List.map_append]
                  exact ho1
                have OA2 := Lib.hid ((HO2.out.alloc (Obj.cells #[.int .i64 u] 3)).kept hg1 HDI.out.or)
                have DA := Lib.hid (HDI.out.next hd1 (fun q hq => by have := (HO2.out.lt q hq).2; omega))
                have hgs := hg1.size
                have PAH := Lib.hid PA
                have BA : yf.heap.size ≤ wa.heap.size := PA.size
                clear ho1 hg1 hd1 HO1 HO2 HDI hA hsA PA hgs
                have hB : Below wa.heap.size wa (wa.alloc (Obj.cells #[.int .i64 u] 3)) := (Below.refl _ _).alloc (Nat.le_refl _) _
                have hsB : (wa.alloc (Obj.cells #[.int .i64 u] 3)).heap.size = wa.heap.size + 1 := by simp
                go_wp2_with (at_builtin; refine wpl_app1 rfl _ _ rfl yf.heap.size z _ _ wa.heap.size u rfl rfl (OA2.out.alloc _) (cellOf (heap_alloc_new wa (Obj.cells #[.int .i64 u] 3)) 0 _ rfl) (by omega) (by simp; omega) ?_)
                intro v2' wc ho2 hg2 hd2
                obtain ⟨ta', tc', rfl⟩ := own_slice ho2
                have PC := Lib.hid ((PAH.out.trans (hB.mono BA)).grown hg2 (by omega) (fun q hq => by have := (OA2.out.lt q hq).1; omega))
                have OC2 : Hid (wc.ownsRow yf.heap.size 3 1 (.slice ta' (z + 1) tc') (z + 1) ((onK l (z + 1)).map (Value.int .i64))) := by
                  show World.ownsRow _ _ _ _ _ _ _
                  rw [HSN.out, List.map_append]
                  exact ho2
                have OC1 := Lib.hid ((OA1.out.alloc (Obj.cells #[.int .i64 u] 3)).kept hg2 DA.out.symm.or)
                have DC := Lib.hid ((DA.out.symm.next hd2 (fun q hq => by have := (OA1.out.lt q hq).2; omega)).symm)
                clear ho2 hg2 hd2 OA1 OA2 DA PAH hB hsB s1 HSN BA
                go_wp2
                go_roundg (gk - 1)
                case measure => omega
                case rel => exact ⟨z + 1, oa', oc', ta', tc', by omega, by go_num, rfl, rfl, OC1, OC2, DC, PC⟩
            · skip
              have zI : ¬ (z : Int) < (m : Int) := by omega
              obtain rfl : z = m := by omega
              obtain ⟨g1, rfl⟩ := own_some HO1.out (by omega)
              obtain ⟨g2, rfl⟩ := own_some HO2.out (by omega)
              have hkz : k < z := hkm
              have hxk : (onK l z).getD k 0 = turnI l k := onK_get l z k hkz
              have htb := HTB.out k
              obtain ⟨u, hu⟩ : ∃ y, turnI l k = y := ⟨_, rfl⟩
              rw [hu] at htb hxk
              have b2 : wr.cell? ⟨g2, k, none⟩ = some (.int .i64 u) := by
                rw [HO2.out.cellAt k (by omega)]
                have hkl : k < (onK l z).length := by rw [onK_length]; exact hkz
                rw [List.getElem?_map, List.getElem?_eq_getElem hkl]
                rw [show (onK l z).getD k 0 = (onK l z)[k] by simp [List.getD_eq_getElem?_getD, hkl]] at hxk
                rw [hxk]
                rfl
              have f2 := HO2.out.frozenAt k
              obtain ⟨nu, hnu⟩ : ∃ q, -u = q := ⟨_, rfl⟩
              have su : IntKind.i64.wrap (-u) = nu := by rw [← hnu, IntKind.wrap_i64] <;> omega
              have hst := HO2.out.stored k (.int .i64 nu)
              have OS2 := Lib.hid hst.1
              have OS1 := Lib.hid (HO1.out.kept hst.2 (HDI.out.symm.or))
              have hg2B := (HO2.out.lt g2 rfl).1
              have HLS := Lib.hid (HLP.out.setCell (p := ⟨g2, k, none⟩) hg2B (Value.int .i64 nu))
              have rg2 : w.heap.size < g2 := by have := lt_of_block HRF.out; omega
              have vg2 : w2.heap.size < g2 := by have := lt_of_block HV2F.out; omega
              clear hzm hz hst hu
              have r0 := cellOf HR.out 0 _ rfl
              have r1 := cellOf HR.out 1 _ rfl
              have r2 := cellOf HR.out 2 _ rfl
              have rl := lt_of_block HR.out
              have z0 := cellOf HZ.out 0 _ rfl
              have z1 := cellOf HZ.out 1 _ rfl
              have zl := lt_of_block HZ.out
              have v0 := cellOf HV2.out 0 _ rfl
              have v1 := cellOf HV2.out 1 _ rfl
              have v2 := cellOf HV2.out 2 _ rfl
              have vl := lt_of_block HV2.out
              go_wp2_with fail
              clear r0 r1 r2 rl z0 z1 zl v0 v1 v2 vl
              clear b2 f2 su
              obtain ⟨wq, hwq⟩ : ∃ V, wr.setCell ⟨g2, k, none⟩ (.int .i64 nu) = V := ⟨_, rfl⟩
              rw [hwq] at OS1 OS2 HLS ⊢
              clear hwq HO1 HO2 HDI HLP HR HZ HC HX HB HV2 HD
              have HR := Lib.hid ((HLS.out.block _ (lt_of_block HRF.out)).trans HRF.out)
              have HZ := Lib.hid ((HLS.out.block _ (lt_of_block HZF.out)).trans HZF.out)
              have HC := Lib.hid (HCF.out.below HLS.out)
              have HX := Lib.hid (HXF.out.below HLS.out)
              have HB := Lib.hid (HBF.out.trans (HLS.out.mono HBF.out.size))
              have HV2 := Lib.hid ((HLS.out.block _ (lt_of_block HV2F.out)).trans HV2F.out)
              have HD := Lib.hid (HDF.out.below HLS.out)
              have hio1 := Lib.hid (intsAt_own (l := onK l z) (by rw [onK_length]; exact OS1.out) (by rw [onK_length]; omega))
              have hio2 : Hid (IntsAt wq (.slice (some ⟨g2, 0, none⟩) z tc) ((onK l z).set k nu)) := by
                have h := OS2.out
                rw [← List.map_set] at h
                exact intsAt_own (l := (onK l z).set k nu) (by rw [List.length_set, onK_length]; exact h) (by rw [List.length_set, onK_length]; omega)
              have hswb := sw_bound c H0.out k hkc (onK l z) (by rw [onK_length]; exact HM.out) (fun v hv => by
                simp only [onK, List.mem_map, List.mem_range] at hv
                obtain ⟨j, _, rfl⟩ := hv
                exact HTB.out j)
              rw [hxk, hnu] at hswb
              obtain ⟨⟨b1, b2⟩, hb12⟩ : ∃ r, boundE c (onK l z) = r := ⟨_, rfl⟩
              rw [hb12] at hswb
              have HB1 := Lib.hid hb12
              have HB2 := Lib.hid hswb
              clear hswb hb12 OS1 OS2 HLS hxk hnu
              have r0 := cellOf HR.out 0 _ rfl
              have r1 := cellOf HR.out 1 _ rfl
              have r2 := cellOf HR.out 2 _ rfl
              have rl := lt_of_block HR.out
              have z0 := cellOf HZ.out 0 _ rfl
              have z1 := cellOf HZ.out 1 _ rfl
              have zl := lt_of_block HZ.out
              have v0 := cellOf HV2.out 0 _ rfl
              have v1 := cellOf HV2.out 1 _ rfl
              have v2 := cellOf HV2.out 2 _ rfl
              have vl := lt_of_block HV2.out
              go_wp2_with fail
              clear r0 r1 r2 rl z0 z1 zl v0 v1 v2 vl
              have hcall := boundT_any c _ _ _ (onK l z) wq HC.out hio1.out
              rw [HTOL.out] at hcall
              refine hcall.mono ?_
              clear hcall
              rintro e z1 ⟨rfl, hb⟩
              have HR' := Lib.hid ((hb.block _ (lt_of_block HR.out)).trans HR.out)
              have HZ' := Lib.hid ((hb.block _ (lt_of_block HZ.out)).trans HZ.out)
              have HC' := Lib.hid (HC.out.below hb)
              have HX' := Lib.hid (HX.out.below hb)
              have HB' := Lib.hid (HB.out.trans (hb.mono HB.out.size))
              have HV2' := Lib.hid ((hb.block _ (lt_of_block HV2.out)).trans HV2.out)
              have HD' := Lib.hid (HD.out.below hb)
              have hio1' := Lib.hid (hio1.out.below hb)
              have hio2' := Lib.hid (hio2.out.below hb)
              clear HR
              have HR := HR'
              clear HR'
              clear HZ
              have HZ := HZ'
              clear HZ'
              clear HC
              have HC := HC'
              clear HC'
              clear HX
              have HX := HX'
              clear HX'
              clear HB
              have HB := HB'
              clear HB'
              clear HV2
              have HV2 := HV2'
              clear HV2'
              clear HD
              have HD := HD'
              clear HD'
              clear hio1
              have hio1 := hio1'
              clear hio1'
              clear hio2
              have hio2 := hio2'
              clear hio2'
              clear hb
              rw [HB1.out]
              simp only
              have r0 := cellOf HR.out 0 _ rfl
              have r1 := cellOf HR.out 1 _ rfl
              have r2 := cellOf HR.out 2 _ rfl
              have rl := lt_of_block HR.out
              have z0 := cellOf HZ.out 0 _ rfl
              have z1 := cellOf HZ.out 1 _ rfl
              have zl := lt_of_block HZ.out
              have v0 := cellOf HV2.out 0 _ rfl
              have v1 := cellOf HV2.out 1 _ rfl
              have v2 := cellOf HV2.out 2 _ rfl
              have vl := lt_of_block HV2.out
              go_wp2_with fail
              clear r0 r1 r2 rl z0 z1 zl v0 v1 v2 vl
              have hcall := boundT_any (swC c k) _ _ _ ((onK l z).set k nu) z1 HD.out hio2.out
              rw [HTD.out] at hcall
              refine hcall.mono ?_
              clear hcall
              rintro e z2 ⟨rfl, hb⟩
              have HR' := Lib.hid ((hb.block _ (lt_of_block HR.out)).trans HR.out)
              have HZ' := Lib.hid ((hb.block _ (lt_of_block HZ.out)).trans HZ.out)
              have HC' := Lib.hid (HC.out.below hb)
              have HX' := Lib.hid (HX.out.below hb)
              have HB' := Lib.hid (HB.out.trans (hb.mono HB.out.size))
              have HV2' := Lib.hid ((hb.block _ (lt_of_block HV2.out)).trans HV2.out)
              have HD' := Lib.hid (HD.out.below hb)
              have hio1' := Lib.hid (hio1.out.below hb)
              have hio2' := Lib.hid (hio2.out.below hb)
              clear HR
              have HR := HR'
              clear HR'
              clear HZ
              have HZ := HZ'
              clear HZ'
              clear HC
              have HC := HC'
              clear HC'
              clear HX
              have HX := HX'
              clear HX'
              clear HB
              have HB := HB'
              clear HB'
              clear HV2
              have HV2 := HV2'
              clear HV2'
              clear HD
              have HD := HD'
              clear HD'
              clear hio1
              have hio1 := hio1'
              clear hio1'
              clear hio2
              have hio2 := hio2'
              clear hio2'
              clear hb
              rw [HB2.out]
              simp only
              have t1 : (b1 == b1) = true := by simp
              have t2 : (b2 == b2) = true := by simp
              have r0 := cellOf HR.out 0 _ rfl
              have r1 := cellOf HR.out 1 _ rfl
              have r2 := cellOf HR.out 2 _ rfl
              have rl := lt_of_block HR.out
              have z0 := cellOf HZ.out 0 _ rfl
              have z1 := cellOf HZ.out 1 _ rfl
              have zl := lt_of_block HZ.out
              have v0 := cellOf HV2.out 0 _ rfl
              have v1 := cellOf HV2.out 1 _ rfl
              have v2 := cellOf HV2.out 2 _ rfl
              have vl := lt_of_block HV2.out
              go_wp2_with fail
              clear r0 r1 r2 rl z0 z1 zl v0 v1 v2 vl
              refine (awake_any z2).mono ?_
              rintro e wz ⟨rfl, hb⟩
              have HBF := Lib.hid (HB.out.trans (hb.mono HB.out.size))
              clear hb
              go_wp2_with fail
              go_ret
              exact ⟨rfl, HBF.out⟩
  · skip
    rw [show decide (errC c = 0) = false by simp [h0]]
    clear h0
    have r0 := cellOf HR.out 0 _ rfl
    have r1 := cellOf HR.out 1 _ rfl
    have r2 := cellOf HR.out 2 _ rfl
    have rl := lt_of_block HR.out
    have z0 := cellOf HZ.out 0 _ rfl
    have z1 := cellOf HZ.out 1 _ rfl
    have zl := lt_of_block HZ.out
    go_wp2_with fail
    clear r0 r1 r2 rl z0 z1 zl
    refine (awake_any w1).mono ?_
    rintro e wz ⟨rfl, hb⟩
    have HBF := Lib.hid (HB.out.trans (hb.mono HB.out.size))
    clear hb
    go_wp2_with fail
    go_ret
    exact ⟨rfl, HBF.out⟩
end Go.Proofs.Ythhlakodnpopmaa
namespace Go.Proofs.Ythhlakodnpopmaa
namespace ClaimEdgeTurned
open Go.ChangeShapes Go.WideShapes Go.ChangeAt Go.RowKit

theorem own : ownKnob Try.prog.godebug = none := by kernel_rfl
theorem laidOutP : laidOutB Try.prog = true := by kernel_rfl

set_option maxRecDepth 100000 in
theorem contract (H : Type) (enc : TypeId × Value → H) (W : World) (base : Nat) (args : Array Value) (ds gs : List (DataW H)) (before : List MemPlace)
    (hval : ∀ (j : Nat) t v, Try.f15.params[j]? = some t → args[j]? = some v → Value.okWide Try.prog W .any base t v)
    (hW : DataW.Whole enc Try.prog Try.f15.params.toList Rows.edgeTurnedSpec.vars false W args.toList ds gs before)
    (hsz : (DataW.weightsEach Try.prog (Try.f15.params.toList ++ Rows.edgeTurnedSpec.plain.varTypes Try.prog) (ds ++ gs)).all (· ≤ reachBytes) = true) :
    Calls Try.prog 15 args W fun e W' => ∃ v, e = .returned v ∧ Rows.edgeTurnedSpec.post enc Try.prog Try.f15 false true false false W args v W' := by
  have hW' := hW
  obtain ⟨p, q, hA0, hV, rfl, hfz, hnd⟩ := hW
  have hA : DataW.TrodAll enc Try.prog W 0 (fun _ => true) true Try.f15.params.toList args.toList ds p := hA0
  rw [Try.params15] at hA hval hsz
  obtain ⟨v0, vs0, d0, ds0, p0, q0, hargs, rfl, rfl, h0, r0⟩ := trodAll_cons hA
  obtain ⟨v1, vs1, d1, ds1, p1, q1, rfl, rfl, rfl, h1, r1⟩ := trodAll_cons r0
  obtain ⟨v2, vs2, d2, ds2, p2, q2, rfl, rfl, rfl, h2, r2⟩ := trodAll_cons r1
  obtain ⟨rfl, rfl, rfl⟩ := trodAll_nil r2
  obtain rfl : args = #[v0, v1, v2] := by cases args; simp_all
  obtain ⟨rfl, rfl⟩ := trodVars_none hV
  have w0 : ∀ x ∈ d0.weights Try.prog 25, x ≤ reachBytes := fun x hx => of_decide_eq_true (List.all_eq_true.1 hsz _ (DataW.weights_mem_each (j := 0) (t := 25) (d := d0) rfl rfl x hx))
  obtain ⟨c0, sv0, ev0, rfl, hC0⟩ := open_case (hval 0 25 v0 rfl rfl) h0 w0
  have w1 : ∀ x ∈ d1.weights Try.prog 52, x ≤ reachBytes := fun x hx => of_decide_eq_true (List.all_eq_true.1 hsz _ (DataW.weights_mem_each (j := 1) (t := 52) (d := d1) rfl rfl x hx))
  obtain ⟨l1, hL1⟩ := open_i16s (hval 1 52 v1 rfl rfl) h1 w1
  obtain ⟨x2, y2, rfl, bx2, by2⟩ := open_u8x2 (hval 2 72 v2 rfl rfl) h2
  clear hA0
  refine (lturned_any c0 sv0 ev0 v1 l1 x2 y2 W bx2 (by omega) hC0 hL1).mono fun e W' ⟨he, hb⟩ => ?_
  subst he
  exact ⟨_, rfl, post_law laidOutP (by rw [Try.params15]; intro t ht; simp at ht; rcases ht with rfl | rfl | rfl <;> exact ⟨by kernel_rfl, of_decide_eq_true (by kernel_rfl)⟩) rfl rfl Try.underlying4 rfl hW' hb⟩

set_option maxRecDepth 100000 in
theorem lifted (os : Os) (started : os.Started) (H : Type) (enc : TypeId × Value → H) :
    ReturnsInHanded {} Try.checked os 15 .any (Rows.edgeTurnedSpec.pre6 enc Try.prog Try.f15 Rows.edgeTurnedRow.domain false) (Rows.edgeTurnedSpec.post enc Try.prog Try.f15 false true false false) := by
  refine returnsInHanded_of_change_sized (C := Try.checked) own started (by kernel_rfl) Try.func15
    (ChangeSpec.witness6 (enc := enc) (C := Try.checked) false ⟨#[], #[.agg #[.int .i64 0, .slice none 0 0, .slice none 0 0], .slice none 0 0, .agg #[.int .u8 0, .int .u8 0]], []⟩ 8 (by kernel_rfl) (by kernel_rfl) (by kernel_rfl) (by kernel_rfl)) ?_
  intro W base args ds gs before hval hW _ hsz _
  exact contract H enc W base args ds gs before hval hW hsz

theorem over : Rows.EdgeTurnedSaid :=
  OpenClaim.holds_of_wide 15 Try.f15 rfl rfl rfl rfl rfl rfl rfl ⟨rfl, rfl, rfl, rfl, rfl⟩ rfl rfl rfl rfl rfl (by kernel_rfl) Try.func15 (by kernel_rfl)
    (of_decide_eq_true (by kernel_rfl)) (by unfold Func.isWrapper; first | (rw [if_pos (by decide +kernel)]; kernel_rfl) | (rw [if_neg (by decide +kernel)]; exact ⟨rfl, rfl⟩))
    (fun os started H enc _ => lifted os started H enc)
end ClaimEdgeTurned

theorem edgeTurned_holds : Rows.EdgeTurnedSaid := ClaimEdgeTurned.over
end Go.Proofs.Ythhlakodnpopmaa
