/- Awake of the statements of package edge. -/
import Derived.Test.YtojdocomkhihoaaGb1
import Derived.Test.YtojdocomkhihoaaHd1
import Derived.Test.YtojdocomkhihoaaHo1
import Derived.Test.YtojdocomkhihoaaHl1
import Derived.Test.YtojdocomkhihoaaPd
import Derived.Test.YtojdocomkhihoaaHg1
import Derived.Test.YtojdocomkhihoaaFg1
import Derived.Test.YtojdocomkhihoaaGa1
import Derived.Laws.StructEq
import Derived.Deep.DeepCutAuto
import Derived.Deep.LoopGhost
import Derived.Test.YtojdocomkhihoaaLasti
set_option linter.unusedSimpArgs false
set_option linter.unusedVariables false
namespace Go.Proofs.Ytojdocomkhihoaa
open Go Go.RowKit Go.Shelf Ed

theorem chg_bd (c : Cas) (l : List Int) (h : chgE c l = 0) : Valid c ∧ l.length = c.shs.length ∧ (∀ i, i < c.shs.length → -(c.shs.getD i default).most ≤ l.getD i 0 ∧ l.getD i 0 ≤ (c.shs.getD i default).most) ∧ ∀ i, -6 ≤ (padC l).getD i 0 ∧ (padC l).getD i 0 ≤ 6 := by
  unfold chgE at h
  split at h
  · rename_i h1; exact absurd h h1
  · rename_i h1
    have hv := valid_of (Classical.not_not.1 h1)
    split at h
    · cases h
    · rename_i h2
      have h2 := Classical.not_not.1 h2
      split at h
      · rename_i h3
        rw [List.all_eq_true] at h3
        have hb : ∀ i, i < c.shs.length → -(c.shs.getD i default).most ≤ l.getD i 0 ∧ l.getD i 0 ≤ (c.shs.getD i default).most := by
          intro i hi
          have := h3 i (List.mem_range.2 hi)
          unfold inB at this
          simp only [Bool.and_eq_true, decide_eq_true_eq] at this
          exact this
        refine ⟨hv, h2, hb, fun i => ?_⟩
        rw [padC_get l (by rw [h2]; exact hv.n5)]
        rcases Nat.lt_or_ge i c.shs.length with hi | hi
        · have h4 := hb i hi
          have h5 := (hv.sh _ (List.getElem_mem hi)).m6
          rw [getD_lt _ _ hi] at h4
          omega
        · rw [List.getD_eq_getElem?_getD, List.getElem?_eq_none (by omega)]
          simp
      · cases h
/-- What Agrees and Cost answer. -/
def agreesC (c : Cas) (l : List Int) : Int × Int := if chgE c l ≠ 0 then (0, chgE c l) else (firstB (apartB (wsC c) c.eds (padC l)) 0 c.eds.length, 0)
def costC (c : Cas) (l : List Int) : Int × Int := if chgE c l ≠ 0 then (0, chgE c l) else (costK c.shs (padC l) c.shs.length, 0)
set_option maxRecDepth 100000 in
set_option maxHeartbeats 8000000 in
theorem agrees_any (c : Cas) (sv ev lv : Value) (l : List Int) (w : World) (hC : CasAt w c sv ev) (hL : IntsAt w lv l) :
    Calls Try.prog 20 #[.agg #[.int .i64 c.tol, sv, ev], lv] w fun e w' => e = .returned (.tuple #[.int .i64 (agreesC c l).1, .int .i64 (agreesC c l).2]) ∧ Below w.heap.size w w' := by
  obtain ⟨sa, n, sc, rfl⟩ : ∃ a n cc, sv = .slice a n cc := by obtain ⟨_, a, cap, h, _⟩ := hC.shs; exact ⟨_, _, _, h⟩
  obtain ⟨ea, m, ec, rfl⟩ : ∃ a n cc, ev = .slice a n cc := by obtain ⟨_, a, cap, h, _⟩ := hC.eds; exact ⟨_, _, _, h⟩
  obtain ⟨la, q, lc, rfl⟩ : ∃ a n cc, lv = .slice a n cc := by obtain ⟨_, a, cap, h, _⟩ := hL; exact ⟨_, _, _, h⟩
  obtain ⟨tol, htol⟩ : ∃ t, c.tol = t := ⟨_, rfl⟩
  have HTOL := Lib.hid htol
  have hba : Below w.heap.size w (w.alloc (Obj.cells #[.int .i64 tol, .slice sa n sc, .slice ea m ec] 25)) := (Below.refl _ _).alloc (Nat.le_refl _) _
  have HLW := Lib.hid (lookWith_any c _ _ _ l (w.alloc (Obj.cells #[.int .i64 tol, .slice sa n sc, .slice ea m ec] 25)) (hC.below hba) (hL.below hba))
  rw [HTOL.out] at HLW
  rw [htol]
  have HB := Lib.hid hba
  have HC := Lib.hid hC
  obtain ⟨res, hres⟩ : ∃ r, agreesC c l = r := ⟨_, rfl⟩
  have HRS : Hid (res = if chgE c l ≠ 0 then (0, chgE c l) else (firstB (apartB (wsC c) c.eds (padC l)) 0 c.eds.length, 0)) := by show _ = _; rw [← hres]; rfl
  rw [hres]
  have hz := (zero_of_info lkZero).1
  have hz2 := (zero_of_info chZero).1
  clear hba hC hL htol hres
  go_enter Try.func20, Try.ntmps20
  go_wp2_with fail
  refine HLW.out.mono ?_
  rintro e w1 ⟨hok, hno, hb⟩
  have HB1 := Lib.hid (HB.out.trans (hb.mono HB.out.size))
  clear hb HB HLW
  obtain ⟨V, hV, v1, v2, hbV, hsV⟩ := al2 w1 (Obj.cells (lkC 0 (.slice none 0 0) (.slice none 0 0) z16) 89) (Obj.cells (chC z5) 96)
  have HVV := Lib.hid hV
  have N1 : Hid (LkBlk V w1.heap.size 0 (.slice none 0 0) (.slice none 0 0) z16) := v1
  have N2 : Hid (ChBlk V (w1.heap.size + 1) z5) := v2
  have HB2 := Lib.hid (HB1.out.trans (hbV.mono HB1.out.size))
  have N1a : Hid (LkBlk ((w1.alloc (Obj.cells (lkC 0 (.slice none 0 0) (.slice none 0 0) z16) 89)).alloc (Obj.cells (chC z5) 96)) w1.heap.size 0 (.slice none 0 0) (.slice none 0 0) z16) := by show LkBlk _ _ _ _ _ _; rw [hV]; exact v1
  have hw1 := HB1.out.size
  clear hV v1 v2 hbV hsV
  by_cases h0 : chgE c l = 0
  · have he := hok h0
    rw [HTOL.out] at he
    subst he
    rw [if_neg (by simp [h0])] at HRS
    obtain rfl := HRS.out
    have HBD := Lib.hid (chg_bd c l h0)
    have HV := Lib.hid HBD.out.1
    clear hok hno h0
    have M1 : Hid (LkBlk ((V.setRow w1.heap.size (lkC tol (.slice sa n sc) (.slice ea m ec) (wsC c))).setRow (w1.heap.size + 1) (chC (padC l))) w1.heap.size tol (.slice sa n sc) (.slice ea m ec) (wsC c)) := (setRow_other _ _ _ _ (by omega)).trans (N1.out.put _ _ _ _)
    have M2a : Hid (ChBlk (V.setRow w1.heap.size (lkC tol (.slice sa n sc) (.slice ea m ec) (wsC c))) (w1.heap.size + 1) z5) := (setRow_other _ _ _ _ (by omega)).trans N2.out
    have M2 : Hid (ChBlk ((V.setRow w1.heap.size (lkC tol (.slice sa n sc) (.slice ea m ec) (wsC c))).setRow (w1.heap.size + 1) (chC (padC l))) (w1.heap.size + 1) (padC l)) := M2a.out.put _
    have M3 : Hid (Below w.heap.size w ((V.setRow w1.heap.size (lkC tol (.slice sa n sc) (.slice ea m ec) (wsC c))).setRow (w1.heap.size + 1) (chC (padC l)))) := below_setRow (below_setRow HB2.out (by omega) _) (by omega) _
    go_wp2_with (first
      | (refine lk_store rfl (.tmp 6) (.tmp 13) rfl w1.heap.size rfl tol sa ea n m sc ec (wsC c) 0 (.slice none 0 0) (.slice none 0 0) z16 rfl N1a.out (wsC_length _) rfl rfl ?_; rw [HVV.out])
      | (refine ch_store rfl (.tmp 7) (.tmp 14) rfl (w1.heap.size + 1) rfl (padC l) z5 rfl M2a.out (padC_length _) rfl rfl ?_; generalize (V.setRow w1.heap.size (lkC tol (.slice sa n sc) (.slice ea m ec) (wsC c))).setRow (w1.heap.size + 1) (chC (padC l)) = V5 at *)
      | (refine lk_loadw (by rfl) (.tmp 6) rfl w1.heap.size rfl tol (.slice sa n sc) (.slice ea m ec) (wsC c) M1.out (wsC_length _) ?_)
      | (refine ch_loadw (by rfl) (.tmp 7) rfl (w1.heap.size + 1) rfl (padC l) M2.out (padC_length _) ?_))
    have HCL := Lib.hid (firstApart_any c (.slice sa n sc) (.slice ea m ec) (wsC c) (wsC_length _) (padC l) (padC_length _) (fun i => by have := HBD.out.2.2.2 i; omega) V5 (HC.out.below M3.out) HV.out)
    rw [HTOL.out] at HCL
    refine HCL.out.mono ?_
    rintro e w4 ⟨rfl, hb4⟩
    have HB4 := Lib.hid (M3.out.trans (hb4.mono M3.out.size))
    clear hb4 HCL M1 M2a M2 M3
    go_wp2_with fail
    go_ret2
    exact ⟨rfl, HB4.out⟩
  · have he := hno h0
    rw [if_pos h0] at HRS
    obtain ⟨er, her⟩ : ∃ x, chgE c l = x := ⟨_, rfl⟩
    rw [her] at he h0 HRS
    subst he
    obtain rfl := HRS.out
    clear her
    have tz : (er != 0) = true := by simp [h0]
    clear hok hno
    have M1 : Hid (LkBlk ((V.setRow w1.heap.size (lkC 0 (.slice none 0 0) (.slice none 0 0) z16)).setRow (w1.heap.size + 1) (chC z5)) w1.heap.size 0 (.slice none 0 0) (.slice none 0 0) z16) := (setRow_other _ _ _ _ (by omega)).trans (N1.out.put _ _ _ _)
    have M2a : Hid (ChBlk (V.setRow w1.heap.size (lkC 0 (.slice none 0 0) (.slice none 0 0) z16)) (w1.heap.size + 1) z5) := (setRow_other _ _ _ _ (by omega)).trans N2.out
    have M2 : Hid (ChBlk ((V.setRow w1.heap.size (lkC 0 (.slice none 0 0) (.slice none 0 0) z16)).setRow (w1.heap.size + 1) (chC z5)) (w1.heap.size + 1) z5) := M2a.out.put _
    have M3 : Hid (Below w.heap.size w ((V.setRow w1.heap.size (lkC 0 (.slice none 0 0) (.slice none 0 0) z16)).setRow (w1.heap.size + 1) (chC z5))) := below_setRow (below_setRow HB2.out (by omega) _) (by omega) _
    go_wp2_with (first
      | (refine lk_store rfl (.tmp 6) (.tmp 13) rfl w1.heap.size rfl 0 none none 0 0 0 0 z16 0 (.slice none 0 0) (.slice none 0 0) z16 rfl N1a.out rfl rfl rfl ?_; rw [HVV.out])
      | (refine ch_store rfl (.tmp 7) (.tmp 14) rfl (w1.heap.size + 1) rfl z5 z5 rfl M2a.out rfl rfl rfl ?_; generalize (V.setRow w1.heap.size (lkC 0 (.slice none 0 0) (.slice none 0 0) z16)).setRow (w1.heap.size + 1) (chC z5) = V5 at *)
    )
    go_ret2
    exact ⟨rfl, M3.out⟩
set_option maxRecDepth 100000 in
set_option maxHeartbeats 8000000 in
theorem cost__any (c : Cas) (sv ev lv : Value) (l : List Int) (w : World) (hC : CasAt w c sv ev) (hL : IntsAt w lv l) :
    Calls Try.prog 22 #[.agg #[.int .i64 c.tol, sv, ev], lv] w fun e w' => e = .returned (.tuple #[.int .i64 (costC c l).1, .int .i64 (costC c l).2]) ∧ Below w.heap.size w w' := by
  obtain ⟨sa, n, sc, rfl⟩ : ∃ a n cc, sv = .slice a n cc := by obtain ⟨_, a, cap, h, _⟩ := hC.shs; exact ⟨_, _, _, h⟩
  obtain ⟨ea, m, ec, rfl⟩ : ∃ a n cc, ev = .slice a n cc := by obtain ⟨_, a, cap, h, _⟩ := hC.eds; exact ⟨_, _, _, h⟩
  obtain ⟨la, q, lc, rfl⟩ : ∃ a n cc, lv = .slice a n cc := by obtain ⟨_, a, cap, h, _⟩ := hL; exact ⟨_, _, _, h⟩
  obtain ⟨tol, htol⟩ : ∃ t, c.tol = t := ⟨_, rfl⟩
  have HTOL := Lib.hid htol
  have hba : Below w.heap.size w (w.alloc (Obj.cells #[.int .i64 tol, .slice sa n sc, .slice ea m ec] 25)) := (Below.refl _ _).alloc (Nat.le_refl _) _
  have HLW := Lib.hid (lookWith_any c _ _ _ l (w.alloc (Obj.cells #[.int .i64 tol, .slice sa n sc, .slice ea m ec] 25)) (hC.below hba) (hL.below hba))
  rw [HTOL.out] at HLW
  rw [htol]
  have HB := Lib.hid hba
  have HC := Lib.hid hC
  obtain ⟨res, hres⟩ : ∃ r, costC c l = r := ⟨_, rfl⟩
  have HRS : Hid (res = if chgE c l ≠ 0 then (0, chgE c l) else (costK c.shs (padC l) c.shs.length, 0)) := by show _ = _; rw [← hres]; rfl
  rw [hres]
  have hz := (zero_of_info lkZero).1
  have hz2 := (zero_of_info chZero).1
  clear hba hC hL htol hres
  go_enter Try.func22, Try.ntmps22
  go_wp2_with fail
  refine HLW.out.mono ?_
  rintro e w1 ⟨hok, hno, hb⟩
  have HB1 := Lib.hid (HB.out.trans (hb.mono HB.out.size))
  clear hb HB HLW
  obtain ⟨V, hV, v1, v2, hbV, hsV⟩ := al2 w1 (Obj.cells (lkC 0 (.slice none 0 0) (.slice none 0 0) z16) 89) (Obj.cells (chC z5) 96)
  have HVV := Lib.hid hV
  have N1 : Hid (LkBlk V w1.heap.size 0 (.slice none 0 0) (.slice none 0 0) z16) := v1
  have N2 : Hid (ChBlk V (w1.heap.size + 1) z5) := v2
  have HB2 := Lib.hid (HB1.out.trans (hbV.mono HB1.out.size))
  have N1a : Hid (LkBlk ((w1.alloc (Obj.cells (lkC 0 (.slice none 0 0) (.slice none 0 0) z16) 89)).alloc (Obj.cells (chC z5) 96)) w1.heap.size 0 (.slice none 0 0) (.slice none 0 0) z16) := by show LkBlk _ _ _ _ _ _; rw [hV]; exact v1
  have hw1 := HB1.out.size
  clear hV v1 v2 hbV hsV
  by_cases h0 : chgE c l = 0
  · have he := hok h0
    rw [HTOL.out] at he
    subst he
    rw [if_neg (by simp [h0])] at HRS
    obtain rfl := HRS.out
    have HBD := Lib.hid (chg_bd c l h0)
    have HV := Lib.hid HBD.out.1
    clear hok hno h0
    have M1 : Hid (LkBlk ((V.setRow w1.heap.size (lkC tol (.slice sa n sc) (.slice ea m ec) (wsC c))).setRow (w1.heap.size + 1) (chC (padC l))) w1.heap.size tol (.slice sa n sc) (.slice ea m ec) (wsC c)) := (setRow_other _ _ _ _ (by omega)).trans (N1.out.put _ _ _ _)
    have M2a : Hid (ChBlk (V.setRow w1.heap.size (lkC tol (.slice sa n sc) (.slice ea m ec) (wsC c))) (w1.heap.size + 1) z5) := (setRow_other _ _ _ _ (by omega)).trans N2.out
    have M2 : Hid (ChBlk ((V.setRow w1.heap.size (lkC tol (.slice sa n sc) (.slice ea m ec) (wsC c))).setRow (w1.heap.size + 1) (chC (padC l))) (w1.heap.size + 1) (padC l)) := M2a.out.put _
    have M3 : Hid (Below w.heap.size w ((V.setRow w1.heap.size (lkC tol (.slice sa n sc) (.slice ea m ec) (wsC c))).setRow (w1.heap.size + 1) (chC (padC l)))) := below_setRow (below_setRow HB2.out (by omega) _) (by omega) _
    go_wp2_with (first
      | (refine lk_store rfl (.tmp 6) (.tmp 13) rfl w1.heap.size rfl tol sa ea n m sc ec (wsC c) 0 (.slice none 0 0) (.slice none 0 0) z16 rfl N1a.out (wsC_length _) rfl rfl ?_; rw [HVV.out])
      | (refine ch_store rfl (.tmp 7) (.tmp 14) rfl (w1.heap.size + 1) rfl (padC l) z5 rfl M2a.out (padC_length _) rfl rfl ?_; generalize (V.setRow w1.heap.size (lkC tol (.slice sa n sc) (.slice ea m ec) (wsC c))).setRow (w1.heap.size + 1) (chC (padC l)) = V5 at *)
      | (refine lk_loadw (by rfl) (.tmp 6) rfl w1.heap.size rfl tol (.slice sa n sc) (.slice ea m ec) (wsC c) M1.out (wsC_length _) ?_)
      | (refine ch_loadw (by rfl) (.tmp 7) rfl (w1.heap.size + 1) rfl (padC l) M2.out (padC_length _) ?_))
    have HCL := Lib.hid (cost_any c (.slice sa n sc) (.slice ea m ec) (wsC c) (wsC_length _) (padC l) (padC_length _) (fun i => by have := HBD.out.2.2.2 i; omega) (fun i => by have := HBD.out.2.2.2 i; omega) V5 (HC.out.below M3.out) HV.out)
    rw [HTOL.out] at HCL
    refine HCL.out.mono ?_
    rintro e w4 ⟨rfl, hb4⟩
    have HB4 := Lib.hid (M3.out.trans (hb4.mono M3.out.size))
    clear hb4 HCL M1 M2a M2 M3
    go_wp2_with fail
    go_ret2
    exact ⟨rfl, HB4.out⟩
  · have he := hno h0
    rw [if_pos h0] at HRS
    obtain ⟨er, her⟩ : ∃ x, chgE c l = x := ⟨_, rfl⟩
    rw [her] at he h0 HRS
    subst he
    obtain rfl := HRS.out
    clear her
    have tz : (er != 0) = true := by simp [h0]
    clear hok hno
    have M1 : Hid (LkBlk ((V.setRow w1.heap.size (lkC 0 (.slice none 0 0) (.slice none 0 0) z16)).setRow (w1.heap.size + 1) (chC z5)) w1.heap.size 0 (.slice none 0 0) (.slice none 0 0) z16) := (setRow_other _ _ _ _ (by omega)).trans (N1.out.put _ _ _ _)
    have M2a : Hid (ChBlk (V.setRow w1.heap.size (lkC 0 (.slice none 0 0) (.slice none 0 0) z16)) (w1.heap.size + 1) z5) := (setRow_other _ _ _ _ (by omega)).trans N2.out
    have M2 : Hid (ChBlk ((V.setRow w1.heap.size (lkC 0 (.slice none 0 0) (.slice none 0 0) z16)).setRow (w1.heap.size + 1) (chC z5)) (w1.heap.size + 1) z5) := M2a.out.put _
    have M3 : Hid (Below w.heap.size w ((V.setRow w1.heap.size (lkC 0 (.slice none 0 0) (.slice none 0 0) z16)).setRow (w1.heap.size + 1) (chC z5))) := below_setRow (below_setRow HB2.out (by omega) _) (by omega) _
    go_wp2_with (first
      | (refine lk_store rfl (.tmp 6) (.tmp 13) rfl w1.heap.size rfl 0 none none 0 0 0 0 z16 0 (.slice none 0 0) (.slice none 0 0) z16 rfl N1a.out rfl rfl rfl ?_; rw [HVV.out])
      | (refine ch_store rfl (.tmp 7) (.tmp 14) rfl (w1.heap.size + 1) rfl z5 z5 rfl M2a.out rfl rfl rfl ?_; generalize (V.setRow w1.heap.size (lkC 0 (.slice none 0 0) (.slice none 0 0) z16)).setRow (w1.heap.size + 1) (chC z5) = V5 at *)
    )
    go_ret2
    exact ⟨rfl, M3.out⟩
end Go.Proofs.Ytojdocomkhihoaa
namespace Go.Proofs.Ytojdocomkhihoaa
open Go Go.RowKit Go.Shelf Ed

set_option maxRecDepth 100000 in
set_option maxHeartbeats 8000000 in
theorem without_any (c : Cas) (sv ev : Value)  (w : World) (hC : CasAt w c sv ev) :
    Calls Try.prog 32 #[.agg #[.int .i64 c.tol, sv, ev]] w fun e w' => (errC c ≠ 0 → e = .returned (.tuple #[.slice none 0 0, .int .i64 (errC c)])) ∧ (errC c = 0 → ∃ v, e = .returned (.tuple #[v, .int .i64 0]) ∧ IntsAt w' v (withoutC c)) ∧ Below w.heap.size w w' := by
  obtain ⟨sa, n, sc, rfl, hn⟩ : ∃ a n cc, sv = .slice a n cc ∧ n = c.shs.length := by obtain ⟨_, a, cap, h, _⟩ := hC.shs; exact ⟨_, _, _, h, rfl⟩
  obtain ⟨ea, m, ec, rfl, hm⟩ : ∃ a n cc, ev = .slice a n cc ∧ n = c.eds.length := by obtain ⟨_, a, cap, h, _⟩ := hC.eds; exact ⟨_, _, _, h, rfl⟩
  have HNN := Lib.hid hn
  have HMM := Lib.hid hm
  have nlim : (n : Int) ≤ 4611686018427387904 := by have := hC.shs.1; omega
  have mlim : (m : Int) ≤ 4611686018427387904 := by have := hC.eds.1; omega
  obtain ⟨tol, htol⟩ : ∃ t, c.tol = t := ⟨_, rfl⟩
  have HTOL := Lib.hid htol
  obtain ⟨W, hW⟩ : ∃ W, w.alloc (Obj.cells #[.int .i64 tol, .slice sa n sc, .slice ea m ec] 25) = W := ⟨_, rfl⟩
  have q1 : W.heap[w.heap.size]? = some (Obj.cells #[.int .i64 tol, .slice sa n sc, .slice ea m ec] 25) := by rw [← hW]; exact heap_alloc_new w _
  have hba : Below w.heap.size w W := by rw [← hW]; exact (Below.refl _ _).alloc (Nat.le_refl _) _
  have HLK := Lib.hid (look_any c _ _ W (hC.below hba))
  rw [HTOL.out] at HLK
  rw [htol]
  have HW := Lib.hid hW
  have Q1 := Lib.hid q1
  have HB := Lib.hid hba
  have HC := Lib.hid hC
  have HZL := Lib.hid (zero_of_info lkZero).1
  clear hW q1 hba hC htol hn hm
  go_enter Try.func32, Try.ntmps32
  go_wp2_with fail
  rw [HW.out]
  refine HLK.out.mono ?_
  rintro e w1 ⟨hok, hno, hb⟩
  have HB1 := Lib.hid (HB.out.trans (hb.mono HB.out.size))
  have R1 := Lib.hid ((hb.block _ (lt_of_block Q1.out)).trans Q1.out)
  clear hb HB Q1 HW HLK
  have hba : Below w1.heap.size w1 (w1.alloc (Obj.cells (lkC 0 (.slice none 0 0) (.slice none 0 0) z16) 89)) := (Below.refl _ _).alloc (Nat.le_refl _) _
  have N0 : Hid (LkBlk (w1.alloc (Obj.cells (lkC 0 (.slice none 0 0) (.slice none 0 0) z16) 89)) w1.heap.size 0 (.slice none 0 0) (.slice none 0 0) z16) := heap_alloc_new w1 _
  have hz := HZL.out
  have hwl : w.heap.size < w1.heap.size := lt_of_block R1.out
  by_cases h0 : errC c = 0
  · have he := hok h0
    rw [HTOL.out] at he
    subst he
    have HV := Lib.hid (valid_of h0)
    have HE0 := Lib.hid h0
    have n5 : n ≤ 5 := by rw [HNN.out]; exact HV.out.n5
    have m8 : m ≤ 8 := by rw [HMM.out]; exact HV.out.m8
    have n1 : 1 ≤ n := by rw [HNN.out]; exact HV.out.n1
    have nI5 : (n : Int) ≤ 5 := by omega
    have mI8 : (m : Int) ≤ 8 := by omega
    clear hok hno h0
    have M1 : Hid (((w1.alloc (Obj.cells (lkC 0 (.slice none 0 0) (.slice none 0 0) z16) 89)).setRow w1.heap.size (lkC tol (.slice sa n sc) (.slice ea m ec) (wsC c))).heap[w.heap.size]? = some (Obj.cells #[.int .i64 tol, .slice sa n sc, .slice ea m ec] 25)) := (setRow_other _ _ _ _ (by omega)).trans ((hba.block _ (lt_of_block R1.out)).trans R1.out)
    have M3 : Hid (LkBlk ((w1.alloc (Obj.cells (lkC 0 (.slice none 0 0) (.slice none 0 0) z16) 89)).setRow w1.heap.size (lkC tol (.slice sa n sc) (.slice ea m ec) (wsC c))) w1.heap.size tol (.slice sa n sc) (.slice ea m ec) (wsC c)) := N0.out.put _ _ _ _
    have M4 : Hid (Below w.heap.size w ((w1.alloc (Obj.cells (lkC 0 (.slice none 0 0) (.slice none 0 0) z16) 89)).setRow w1.heap.size (lkC tol (.slice sa n sc) (.slice ea m ec) (wsC c)))) := below_setRow (HB1.out.trans (hba.mono HB1.out.size)) HB1.out.size _
    clear hba R1 HB1
    go_wp2_with (first | (refine lk_store rfl (.tmp 4) (.tmp 9) rfl w1.heap.size rfl tol sa ea n m sc ec (wsC c) 0 (.slice none 0 0) (.slice none 0 0) z16 rfl N0.out (wsC_length _) rfl rfl ?_; generalize hWS : (w1.alloc (Obj.cells (lkC 0 (.slice none 0 0) (.slice none 0 0) z16) 89)).setRow w1.heap.size (lkC tol (.slice sa n sc) (.slice ea m ec) (wsC c)) = W2 at *; clear hWS) | (refine lk_loadw (by rfl) (.tmp 4) rfl w1.heap.size rfl tol (.slice sa n sc) (.slice ea m ec) (wsC c) M3.out (wsC_length _) ?_))
    refine (callsIn_wide.1 (spare_in 9 _ _)).mono ?_
    rintro e w2 ⟨rfl, rfl⟩
    have hb3 : Below W2.heap.size W2 (W2.alloc (Obj.cells (lkC tol (.slice sa n sc) (.slice ea m ec) (wsC c)) 89)) := (Below.refl _ _).alloc (Nat.le_refl _) _
    have hL3 : LkBlk (W2.alloc (Obj.cells (lkC tol (.slice sa n sc) (.slice ea m ec) (wsC c)) 89)) W2.heap.size c.tol (.slice sa n sc) (.slice ea m ec) (wsC c) := by rw [HTOL.out]; exact heap_alloc_new W2 _
    have HBE := Lib.hid (bestL_any c HV.out (.slice sa n sc) (.slice ea m ec) (wsC c) (wsC_length _) W2.heap.size (W2.alloc (Obj.cells (lkC tol (.slice sa n sc) (.slice ea m ec) (wsC c)) 89)) (HC.out.below (M4.out.trans (hb3.mono M4.out.size))) hL3)
    have M5 := Lib.hid (M4.out.trans (hb3.mono M4.out.size))
    clear hb3 hL3
    go_wp2_with fail
    refine HBE.out.mono ?_
    rintro e w3 ⟨v, rfl, hv, hb4⟩
    have HVI := Lib.hid hv
    have M6 := Lib.hid (M5.out.trans (hb4.mono M5.out.size))
    clear hv hb4 HBE M5
    go_wp2_with fail
    go_ret2
    exact ⟨fun h => absurd HE0.out h, fun _ => ⟨v, rfl, HVI.out⟩, M6.out⟩
  · have he := hno h0
    have HE0 := Lib.hid h0
    obtain ⟨er, her⟩ : ∃ x, errC c = x := ⟨_, rfl⟩
    have HER := Lib.hid her
    rw [her] at he h0
    subst he
    clear her
    have tz : (er != 0) = true := by simp [h0]
    clear hok hno
    have M1 : Hid (((w1.alloc (Obj.cells (lkC 0 (.slice none 0 0) (.slice none 0 0) z16) 89)).setRow w1.heap.size (lkC 0 (.slice none 0 0) (.slice none 0 0) z16)).heap[w.heap.size]? = some (Obj.cells #[.int .i64 tol, .slice sa n sc, .slice ea m ec] 25)) := (setRow_other _ _ _ _ (by omega)).trans ((hba.block _ (lt_of_block R1.out)).trans R1.out)
    have M3 : Hid (LkBlk ((w1.alloc (Obj.cells (lkC 0 (.slice none 0 0) (.slice none 0 0) z16) 89)).setRow w1.heap.size (lkC 0 (.slice none 0 0) (.slice none 0 0) z16)) w1.heap.size 0 (.slice none 0 0) (.slice none 0 0) z16) := N0.out.put _ _ _ _
    have M4 : Hid (Below w.heap.size w ((w1.alloc (Obj.cells (lkC 0 (.slice none 0 0) (.slice none 0 0) z16) 89)).setRow w1.heap.size (lkC 0 (.slice none 0 0) (.slice none 0 0) z16))) := below_setRow (HB1.out.trans (hba.mono HB1.out.size)) HB1.out.size _
    clear hba R1 HB1
    go_wp2_with (first | (refine lk_store rfl (.tmp 4) (.tmp 9) rfl w1.heap.size rfl 0 none none 0 0 0 0 z16 0 (.slice none 0 0) (.slice none 0 0) z16 rfl N0.out rfl rfl rfl ?_; generalize hWS : (w1.alloc (Obj.cells (lkC 0 (.slice none 0 0) (.slice none 0 0) z16) 89)).setRow w1.heap.size (lkC 0 (.slice none 0 0) (.slice none 0 0) z16) = W2 at *; clear hWS))
    go_ret2
    exact ⟨fun _ => by rw [HER.out]; rfl, fun h => absurd h HE0.out, M4.out⟩
end Go.Proofs.Ytojdocomkhihoaa
namespace Go.Proofs.Ytojdocomkhihoaa
open Go Go.RowKit Go.Shelf Ed

/-- The cells of an array copied to a row of the call's own, as long as it is. -/
theorem copy_arr {ops : Array Oper} {rest : List Oper} {o : Oper} {a : Act} {w : World} {Q : Exit → Act → World → Prop} (hgd : o.guard = none) (d s : Operand)
    (ho : o.op = .call { callee := .builtin .copy, args := #[d, s], argTypes := #[26, 26] }) (g b n N base : Nat) (t : TypeId) (cur : List Value) (x : List Int)
    (hown : w.ownsRow base 3 1 (.slice (some ⟨g, 0, none⟩) n n) n cur) (hx : w.heap[b]? = some (.cells (chC x) t (0, 0))) (hxl : x.length = N) (hn : n ≤ N) (hN : N ≤ 100)
    (hd : a.eval d = .slice (some ⟨g, 0, none⟩) n n) (hs : a.eval s = .slice (some ⟨b, 0, none⟩) N N)
    (h : IntsAt (w.setRow g (chC (x.take n))) (.slice (some ⟨g, 0, none⟩) n n) (x.take n) → wpList Try.prog ops Q rest (a.put o.dst (goInt n)) (w.setRow g (chC (x.take n)))) : wpList Try.prog ops Q (o :: rest) a w := by
  have hsz : (Try.prog.info? 3).map (·.size) = some 1 := by kernel_rfl
  rcases hown.2 with ⟨h1, _⟩ | ⟨g', cap, cu, h1, _, h2, h3, h4, h5, h6⟩
  · cases h1
  · simp only [Value.slice.injEq, Option.some.injEq, Addr.mk.injEq, and_true] at h1
    obtain ⟨rfl, _, rfl⟩ := h1
    have hl : (x.take n).length = n := by rw [List.length_take]; omega
    refine wpList_copy_own hgd d s 26 26 ho 3 Try.underlying26 hsz g 0 n n ⟨b, 0, none⟩ N N hd hs cu 3 h2 ((x.take n).map (Value.int .i64)) (by rw [List.length_map, hl]; exact (Nat.min_eq_right hn).symm) (fun j v hv => ?_) (by rw [List.length_map, hl]; omega) (fun v hv => by obtain ⟨y, _, rfl⟩ := List.mem_map.1 hv; rfl) ?_
    · have hj : j < n := by have := (List.getElem?_eq_some_iff.1 hv).1; rw [List.length_map, hl] at this; exact this
      rw [Go.WideShapes.add_plain, Nat.zero_add]
      refine cellOf hx j v ?_
      rw [ch_get x j (by omega), ← hv]
      simp [List.getD_eq_getElem?_getD, List.getElem?_take, hj, show j < x.length by omega]
    · have e : (cu.toList.take 0 ++ ((x.take n).map (Value.int .i64) ++ cu.toList.drop (0 + ((x.take n).map (Value.int .i64)).length))).toArray = chC (x.take n) := by
        have : cu.toList.drop (0 + ((x.take n).map (Value.int .i64)).length) = [] := List.drop_eq_nil_of_le (by rw [List.length_map, hl]; simp; omega)
        rw [this]
        simp [chC]
      rw [e, List.length_map, hl]
      refine h ⟨by rw [hl]; omega, _, n, by rw [hl], by rw [hl]; exact Nat.le_refl _, fun _ => ⟨g, 0, rfl, fun k hk => ?_⟩⟩
      rw [Nat.zero_add]
      refine cellOf (setRow_heap w g _ _ _ _ h2) k _ ?_
      rw [ch_get _ k hk, List.getD_eq_getElem?_getD, List.getElem?_eq_getElem hk, Option.getD_some]
theorem pushM_len (c : Cas) (ws : List Int) (before : Int) : ∀ (f a : Nat) (p : List Int) (b : List Bool) (q : List Int), pushM c ws before f a p b = some q → q.length = p.length := by
  intro f
  induction f with
  | zero => intro a p b q h; simp [pushM] at h
  | succ f ih =>
    intro a p b q h
    simp only [pushM] at h
    split at h
    · simp only [Option.some.injEq] at h; rw [h]
    · split at h
      · cases h
      · obtain ⟨j, _, _, hj⟩ := firstSm_of _ _ _ _ h
        split at hj
        · cases hj
        · rw [ih _ _ _ _ hj, List.length_set]
theorem proofGo_length (c : Cas) (ws : List Int) : ∀ (g : Nat) (p r : List Int), p.length = 8 → proofGo c ws g p = some r → r.length = 8 := by
  intro g
  induction g with
  | zero => intro p r _ h; simp [proofGo] at h
  | succ g ih =>
    intro p r hp h
    simp only [proofGo] at h
    split at h
    · cases hm : pushedM c ws p with
      | none => rw [hm] at h; simp only [Option.some.injEq] at h; rw [← h]; exact hp
      | some q =>
        rw [hm] at h
        obtain ⟨j, _, _, hj⟩ := firstSm_of _ _ _ _ hm
        exact ih q r ((pushM_len c ws _ 6 j p no5 q hj).trans hp) h
    · simp only [Option.some.injEq] at h; rw [← h]; exact hp
set_option maxRecDepth 100000 in
set_option maxHeartbeats 8000000 in
theorem proofT_any (c : Cas) (sv ev : Value)  (w : World) (hC : CasAt w c sv ev) :
    Calls Try.prog 40 #[.agg #[.int .i64 c.tol, sv, ev]] w fun e w' => (errC c ≠ 0 → e = .returned (.tuple #[.slice none 0 0, .int .i64 (errC c)])) ∧ (errC c = 0 → tornK (wsC c) c.eds.length = true → e = .returned (.tuple #[.slice none 0 0, .int .i64 9])) ∧ (errC c = 0 → tornK (wsC c) c.eds.length = false → ∀ r, proofGo c (wsC c) 700 z8 = some r → ∃ v, e = .returned (.tuple #[v, .int .i64 0]) ∧ IntsAt w' v (r.take c.eds.length)) ∧ Below w.heap.size w w' := by
  obtain ⟨sa, n, sc, rfl, hn⟩ : ∃ a n cc, sv = .slice a n cc ∧ n = c.shs.length := by obtain ⟨_, a, cap, h, _⟩ := hC.shs; exact ⟨_, _, _, h, rfl⟩
  obtain ⟨ea, m, ec, rfl, hm⟩ : ∃ a n cc, ev = .slice a n cc ∧ n = c.eds.length := by obtain ⟨_, a, cap, h, _⟩ := hC.eds; exact ⟨_, _, _, h, rfl⟩
  have HNN := Lib.hid hn
  have HMM := Lib.hid hm
  have nlim : (n : Int) ≤ 4611686018427387904 := by have := hC.shs.1; omega
  have mlim : (m : Int) ≤ 4611686018427387904 := by have := hC.eds.1; omega
  obtain ⟨tol, htol⟩ : ∃ t, c.tol = t := ⟨_, rfl⟩
  have HTOL := Lib.hid htol
  obtain ⟨W, hW⟩ : ∃ W, w.alloc (Obj.cells #[.int .i64 tol, .slice sa n sc, .slice ea m ec] 25) = W := ⟨_, rfl⟩
  have q1 : W.heap[w.heap.size]? = some (Obj.cells #[.int .i64 tol, .slice sa n sc, .slice ea m ec] 25) := by rw [← hW]; exact heap_alloc_new w _
  have hba : Below w.heap.size w W := by rw [← hW]; exact (Below.refl _ _).alloc (Nat.le_refl _) _
  have HLK := Lib.hid (look_any c _ _ W (hC.below hba))
  rw [HTOL.out] at HLK
  rw [htol]
  have HW := Lib.hid hW
  have Q1 := Lib.hid q1
  have HB := Lib.hid hba
  have HC := Lib.hid hC
  have HZL := Lib.hid (zero_of_info lkZero).1
  obtain ⟨i0, hi0⟩ := info_of_underlying Try.underlying3
  have HI0 : Hid (i0.zero = some (.int .i64 0) ∧ i0.size = 1 ∧ i0.bytes = 8) := by
    have h := intInfo
    rw [hi0] at h
    simp at h
    exact h
  have HZP := Lib.hid (zero_of_info puZero).1
  clear hW q1 hba hC htol hn hm
  go_enter Try.func40, Try.ntmps40
  go_wp2_with fail
  rw [HW.out]
  refine HLK.out.mono ?_
  rintro e w1 ⟨hok, hno, hb⟩
  have HB1 := Lib.hid (HB.out.trans (hb.mono HB.out.size))
  have R1 := Lib.hid ((hb.block _ (lt_of_block Q1.out)).trans Q1.out)
  clear hb HB Q1 HW HLK
  have hba : Below w1.heap.size w1 (w1.alloc (Obj.cells (lkC 0 (.slice none 0 0) (.slice none 0 0) z16) 89)) := (Below.refl _ _).alloc (Nat.le_refl _) _
  have N0 : Hid (LkBlk (w1.alloc (Obj.cells (lkC 0 (.slice none 0 0) (.slice none 0 0) z16) 89)) w1.heap.size 0 (.slice none 0 0) (.slice none 0 0) z16) := heap_alloc_new w1 _
  have hz := HZL.out
  have hwl : w.heap.size < w1.heap.size := lt_of_block R1.out
  by_cases h0 : errC c = 0
  · have he := hok h0
    rw [HTOL.out] at he
    subst he
    have HV := Lib.hid (valid_of h0)
    have HE0 := Lib.hid h0
    have n5 : n ≤ 5 := by rw [HNN.out]; exact HV.out.n5
    have m8 : m ≤ 8 := by rw [HMM.out]; exact HV.out.m8
    have n1 : 1 ≤ n := by rw [HNN.out]; exact HV.out.n1
    have nI5 : (n : Int) ≤ 5 := by omega
    have mI8 : (m : Int) ≤ 8 := by omega
    clear hok hno h0
    have M1 : Hid (((w1.alloc (Obj.cells (lkC 0 (.slice none 0 0) (.slice none 0 0) z16) 89)).setRow w1.heap.size (lkC tol (.slice sa n sc) (.slice ea m ec) (wsC c))).heap[w.heap.size]? = some (Obj.cells #[.int .i64 tol, .slice sa n sc, .slice ea m ec] 25)) := (setRow_other _ _ _ _ (by omega)).trans ((hba.block _ (lt_of_block R1.out)).trans R1.out)
    have M3 : Hid (LkBlk ((w1.alloc (Obj.cells (lkC 0 (.slice none 0 0) (.slice none 0 0) z16) 89)).setRow w1.heap.size (lkC tol (.slice sa n sc) (.slice ea m ec) (wsC c))) w1.heap.size tol (.slice sa n sc) (.slice ea m ec) (wsC c)) := N0.out.put _ _ _ _
    have M4 : Hid (Below w.heap.size w ((w1.alloc (Obj.cells (lkC 0 (.slice none 0 0) (.slice none 0 0) z16) 89)).setRow w1.heap.size (lkC tol (.slice sa n sc) (.slice ea m ec) (wsC c)))) := below_setRow (HB1.out.trans (hba.mono HB1.out.size)) HB1.out.size _
    clear hba R1 HB1
    have HTN := Lib.hid (fun (V : World) (hb : Below w.heap.size w V) => anyTorn_any c (.slice sa n sc) (.slice ea m ec) (wsC c) (wsC_length _) V (HC.out.below hb) HV.out)
    rw [HTOL.out] at HTN
    go_wp2_with (first | (refine lk_store rfl (.tmp 4) (.tmp 11) rfl w1.heap.size rfl tol sa ea n m sc ec (wsC c) 0 (.slice none 0 0) (.slice none 0 0) z16 rfl N0.out (wsC_length _) rfl rfl ?_; generalize hWS : (w1.alloc (Obj.cells (lkC 0 (.slice none 0 0) (.slice none 0 0) z16) 89)).setRow w1.heap.size (lkC tol (.slice sa n sc) (.slice ea m ec) (wsC c)) = W2 at *; clear hWS) | (refine lk_loadw (by rfl) (.tmp 4) rfl w1.heap.size rfl tol (.slice sa n sc) (.slice ea m ec) (wsC c) M3.out (wsC_length _) ?_))
    refine (HTN.out _ M4.out).mono ?_
    rintro e w3 ⟨rfl, hb3⟩
    have L1 := Lib.hid ((hb3.block _ (lt_of_block M1.out)).trans M1.out)
    have L3 := Lib.hid (M3.out.below hb3 M3.out.lt)
    have L4 := Lib.hid (M4.out.trans (hb3.mono M4.out.size))
    clear hb3 HTN M1 M3 M4
    cases htn : tornK (wsC c) c.eds.length
    · have HTF := Lib.hid htn
      clear htn
      obtain ⟨r, hr⟩ := proof_ends c (wsC c) 700 z8 0 (by omega) (fun i => by rw [z8_get]; omega) rfl (by rw [bnd_z8 c HV.out]; have h1 := dearK_bd c.shs HV.out.sh c.shs.length (Nat.le_refl _); have h2 := HV.out.n5; unfold dearC; omega)
      have HR := Lib.hid hr
      have HPR := Lib.hid (proof_any c HV.out (.slice sa n sc) (.slice ea m ec) (wsC c) (wsC_length _) (wsC_bd c HV.out) r hr w3 (HC.out.below L4.out))
      rw [HTOL.out] at HPR
      have HRL : Hid (r.length = 8) := proofGo_length c (wsC c) 700 z8 r rfl hr
      clear hr
      go_wp2_with (refine lk_loadw (by rfl) (.tmp 4) rfl w1.heap.size rfl tol (.slice sa n sc) (.slice ea m ec) (wsC c) L3.out (wsC_length _) ?_)
      refine HPR.out.mono ?_
      rintro e w4 ⟨rfl, hb4⟩
      have N4 : Hid (PuBlk (w4.alloc (Obj.cells (chC z8) 109)) w4.heap.size z8) := heap_alloc_new w4 _
      have hb5 : Below w4.heap.size w4 ((w4.alloc (Obj.cells (chC z8) 109)).setRow w4.heap.size (chC r)) := below_setRow ((Below.refl _ _).alloc (Nat.le_refl _) _) (Nat.le_refl _) _
      have O1 := Lib.hid ((hb5.block _ (Nat.lt_of_lt_of_le (lt_of_block L1.out) hb4.size)).trans ((hb4.block _ (lt_of_block L1.out)).trans L1.out))
      have O4 := Lib.hid (L4.out.trans ((hb4.trans (hb5.mono hb4.size)).mono L4.out.size))
      have OP : Hid (PuBlk ((w4.alloc (Obj.cells (chC z8) 109)).setRow w4.heap.size (chC r)) w4.heap.size r) := N4.out.put r
      have hzp := HZP.out
      clear hb4 hb5 HPR L1 L3 L4
      go_wp2_with (first | (refine pu_store rfl (.tmp 6) (.tmp 19) rfl w4.heap.size rfl r z8 rfl N4.out HRL.out rfl rfl ?_; generalize hWS : (w4.alloc (Obj.cells (chC z8) 109)).setRow w4.heap.size (chC r) = W5 at *; clear hWS; have r2 := cellOf O1.out 2 _ rfl; have rl := lt_of_block O1.out) | (at_make; refine wpList_make_full _ rfl _ _ 26 rfl W5.heap.size 3 i0 (.int .i64 0) 1 Try.underlying26 hi0 HI0.out.1 HI0.out.2.1 .i64 .i64 _ _ m rfl rfl rfl rfl ?c1 ?c2 (Nat.le_refl _) ?_))
      case c1 => rw [HI0.out.2.2]; omega
      case c2 => unfold maxLen; omega
      intro w6 hown hgr
      have hb6 : Below W5.heap.size W5 w6 := (Below.refl W5.heap.size W5).grown hgr (Nat.le_refl _) (by simp)
      have OP6 := Lib.hid (OP.out.below hb6 OP.out.lt)
      have O6 := Lib.hid (O4.out.trans (hb6.mono O4.out.size))
      have HOW := Lib.hid hown
      have hpl := OP6.out.lt
      have hpl5 := OP.out.lt
      have hw5 := O4.out.size
      clear hown hgr hb6 N4 O1 O4
      try clear r2
      try clear rl
      obtain ⟨g5, hg5⟩ : ∃ g, W5.heap.size = g := ⟨_, rfl⟩
      rw [hg5] at HOW hpl5 hw5 ⊢
      clear hg5 OP
      go_wp2_with (refine copy_arr rfl (.tmp 24) (.tmp 25) rfl g5 w4.heap.size m 8 _ _ _ r HOW.out OP6.out HRL.out m8 (by decide) rfl rfl ?_; intro hia; have HIA := Lib.hid hia; clear hia)
      go_ret2
      refine ⟨fun h => absurd HE0.out h, fun _ h => absurd (HTF.out.symm.trans h) (by simp), fun _ _ r' hr' => ?_, below_setRow O6.out (by omega) _⟩
      obtain rfl : r' = r := by have h := HR.out; rw [hr'] at h; simpa using h
      rw [← HMM.out]
      exact ⟨_, rfl, HIA.out⟩
    · have HTF := Lib.hid htn
      clear htn
      go_wp2_with fail
      go_ret2
      exact ⟨fun h => absurd HE0.out h, fun _ _ => rfl, fun _ h => absurd (HTF.out.symm.trans h) (by simp), L4.out⟩
  · have he := hno h0
    have HE0 := Lib.hid h0
    obtain ⟨er, her⟩ : ∃ x, errC c = x := ⟨_, rfl⟩
    have HER := Lib.hid her
    rw [her] at he h0
    subst he
    clear her
    have tz : (er != 0) = true := by simp [h0]
    clear hok hno
    have M1 : Hid (((w1.alloc (Obj.cells (lkC 0 (.slice none 0 0) (.slice none 0 0) z16) 89)).setRow w1.heap.size (lkC 0 (.slice none 0 0) (.slice none 0 0) z16)).heap[w.heap.size]? = some (Obj.cells #[.int .i64 tol, .slice sa n sc, .slice ea m ec] 25)) := (setRow_other _ _ _ _ (by omega)).trans ((hba.block _ (lt_of_block R1.out)).trans R1.out)
    have M3 : Hid (LkBlk ((w1.alloc (Obj.cells (lkC 0 (.slice none 0 0) (.slice none 0 0) z16) 89)).setRow w1.heap.size (lkC 0 (.slice none 0 0) (.slice none 0 0) z16)) w1.heap.size 0 (.slice none 0 0) (.slice none 0 0) z16) := N0.out.put _ _ _ _
    have M4 : Hid (Below w.heap.size w ((w1.alloc (Obj.cells (lkC 0 (.slice none 0 0) (.slice none 0 0) z16) 89)).setRow w1.heap.size (lkC 0 (.slice none 0 0) (.slice none 0 0) z16))) := below_setRow (HB1.out.trans (hba.mono HB1.out.size)) HB1.out.size _
    clear hba R1 HB1
    go_wp2_with (first | (refine lk_store rfl (.tmp 4) (.tmp 11) rfl w1.heap.size rfl 0 none none 0 0 0 0 z16 0 (.slice none 0 0) (.slice none 0 0) z16 rfl N0.out rfl rfl rfl ?_; generalize hWS : (w1.alloc (Obj.cells (lkC 0 (.slice none 0 0) (.slice none 0 0) z16) 89)).setRow w1.heap.size (lkC 0 (.slice none 0 0) (.slice none 0 0) z16) = W2 at *; clear hWS))
    go_ret2
    exact ⟨fun _ => by rw [HER.out]; rfl, fun h => absurd h HE0.out, fun h => absurd h HE0.out, M4.out⟩
end Go.Proofs.Ytojdocomkhihoaa
namespace Go.Proofs.Ytojdocomkhihoaa
open Go Go.RowKit Go.Shelf Ed

/-- Numbers, and noughts behind them, eight in all. -/
def pad8 (l : List Int) : List Int := (List.range 8).map fun i => l.getD i 0
theorem pad8_length (l : List Int) : (pad8 l).length = 8 := by simp [pad8]
theorem pad8_get (l : List Int) (h : l.length ≤ 8) (i : Nat) : (pad8 l).getD i 0 = l.getD i 0 := by
  rcases Nat.lt_or_ge i 8 with hi | hi
  · simp only [pad8, List.getD_eq_getElem?_getD, List.getElem?_map, List.getElem?_range hi, Option.map_some, Option.getD_some]
  · rw [List.getD_eq_getElem?_getD, List.getD_eq_getElem?_getD, List.getElem?_eq_none (by rw [pad8_length]; exact hi), List.getElem?_eq_none (by omega)]
theorem pad8_split (l : List Int) (h : l.length ≤ 8) : pad8 l = l ++ z8.drop l.length := by
  apply List.ext_getElem (by rw [pad8_length]; simp [z8]; omega)
  intro i h1 h2
  have e := pad8_get l h i
  rw [List.getD_eq_getElem?_getD, List.getElem?_eq_getElem h1, Option.getD_some] at e
  rw [e, List.getElem_append]
  split
  · rename_i h3; simp [List.getD_eq_getElem?_getD, h3]
  · rename_i h3
    rw [List.getD_eq_getElem?_getD, List.getElem?_eq_none (by omega), Option.getD_none]
    have hz : ∀ j (hj : j < z8.length), z8[j] = 0 := by decide
    rw [List.getElem_drop, hz]
theorem pu_copy {ops : Array Oper} {rest : List Oper} {o : Oper} {a : Act} {w : World} {Q : Exit → Act → World → Prop} (hgd : o.guard = none) (d s : Operand)
    (ho : o.op = .call { callee := .builtin .copy, args := #[d, s], argTypes := #[26, 26] }) (g : Nat) (l : List Int) (sv : Value)
    (hd : a.eval d = .slice (some ⟨g, 0, none⟩) 8 8) (hs : a.eval s = sv) (hl : IntsAt w sv l) (h8 : l.length ≤ 8) (hg : PuBlk w g z8)
    (h : wpList Try.prog ops Q rest (a.put o.dst (goInt l.length)) (w.setRow g (chC (pad8 l)))) : wpList Try.prog ops Q (o :: rest) a w := by
  obtain ⟨_, A, cap, rfl, _, hc⟩ := hl
  have hsz : (Try.prog.info? 3).map (·.size) = some 1 := by kernel_rfl
  by_cases h0 : l = []
  · subst h0
    refine wpList_copy_nothing hgd d s 26 26 ho 3 Try.underlying26 hsz _ _ 8 8 0 cap hd hs (by decide) ?_
    have e : w.setRow g (chC (pad8 [])) = w := setRow_self w g (chC z8) 109 (0, 0) hg
    rw [e] at h
    exact h
  obtain ⟨b, off, rfl, hk⟩ := hc h0
  refine wpList_copy_own hgd d s 26 26 ho 3 Try.underlying26 hsz g 0 8 8 ⟨b, off, none⟩ l.length cap hd hs (chC z8) 109 hg (l.map (Value.int .i64)) (by rw [List.length_map]; exact (Nat.min_eq_left h8).symm) (fun j v hv => ?_) (by rw [ch_size, List.length_map]; simp [z8]; omega) (fun v hv => by obtain ⟨y, _, rfl⟩ := List.mem_map.1 hv; rfl) ?_
  · have hj : j < l.length := by have := (List.getElem?_eq_some_iff.1 hv).1; simpa using this
    rw [Go.WideShapes.add_plain, hk j hj, ← hv]
    simp [hj]
  · have e : ((chC z8).toList.take 0 ++ (l.map (Value.int .i64) ++ (chC z8).toList.drop (0 + (l.map (Value.int .i64)).length))).toArray = chC (pad8 l) := by
      rw [pad8_split l h8]
      simp [chC, List.map_drop]
    rw [e, List.length_map]
    exact h
/-- What Bound answers. -/
def boundE (c : Cas) (l : List Int) : Int × Int := if errC c ≠ 0 then (0, errC c) else if l.length ≠ c.eds.length then (0, 3) else if allIn (-100000) 100000 l = false then (0, 7) else if tornK (wsC c) c.eds.length = true then (0, 9) else (bndC c (wsC c) (pad8 l), 0)
set_option maxRecDepth 100000 in
set_option maxHeartbeats 8000000 in
theorem boundT_any (c : Cas) (sv ev : Value) (lv : Value) (l : List Int) (w : World) (hC : CasAt w c sv ev) (hL : IntsAt w lv l) :
    Calls Try.prog 30 #[.agg #[.int .i64 c.tol, sv, ev], lv] w fun e w' => e = .returned (.tuple #[.int .i64 (boundE c l).1, .int .i64 (boundE c l).2]) ∧ Below w.heap.size w w' := by
  obtain ⟨sa, n, sc, rfl, hn⟩ : ∃ a n cc, sv = .slice a n cc ∧ n = c.shs.length := by obtain ⟨_, a, cap, h, _⟩ := hC.shs; exact ⟨_, _, _, h, rfl⟩
  obtain ⟨ea, m, ec, rfl, hm⟩ : ∃ a n cc, ev = .slice a n cc ∧ n = c.eds.length := by obtain ⟨_, a, cap, h, _⟩ := hC.eds; exact ⟨_, _, _, h, rfl⟩
  have HNN := Lib.hid hn
  have HMM := Lib.hid hm
  have nlim : (n : Int) ≤ 4611686018427387904 := by have := hC.shs.1; omega
  have mlim : (m : Int) ≤ 4611686018427387904 := by have := hC.eds.1; omega
  obtain ⟨tol, htol⟩ : ∃ t, c.tol = t := ⟨_, rfl⟩
  have HTOL := Lib.hid htol
  obtain ⟨W, hW⟩ : ∃ W, w.alloc (Obj.cells #[.int .i64 tol, .slice sa n sc, .slice ea m ec] 25) = W := ⟨_, rfl⟩
  have q1 : W.heap[w.heap.size]? = some (Obj.cells #[.int .i64 tol, .slice sa n sc, .slice ea m ec] 25) := by rw [← hW]; exact heap_alloc_new w _
  have hba : Below w.heap.size w W := by rw [← hW]; exact (Below.refl _ _).alloc (Nat.le_refl _) _
  have HLK := Lib.hid (look_any c _ _ W (hC.below hba))
  rw [HTOL.out] at HLK
  rw [htol]
  have HW := Lib.hid hW
  have Q1 := Lib.hid q1
  have HB := Lib.hid hba
  have HC := Lib.hid hC
  have HZL := Lib.hid (zero_of_info lkZero).1
  obtain ⟨la, q, lc, rfl, hq⟩ : ∃ a n cc, lv = .slice a n cc ∧ n = l.length := by obtain ⟨_, a, cap, h, _⟩ := hL; exact ⟨_, _, _, h, rfl⟩
  have HQQ := Lib.hid hq
  have qlim : (q : Int) ≤ 4611686018427387904 := by have := hL.1; omega
  have HL := Lib.hid hL
  have HZP := Lib.hid (zero_of_info puZero).1
  obtain ⟨res, hres⟩ : ∃ r, boundE c l = r := ⟨_, rfl⟩
  have HRS : Hid (res = if errC c ≠ 0 then (0, errC c) else if q ≠ m then (0, 3) else if allIn (-100000) 100000 l = false then (0, 7) else if tornK (wsC c) c.eds.length = true then (0, 9) else (bndC c (wsC c) (pad8 l), 0)) := by show _ = _; rw [← hres, hq, hm]; rfl
  rw [hres]
  clear hq hL hres
  clear hW q1 hba hC htol hn hm
  go_enter Try.func30, Try.ntmps30
  go_wp2_with fail
  rw [HW.out]
  refine HLK.out.mono ?_
  rintro e w1 ⟨hok, hno, hb⟩
  have HB1 := Lib.hid (HB.out.trans (hb.mono HB.out.size))
  have R1 := Lib.hid ((hb.block _ (lt_of_block Q1.out)).trans Q1.out)
  clear hb HB Q1 HW HLK
  have hba : Below w1.heap.size w1 (w1.alloc (Obj.cells (lkC 0 (.slice none 0 0) (.slice none 0 0) z16) 89)) := (Below.refl _ _).alloc (Nat.le_refl _) _
  have N0 : Hid (LkBlk (w1.alloc (Obj.cells (lkC 0 (.slice none 0 0) (.slice none 0 0) z16) 89)) w1.heap.size 0 (.slice none 0 0) (.slice none 0 0) z16) := heap_alloc_new w1 _
  have hz := HZL.out
  have hwl : w.heap.size < w1.heap.size := lt_of_block R1.out
  by_cases h0 : errC c = 0
  · have he := hok h0
    rw [HTOL.out] at he
    subst he
    have HV := Lib.hid (valid_of h0)
    have HE0 := Lib.hid h0
    have n5 : n ≤ 5 := by rw [HNN.out]; exact HV.out.n5
    have m8 : m ≤ 8 := by rw [HMM.out]; exact HV.out.m8
    have n1 : 1 ≤ n := by rw [HNN.out]; exact HV.out.n1
    have nI5 : (n : Int) ≤ 5 := by omega
    have mI8 : (m : Int) ≤ 8 := by omega
    clear hok hno h0
    have M1 : Hid (((w1.alloc (Obj.cells (lkC 0 (.slice none 0 0) (.slice none 0 0) z16) 89)).setRow w1.heap.size (lkC tol (.slice sa n sc) (.slice ea m ec) (wsC c))).heap[w.heap.size]? = some (Obj.cells #[.int .i64 tol, .slice sa n sc, .slice ea m ec] 25)) := (setRow_other _ _ _ _ (by omega)).trans ((hba.block _ (lt_of_block R1.out)).trans R1.out)
    have M3 : Hid (LkBlk ((w1.alloc (Obj.cells (lkC 0 (.slice none 0 0) (.slice none 0 0) z16) 89)).setRow w1.heap.size (lkC tol (.slice sa n sc) (.slice ea m ec) (wsC c))) w1.heap.size tol (.slice sa n sc) (.slice ea m ec) (wsC c)) := N0.out.put _ _ _ _
    have M4 : Hid (Below w.heap.size w ((w1.alloc (Obj.cells (lkC 0 (.slice none 0 0) (.slice none 0 0) z16) 89)).setRow w1.heap.size (lkC tol (.slice sa n sc) (.slice ea m ec) (wsC c)))) := below_setRow (HB1.out.trans (hba.mono HB1.out.size)) HB1.out.size _
    clear hba R1 HB1
    rw [if_neg (by simp [HE0.out])] at HRS
    by_cases hqm : q = m
    · subst hqm
      have hqq : ((q : Int) != (q : Int)) = false := by simp
      rw [if_neg (by simp)] at HRS
      have HWI := Lib.hid (fun (V : World) (hb : Below w.heap.size w V) => within_any (-100000) 100000 _ l V (HL.out.below hb))
      have HTN := Lib.hid (fun (V : World) (hb : Below w.heap.size w V) => anyTorn_any c (.slice sa n sc) (.slice ea q ec) (wsC c) (wsC_length _) V (HC.out.below hb) HV.out)
      rw [HTOL.out] at HTN
      go_wp2_with (refine lk_store rfl (.tmp 6) (.tmp 12) rfl w1.heap.size rfl tol sa ea n q sc ec (wsC c) 0 (.slice none 0 0) (.slice none 0 0) z16 rfl N0.out (wsC_length _) rfl rfl ?_; generalize hWS : (w1.alloc (Obj.cells (lkC 0 (.slice none 0 0) (.slice none 0 0) z16) 89)).setRow w1.heap.size (lkC tol (.slice sa n sc) (.slice ea q ec) (wsC c)) = W2 at *; clear hWS; have r2 := cellOf M1.out 2 _ rfl; have rl := lt_of_block M1.out)
      try clear r2
      try clear rl
      refine (HWI.out _ M4.out).mono ?_
      rintro e w3 ⟨rfl, rfl⟩
      clear HWI hqq
      cases hin : allIn (-100000) 100000 l
      · rw [hin, if_pos rfl] at HRS
        obtain rfl := HRS.out
        go_wp2_with fail
        go_ret2
        exact ⟨rfl, M4.out⟩
      · rw [hin, if_neg (by simp)] at HRS
        have HIN := Lib.hid hin
        clear hin
        go_wp2_with (refine lk_loadw (by rfl) (.tmp 6) rfl w1.heap.size rfl tol (.slice sa n sc) (.slice ea q ec) (wsC c) M3.out (wsC_length _) ?_)
        refine (HTN.out _ M4.out).mono ?_
        rintro e w4 ⟨rfl, hb4⟩
        have L3 := Lib.hid (M3.out.below hb4 M3.out.lt)
        have L4 := Lib.hid (M4.out.trans (hb4.mono M4.out.size))
        clear hb4 HTN M1 M3 M4
        cases htn : tornK (wsC c) c.eds.length
        · rw [htn, if_neg (by simp)] at HRS
          obtain rfl := HRS.out
          clear htn
          have HPB : Hid (PuBd (pad8 l)) := by
            intro i
            rw [pad8_get l (by rw [← HQQ.out]; exact m8)]
            rcases Nat.lt_or_ge i l.length with hi | hi
            · have h1 := HIN.out
              unfold allIn at h1
              rw [List.all_eq_true] at h1
              have h2 := h1 l[i] (List.getElem_mem hi)
              unfold okIn at h2
              simp only [Bool.and_eq_true, decide_eq_true_eq] at h2
              simp only [List.getD_eq_getElem?_getD, List.getElem?_eq_getElem hi, Option.getD_some]
              exact h2
            · rw [List.getD_eq_getElem?_getD, List.getElem?_eq_none hi]
              simp
          have hb5a : Below w4.heap.size w4 (w4.alloc (Obj.cells (chC z8) 109)) := (Below.refl _ _).alloc (Nat.le_refl _) _
          have N4 : Hid (PuBlk (w4.alloc (Obj.cells (chC z8) 109)) w4.heap.size z8) := heap_alloc_new w4 _
          have HLI := Lib.hid ((HL.out.below L4.out).below hb5a)
          have hb5 : Below w4.heap.size w4 ((w4.alloc (Obj.cells (chC z8) 109)).setRow w4.heap.size (chC (pad8 l))) := below_setRow hb5a (Nat.le_refl _) _
          have O3 := Lib.hid (L3.out.below hb5 L3.out.lt)
          have O4 := Lib.hid (L4.out.trans (hb5.mono L4.out.size))
          have OP : Hid (PuBlk ((w4.alloc (Obj.cells (chC z8) 109)).setRow w4.heap.size (chC (pad8 l))) w4.heap.size (pad8 l)) := N4.out.put _
          have HBO := Lib.hid (bound_any c (.slice sa n sc) (.slice ea q ec) (wsC c) (wsC_length _) (wsC_bd c HV.out) (pad8 l) (pad8_length _) HPB.out ((w4.alloc (Obj.cells (chC z8) 109)).setRow w4.heap.size (chC (pad8 l))) (HC.out.below O4.out) HV.out)
          rw [HTOL.out] at HBO
          have hzp := HZP.out
          clear hb5 hb5a L3 L4
          go_wp2_with (first | (refine pu_copy rfl (.tmp 28) (.tmp 29) rfl w4.heap.size l _ rfl rfl HLI.out (by rw [← HQQ.out]; exact m8) N4.out ?_; generalize hWS : (w4.alloc (Obj.cells (chC z8) 109)).setRow w4.heap.size (chC (pad8 l)) = W5 at *; clear hWS) | (refine lk_loadw (by rfl) (.tmp 6) rfl w1.heap.size rfl tol (.slice sa n sc) (.slice ea q ec) (wsC c) O3.out (wsC_length _) ?_) | (refine pu_loadw (by rfl) (.tmp 8) rfl w4.heap.size rfl (pad8 l) OP.out (pad8_length _) ?_))
          refine HBO.out.mono ?_
          rintro e w6 ⟨rfl, hb6⟩
          have O6 := Lib.hid (O4.out.trans (hb6.mono O4.out.size))
          clear hb6 HBO O3 O4 OP N4 HLI
          go_wp2_with fail
          go_ret2
          exact ⟨rfl, O6.out⟩
        · rw [htn, if_pos rfl] at HRS
          obtain rfl := HRS.out
          go_wp2_with fail
          go_ret2
          exact ⟨rfl, L4.out⟩
    · have hqq : ((q : Int) != (m : Int)) = true := by simp; omega
      rw [if_pos hqm] at HRS
      obtain rfl := HRS.out
      go_wp2_with (refine lk_store rfl (.tmp 6) (.tmp 12) rfl w1.heap.size rfl tol sa ea n m sc ec (wsC c) 0 (.slice none 0 0) (.slice none 0 0) z16 rfl N0.out (wsC_length _) rfl rfl ?_; generalize hWS : (w1.alloc (Obj.cells (lkC 0 (.slice none 0 0) (.slice none 0 0) z16) 89)).setRow w1.heap.size (lkC tol (.slice sa n sc) (.slice ea m ec) (wsC c)) = W2 at *; clear hWS; have r2 := cellOf M1.out 2 _ rfl; have rl := lt_of_block M1.out)
      go_ret2
      exact ⟨rfl, M4.out⟩
  · have he := hno h0
    have HE0 := Lib.hid h0
    obtain ⟨er, her⟩ : ∃ x, errC c = x := ⟨_, rfl⟩
    have HER := Lib.hid her
    rw [her] at he h0
    subst he
    clear her
    have tz : (er != 0) = true := by simp [h0]
    clear hok hno
    have M1 : Hid (((w1.alloc (Obj.cells (lkC 0 (.slice none 0 0) (.slice none 0 0) z16) 89)).setRow w1.heap.size (lkC 0 (.slice none 0 0) (.slice none 0 0) z16)).heap[w.heap.size]? = some (Obj.cells #[.int .i64 tol, .slice sa n sc, .slice ea m ec] 25)) := (setRow_other _ _ _ _ (by omega)).trans ((hba.block _ (lt_of_block R1.out)).trans R1.out)
    have M3 : Hid (LkBlk ((w1.alloc (Obj.cells (lkC 0 (.slice none 0 0) (.slice none 0 0) z16) 89)).setRow w1.heap.size (lkC 0 (.slice none 0 0) (.slice none 0 0) z16)) w1.heap.size 0 (.slice none 0 0) (.slice none 0 0) z16) := N0.out.put _ _ _ _
    have M4 : Hid (Below w.heap.size w ((w1.alloc (Obj.cells (lkC 0 (.slice none 0 0) (.slice none 0 0) z16) 89)).setRow w1.heap.size (lkC 0 (.slice none 0 0) (.slice none 0 0) z16))) := below_setRow (HB1.out.trans (hba.mono HB1.out.size)) HB1.out.size _
    clear hba R1 HB1
    have hh0 := HE0.out
    rw [if_pos hh0, HER.out] at HRS
    clear hh0
    obtain rfl := HRS.out
    go_wp2_with (first | (refine lk_store rfl (.tmp 6) (.tmp 12) rfl w1.heap.size rfl 0 none none 0 0 0 0 z16 0 (.slice none 0 0) (.slice none 0 0) z16 rfl N0.out rfl rfl rfl ?_; generalize hWS : (w1.alloc (Obj.cells (lkC 0 (.slice none 0 0) (.slice none 0 0) z16) 89)).setRow w1.heap.size (lkC 0 (.slice none 0 0) (.slice none 0 0) z16) = W2 at *; clear hWS))
    go_ret2
    exact ⟨rfl, M4.out⟩
end Go.Proofs.Ytojdocomkhihoaa
namespace Go.Proofs.Ytojdocomkhihoaa
open Go Go.RowKit Go.Shelf Ed

theorem highGo_len (c : Cas) (ws : List Int) : ∀ (g : Nat) (x : List Int), x.length = 5 → (highGo c ws g x).1.length = 5 := by
  intro g
  induction g with
  | zero => intro x _; rfl
  | succ g ih =>
    intro x hx
    simp only [highGo]
    split
    · exact hx
    · split
      · rfl
      · exact ih _ (by rw [lowTo_length]; exact hx)
theorem highC_len (c : Cas) (ws : List Int) : (highC c ws).1.length = 5 := highGo_len c ws 5 _ (mostTo_length _ _)
theorem highGo_out (c : Cas) (hv : Valid c) (ws : List Int) (i : Nat) (hi : c.shs.length ≤ i) : ∀ (g : Nat) (x : List Int), x.getD i 0 = 0 → (highGo c ws g x).1.getD i 0 = 0 := by
  have hz5 : z5.getD i 0 = 0 := by rcases Nat.lt_or_ge i 5 with h | h; · exact (show ∀ j, j < 5 → z5.getD j 0 = 0 by decide) i h
                                   · rw [List.getD_eq_getElem?_getD, List.getElem?_eq_none (by simpa [z5] using h)]; rfl
  intro g
  induction g with
  | zero => intro x _; exact hz5
  | succ g ih =>
    intro x hx
    simp only [highGo]
    split
    · exact hx
    · split
      · exact hz5
      · exact ih _ (by rw [lowTo_out c.eds ws x c.shs.length hv.ed i hi _ (Nat.le_refl _)]; exact hx)
theorem highC_out (c : Cas) (hv : Valid c) (ws : List Int) (i : Nat) (hi : c.shs.length ≤ i) : (highC c ws).1.getD i 0 = 0 := by
  refine highGo_out c hv ws i hi 5 _ ?_
  rcases Nat.lt_or_ge i 5 with h | h
  · simp only [mostTo, List.getD_eq_getElem?_getD, List.getElem?_map, List.getElem?_range h, Option.map_some, Option.getD_some, if_neg (show ¬ i < c.shs.length by omega)]
  · rw [List.getD_eq_getElem?_getD, List.getElem?_eq_none (by rw [mostTo_length]; exact h)]; rfl
theorem high_at (c : Cas) (hv : Valid c) (ws : List Int) (h : (highC c ws).2 = true) : At c ws (highC c ws).1 := ⟨(highC_true c hv ws h).1, (highC_true c hv ws h).2.1, highC_out c hv ws⟩
theorem cheap_ends (c : Cas) (hv : Valid c) (ws : List Int) (h : (highC c ws).2 = true) : ∃ r z, cheapGo c ws 100 (highC c ws).1 = some r ∧ r.length = 5 ∧ Mn (sysC c ws) z ∧ (∀ y, Mn (sysC c ws) y → ∀ i, i < c.shs.length → z i ≤ y i) ∧ (∀ i, i < c.shs.length → r.getD i 0 = z i) ∧ ∀ i, c.shs.length ≤ i → r.getD i 0 = 0 := by
  have hA := high_at c hv ws h
  obtain ⟨z, hz, hzl⟩ := Mn.bot (sys_fine c hv ws) ⟨_, hA.ag⟩
  have n5 := hv.n5
  have hm : ∀ i, i < c.shs.length → (c.shs.getD i default).most ≤ 6 ∧ 0 ≤ (c.shs.getD i default).most := fun i hi => by
    rw [getD_lt _ _ hi]
    exact ⟨(hv.sh _ (List.getElem_mem hi)).m6, (hv.sh _ (List.getElem_mem hi)).m0⟩
  obtain ⟨r, h1, h2, h3, h4⟩ := cheap_is c hv ws z hz hzl 100 (highC c ws).1 hA.len hA.ag (fun i hi => (highC_true c hv ws h).2.2 z hz.1 i hi) (by
    have a := sumR_le (f := fun i => (highC c ws).1.getD i 0) (g := fun _ => 6) (n := c.shs.length) fun i hi => by
      have h1 := hm i hi
      have h2 := hA.ag.bx i hi
      simp only [sysC] at h2
      omega
    have b := sumR_le (f := fun _ => -6) (g := z) (n := c.shs.length) fun i hi => by
      have h1 := hm i hi
      have h2 := hz.1.bx i hi
      simp only [sysC] at h2
      omega
    rw [sumR_const] at a b
    omega)
  exact ⟨r, z, h1, h2, hz, hzl, h3, fun i hi => by rw [h4 i hi]; exact hA.out i hi⟩
theorem cheap_small (c : Cas) (hv : Valid c) (ws r : List Int) (z : Nat → Int) (hz : Mn (sysC c ws) z) (h3 : ∀ i, i < c.shs.length → r.getD i 0 = z i) (h4 : ∀ i, c.shs.length ≤ i → r.getD i 0 = 0) (i : Nat) : -1000 ≤ r.getD i 0 ∧ r.getD i 0 ≤ 1000 := by
  rcases Nat.lt_or_ge i c.shs.length with hi | hi
  · rw [h3 i hi]
    have h2 := hz.1.bx i hi
    have h1 := (hv.sh _ (List.getElem_mem hi)).m6
    simp only [sysC, getD_lt _ _ hi] at h2
    omega
  · rw [h4 i hi]; omega
set_option maxRecDepth 100000 in
set_option maxHeartbeats 8000000 in
theorem leastT_any (c : Cas) (sv ev : Value)  (w : World) (hC : CasAt w c sv ev) :
    Calls Try.prog 27 #[.agg #[.int .i64 c.tol, sv, ev]] w fun e w' => (errC c ≠ 0 → e = .returned (.tuple #[.slice none 0 0, .int .i64 0, .int .i64 (errC c)])) ∧ (errC c = 0 → (highC c (wsC c)).2 = false → e = .returned (.tuple #[.slice none 0 0, .int .i64 0, .int .i64 9])) ∧ (errC c = 0 → (highC c (wsC c)).2 = true → ∀ r, cheapGo c (wsC c) 100 (highC c (wsC c)).1 = some r → ∃ v, e = .returned (.tuple #[v, .int .i64 (costK c.shs r c.shs.length), .int .i64 0]) ∧ IntsAt w' v (r.take c.shs.length)) ∧ Below w.heap.size w w' := by
  obtain ⟨sa, n, sc, rfl, hn⟩ : ∃ a n cc, sv = .slice a n cc ∧ n = c.shs.length := by obtain ⟨_, a, cap, h, _⟩ := hC.shs; exact ⟨_, _, _, h, rfl⟩
  obtain ⟨ea, m, ec, rfl, hm⟩ : ∃ a n cc, ev = .slice a n cc ∧ n = c.eds.length := by obtain ⟨_, a, cap, h, _⟩ := hC.eds; exact ⟨_, _, _, h, rfl⟩
  have HNN := Lib.hid hn
  have HMM := Lib.hid hm
  have nlim : (n : Int) ≤ 4611686018427387904 := by have := hC.shs.1; omega
  have mlim : (m : Int) ≤ 4611686018427387904 := by have := hC.eds.1; omega
  obtain ⟨tol, htol⟩ : ∃ t, c.tol = t := ⟨_, rfl⟩
  have HTOL := Lib.hid htol
  obtain ⟨W, hW⟩ : ∃ W, w.alloc (Obj.cells #[.int .i64 tol, .slice sa n sc, .slice ea m ec] 25) = W := ⟨_, rfl⟩
  have q1 : W.heap[w.heap.size]? = some (Obj.cells #[.int .i64 tol, .slice sa n sc, .slice ea m ec] 25) := by rw [← hW]; exact heap_alloc_new w _
  have hba : Below w.heap.size w W := by rw [← hW]; exact (Below.refl _ _).alloc (Nat.le_refl _) _
  have HLK := Lib.hid (look_any c _ _ W (hC.below hba))
  rw [HTOL.out] at HLK
  rw [htol]
  have HW := Lib.hid hW
  have Q1 := Lib.hid q1
  have HB := Lib.hid hba
  have HC := Lib.hid hC
  have HZL := Lib.hid (zero_of_info lkZero).1
  obtain ⟨i0, hi0⟩ := info_of_underlying Try.underlying3
  have HI0 : Hid (i0.zero = some (.int .i64 0) ∧ i0.size = 1 ∧ i0.bytes = 8) := by
    have h := intInfo
    rw [hi0] at h
    simp at h
    exact h
  have HZP := Lib.hid (zero_of_info chZero).1
  obtain ⟨hx, hhx⟩ : ∃ x, (highC c (wsC c)).1 = x := ⟨_, rfl⟩
  obtain ⟨can, hcan⟩ : ∃ x, (highC c (wsC c)).2 = x := ⟨_, rfl⟩
  have HHX := Lib.hid hhx
  have HCAN := Lib.hid hcan
  clear hhx hcan
  clear hW q1 hba hC htol hn hm
  go_enter Try.func27, Try.ntmps27
  go_wp2_with fail
  rw [HW.out]
  refine HLK.out.mono ?_
  rintro e w1 ⟨hok, hno, hb⟩
  have HB1 := Lib.hid (HB.out.trans (hb.mono HB.out.size))
  have R1 := Lib.hid ((hb.block _ (lt_of_block Q1.out)).trans Q1.out)
  clear hb HB Q1 HW HLK
  have hba : Below w1.heap.size w1 (w1.alloc (Obj.cells (lkC 0 (.slice none 0 0) (.slice none 0 0) z16) 89)) := (Below.refl _ _).alloc (Nat.le_refl _) _
  have N0 : Hid (LkBlk (w1.alloc (Obj.cells (lkC 0 (.slice none 0 0) (.slice none 0 0) z16) 89)) w1.heap.size 0 (.slice none 0 0) (.slice none 0 0) z16) := heap_alloc_new w1 _
  have hz := HZL.out
  have hwl : w.heap.size < w1.heap.size := lt_of_block R1.out
  by_cases h0 : errC c = 0
  · have he := hok h0
    rw [HTOL.out] at he
    subst he
    have HV := Lib.hid (valid_of h0)
    have HE0 := Lib.hid h0
    have n5 : n ≤ 5 := by rw [HNN.out]; exact HV.out.n5
    have m8 : m ≤ 8 := by rw [HMM.out]; exact HV.out.m8
    have n1 : 1 ≤ n := by rw [HNN.out]; exact HV.out.n1
    have nI5 : (n : Int) ≤ 5 := by omega
    have mI8 : (m : Int) ≤ 8 := by omega
    clear hok hno h0
    have M1 : Hid (((w1.alloc (Obj.cells (lkC 0 (.slice none 0 0) (.slice none 0 0) z16) 89)).setRow w1.heap.size (lkC tol (.slice sa n sc) (.slice ea m ec) (wsC c))).heap[w.heap.size]? = some (Obj.cells #[.int .i64 tol, .slice sa n sc, .slice ea m ec] 25)) := (setRow_other _ _ _ _ (by omega)).trans ((hba.block _ (lt_of_block R1.out)).trans R1.out)
    have M3 : Hid (LkBlk ((w1.alloc (Obj.cells (lkC 0 (.slice none 0 0) (.slice none 0 0) z16) 89)).setRow w1.heap.size (lkC tol (.slice sa n sc) (.slice ea m ec) (wsC c))) w1.heap.size tol (.slice sa n sc) (.slice ea m ec) (wsC c)) := N0.out.put _ _ _ _
    have M4 : Hid (Below w.heap.size w ((w1.alloc (Obj.cells (lkC 0 (.slice none 0 0) (.slice none 0 0) z16) 89)).setRow w1.heap.size (lkC tol (.slice sa n sc) (.slice ea m ec) (wsC c)))) := below_setRow (HB1.out.trans (hba.mono HB1.out.size)) HB1.out.size _
    clear hba R1 HB1
    have HHI := Lib.hid (fun (V : World) (hb : Below w.heap.size w V) => highest_any c (.slice sa n sc) (.slice ea m ec) (wsC c) (wsC_length _) (wsC_bd c HV.out) V (HC.out.below hb) HV.out)
    have HXL : Hid (hx.length = 5) := by show _ = _; rw [← HHX.out]; exact highC_len _ _
    rw [HTOL.out, HHX.out, HCAN.out] at HHI
    go_wp2_with (first | (refine lk_store rfl (.tmp 5) (.tmp 12) rfl w1.heap.size rfl tol sa ea n m sc ec (wsC c) 0 (.slice none 0 0) (.slice none 0 0) z16 rfl N0.out (wsC_length _) rfl rfl ?_; generalize hWS : (w1.alloc (Obj.cells (lkC 0 (.slice none 0 0) (.slice none 0 0) z16) 89)).setRow w1.heap.size (lkC tol (.slice sa n sc) (.slice ea m ec) (wsC c)) = W2 at *; clear hWS) | (refine lk_loadw (by rfl) (.tmp 5) rfl w1.heap.size rfl tol (.slice sa n sc) (.slice ea m ec) (wsC c) M3.out (wsC_length _) ?_))
    refine (HHI.out _ M4.out).mono ?_
    rintro e w3 ⟨rfl, hb3⟩
    have N4 : Hid (ChBlk (w3.alloc (Obj.cells (chC z5) 96)) w3.heap.size z5) := heap_alloc_new w3 _
    have hb5 : Below w3.heap.size w3 ((w3.alloc (Obj.cells (chC z5) 96)).setRow w3.heap.size (chC hx)) := below_setRow ((Below.refl _ _).alloc (Nat.le_refl _) _) (Nat.le_refl _) _
    have hb6 := hb3.trans (hb5.mono hb3.size)
    have O1 := Lib.hid ((hb6.block _ (lt_of_block M1.out)).trans M1.out)
    have O3 := Lib.hid (M3.out.below hb6 M3.out.lt)
    have O4 := Lib.hid (M4.out.trans (hb6.mono M4.out.size))
    have OP : Hid (ChBlk ((w3.alloc (Obj.cells (chC z5) 96)).setRow w3.heap.size (chC hx)) w3.heap.size hx) := N4.out.put hx
    have hzp := HZP.out
    clear hb3 hb5 hb6 HHI M1 M3 M4
    cases can
    · go_wp2_with (first | (refine ch_store rfl (.tmp 6) (.tmp 20) rfl w3.heap.size rfl hx z5 rfl N4.out HXL.out rfl rfl ?_; generalize hWS : (w3.alloc (Obj.cells (chC z5) 96)).setRow w3.heap.size (chC hx) = W5 at *; clear hWS))
      go_ret3
      exact ⟨fun h => absurd HE0.out h, fun _ _ => rfl, fun _ h => absurd (HCAN.out.symm.trans h) (by simp), O4.out⟩
    · obtain ⟨r, z, hr, hrl, hz, hzl, h3, h4⟩ := cheap_ends c HV.out (wsC c) HCAN.out
      have HR := Lib.hid hr
      have HRL := Lib.hid hrl
      have HRB := Lib.hid (cheap_small c HV.out (wsC c) r z hz h3 h4)
      have HCH := Lib.hid (fun (V : World) (hb : Below w.heap.size w V) => cheapest_any c HV.out (.slice sa n sc) (.slice ea m ec) (wsC c) (wsC_length _) (highC c (wsC c)).1 r (high_at c HV.out (wsC c) HCAN.out) (highC_true c HV.out (wsC c) HCAN.out).2.2 hr V (HC.out.below hb))
      have HCO := Lib.hid (fun (V : World) (hb : Below w.heap.size w V) => cost_any c (.slice sa n sc) (.slice ea m ec) (wsC c) (wsC_length _) r hrl (fun i => by have := HRB.out i; omega) HRB.out V (HC.out.below hb) HV.out)
      rw [HTOL.out] at HCO
      rw [HTOL.out, HHX.out] at HCH
      clear hr hrl hz hzl h3 h4
      go_wp2_with (first | (refine ch_store rfl (.tmp 6) (.tmp 20) rfl w3.heap.size rfl hx z5 rfl N4.out HXL.out rfl rfl ?_; generalize hWS : (w3.alloc (Obj.cells (chC z5) 96)).setRow w3.heap.size (chC hx) = W5 at *; clear hWS) | (refine lk_loadw (by rfl) (.tmp 5) rfl w1.heap.size rfl tol (.slice sa n sc) (.slice ea m ec) (wsC c) O3.out (wsC_length _) ?_) | (refine ch_loadw (by rfl) (.tmp 6) rfl w3.heap.size rfl hx OP.out HXL.out ?_))
      refine (HCH.out _ O4.out).mono ?_
      rintro e w6 ⟨rfl, hb3⟩
      have N6 : Hid (ChBlk (w6.alloc (Obj.cells (chC z5) 96)) w6.heap.size z5) := heap_alloc_new w6 _
      have hb5 : Below w6.heap.size w6 ((w6.alloc (Obj.cells (chC z5) 96)).setRow w6.heap.size (chC r)) := below_setRow ((Below.refl _ _).alloc (Nat.le_refl _) _) (Nat.le_refl _) _
      have hb6 := hb3.trans (hb5.mono hb3.size)
      have P1 := Lib.hid ((hb6.block _ (lt_of_block O1.out)).trans O1.out)
      have P3 := Lib.hid (O3.out.below hb6 O3.out.lt)
      have P4 := Lib.hid (O4.out.trans (hb6.mono O4.out.size))
      have PR : Hid (ChBlk ((w6.alloc (Obj.cells (chC z5) 96)).setRow w6.heap.size (chC r)) w6.heap.size r) := N6.out.put r
      have hw67 : w1.heap.size < w6.heap.size := Nat.lt_of_lt_of_le O3.out.lt hb3.size
      clear hb3 hb5 hb6 HCH O1 O3 O4 OP N4
      go_wp2_with (first | (refine ch_store rfl (.tmp 8) (.tmp 26) rfl w6.heap.size rfl r z5 rfl N6.out HRL.out rfl rfl ?_; generalize hWS : (w6.alloc (Obj.cells (chC z5) 96)).setRow w6.heap.size (chC r) = W7 at *; clear hWS; have r2 := cellOf P1.out 1 _ rfl; have rl := lt_of_block P1.out) | (at_make; refine wpList_make_full _ rfl _ _ 26 rfl W7.heap.size 3 i0 (.int .i64 0) 1 Try.underlying26 hi0 HI0.out.1 HI0.out.2.1 .i64 .i64 _ _ n rfl rfl rfl rfl ?c1 ?c2 (Nat.le_refl _) ?_))
      case c1 => rw [HI0.out.2.2]; omega
      case c2 => unfold maxLen; omega
      intro w8 hown hgr
      have hb6 : Below W7.heap.size W7 w8 := (Below.refl W7.heap.size W7).grown hgr (Nat.le_refl _) (by simp)
      have PR8 := Lib.hid (PR.out.below hb6 PR.out.lt)
      have Q3 := Lib.hid (P3.out.below hb6 P3.out.lt)
      have Q4 := Lib.hid (P4.out.trans (hb6.mono P4.out.size))
      have HOW := Lib.hid hown
      have hpl := PR8.out.lt
      have hpl5 := PR.out.lt
      have hw5 := P4.out.size
      clear hown hgr hb6 N6 P1 P3 P4
      try clear r2
      try clear rl
      obtain ⟨g5, hg5⟩ : ∃ g, W7.heap.size = g := ⟨_, rfl⟩
      rw [hg5] at HOW hpl5 hw5 ⊢
      clear hg5 PR
      have S3 : Hid (LkBlk (w8.setRow g5 (chC (r.take n))) w1.heap.size tol (.slice sa n sc) (.slice ea m ec) (wsC c)) := (setRow_other _ _ _ _ (by omega)).trans Q3.out
      have SR : Hid (ChBlk (w8.setRow g5 (chC (r.take n))) w6.heap.size r) := (setRow_other _ _ _ _ (by omega)).trans PR8.out
      have S4 : Hid (Below w.heap.size w (w8.setRow g5 (chC (r.take n)))) := below_setRow Q4.out (by omega) _
      clear Q3 Q4
      go_wp2_with (first | (refine copy_arr rfl (.tmp 31) (.tmp 32) rfl g5 w6.heap.size n 5 _ _ _ r HOW.out PR8.out HRL.out n5 (by decide) rfl rfl ?_; intro hia; have HIA := Lib.hid hia; clear hia HOW PR8; generalize hWS : w8.setRow g5 (chC (r.take n)) = W9 at *; clear hWS) | (refine lk_loadw (by rfl) (.tmp 5) rfl w1.heap.size rfl tol (.slice sa n sc) (.slice ea m ec) (wsC c) S3.out (wsC_length _) ?_) | (refine ch_loadw (by rfl) (.tmp 8) rfl w6.heap.size rfl r SR.out HRL.out ?_))
      refine (HCO.out _ S4.out).mono ?_
      rintro e w10 ⟨rfl, hb3⟩
      have HIB := Lib.hid (HIA.out.below hb3)
      have T4 := Lib.hid (S4.out.trans (hb3.mono S4.out.size))
      clear hb3 HCO S3 SR S4 HIA
      go_wp2_with fail
      go_ret3
      refine ⟨fun h => absurd HE0.out h, fun _ h => absurd (HCAN.out.symm.trans h) (by simp), fun _ _ r' hr' => ?_, T4.out⟩
      obtain rfl : r' = r := by have h := HR.out; rw [hr'] at h; simpa using h
      rw [← HNN.out]
      exact ⟨_, rfl, HIB.out⟩
  · have he := hno h0
    have HE0 := Lib.hid h0
    obtain ⟨er, her⟩ : ∃ x, errC c = x := ⟨_, rfl⟩
    have HER := Lib.hid her
    rw [her] at he h0
    subst he
    clear her
    have tz : (er != 0) = true := by simp [h0]
    clear hok hno
    have M1 : Hid (((w1.alloc (Obj.cells (lkC 0 (.slice none 0 0) (.slice none 0 0) z16) 89)).setRow w1.heap.size (lkC 0 (.slice none 0 0) (.slice none 0 0) z16)).heap[w.heap.size]? = some (Obj.cells #[.int .i64 tol, .slice sa n sc, .slice ea m ec] 25)) := (setRow_other _ _ _ _ (by omega)).trans ((hba.block _ (lt_of_block R1.out)).trans R1.out)
    have M3 : Hid (LkBlk ((w1.alloc (Obj.cells (lkC 0 (.slice none 0 0) (.slice none 0 0) z16) 89)).setRow w1.heap.size (lkC 0 (.slice none 0 0) (.slice none 0 0) z16)) w1.heap.size 0 (.slice none 0 0) (.slice none 0 0) z16) := N0.out.put _ _ _ _
    have M4 : Hid (Below w.heap.size w ((w1.alloc (Obj.cells (lkC 0 (.slice none 0 0) (.slice none 0 0) z16) 89)).setRow w1.heap.size (lkC 0 (.slice none 0 0) (.slice none 0 0) z16))) := below_setRow (HB1.out.trans (hba.mono HB1.out.size)) HB1.out.size _
    clear hba R1 HB1
    go_wp2_with (first | (refine lk_store rfl (.tmp 5) (.tmp 12) rfl w1.heap.size rfl 0 none none 0 0 0 0 z16 0 (.slice none 0 0) (.slice none 0 0) z16 rfl N0.out rfl rfl rfl ?_; generalize hWS : (w1.alloc (Obj.cells (lkC 0 (.slice none 0 0) (.slice none 0 0) z16) 89)).setRow w1.heap.size (lkC 0 (.slice none 0 0) (.slice none 0 0) z16) = W2 at *; clear hWS))
    go_ret3
    exact ⟨fun _ => by rw [HER.out]; rfl, fun h => absurd h HE0.out, fun h => absurd h HE0.out, M4.out⟩
end Go.Proofs.Ytojdocomkhihoaa
namespace Go.Proofs.Ytojdocomkhihoaa
open Go Go.RowKit Go.Shelf Ed

theorem highGo_no (c : Cas) (ws : List Int) : ∀ (g : Nat) (x : List Int), (highGo c ws g x).2 = false → (highGo c ws g x).1 = z5 := by
  intro g
  induction g with
  | zero => intro x _; rfl
  | succ g ih =>
    intro x h
    simp only [highGo] at h ⊢
    split at h
    · simp at h
    · rename_i h1
      rw [if_neg h1]
      split at h
      · rename_i h2; rw [if_pos h2]
      · rename_i h2; rw [if_neg h2]; exact ih _ h
theorem high_bd (c : Cas) (hv : Valid c) (ws : List Int) (i : Nat) : -900 ≤ (highC c ws).1.getD i 0 ∧ (highC c ws).1.getD i 0 ≤ 900 := by
  cases h : (highC c ws).2
  · have e : (highC c ws).1 = z5 := highGo_no c ws 5 _ h
    rw [e]
    rcases Nat.lt_or_ge i 5 with h | h
    · rw [(show ∀ j, j < 5 → z5.getD j 0 = 0 by decide) i h]; omega
    · rw [List.getD_eq_getElem?_getD, List.getElem?_eq_none (by simpa [z5] using h)]; simp
  · exact (high_at c hv ws h).bd hv i
/-- What Range answers. -/
def rangeE (c : Cas) (i : Int) : (Int × Int) × Int :=
  if errC c ≠ 0 then ((0, 0), errC c) else if inB 0 ((c.shs.length : Int) - 1) i = false then ((0, 0), 4) else if (highC c (wsC c)).2 = false then ((0, 0), 9) else ((-(highC c (turnW (wsC c))).1.getD i.toNat 0, (highC c (wsC c)).1.getD i.toNat 0), 0)
set_option maxRecDepth 100000 in
set_option maxHeartbeats 8000000 in
theorem rangeT_any (c : Cas) (sv ev : Value) (i : Int) (w : World) (hC : CasAt w c sv ev) :
    Calls Try.prog 25 #[.agg #[.int .i64 c.tol, sv, ev], .int .i64 i] w fun e w' => e = .returned (.tuple #[.agg #[.int .i64 (rangeE c i).1.1, .int .i64 (rangeE c i).1.2], .int .i64 (rangeE c i).2]) ∧ Below w.heap.size w w' := by
  obtain ⟨sa, n, sc, rfl, hn⟩ : ∃ a n cc, sv = .slice a n cc ∧ n = c.shs.length := by obtain ⟨_, a, cap, h, _⟩ := hC.shs; exact ⟨_, _, _, h, rfl⟩
  obtain ⟨ea, m, ec, rfl, hm⟩ : ∃ a n cc, ev = .slice a n cc ∧ n = c.eds.length := by obtain ⟨_, a, cap, h, _⟩ := hC.eds; exact ⟨_, _, _, h, rfl⟩
  have HNN := Lib.hid hn
  have HMM := Lib.hid hm
  have nlim : (n : Int) ≤ 4611686018427387904 := by have := hC.shs.1; omega
  have mlim : (m : Int) ≤ 4611686018427387904 := by have := hC.eds.1; omega
  obtain ⟨tol, htol⟩ : ∃ t, c.tol = t := ⟨_, rfl⟩
  have HTOL := Lib.hid htol
  obtain ⟨W, hW, q1, q2, hba, hsz⟩ := al2 w (Obj.cells #[.int .i64 tol, .slice sa n sc, .slice ea m ec] 25) (Obj.cells #[.int .i64 0, .int .i64 0] 31)
  have Q2 := Lib.hid q2
  have HLK := Lib.hid (look_any c _ _ W (hC.below hba))
  rw [HTOL.out] at HLK
  rw [htol]
  have HW := Lib.hid hW
  have Q1 := Lib.hid q1
  have HB := Lib.hid hba
  have HC := Lib.hid hC
  have HZL := Lib.hid (zero_of_info lkZero).1
  have HZP := Lib.hid (zero_of_info chZero).1
  obtain ⟨hx, hhx⟩ : ∃ x, (highC c (wsC c)).1 = x := ⟨_, rfl⟩
  obtain ⟨can, hcan⟩ : ∃ x, (highC c (wsC c)).2 = x := ⟨_, rfl⟩
  obtain ⟨lx, hlx⟩ : ∃ x, (highC c (turnW (wsC c))).1 = x := ⟨_, rfl⟩
  obtain ⟨lcan, hlcan⟩ : ∃ x, (highC c (turnW (wsC c))).2 = x := ⟨_, rfl⟩
  obtain ⟨res, hres⟩ : ∃ r, rangeE c i = r := ⟨_, rfl⟩
  have HRS : Hid (res = if errC c ≠ 0 then ((0, 0), errC c) else if inB 0 ((n : Int) - 1) i = false then ((0, 0), 4) else if can = false then ((0, 0), 9) else ((-lx.getD i.toNat 0, hx.getD i.toNat 0), 0)) := by show _ = _; rw [← hres, hn, ← hcan, ← hlx, ← hhx]; rfl
  rw [hres]
  have HHX := Lib.hid hhx
  have HCAN := Lib.hid hcan
  have HLX := Lib.hid hlx
  have HLC := Lib.hid hlcan
  clear hhx hcan hlx hlcan hres
  clear hW q1 hba hC htol hn hm q2 hsz
  go_enter Try.func25, Try.ntmps25
  go_wp2_with fail
  rw [HW.out]
  refine HLK.out.mono ?_
  rintro e w1 ⟨hok, hno, hb⟩
  have HB1 := Lib.hid (HB.out.trans (hb.mono HB.out.size))
  have R1 := Lib.hid ((hb.block _ (lt_of_block Q1.out)).trans Q1.out)
  have R2 := Lib.hid ((hb.block _ (lt_of_block Q2.out)).trans Q2.out)
  clear hb HB Q1 HW HLK Q2
  have hba : Below w1.heap.size w1 (w1.alloc (Obj.cells (lkC 0 (.slice none 0 0) (.slice none 0 0) z16) 89)) := (Below.refl _ _).alloc (Nat.le_refl _) _
  have N0 : Hid (LkBlk (w1.alloc (Obj.cells (lkC 0 (.slice none 0 0) (.slice none 0 0) z16) 89)) w1.heap.size 0 (.slice none 0 0) (.slice none 0 0) z16) := heap_alloc_new w1 _
  have hz := HZL.out
  have hwl : w.heap.size < w1.heap.size := lt_of_block R1.out
  have hwl2 : w.heap.size + 1 < w1.heap.size := lt_of_block R2.out
  by_cases h0 : errC c = 0
  · have he := hok h0
    rw [HTOL.out] at he
    subst he
    have HV := Lib.hid (valid_of h0)
    have HE0 := Lib.hid h0
    have n5 : n ≤ 5 := by rw [HNN.out]; exact HV.out.n5
    have m8 : m ≤ 8 := by rw [HMM.out]; exact HV.out.m8
    have n1 : 1 ≤ n := by rw [HNN.out]; exact HV.out.n1
    have nI5 : (n : Int) ≤ 5 := by omega
    have mI8 : (m : Int) ≤ 8 := by omega
    clear hok hno h0
    have M1 : Hid (((w1.alloc (Obj.cells (lkC 0 (.slice none 0 0) (.slice none 0 0) z16) 89)).setRow w1.heap.size (lkC tol (.slice sa n sc) (.slice ea m ec) (wsC c))).heap[w.heap.size]? = some (Obj.cells #[.int .i64 tol, .slice sa n sc, .slice ea m ec] 25)) := (setRow_other _ _ _ _ (by omega)).trans ((hba.block _ (lt_of_block R1.out)).trans R1.out)
    have M2 : Hid (((w1.alloc (Obj.cells (lkC 0 (.slice none 0 0) (.slice none 0 0) z16) 89)).setRow w1.heap.size (lkC tol (.slice sa n sc) (.slice ea m ec) (wsC c))).heap[w.heap.size + 1]? = some (Obj.cells #[.int .i64 0, .int .i64 0] 31)) := (setRow_other _ _ _ _ (by omega)).trans ((hba.block _ (lt_of_block R2.out)).trans R2.out)
    have M3 : Hid (LkBlk ((w1.alloc (Obj.cells (lkC 0 (.slice none 0 0) (.slice none 0 0) z16) 89)).setRow w1.heap.size (lkC tol (.slice sa n sc) (.slice ea m ec) (wsC c))) w1.heap.size tol (.slice sa n sc) (.slice ea m ec) (wsC c)) := N0.out.put _ _ _ _
    have M4 : Hid (Below w.heap.size w ((w1.alloc (Obj.cells (lkC 0 (.slice none 0 0) (.slice none 0 0) z16) 89)).setRow w1.heap.size (lkC tol (.slice sa n sc) (.slice ea m ec) (wsC c)))) := below_setRow (HB1.out.trans (hba.mono HB1.out.size)) HB1.out.size _
    clear hba R1 HB1 R2
    rw [if_neg (by simp [HE0.out])] at HRS
    have HHI := Lib.hid (fun (V : World) (hb : Below w.heap.size w V) => highest_any c (.slice sa n sc) (.slice ea m ec) (wsC c) (wsC_length _) (wsC_bd c HV.out) V (HC.out.below hb) HV.out)
    have HHT := Lib.hid (fun (V : World) (hb : Below w.heap.size w V) => highest_any c (.slice sa n sc) (.slice ea m ec) (turnW (wsC c)) (turnTo_length _ _) (turnW_bd _ (wsC_bd c HV.out)) V (HC.out.below hb) HV.out)
    have HTU := Lib.hid (fun (V : World) => turned_any tol sa ea n sc m ec (wsC c) (wsC_length _) (wsC_bd c HV.out) V)
    have HXL : Hid (hx.length = 5) := by show _ = _; rw [← HHX.out]; exact highC_len _ _
    have LXL : Hid (lx.length = 5) := by show _ = _; rw [← HLX.out]; exact highC_len _ _
    have HXB : Hid (∀ i, -900 ≤ hx.getD i 0 ∧ hx.getD i 0 ≤ 900) := by intro i; rw [← HHX.out]; exact high_bd c HV.out _ i
    have LXB : Hid (∀ i, -900 ≤ lx.getD i 0 ∧ lx.getD i 0 ≤ 900) := by intro i; rw [← HLX.out]; exact high_bd c HV.out _ i
    rw [HTOL.out, HHX.out, HCAN.out] at HHI
    rw [HTOL.out, HLX.out, HLC.out] at HHT
    go_wp2_with (refine lk_store rfl (.tmp 6) (.tmp 15) rfl w1.heap.size rfl tol sa ea n m sc ec (wsC c) 0 (.slice none 0 0) (.slice none 0 0) z16 rfl N0.out (wsC_length _) rfl rfl ?_; generalize hWS : (w1.alloc (Obj.cells (lkC 0 (.slice none 0 0) (.slice none 0 0) z16) 89)).setRow w1.heap.size (lkC tol (.slice sa n sc) (.slice ea m ec) (wsC c)) = W2 at *; clear hWS; have r2 := cellOf M1.out 1 _ rfl; have rl := lt_of_block M1.out)
    have h1 := within_1 0 ((n : Int) - 1) i W2 W2.heap.size 3 rfl
    obtain ⟨B1, hB1⟩ : ∃ B, okIn 0 ((n : Int) - 1) i = B := ⟨_, rfl⟩
    have HB1v : Hid (inB 0 ((n : Int) - 1) i = B1) := hB1
    rw [hB1] at h1
    rw [HB1v.out] at HRS
    have HC1 := Lib.hid h1
    clear h1 hB1
    refine HC1.out.mono ?_
    rintro e w3 ⟨rfl, rfl⟩
    clear HC1 r2 rl
    have hb1 : Below W2.heap.size W2 (W2.alloc (Obj.cells #[.int .i64 i] 3)) := by go_grown
    have L1 := Lib.hid ((hb1.block _ (lt_of_block M1.out)).trans M1.out)
    have L2 := Lib.hid ((hb1.block _ (lt_of_block M2.out)).trans M2.out)
    have L3 := Lib.hid (M3.out.below hb1 M3.out.lt)
    have L4 := Lib.hid (M4.out.trans (hb1.mono M4.out.size))
    generalize W2.alloc (Obj.cells #[.int .i64 i] 3) = W3 at *
    clear hb1 M1 M2 M3 M4 N0 hz
    cases B1
    · rw [if_pos rfl] at HRS
      obtain rfl := HRS.out
      have s0 := cellOf L2.out 0 _ rfl; have s1 := cellOf L2.out 1 _ rfl; have f0 := frozen_of_row _ _ 0 _ _ L2.out; have f1 := frozen_of_row _ _ 1 _ _ L2.out; have sl := lt_of_block L2.out
      go_wp2_with fail
      exact bodyPost_ret (span_result2 rfl _ _ (w.heap.size + 1) _ _ rfl (two_set2 L2.out)) rfl ⟨rfl, two_below L4.out (by omega)⟩
    · rw [if_neg (by simp)] at HRS
      go_wp2_with (refine lk_loadw (by rfl) (.tmp 6) rfl w1.heap.size rfl tol (.slice sa n sc) (.slice ea m ec) (wsC c) L3.out (wsC_length _) ?_)
      refine (HHI.out _ L4.out).mono ?_
      rintro e w3 ⟨rfl, hb3⟩
      have N4 : Hid (ChBlk (w3.alloc (Obj.cells (chC z5) 96)) w3.heap.size z5) := heap_alloc_new w3 _
      have hb5 : Below w3.heap.size w3 ((w3.alloc (Obj.cells (chC z5) 96)).setRow w3.heap.size (chC hx)) := below_setRow ((Below.refl _ _).alloc (Nat.le_refl _) _) (Nat.le_refl _) _
      have hb6 := hb3.trans (hb5.mono hb3.size)
      have O2 := Lib.hid ((hb6.block _ (lt_of_block L2.out)).trans L2.out)
      have O3 := Lib.hid (L3.out.below hb6 L3.out.lt)
      have O4 := Lib.hid (L4.out.trans (hb6.mono L4.out.size))
      have OP : Hid (ChBlk ((w3.alloc (Obj.cells (chC z5) 96)).setRow w3.heap.size (chC hx)) w3.heap.size hx) := N4.out.put hx
      have hzp := HZP.out
      clear hb3 hb5 hb6 HHI L1 L2 L3 L4
      cases can
      · rw [if_pos rfl] at HRS
        obtain rfl := HRS.out
        go_wp2_with (refine ch_store rfl (.tmp 8) (.tmp 33) rfl w3.heap.size rfl hx z5 rfl N4.out HXL.out rfl rfl ?_; generalize hWS : (w3.alloc (Obj.cells (chC z5) 96)).setRow w3.heap.size (chC hx) = W5 at *; clear hWS; have s0 := cellOf O2.out 0 _ rfl; have s1 := cellOf O2.out 1 _ rfl; have f0 := frozen_of_row _ _ 0 _ _ O2.out; have f1 := frozen_of_row _ _ 1 _ _ O2.out; have sl := lt_of_block O2.out)
        exact bodyPost_ret (span_result2 rfl _ _ (w.heap.size + 1) _ _ rfl (two_set2 O2.out)) rfl ⟨rfl, two_below O4.out (by omega)⟩
      · rw [if_neg (by simp)] at HRS
        go_wp2_with (first | (refine ch_store rfl (.tmp 8) (.tmp 33) rfl w3.heap.size rfl hx z5 rfl N4.out HXL.out rfl rfl ?_; generalize hWS : (w3.alloc (Obj.cells (chC z5) 96)).setRow w3.heap.size (chC hx) = W5 at *; clear hWS) | (refine lk_loadw (by rfl) (.tmp 6) rfl w1.heap.size rfl tol (.slice sa n sc) (.slice ea m ec) (wsC c) O3.out (wsC_length _) ?_))
        refine (HTU.out _).mono ?_
        rintro e w6 ⟨rfl, hb3⟩
        have P2 := Lib.hid ((hb3.block _ (lt_of_block O2.out)).trans O2.out)
        have P4 := Lib.hid (O4.out.trans (hb3.mono O4.out.size))
        have PX := Lib.hid (OP.out.below hb3 OP.out.lt)
        clear hb3 HTU O2 O3 O4 OP N4
        go_wp2_with fail
        refine (HHT.out _ P4.out).mono ?_
        rintro e w8 ⟨rfl, hb3⟩
        have N8 : Hid (ChBlk (w8.alloc (Obj.cells (chC z5) 96)) w8.heap.size z5) := heap_alloc_new w8 _
        have hb5 : Below w8.heap.size w8 ((w8.alloc (Obj.cells (chC z5) 96)).setRow w8.heap.size (chC lx)) := below_setRow ((Below.refl _ _).alloc (Nat.le_refl _) _) (Nat.le_refl _) _
        have hb6 := hb3.trans (hb5.mono hb3.size)
        have Q2 := Lib.hid ((hb6.block _ (lt_of_block P2.out)).trans P2.out)
        have Q4 := Lib.hid (P4.out.trans (hb6.mono P4.out.size))
        have QX := Lib.hid (PX.out.below hb6 PX.out.lt)
        have QL : Hid (ChBlk ((w8.alloc (Obj.cells (chC z5) 96)).setRow w8.heap.size (chC lx)) w8.heap.size lx) := N8.out.put lx
        clear hb3 hb5 hb6 HHT P2 P4 PX
        have hi := HB1v.out
        unfold inB at hi
        simp only [Bool.and_eq_true, decide_eq_true_eq] at hi
        obtain ⟨j, rfl⟩ : ∃ j : Nat, i = j := ⟨i.toNat, by omega⟩
        have jn : j < n := by omega
        have jI : (j : Int) < 5 := by omega
        have j5 : j < 5 := by omega
        simp only [Int.toNat_natCast] at HRS
        obtain ⟨X, hX⟩ : ∃ x, hx.getD j 0 = x := ⟨_, rfl⟩
        obtain ⟨L, hL⟩ : ∃ x, lx.getD j 0 = x := ⟨_, rfl⟩
        have xb := HXB.out j
        have lb := LXB.out j
        rw [hX] at xb HRS
        rw [hL] at lb HRS
        obtain rfl := HRS.out
        have HXJ := Lib.hid hX
        have HLJ := Lib.hid hL
        clear hi hX hL HB1v HRS
        go_wp2_with (refine ch_store rfl (.tmp 10) (.tmp 42) rfl w8.heap.size rfl lx z5 rfl N8.out LXL.out rfl rfl ?_; generalize hWS : (w8.alloc (Obj.cells (chC z5) 96)).setRow w8.heap.size (chC lx) = W9 at *; clear hWS; have s0 := cellOf Q2.out 0 _ rfl; have s1 := cellOf Q2.out 1 _ rfl; have f0 := frozen_of_row _ _ 0 _ _ Q2.out; have f1 := frozen_of_row _ _ 1 _ _ Q2.out; have sl := lt_of_block Q2.out; have x0 := QX.out.cell j (by rw [HXL.out]; exact j5); have y0 := QL.out.cell j (by rw [LXL.out]; exact j5); have xl := QX.out.lt; have yl := QL.out.lt; rw [HXJ.out] at x0; rw [HLJ.out] at y0; have qn : IntKind.i64.wrap (-L) = -L := by rw [IntKind.wrap_i64] <;> omega)
        go_region
        go_wp2_with fail
        exact bodyPost_ret (span_result2 rfl _ _ (w.heap.size + 1) _ _ rfl (show (World.drew _).heap[_]? = _ from two_set2 Q2.out)) rfl ⟨rfl, (two_below Q4.out (by omega)).drew⟩
  · have he := hno h0
    have HE0 := Lib.hid h0
    obtain ⟨er, her⟩ : ∃ x, errC c = x := ⟨_, rfl⟩
    have HER := Lib.hid her
    rw [her] at he h0
    subst he
    clear her
    have tz : (er != 0) = true := by simp [h0]
    clear hok hno
    have M1 : Hid (((w1.alloc (Obj.cells (lkC 0 (.slice none 0 0) (.slice none 0 0) z16) 89)).setRow w1.heap.size (lkC 0 (.slice none 0 0) (.slice none 0 0) z16)).heap[w.heap.size]? = some (Obj.cells #[.int .i64 tol, .slice sa n sc, .slice ea m ec] 25)) := (setRow_other _ _ _ _ (by omega)).trans ((hba.block _ (lt_of_block R1.out)).trans R1.out)
    have M2 : Hid (((w1.alloc (Obj.cells (lkC 0 (.slice none 0 0) (.slice none 0 0) z16) 89)).setRow w1.heap.size (lkC 0 (.slice none 0 0) (.slice none 0 0) z16)).heap[w.heap.size + 1]? = some (Obj.cells #[.int .i64 0, .int .i64 0] 31)) := (setRow_other _ _ _ _ (by omega)).trans ((hba.block _ (lt_of_block R2.out)).trans R2.out)
    have M3 : Hid (LkBlk ((w1.alloc (Obj.cells (lkC 0 (.slice none 0 0) (.slice none 0 0) z16) 89)).setRow w1.heap.size (lkC 0 (.slice none 0 0) (.slice none 0 0) z16)) w1.heap.size 0 (.slice none 0 0) (.slice none 0 0) z16) := N0.out.put _ _ _ _
    have M4 : Hid (Below w.heap.size w ((w1.alloc (Obj.cells (lkC 0 (.slice none 0 0) (.slice none 0 0) z16) 89)).setRow w1.heap.size (lkC 0 (.slice none 0 0) (.slice none 0 0) z16))) := below_setRow (HB1.out.trans (hba.mono HB1.out.size)) HB1.out.size _
    clear hba R1 HB1 R2
    have hh0 := HE0.out
    rw [if_pos hh0, HER.out] at HRS
    clear hh0
    obtain rfl := HRS.out
    go_wp2_with (refine lk_store rfl (.tmp 6) (.tmp 15) rfl w1.heap.size rfl 0 none none 0 0 0 0 z16 0 (.slice none 0 0) (.slice none 0 0) z16 rfl N0.out rfl rfl rfl ?_; generalize hWS : (w1.alloc (Obj.cells (lkC 0 (.slice none 0 0) (.slice none 0 0) z16) 89)).setRow w1.heap.size (lkC 0 (.slice none 0 0) (.slice none 0 0) z16) = W2 at *; clear hWS; have s0 := cellOf M2.out 0 _ rfl; have s1 := cellOf M2.out 1 _ rfl; have f0 := frozen_of_row _ _ 0 _ _ M2.out; have f1 := frozen_of_row _ _ 1 _ _ M2.out; have sl := lt_of_block M2.out)
    exact bodyPost_ret (span_result2 rfl _ _ (w.heap.size + 1) _ _ rfl (two_set2 M2.out)) rfl ⟨rfl, two_below M4.out (by omega)⟩
end Go.Proofs.Ytojdocomkhihoaa
namespace Go.Proofs.Ytojdocomkhihoaa
open Go Go.RowKit Go.Shelf Ed

def caseR (b : Bool) : Cas := ⟨1, [⟨⟨#[110, 111, 114, 116, 104]⟩, 2, 6⟩, ⟨⟨#[109, 105, 100]⟩, 3, 6⟩, ⟨⟨#[115, 111, 117, 116, 104]⟩, 1, 6⟩],
  [⟨0, 1, [(100, 104), (200, 203)]⟩, ⟨1, 2, [(300, 302)]⟩, ⟨0, 2, [(400, 405)]⟩] ++ (if b then [⟨0, 2, [(500, 500)]⟩] else [])⟩
set_option maxRecDepth 100000 in
theorem v_err (b : Bool) : errC (caseR b) = 0 := by cases b <;> decide +kernel
theorem v_wants0 : wantsA (caseR false) 0 = ((3, 4), 0) := by decide +kernel
theorem v_agrees : agreesC (caseR false) [4, 0, 0] = (1, 0) := by decide +kernel
theorem v_cost : costC (caseR false) [3, 0, -1] = (7, 0) := by decide +kernel
theorem v_range1 : rangeE (caseR false) 1 = ((-5, 3), 0) := by decide +kernel
theorem v_high : (highC (caseR false) (wsC (caseR false))).2 = true := by decide +kernel
theorem v_cheap : cheapGo (caseR false) (wsC (caseR false)) 100 (highC (caseR false) (wsC (caseR false))).1 = some [3, 0, -1, 0, 0] := by decide +kernel
theorem v_costK : costK (caseR false).shs [3, 0, -1, 0, 0] 3 = 7 := by decide +kernel
theorem v_bound : boundE (caseR false) [3, 0, 0] = (3, 0) := by decide +kernel
theorem v_torn : tornK (wsC (caseR false)) 3 = false := by decide +kernel
theorem v_without : withoutC (caseR true) = [3] := by decide +kernel
theorem v_down : (highC (caseR true) (wsC (caseR true))).2 = false := by decide +kernel
theorem v_costK' : costK (caseR false).shs [3, 0, -1, 0, 0] (caseR false).shs.length = 7 := v_costK
theorem v_torn' : tornK (wsC (caseR false)) (caseR false).eds.length = false := v_torn
theorem v_proof : proofGo (caseR false) (wsC (caseR false)) 700 z8 = some [1, 0, 1, 0, 0, 0, 0, 0] := by decide +kernel
theorem v_best : boundE (caseR false) [1, 0, 1] = (7, 0) := by decide +kernel
theorem k_wants1 : wantsA (caseR false) 1 = ((1, 3), 0) := by decide +kernel
theorem k_wants2 : wantsA (caseR false) 2 = ((4, 6), 0) := by decide +kernel
theorem k_odd : agreesC (caseR false) [0, 0, 0] = (0, 0) := by decide +kernel
theorem k_even : agreesC (caseR false) [3, 0, -1] = (-1, 0) := by decide +kernel
theorem k_range0 : rangeE (caseR false) 0 = ((-2, 6), 0) := by decide +kernel
theorem k_range2 : rangeE (caseR false) 2 = ((-6, 2), 0) := by decide +kernel
theorem k_bound1 : boundE (caseR false) [-1, 0, 0] = (-4, 0) := by decide +kernel
theorem k_bound2 : boundE (caseR true) [0, 0, 13, -13] = (39, 0) := by decide +kernel
theorem k_without : withoutC (caseR false) = [] := by decide +kernel
end Go.Proofs.Ytojdocomkhihoaa
namespace Go.Proofs.Ytojdocomkhihoaa
open Go Go.RowKit Go.Shelf Ed

set_option maxRecDepth 100000 in
set_option maxHeartbeats 1000000 in
theorem ints_eq (va vb : Value) (l : List Int) (w : World) (ha : IntsAt w va l) (hb : IntsAt w vb l) :
    Calls Try.prog 29 #[va, vb] w fun e w' => e = .returned (.bool true) ∧ Below w.heap.size w w' := by
  obtain ⟨hm, a, ca, rfl, _, _⟩ := id ha
  obtain ⟨_, b, cb, rfl, _, _⟩ := id hb
  have HA := Lib.hid ha
  have HB := Lib.hid hb
  have hm' : (l.length : Int) ≤ 4611686018427387904 := by omega
  clear ha hb
  go_enter Try.func29, Try.ntmps29
  go_wp2
  go_loopg [5] l.length (fun gh i wr => ∃ k : Nat, gh + k = l.length ∧ i = .int .i64 (k : Int) ∧ Hid (Below w.heap.size w wr))
  case atStart => exact ⟨0, by omega, rfl, Below.refl _ _⟩
  case round =>
    obtain ⟨k, hk, rfl, HBB⟩ := hrel
    by_cases hlt : k < l.length
    · have kI : (k : Int) < (l.length : Int) := by omega
      obtain ⟨b1, o1, rfl, c1⟩ := (HA.out.below HBB.out).get hlt
      obtain ⟨b2, o2, rfl, c2⟩ := (HB.out.below HBB.out).get hlt
      obtain ⟨x, hx⟩ : ∃ x : Int, l[k] = x := ⟨_, rfl⟩
      rw [hx] at c1 c2
      clear hx
      go_wp2_with fail
      go_quiet (fail)
      have HBN : Hid (Below w.heap.size w (wr.drewN nq)) := HBB.out.trans ⟨rfl, rfl, rfl, Nat.le_refl _, fun _ _ => rfl⟩
      clear c1 c2
      go_wp2
      go_roundg (gk - 1)
      case measure => omega
      case rel => exact ⟨k + 1, by omega, by go_num, HBN⟩
    · have kI : ¬ (k : Int) < (l.length : Int) := by omega
      clear hlt hk
      go_wp2
      go_ret
      exact ⟨rfl, HBB.out⟩
set_option maxHeartbeats 400000 in
theorem lspan_any (lo hi : Int) (w : World) :
    Calls Try.prog 35 #[.int .i64 lo, .int .i64 hi] w fun e w' => e = .returned (.agg #[.int .i64 lo, .int .i64 hi]) ∧ Below w.heap.size w w' := by
  go_enter Try.func35, Try.ntmps35
  go_wp2
  exact bodyPost_ret (v := .agg #[.int .i64 lo, .int .i64 hi]) (by simp [results, Try.results35, go_sem]) rfl ⟨rfl, by go_grown⟩
theorem edge_result {fn : Func} {p : Tmp} (h : fn.results = #[.cell p 71]) (tmps : Array Value) (w : World) (g : Nat) (x y z : Value)
    (hp : tmps.getD p undef = .pointer (some ⟨g, 0, none⟩)) (hg : w.heap[g]? = some (.cells #[x, y, z] 71 (0, 0))) :
    (results fn tmps).run Try.prog w = .ok (.agg #[x, y, z]) w := by
  have c0 : w.cell? ⟨g, 0, none⟩ = some x := cellOf hg 0 _ rfl
  have c1 : w.cell? ⟨g, 1, none⟩ = some y := cellOf hg 1 _ rfl
  have c2 : w.cell? ⟨g, 2, none⟩ = some z := cellOf hg 2 _ rfl
  have hp' : tmps[p]?.getD undef = .pointer (some ⟨g, 0, none⟩) := by simpa using hp
  simp only [results, h]
  simp [Sem.run_bind, Result.andThen, hp', asAddr, go_sem, c0, c1, c2]
set_option maxRecDepth 100000 in
set_option maxHeartbeats 1000000 in
theorem between_any (a b h o : Int) (w : World) :
    Calls Try.prog 75 #[.int .i64 a, .int .i64 b, .int .i64 h, .int .i64 o] w fun e w' => e = .returned (.agg #[.int .i64 a, .int .i64 b, .slice (some ⟨w.heap.size + 1, 0, none⟩) 1 1]) ∧ w'.heap[w.heap.size + 1]? = some (.cells #[.int .i64 h, .int .i64 o] 74 (0, 0)) ∧ Below w.heap.size w w' := by
  obtain ⟨W, hW, q1, q2, hb, hsz⟩ := al2 w (Obj.cells #[.int .i64 a, .int .i64 b, .slice (some ⟨w.heap.size + 1, 0, none⟩) 1 1] 71) (Obj.cells #[.int .i64 h, .int .i64 o] 74)
  have HW := Lib.hid hW
  have Q1 := Lib.hid q1
  have Q2 := Lib.hid q2
  have HB := Lib.hid hb
  clear hW q1 q2 hb hsz
  go_enter Try.func75, Try.ntmps75
  go_wp2_with fail
  rw [HW.out]
  exact bodyPost_ret (edge_result rfl _ _ w.heap.size _ _ _ rfl Q1.out) rfl ⟨rfl, Q2.out, HB.out⟩
/-- What is known of the case that Case builds, but for the edges' own row. -/
structure Kp (w0 : World) (R C : Obj) (ge g2 g3 pb pc : Nat) (W : World) : Prop where
  sh : W.heap[w0.heap.size + 1]? = some (.cells #[.string ⟨#[110, 111, 114, 116, 104]⟩, .int .i64 2, .int .i64 6, .string ⟨#[109, 105, 100]⟩, .int .i64 3, .int .i64 6, .string ⟨#[115, 111, 117, 116, 104]⟩, .int .i64 1, .int .i64 6] 66 (0, 0))
  ca : W.heap[ge + 1]? = some C
  rs : W.heap[w0.heap.size]? = some R
  p1 : W.ownsRow w0.heap.size 74 2 (.slice (some ⟨pb, 0, none⟩) 2 pc) 2 [.int .i64 100, .int .i64 104, .int .i64 200, .int .i64 203]
  p2 : W.heap[g2]? = some (.cells #[.int .i64 300, .int .i64 302] 74 (0, 0))
  p3 : W.heap[g3]? = some (.cells #[.int .i64 400, .int .i64 405] 74 (0, 0))
  bl : Below w0.heap.size w0 W
theorem own_ne {V W : World} {B e size n c b : Nat} {xs : List Value} (h : V.ownsRow B e size (.slice (some ⟨b, 0, none⟩) n c) n xs) (hw : ∀ x, V.heap[b]? = some x → W.heap[b]? = some x) : W.ownsRow B e size (.slice (some ⟨b, 0, none⟩) n c) n xs := by
  obtain ⟨h0, h⟩ := h
  refine ⟨h0, ?_⟩
  rcases h with ⟨h, _⟩ | ⟨g, cap, cur, r1, r2, r3, r4⟩
  · cases h
  · have e : b = g := by injection r1 with e1; injection e1 with e2; injection e2
    subst e
    exact .inr ⟨b, cap, cur, r1, r2, hw _ r3, r4⟩
theorem Kp.to {w0 V W : World} {R C R' C' : Obj} {ge g2 g3 pb pc q : Nat} (h : Kp w0 R C ge g2 g3 pb pc V) (hs : ∀ k x, k ≠ q → V.heap[k]? = some x → W.heap[k]? = some x) (h1 : w0.heap.size + 1 ≠ q) (h2 : g2 ≠ q) (h3 : g3 ≠ q) (hp : pb ≠ q)
    (hC : W.heap[ge + 1]? = some C') (hR : W.heap[w0.heap.size]? = some R') (hb : Below w0.heap.size w0 W) : Kp w0 R' C' ge g2 g3 pb pc W :=
  ⟨hs _ _ h1 h.sh, hC, hR, own_ne h.p1 (fun x => hs _ x hp), hs _ _ h2 h.p2, hs _ _ h3 h.p3, hb⟩
theorem Kp.below {w0 V W : World} {R C : Obj} {ge g2 g3 pb pc : Nat} (h : Kp w0 R C ge g2 g3 pb pc V) (hb : Below V.heap.size V W) : Kp w0 R C ge g2 g3 pb pc W :=
  ⟨(hb.block _ (lt_of_block h.sh)).trans h.sh, (hb.block _ (lt_of_block h.ca)).trans h.ca, (hb.block _ (lt_of_block h.rs)).trans h.rs, own_below h.p1 hb, (hb.block _ (lt_of_block h.p2)).trans h.p2, (hb.block _ (lt_of_block h.p3)).trans h.p3, h.bl.trans (hb.mono h.bl.size)⟩
theorem cells3_at (V : World) (t : TypeId) (x y z : Value) (b : Nat) (hb : V.heap.size = b) : ∀ j u, [x, y, z][j]? = some u → (V.alloc (Obj.cells #[x, y, z] t)).cell? ((⟨b, 0, none⟩ : Addr).add j) = some u := by
  subst hb
  intro j u hj
  match j, hj with
  | 0, hj => simp at hj; subst hj; exact cellOf (heap_alloc_new V (Obj.cells #[x, y, z] t)) 0 _ rfl
  | 1, hj => simp at hj; subst hj; exact cellOf (heap_alloc_new V (Obj.cells #[x, y, z] t)) 1 _ rfl
  | 2, hj => simp at hj; subst hj; exact cellOf (heap_alloc_new V (Obj.cells #[x, y, z] t)) 2 _ rfl
  | j + 3, hj => simp at hj
/-- A case stored to its block, cell by cell. -/
def put3 (V : World) (g : Nat) (a b c : Value) : World := ((V.setCell ⟨g, 0, none⟩ a).setCell ⟨g, 1, none⟩ b).setCell ⟨g, 2, none⟩ c
theorem put3_at {V : World} {g : Nat} {x y z a b c : Value} {t : TypeId} (h : V.heap[g]? = some (.cells #[x, y, z] t (0, 0))) : (put3 V g a b c).heap[g]? = some (.cells #[a, b, c] t (0, 0)) :=
  heap_setCell_same _ g 2 _ _ c (heap_setCell_same _ g 1 _ _ b (heap_setCell_same V g 0 _ _ a h))
theorem put3_other {V : World} {g : Nat} {a b c : Value} {k : Nat} {x : Obj} (hk : k ≠ g) (h : V.heap[k]? = some x) : (put3 V g a b c).heap[k]? = some x :=
  (heap_setCell_other _ ⟨g, 2, none⟩ k _ hk).trans ((heap_setCell_other _ ⟨g, 1, none⟩ k _ hk).trans ((heap_setCell_other _ ⟨g, 0, none⟩ k _ hk).trans h))
theorem put3_below {B : Nat} {w V : World} {g : Nat} {a b c : Value} (h : Below B w V) (hg : B ≤ g) : Below B w (put3 V g a b c) :=
  ((h.setCell (p := ⟨g, 0, none⟩) hg a).setCell (p := ⟨g, 1, none⟩) hg b).setCell (p := ⟨g, 2, none⟩) hg c
theorem case_result {fn : Func} {p : Tmp} (h : fn.results = #[.cell p 25]) (tmps : Array Value) (w : World) (g : Nat) (x y z : Value)
    (hp : tmps.getD p undef = .pointer (some ⟨g, 0, none⟩)) (hg : w.heap[g]? = some (.cells #[x, y, z] 25 (0, 0))) :
    (results fn tmps).run Try.prog w = .ok (.agg #[x, y, z]) w := by
  have c0 : w.cell? ⟨g, 0, none⟩ = some x := cellOf hg 0 _ rfl
  have c1 : w.cell? ⟨g, 1, none⟩ = some y := cellOf hg 1 _ rfl
  have c2 : w.cell? ⟨g, 2, none⟩ = some z := cellOf hg 2 _ rfl
  have hp' : tmps[p]?.getD undef = .pointer (some ⟨g, 0, none⟩) := by simpa using hp
  simp only [results, h]
  simp [Sem.run_bind, Result.andThen, hp', asAddr, go_sem, c0, c1, c2]
/-- The points of an edge of two. -/
theorem pairs_own2 {V : World} {B b c : Nat} {x0 y0 x1 y1 : Int} (h : V.ownsRow B 74 2 (.slice (some ⟨b, 0, none⟩) 2 c) 2 [.int .i64 x0, .int .i64 y0, .int .i64 x1, .int .i64 y1]) : PairsAt V (.slice (some ⟨b, 0, none⟩) 2 c) [(x0, y0), (x1, y1)] := by
  have hc : 2 ≤ c := by
    rcases h.2 with ⟨h, _⟩ | ⟨g, cap, cur, r1, r2, r3, r4, _⟩
    · cases h
    · injection r1 with e1 e2 e3; omega
  refine ⟨by simp, _, c, rfl, hc, fun _ => ⟨b, 0, rfl, fun k hk => ?_⟩⟩
  match k, hk with
  | 0, _ => exact ⟨(h.cellAt 0 (by decide)).trans rfl, (h.cellAt 1 (by decide)).trans rfl⟩
  | 1, _ => exact ⟨(h.cellAt 2 (by decide)).trans rfl, (h.cellAt 3 (by decide)).trans rfl⟩
  | k + 2, hk => simp at hk; omega
theorem pairs_blk {V : World} {b : Nat} {x y : Int} (h : V.heap[b]? = some (.cells #[.int .i64 x, .int .i64 y] 74 (0, 0))) : PairsAt V (.slice (some ⟨b, 0, none⟩) 1 1) [(x, y)] := by
  refine ⟨by simp, _, 1, rfl, by simp, fun _ => ⟨b, 0, rfl, fun k hk => ?_⟩⟩
  match k, hk with
  | 0, _ => exact ⟨cellOf h 0 _ rfl, cellOf h 1 _ rfl⟩
  | k + 1, hk => simp at hk
theorem Kp.shs {w0 W : World} {R C : Obj} {ge g2 g3 pb pc : Nat} (h : Kp w0 R C ge g2 g3 pb pc W) (f : Bool) : ShtsAt W (.slice (some ⟨w0.heap.size + 1, 0, none⟩) 3 3) (caseR f).shs := by
  refine ⟨by simp [caseR], _, 3, rfl, by simp [caseR], ?_, fun _ => ⟨_, 0, rfl, fun k hk => ?_⟩⟩
  · intro s hs
    simp [caseR] at hs
    rcases hs with rfl | rfl | rfl <;> decide
  · match k, hk with
    | 0, _ => exact ⟨cellOf h.sh 0 _ rfl, cellOf h.sh 1 _ rfl, cellOf h.sh 2 _ rfl⟩
    | 1, _ => exact ⟨cellOf h.sh 3 _ rfl, cellOf h.sh 4 _ rfl, cellOf h.sh 5 _ rfl⟩
    | 2, _ => exact ⟨cellOf h.sh 6 _ rfl, cellOf h.sh 7 _ rfl, cellOf h.sh 8 _ rfl⟩
    | k + 3, hk => simp [caseR] at hk; omega
def PP (pb pc g2 g3 g4 : Nat) : Nat → Value
  | 0 => .slice (some ⟨pb, 0, none⟩) 2 pc
  | 1 => .slice (some ⟨g2, 0, none⟩) 1 1
  | 2 => .slice (some ⟨g3, 0, none⟩) 1 1
  | _ => .slice (some ⟨g4, 0, none⟩) 1 1
theorem Kp.eds3 {w0 W : World} {R C : Obj} {ge g2 g3 pb pc B : Nat} {v : Value} (h : Kp w0 R C ge g2 g3 pb pc W) (ho : W.ownsRow B 71 3 v 3 [.int .i64 0, .int .i64 1, .slice (some ⟨pb, 0, none⟩) 2 pc, .int .i64 1, .int .i64 2, .slice (some ⟨g2, 0, none⟩) 1 1, .int .i64 0, .int .i64 2, .slice (some ⟨g3, 0, none⟩) 1 1]) : EdgsAt W v (caseR false).eds := by
  have h' := edgsAt_own (w := W) (base := B) (v := v) (eds := (caseR false).eds) (P := PP pb pc g2 g3 0) (js := [0, 1, 2]) ho (by decide) (fun j hj => by
    simp at hj
    rcases hj with rfl | rfl | rfl
    · exact pairs_own2 h.p1
    · exact pairs_blk h.p2
    · exact pairs_blk h.p3)
  exact h'
theorem Kp.eds4 {w0 W : World} {R C : Obj} {ge g2 g3 g4 pb pc B : Nat} {v : Value} (h : Kp w0 R C ge g2 g3 pb pc W) (h4 : W.heap[g4]? = some (.cells #[.int .i64 500, .int .i64 500] 74 (0, 0))) (ho : W.ownsRow B 71 3 v 4 [.int .i64 0, .int .i64 1, .slice (some ⟨pb, 0, none⟩) 2 pc, .int .i64 1, .int .i64 2, .slice (some ⟨g2, 0, none⟩) 1 1, .int .i64 0, .int .i64 2, .slice (some ⟨g3, 0, none⟩) 1 1, .int .i64 0, .int .i64 2, .slice (some ⟨g4, 0, none⟩) 1 1]) : EdgsAt W v (caseR true).eds := by
  have h' := edgsAt_own (w := W) (base := B) (v := v) (eds := (caseR true).eds) (P := PP pb pc g2 g3 g4) (js := [0, 1, 2, 3]) ho (by decide) (fun j hj => by
    simp at hj
    rcases hj with rfl | rfl | rfl | rfl
    · exact pairs_own2 h.p1
    · exact pairs_blk h.p2
    · exact pairs_blk h.p3
    · exact pairs_blk h4)
  exact h'
theorem pointInfo : (Try.prog.info? 74).map (fun i => (i.zero, i.size, i.bytes)) = some (some (.agg #[.int .i64 0, .int .i64 0]), 2, 16) := by kernel_rfl
set_option maxRecDepth 100000 in
set_option maxHeartbeats 4000000 in
theorem case_any (f : Bool) (w : World) :
    Calls Try.prog 34 #[.bool f] w fun e w' => ∃ sv ev, e = .returned (.agg #[.int .i64 1, sv, ev]) ∧ CasAt w' (caseR f) sv ev ∧ Below w.heap.size w w' := by
  obtain ⟨W, hW, q1, q2, hb, hsz⟩ := al2 w (Obj.cells #[.int .i64 0, .slice none 0 0, .slice none 0 0] 25) (Obj.cells #[.string ⟨#[110, 111, 114, 116, 104]⟩, .int .i64 2, .int .i64 6, .string ⟨#[109, 105, 100]⟩, .int .i64 3, .int .i64 6, .string ⟨#[115, 111, 117, 116, 104]⟩, .int .i64 1, .int .i64 6] 66)
  obtain ⟨i0, hi0⟩ := info_of_underlying Try.underlying74
  have HI : Hid (i0.zero = some (.agg #[.int .i64 0, .int .i64 0]) ∧ i0.size = 2 ∧ i0.bytes = 16) := by
    have h := pointInfo
    rw [hi0] at h
    simp at h
    exact h
  obtain ⟨i1, hi1⟩ := info_of_underlying Try.underlying71
  have HJ : Hid (i1.zero = some (.agg #[.int .i64 0, .int .i64 0, .slice none 0 0]) ∧ i1.size = 3 ∧ i1.bytes = 40) := by
    have h := edgeInfo
    rw [hi1] at h
    simp at h
    exact h
  have HW := Lib.hid hW
  have Q1 := Lib.hid q1
  have Q2 := Lib.hid q2
  have HB := Lib.hid hb
  have HS := Lib.hid hsz
  clear hW q1 q2 hb hsz
  go_enter Try.func34, Try.ntmps34
  go_wp2_with fail
  rw [HW.out]
  refine (between_any 0 1 100 104 W).mono ?_
  rintro e w1 ⟨rfl, hp, hb⟩
  obtain ⟨g1, hg1⟩ : ∃ g, W.heap.size + 1 = g := ⟨_, rfl⟩
  rw [hg1] at hp ⊢
  have G1 := Lib.hid hg1
  have L1 := Lib.hid (lt_of_block hp)
  clear hg1
  have Q1' := Lib.hid ((hb.block _ (lt_of_block Q1.out)).trans Q1.out)
  clear Q1
  have Q1 := Q1'
  clear Q1'
  have Q2' := Lib.hid ((hb.block _ (lt_of_block Q2.out)).trans Q2.out)
  clear Q2
  have Q2 := Q2'
  clear Q2'
  have HB' := Lib.hid (HB.out.trans (hb.mono HB.out.size))
  clear HB
  have HB := HB'
  clear HB'
  have R1 := Lib.hid hp
  clear hp
  have Z1 := Lib.hid hb.size
  clear hb
  go_wp2_with fail
  refine (between_any 1 2 300 302 w1).mono ?_
  rintro e w2 ⟨rfl, hp, hb⟩
  obtain ⟨g2, hg2⟩ : ∃ g, w1.heap.size + 1 = g := ⟨_, rfl⟩
  rw [hg2] at hp ⊢
  have G2 := Lib.hid hg2
  have L2 := Lib.hid (lt_of_block hp)
  clear hg2
  have Q1' := Lib.hid ((hb.block _ (lt_of_block Q1.out)).trans Q1.out)
  clear Q1
  have Q1 := Q1'
  clear Q1'
  have Q2' := Lib.hid ((hb.block _ (lt_of_block Q2.out)).trans Q2.out)
  clear Q2
  have Q2 := Q2'
  clear Q2'
  have R1' := Lib.hid ((hb.block _ (lt_of_block R1.out)).trans R1.out)
  clear R1
  have R1 := R1'
  clear R1'
  have HB' := Lib.hid (HB.out.trans (hb.mono HB.out.size))
  clear HB
  have HB := HB'
  clear HB'
  have R2 := Lib.hid hp
  clear hp
  have Z2 := Lib.hid hb.size
  clear hb
  go_wp2_with fail
  refine (between_any 0 2 400 405 w2).mono ?_
  rintro e w3 ⟨rfl, hp, hb⟩
  obtain ⟨g3, hg3⟩ : ∃ g, w2.heap.size + 1 = g := ⟨_, rfl⟩
  rw [hg3] at hp ⊢
  have G3 := Lib.hid hg3
  have L3 := Lib.hid (lt_of_block hp)
  clear hg3
  have Q1' := Lib.hid ((hb.block _ (lt_of_block Q1.out)).trans Q1.out)
  clear Q1
  have Q1 := Q1'
  clear Q1'
  have Q2' := Lib.hid ((hb.block _ (lt_of_block Q2.out)).trans Q2.out)
  clear Q2
  have Q2 := Q2'
  clear Q2'
  have R1' := Lib.hid ((hb.block _ (lt_of_block R1.out)).trans R1.out)
  clear R1
  have R1 := R1'
  clear R1'
  have R2' := Lib.hid ((hb.block _ (lt_of_block R2.out)).trans R2.out)
  clear R2
  have R2 := R2'
  clear R2'
  have HB' := Lib.hid (HB.out.trans (hb.mono HB.out.size))
  clear HB
  have HB := HB'
  clear HB'
  have R3 := Lib.hid hp
  clear hp
  have Z3 := Lib.hid hb.size
  clear hb
  obtain ⟨X, hX, q1, q2, hb, hsz⟩ := al2 w3 (Obj.cells #[.int .i64 0, .int .i64 1, .slice (some ⟨g1, 0, none⟩) 1 1, .int .i64 1, .int .i64 2, .slice (some ⟨g2, 0, none⟩) 1 1, .int .i64 0, .int .i64 2, .slice (some ⟨g3, 0, none⟩) 1 1] 71) (Obj.cells #[.int .i64 1, .slice (some ⟨w.heap.size + 1, 0, none⟩) 3 3, .slice (some ⟨w3.heap.size, 0, none⟩) 3 3] 25)
  have Q1' := Lib.hid ((hb.block _ (lt_of_block Q1.out)).trans Q1.out)
  clear Q1
  have Q1 := Q1'
  clear Q1'
  have Q2' := Lib.hid ((hb.block _ (lt_of_block Q2.out)).trans Q2.out)
  clear Q2
  have Q2 := Q2'
  clear Q2'
  have R1' := Lib.hid ((hb.block _ (lt_of_block R1.out)).trans R1.out)
  clear R1
  have R1 := R1'
  clear R1'
  have R2' := Lib.hid ((hb.block _ (lt_of_block R2.out)).trans R2.out)
  clear R2
  have R2 := R2'
  clear R2'
  have R3' := Lib.hid ((hb.block _ (lt_of_block R3.out)).trans R3.out)
  clear R3
  have R3 := R3'
  clear R3'
  have HB' := Lib.hid (HB.out.trans (hb.mono HB.out.size))
  clear HB
  have HB := HB'
  clear HB'
  have RE := Lib.hid q1
  have RC := Lib.hid q2
  have HX := Lib.hid hX
  have HSX := Lib.hid hsz
  clear q1 q2 hX hsz hb
  go_wp2_with fail
  rw [HX.out]
  have hL := Lib.hid L1.out
  have b2 : g1 < g2 ∧ g2 < g3 ∧ g3 < w3.heap.size ∧ w.heap.size + 1 < g1 := by have := L1.out; have := L2.out; have := L3.out; have := G1.out; have := G2.out; have := G3.out; have := Z1.out; have := Z2.out; have := Z3.out; have := HS.out; omega
  have B2 := Lib.hid b2
  have s4 := HSX.out
  clear b2 hL G1 G2 G3 Z1 Z2 Z3 L1 L2 L3
  go_cut [3] (fun v wx => v = .pointer (some ⟨w3.heap.size + 1, 0, none⟩) ∧ ∃ pb pc, pb ≠ w3.heap.size ∧ w.heap.size < pb ∧ pb ≠ w3.heap.size + 1 ∧ Kp w (Obj.cells #[.int .i64 0, .slice none 0 0, .slice none 0 0] 25) (Obj.cells #[.int .i64 1, .slice (some ⟨w.heap.size + 1, 0, none⟩) 3 3, .slice (some ⟨w3.heap.size, 0, none⟩) 3 3] 25) w3.heap.size g2 g3 pb pc wx ∧ wx.heap[w3.heap.size]? = some (.cells #[.int .i64 0, .int .i64 1, .slice (some ⟨pb, 0, none⟩) 2 pc, .int .i64 1, .int .i64 2, .slice (some ⟨g2, 0, none⟩) 1 1, .int .i64 0, .int .i64 2, .slice (some ⟨g3, 0, none⟩) 1 1] 71 (0, 0)))
  case first =>
    have c1 := cellOf RC.out 2 _ rfl
    have c2 := cellOf RE.out 2 _ rfl
    have xl := lt_of_block RC.out
    obtain ⟨b21, b22, b23, b24⟩ := B2.out
    have hown : Hid (X.ownsRow g1 74 2 (.slice (some ⟨g1, 0, none⟩) 1 1) 1 [.int .i64 100, .int .i64 104]) := ⟨rfl, .inr ⟨g1, 1, _, rfl, Nat.le_refl _, R1.out, Nat.le_refl _, by decide, rfl, rfl⟩⟩
    have hX1 := (Below.refl X.heap.size X).alloc (Nat.le_refl _) (Obj.cells #[.int .i64 200, .int .i64 203] 74)
    have HX1 := Lib.hid hX1
    clear hX1
    go_region_law (refine step_app (by rfl) _ _ 69 74 (by rfl) i0 (.agg #[.int .i64 0, .int .i64 0]) 2 16 Try.underlying69 hi0 HI.out.1 HI.out.2.1 HI.out.2.2 rfl (by decide) g1 1 _ [.int .i64 100, .int .i64 104] ⟨w3.heap.size + 2, 0, none⟩ 1 1 [.int .i64 200, .int .i64 203] (by rfl) (by rfl) (by first | exact own_below hown.out HX1.out | exact own_below hown.out HX1.out.drew) rfl (by rw [← HSX.out]; exact cells2_new X _ _ _) (ones2 200 203) (by simp; omega) (by decide) (by decide) ?_; intro v1 V ho1 hg1 hl1 hv1; obtain ⟨sa1, sc1, rfl⟩ := own_slice ho1; have RE1 := Lib.hid (block_kept (k := w3.heap.size) (x := Obj.cells #[.int .i64 0, .int .i64 1, .slice (some ⟨g1, 0, none⟩) 1 1, .int .i64 1, .int .i64 2, .slice (some ⟨g2, 0, none⟩) 1 1, .int .i64 0, .int .i64 2, .slice (some ⟨g3, 0, none⟩) 1 1] 71) (by exact (HX1.out.block _ (lt_of_block RE.out)).trans RE.out) hg1 (by show (some g1 : Option Nat) ≠ some w3.heap.size; simp; omega)); have vl := lt_of_block RE1.out; have c3 := cellOf RE1.out 2 _ rfl; have fe := frozen_of_row _ _ 2 _ _ RE1.out; have RC1 := Lib.hid (block_kept (k := w3.heap.size + 1) (x := Obj.cells #[.int .i64 1, .slice (some ⟨w.heap.size + 1, 0, none⟩) 3 3, .slice (some ⟨w3.heap.size, 0, none⟩) 3 3] 25) (by exact (HX1.out.block _ (lt_of_block RC.out)).trans RC.out) hg1 (by show (some g1 : Option Nat) ≠ some (w3.heap.size + 1); simp; omega)); have c4 := cellOf RC1.out 2 _ rfl; have vl2 := lt_of_block RC1.out; have hgr := Lib.hid (show (X.alloc (Obj.cells #[.int .i64 200, .int .i64 203] 74)).drew.grownBy V (some g1) from hg1))
    all_goals
      go_wp2_with fail
      go_meet
      obtain ⟨pb, rfl⟩ := own_some ho1 (by decide)
      have hpb : pb = g1 ∨ pb = w3.heap.size + 3 := by
        rcases hv1 with h | h
        · exact Or.inl (Option.some.inj (show some pb = some g1 from h))
        · refine Or.inr ((Option.some.inj (show some pb = some (X.alloc (Obj.cells #[.int .i64 200, .int .i64 203] 74)).heap.size from h)).trans ?_)
          rw [show (X.alloc (Obj.cells #[.int .i64 200, .int .i64 203] 74)).heap.size = X.heap.size + 1 by simp, HSX.out]
      have hk : ∀ (k : Nat) (x : Obj), X.heap[k]? = some x → k ≠ g1 → k ≠ w3.heap.size → (V.setCell ⟨w3.heap.size, 2, none⟩ (.slice (some ⟨pb, 0, none⟩) 2 sc1)).heap[k]? = some x := fun k x h h1 h2 => (heap_setCell_other V ⟨w3.heap.size, 2, none⟩ k _ (show k ≠ w3.heap.size by omega)).trans (block_kept (w := (X.alloc (Obj.cells #[.int .i64 200, .int .i64 203] 74)).drew) (by exact (HX1.out.block k (lt_of_block h)).trans h) hgr.out (by simp; omega))
      refine ⟨rfl, pb, sc1, by omega, by omega, by omega, ⟨hk _ _ Q2.out (by omega) (by omega), hk _ _ RC.out (by omega) (by omega), hk _ _ Q1.out (by omega) (by omega), ?_, hk _ _ R2.out (by omega) (by omega), hk _ _ R3.out (by omega) (by omega), ?_⟩, ?_⟩
      · exact own_base (own_ne ho1 (fun x h => (heap_setCell_other V ⟨w3.heap.size, 2, none⟩ pb _ (show pb ≠ w3.heap.size by omega)).trans h)) (by omega)
      · exact ((HB.out.trans (HX1.out.drew.mono HB.out.size)).grown hgr.out (HB.out.trans (HX1.out.drew.mono HB.out.size)).size (fun k hk => by simp at hk; omega)).setCell (p := ⟨w3.heap.size, 2, none⟩) (show w.heap.size ≤ w3.heap.size by omega) _
      · exact heap_setCell_same V w3.heap.size 2 _ _ _ RE1.out
  case rest =>
    obtain ⟨rfl, pb, pc, hpb, hpl, hpg, hkp, hge⟩ := hcut
    obtain ⟨b21, b22, b23, b24⟩ := B2.out
    have HK := Lib.hid hkp
    have HG := Lib.hid hge
    have HO : Hid (wc.ownsRow w3.heap.size 71 3 (.slice (some ⟨w3.heap.size, 0, none⟩) 3 3) 3 [.int .i64 0, .int .i64 1, .slice (some ⟨pb, 0, none⟩) 2 pc, .int .i64 1, .int .i64 2, .slice (some ⟨g2, 0, none⟩) 1 1, .int .i64 0, .int .i64 2, .slice (some ⟨g3, 0, none⟩) 1 1]) := ⟨rfl, .inr ⟨w3.heap.size, 3, _, rfl, Nat.le_refl _, hge, Nat.le_refl _, by decide, rfl, rfl⟩⟩
    clear hkp hge HX HSX RC RE R1 R2 R3 Q1 Q2 HB HW HS s4
    have lc := lt_of_block HK.out.ca
    have lr := lt_of_block HK.out.rs
    have gg : w.heap.size ≠ w3.heap.size + 1 := by omega
    cases f
    ·
      have dc0 := cellOf HK.out.ca 0 _ rfl
      have dc1 := cellOf HK.out.ca 1 _ rfl
      have dc2 := cellOf HK.out.ca 2 _ rfl
      have dr0 := cellOf HK.out.rs 0 _ rfl
      have df0 := frozen_of_row _ _ 0 _ _ HK.out.rs
      have dr1 := cellOf HK.out.rs 1 _ rfl
      have df1 := frozen_of_row _ _ 1 _ _ HK.out.rs
      have dr2 := cellOf HK.out.rs 2 _ rfl
      have df2 := frozen_of_row _ _ 2 _ _ HK.out.rs
      go_wp2_with fail
      have hfin : Kp w (Obj.cells #[.int .i64 1, .slice (some ⟨w.heap.size + 1, 0, none⟩) 3 3, .slice (some ⟨w3.heap.size, 0, none⟩) 3 3] 25) (Obj.cells #[.int .i64 1, .slice (some ⟨w.heap.size + 1, 0, none⟩) 3 3, .slice (some ⟨w3.heap.size, 0, none⟩) 3 3] 25) w3.heap.size g2 g3 pb pc (put3 wc w.heap.size (.int .i64 1) (.slice (some ⟨w.heap.size + 1, 0, none⟩) 3 3) (.slice (some ⟨w3.heap.size, 0, none⟩) 3 3)) := HK.out.to (q := w.heap.size) (fun k x hk h => put3_other hk h) (by omega) (by omega) (by omega) (by omega) (put3_other (by omega) HK.out.ca) (put3_at HK.out.rs) (put3_below HK.out.bl (Nat.le_refl _))
      exact bodyPost_ret (case_result rfl _ _ w.heap.size _ _ _ rfl hfin.rs) rfl ⟨_, _, rfl, ⟨hfin.shs false, hfin.eds3 (own_ne HO.out (fun x h => put3_other (by omega) h))⟩, hfin.bl⟩
    ·
      have e2 := cellOf HK.out.ca 2 _ rfl
      have fz := frozen_of_row _ _ 2 _ _ HK.out.ca
      go_wp2_with fail
      refine wp_region_noPanic ?_
      refine wp_region_last (S := (fun W' => W'.cell? ⟨w3.heap.size + 1, 2, none⟩ = some (.slice (some ⟨w3.heap.size, 0, none⟩) 3 3) ∧ W'.frozen? ⟨w3.heap.size + 1, 2, none⟩ = false ∧ Kp w (Obj.cells #[.int .i64 0, .slice none 0 0, .slice none 0 0] 25) (Obj.cells #[.int .i64 1, .slice (some ⟨w.heap.size + 1, 0, none⟩) 3 3, .slice (some ⟨w3.heap.size, 0, none⟩) 3 3] 25) w3.heap.size g2 g3 pb pc W')) 6 (by kernel_rfl) (by decide) (fun inv0 => ?_)
      have hh0 := (show wc.drew.cell? ⟨w3.heap.size + 1, 2, none⟩ = some (.slice (some ⟨w3.heap.size, 0, none⟩) 3 3) ∧ wc.drew.frozen? ⟨w3.heap.size + 1, 2, none⟩ = false ∧ Kp w (Obj.cells #[.int .i64 0, .slice none 0 0, .slice none 0 0] 25) (Obj.cells #[.int .i64 1, .slice (some ⟨w.heap.size + 1, 0, none⟩) 3 3, .slice (some ⟨w3.heap.size, 0, none⟩) 3 3] 25) w3.heap.size g2 g3 pb pc wc.drew from ⟨(show wc.drew.cell? ⟨w3.heap.size + 1, 2, none⟩ = _ from e2), fz, HK.out.below (Below.refl _ _).drew⟩)
      refine wpAnyZ_take (i := 0) (v := ?_) rfl (Lib.hid ⟨by as_aux_lemma => kernel_rfl, by as_aux_lemma => kernel_rfl, by as_aux_lemma => kernel_rfl, rfl⟩) (by decide) inv0 (by as_aux_lemma => kernel_rfl) (by as_aux_lemma => kernel_rfl) (fun _ _ _ h => h) (Or.inl ⟨by rfl, ?_⟩) hh0 (fun inv1 => ?_)
      rotate_left
      · intro w hSw
        try dsimp only at hSw
        go_simp
        try with_reducible rfl
      clear inv0
      try simp only [Act.put, List.getElem_toArray, List.getElem_cons_succ, List.getElem_cons_zero, List.setIfInBounds_toArray, List.set_cons_zero, List.set_cons_succ]
      refine wpAnyZ_take (i := 1) (v := ?_) rfl (Lib.hid ⟨by as_aux_lemma => kernel_rfl, by as_aux_lemma => kernel_rfl, by as_aux_lemma => kernel_rfl, rfl⟩) (by decide) inv1 (by as_aux_lemma => kernel_rfl) (by as_aux_lemma => kernel_rfl) (fun _ _ _ h => h) (Or.inl ⟨by rfl, ?_⟩) hh0 (fun inv2 => ?_)
      rotate_left
      · intro w hSw
        try dsimp only at hSw
        go_simp
        try with_reducible rfl
      clear inv1
      try simp only [Act.put, List.getElem_toArray, List.getElem_cons_succ, List.getElem_cons_zero, List.setIfInBounds_toArray, List.set_cons_zero, List.set_cons_succ]
      refine wpAnyZ_all (rs := [2]) (by as_aux_lemma => kernel_rfl) (by simp) ?_
      intro i hi
      obtain rfl : i = 2 := by simpa using hi
      refine step_Z rfl (fun K hK => ?_)
      go_simp
      refine (between_any 0 2 500 500 _).mono ?_
      rintro e x1 ⟨rfl, hq, hb⟩
      have HQ := Lib.hid hq
      have HBX := Lib.hid hb
      clear hq hb
      have hh1 := (⟨keepK hh0.1 HBX.out, frozen_of_row _ _ 2 _ _ (hh0.2.2.below HBX.out).ca, hh0.2.2.below HBX.out⟩ : _ ∧ _ ∧ Kp w (Obj.cells #[.int .i64 0, .slice none 0 0, .slice none 0 0] 25) (Obj.cells #[.int .i64 1, .slice (some ⟨w.heap.size + 1, 0, none⟩) 3 3, .slice (some ⟨w3.heap.size, 0, none⟩) 3 3] 25) w3.heap.size g2 g3 pb pc x1)
      refine hK.out _ _ (fun _ => hh1) ?_
      have inv3 := hinv_set inv2 (by as_aux_lemma => kernel_rfl) (by decide : 2 < 6)
      clear hK K hh0 inv2
      try simp only [Act.put, List.getElem_toArray, List.getElem_cons_succ, List.getElem_cons_zero, List.setIfInBounds_toArray, List.set_cons_zero, List.set_cons_succ]
      refine wpAnyZ_all (rs := [3]) (by as_aux_lemma => kernel_rfl) (by simp) ?_
      intro i hi
      obtain rfl : i = 3 := by simpa using hi
      refine step_Z rfl (fun K hK => ?_)
      go_simp
      have hb2 := (Below.refl x1.heap.size x1).alloc (Nat.le_refl _) (Obj.cells #[.int .i64 0, .int .i64 2, .slice (some ⟨wc.heap.size + 1, 0, none⟩) 1 1] 71)
      have HB2 := Lib.hid hb2
      clear hb2
      have hh2 := (⟨keepK hh1.1 HB2.out, frozen_of_row _ _ 2 _ _ (hh1.2.2.below HB2.out).ca, hh1.2.2.below HB2.out⟩ : _ ∧ _ ∧ Kp w (Obj.cells #[.int .i64 0, .slice none 0 0, .slice none 0 0] 25) (Obj.cells #[.int .i64 1, .slice (some ⟨w.heap.size + 1, 0, none⟩) 3 3, .slice (some ⟨w3.heap.size, 0, none⟩) 3 3] 25) w3.heap.size g2 g3 pb pc (x1.alloc (Obj.cells #[.int .i64 0, .int .i64 2, .slice (some ⟨wc.heap.size + 1, 0, none⟩) 1 1] 71)))
      refine hK.out _ _ (fun _ => hh2) ?_
      have inv4 := hinv_set inv3 (by as_aux_lemma => kernel_rfl) (by decide : 3 < 6)
      clear hK K hh1 inv3
      try simp only [Act.put, List.getElem_toArray, List.getElem_cons_succ, List.getElem_cons_zero, List.setIfInBounds_toArray, List.set_cons_zero, List.set_cons_succ]
      refine wpAnyZ_all (rs := [4]) (by as_aux_lemma => kernel_rfl) (by simp) ?_
      intro i hi
      obtain rfl : i = 4 := by simpa using hi
      refine step_Z rfl (fun K hK => ?_)
      have HXO := Lib.hid (own_below (own_below (own_below HO.out (Below.refl wc.heap.size wc).drew) HBX.out) HB2.out)
      refine step_app (by rfl) _ _ 23 71 (by rfl) i1 (.agg #[.int .i64 0, .int .i64 0, .slice none 0 0]) 3 40 Try.underlying23 hi1 HJ.out.1 HJ.out.2.1 HJ.out.2.2 rfl (by decide) w3.heap.size 3 _ [.int .i64 0, .int .i64 1, .slice (some ⟨pb, 0, none⟩) 2 pc, .int .i64 1, .int .i64 2, .slice (some ⟨g2, 0, none⟩) 1 1, .int .i64 0, .int .i64 2, .slice (some ⟨g3, 0, none⟩) 1 1] ⟨x1.heap.size, 0, none⟩ 1 1 [.int .i64 0, .int .i64 2, .slice (some ⟨wc.heap.size + 1, 0, none⟩) 1 1] (by rfl) (by rfl) HXO.out rfl (cells3_at x1 _ _ _ _ _ rfl) (by intro u hu; simp at hu; rcases hu with rfl | rfl | rfl <;> rfl) (by have := HBX.out.size; simp at this ⊢; omega) (by decide) (by decide) ?_
      intro v1 V ho1 hg1 hl1 hv1
      obtain ⟨sa1, sc1, rfl⟩ := own_slice ho1
      obtain ⟨eb, rfl⟩ := own_some ho1 (by decide)
      have hkV : ∀ (k : Nat) (x : Obj), k ≠ w3.heap.size → (x1.alloc (Obj.cells #[.int .i64 0, .int .i64 2, .slice (some ⟨wc.heap.size + 1, 0, none⟩) 1 1] 71)).heap[k]? = some x → V.heap[k]? = some x := fun k x hk h => block_kept h hg1 (by show (some w3.heap.size : Option Nat) ≠ some k; simp; omega)
      have HGR := Lib.hid hg1
      have HEB := Lib.hid hv1
      have HO1 := Lib.hid ho1
      have HKV := Lib.hid hkV
      have HKK : Hid (Kp w (Obj.cells #[.int .i64 0, .slice none 0 0, .slice none 0 0] 25) (Obj.cells #[.int .i64 1, .slice (some ⟨w.heap.size + 1, 0, none⟩) 3 3, .slice (some ⟨w3.heap.size, 0, none⟩) 3 3] 25) w3.heap.size g2 g3 pb pc V) := hh2.2.2.to (q := w3.heap.size) HKV.out (by omega) (by omega) (by omega) (by omega) (HKV.out _ _ (by omega) hh2.2.2.ca) (HKV.out _ _ (by omega) hh2.2.2.rs) (hh2.2.2.bl.grown HGR.out hh2.2.2.bl.size (fun k hk => Nat.le_trans (by omega) (hl1 k hk).1))
      have HQV := Lib.hid (HKV.out (wc.heap.size + 1) _ (by omega) ((HB2.out.block _ (lt_of_block HQ.out)).trans HQ.out))
      clear ho1 hg1 hl1 hv1 hkV
      have hh3 := (⟨cellOf HKK.out.ca 2 _ rfl, frozen_of_row _ _ 2 _ _ HKK.out.ca, HKK.out⟩ : _ ∧ _ ∧ Kp w (Obj.cells #[.int .i64 0, .slice none 0 0, .slice none 0 0] 25) (Obj.cells #[.int .i64 1, .slice (some ⟨w.heap.size + 1, 0, none⟩) 3 3, .slice (some ⟨w3.heap.size, 0, none⟩) 3 3] 25) w3.heap.size g2 g3 pb pc V)
      refine hK.out _ _ (fun _ => hh3) ?_
      have inv5 := hinv_set inv4 (by as_aux_lemma => kernel_rfl) (by decide : 4 < 6)
      clear hK K hh2 inv4
      try simp only [Act.put, List.getElem_toArray, List.getElem_cons_succ, List.getElem_cons_zero, List.setIfInBounds_toArray, List.set_cons_zero, List.set_cons_succ]
      refine wpAnyZ_take (i := 5) (v := ?_) rfl (Lib.hid ⟨by as_aux_lemma => kernel_rfl, by as_aux_lemma => kernel_rfl, by as_aux_lemma => kernel_rfl, rfl⟩) (by decide) inv5 (by as_aux_lemma => kernel_rfl) (by as_aux_lemma => kernel_rfl) (fun _ _ _ h => h) (Or.inl ⟨by rfl, ?_⟩) hh3 (fun inv6 => ?_)
      rotate_left
      · intro w hSw
        try dsimp only at hSw
        go_simp
        try with_reducible rfl
      clear inv5
      try simp only [Act.put, List.getElem_toArray, List.getElem_cons_succ, List.getElem_cons_zero, List.setIfInBounds_toArray, List.set_cons_zero, List.set_cons_succ]
      refine wpAnyZ_all (rs := [6]) (by as_aux_lemma => kernel_rfl) (by simp) ?_
      intro i hi
      obtain rfl : i = 6 := by simpa using hi
      refine step_Z rfl (fun K hK => ?_)
      go_simp
      refine hK.out _ _ (fun h => absurd rfl h) ?_
      clear hK K
      try simp only [Act.put, List.getElem_toArray, List.getElem_cons_succ, List.getElem_cons_zero, List.setIfInBounds_toArray, List.set_cons_zero, List.set_cons_succ]
      refine wpAnyZ_done (by as_aux_lemma => kernel_rfl) ?_ _
      refine NoPanic.normal ?_
      have heb : eb = w3.heap.size ∨ wc.heap.size + 1 < eb := by
        rcases HEB.out with h | h
        · exact Or.inl (Option.some.inj (show some eb = some w3.heap.size from h))
        · refine Or.inr ?_
          rw [Option.some.inj (show some eb = some (x1.alloc (Obj.cells #[.int .i64 0, .int .i64 2, .slice (some ⟨wc.heap.size + 1, 0, none⟩) 1 1] 71)).heap.size from h)]
          have h1 : wc.heap.size + 1 < x1.heap.size := lt_of_block HQ.out
          simp
          omega
      obtain ⟨Y, hY⟩ : ∃ Y, V.setCell ⟨w3.heap.size + 1, 2, none⟩ (.slice (some ⟨eb, 0, none⟩) 4 sc1) = Y := ⟨_, rfl⟩
      have hoY : ∀ (k : Nat) (x : Obj), k ≠ w3.heap.size + 1 → V.heap[k]? = some x → Y.heap[k]? = some x := fun k x hk h => by rw [← hY]; exact (heap_setCell_other V ⟨w3.heap.size + 1, 2, none⟩ k _ hk).trans h
      have HKY : Hid (Kp w (Obj.cells #[.int .i64 0, .slice none 0 0, .slice none 0 0] 25) (Obj.cells #[.int .i64 1, .slice (some ⟨w.heap.size + 1, 0, none⟩) 3 3, .slice (some ⟨eb, 0, none⟩) 4 sc1] 25) w3.heap.size g2 g3 pb pc Y) := HKK.out.to (q := w3.heap.size + 1) hoY (by omega) (by omega) (by omega) (by omega) (by rw [← hY]; exact heap_setCell_same V _ 2 _ _ _ HKK.out.ca) (hoY _ _ (by omega) HKK.out.rs) (by rw [← hY]; exact HKK.out.bl.setCell (p := ⟨w3.heap.size + 1, 2, none⟩) (show w.heap.size ≤ w3.heap.size + 1 by omega) _)
      have HOY := Lib.hid (own_ne HO1.out (fun x h => hoY _ x (by omega) h))
      have HQY := Lib.hid (hoY _ _ (by omega) HQV.out)
      rw [hY]
      clear hh3 hY hoY HKK HO1 HQV HQ HGR HEB HKV HB2 HBX HO HK HG e2 fz
      have ly := lt_of_block HKY.out.ca
      have lz := lt_of_block HKY.out.rs
      have dc0 := cellOf HKY.out.ca 0 _ rfl
      have dc1 := cellOf HKY.out.ca 1 _ rfl
      have dc2 := cellOf HKY.out.ca 2 _ rfl
      have dr0 := cellOf HKY.out.rs 0 _ rfl
      have df0 := frozen_of_row _ _ 0 _ _ HKY.out.rs
      have dr1 := cellOf HKY.out.rs 1 _ rfl
      have df1 := frozen_of_row _ _ 1 _ _ HKY.out.rs
      have dr2 := cellOf HKY.out.rs 2 _ rfl
      have df2 := frozen_of_row _ _ 2 _ _ HKY.out.rs
      go_wp2_with fail
      have hfin : Kp w (Obj.cells #[.int .i64 1, .slice (some ⟨w.heap.size + 1, 0, none⟩) 3 3, .slice (some ⟨eb, 0, none⟩) 4 sc1] 25) (Obj.cells #[.int .i64 1, .slice (some ⟨w.heap.size + 1, 0, none⟩) 3 3, .slice (some ⟨eb, 0, none⟩) 4 sc1] 25) w3.heap.size g2 g3 pb pc (put3 Y w.heap.size (.int .i64 1) (.slice (some ⟨w.heap.size + 1, 0, none⟩) 3 3) (.slice (some ⟨eb, 0, none⟩) 4 sc1)) := HKY.out.to (q := w.heap.size) (fun k x hk h => put3_other hk h) (by omega) (by omega) (by omega) (by omega) (put3_other (by omega) HKY.out.ca) (put3_at HKY.out.rs) (put3_below HKY.out.bl (Nat.le_refl _))
      exact bodyPost_ret (case_result rfl _ _ w.heap.size _ _ _ rfl hfin.rs) rfl ⟨_, _, rfl, ⟨hfin.shs true, hfin.eds4 (put3_other (by omega) HQY.out) (own_ne HOY.out (fun x h => put3_other (by omega) h))⟩, hfin.bl⟩
end Go.Proofs.Ytojdocomkhihoaa
namespace Go.Proofs.Ytojdocomkhihoaa
open Go Go.RowKit Go.Shelf Ed

theorem ints_at (W : World) (l : List Int) (t : TypeId) (hl : l.length ≤ 100) (b : Nat) (hb : W.heap.size = b) : IntsAt (W.alloc (.cells (l.map (Value.int .i64)).toArray t)) (.slice (some ⟨b, 0, none⟩) l.length l.length) l := by
  subst hb
  refine ⟨by omega, _, l.length, rfl, Nat.le_refl _, fun _ => ⟨W.heap.size, 0, rfl, fun k hk => ?_⟩⟩
  rw [Nat.zero_add]
  exact cellOf (heap_alloc_new W _) k _ (by simp [hk])
theorem keepS {U V X : World} {b c : Nat} {x0 x1 y0 y1 : Value} (h : V.cell? ⟨b, 0, none⟩ = some x0 ∧ V.cell? ⟨b, 1, none⟩ = some x1 ∧ V.cell? ⟨c, 0, none⟩ = some y0 ∧ V.cell? ⟨c, 1, none⟩ = some y1 ∧ Below U.heap.size U V) (hb : Below V.heap.size V X) :
    X.cell? ⟨b, 0, none⟩ = some x0 ∧ X.cell? ⟨b, 1, none⟩ = some x1 ∧ X.cell? ⟨c, 0, none⟩ = some y0 ∧ X.cell? ⟨c, 1, none⟩ = some y1 ∧ Below U.heap.size U X :=
  ⟨keepK h.1 hb, keepK h.2.1 hb, keepK h.2.2.1 hb, keepK h.2.2.2.1 hb, h.2.2.2.2.trans (hb.mono h.2.2.2.2.size)⟩
set_option maxRecDepth 100000 in
set_option maxHeartbeats 16000000 in
theorem awake_any (w : World) : Calls Try.prog 24 #[] w fun e w' => e = .returned (.bool true) ∧ Below w.heap.size w w' := by
  have HB := Lib.hid (Below.refl w.heap.size w)
  go_enter Try.func24, Try.ntmps24
  go_wp2_with fail
  have hcall := case_any false w
  refine hcall.mono ?_
  clear hcall
  rintro e w1 ⟨sv, ev, rfl, hC, hb⟩
  obtain ⟨sa, sm, sc, rfl⟩ : ∃ a n c, sv = .slice a n c := by obtain ⟨_, a, cap, h, _⟩ := hC.shs; exact ⟨_, _, _, h⟩
  obtain ⟨ea, em, ec, rfl⟩ : ∃ a n c, ev = .slice a n c := by obtain ⟨_, a, cap, h, _⟩ := hC.eds; exact ⟨_, _, _, h⟩
  have HB' := Lib.hid (HB.out.trans (hb.mono HB.out.size))
  clear HB
  have HB := HB'
  clear HB'
  have HCC := Lib.hid (hC)
  clear hb
  clear hC
  go_wp2_with fail
  have hcall := case_any true w1
  refine hcall.mono ?_
  clear hcall
  rintro e w2 ⟨svd, evd, rfl, hC, hb⟩
  obtain ⟨sad, smd, scd, rfl⟩ : ∃ a n c, svd = .slice a n c := by obtain ⟨_, a, cap, h, _⟩ := hC.shs; exact ⟨_, _, _, h⟩
  obtain ⟨ead, emd, ecd, rfl⟩ : ∃ a n c, evd = .slice a n c := by obtain ⟨_, a, cap, h, _⟩ := hC.eds; exact ⟨_, _, _, h⟩
  have HB' := Lib.hid (HB.out.trans (hb.mono HB.out.size))
  have HCC' := Lib.hid (HCC.out.below hb)
  clear HB
  have HB := HB'
  clear HB'
  clear HCC
  have HCC := HCC'
  clear HCC'
  have HCD := Lib.hid (hC)
  clear hb
  clear hC
  go_wp2_with fail
  have hb := (Below.refl w2.heap.size w2).alloc (Nat.le_refl _) (Obj.cells #[.int .i64 1, .slice sa sm sc, .slice ea em ec] 25)
  have HR := Lib.hid (heap_alloc_new w2 (Obj.cells #[.int .i64 1, .slice sa sm sc, .slice ea em ec] 25))
  have hz3 : (w2.alloc (Obj.cells #[.int .i64 1, .slice sa sm sc, .slice ea em ec] 25)).heap.size = w2.heap.size + 1 := by simp
  have HB' := Lib.hid (HB.out.trans (hb.mono HB.out.size))
  have HCC' := Lib.hid (HCC.out.below hb)
  have HCD' := Lib.hid (HCD.out.below hb)
  clear HB
  have HB := HB'
  clear HB'
  clear HCC
  have HCC := HCC'
  clear HCC'
  clear HCD
  have HCD := HCD'
  clear HCD'
  clear hb
  generalize w2.alloc (Obj.cells #[.int .i64 1, .slice sa sm sc, .slice ea em ec] 25) = w3 at *
  have Z3 := Lib.hid hz3
  clear hz3
  have hb := (Below.refl w3.heap.size w3).alloc (Nat.le_refl _) (Obj.cells #[.int .i64 1, .slice sad smd scd, .slice ead emd ecd] 25)
  have HD := Lib.hid (heap_alloc_new w3 (Obj.cells #[.int .i64 1, .slice sad smd scd, .slice ead emd ecd] 25))
  have hz4 : (w3.alloc (Obj.cells #[.int .i64 1, .slice sad smd scd, .slice ead emd ecd] 25)).heap.size = w3.heap.size + 1 := by simp
  have HB' := Lib.hid (HB.out.trans (hb.mono HB.out.size))
  have HCC' := Lib.hid (HCC.out.below hb)
  have HCD' := Lib.hid (HCD.out.below hb)
  have HR' := Lib.hid ((hb.block _ (lt_of_block HR.out)).trans HR.out)
  clear HB
  have HB := HB'
  clear HB'
  clear HCC
  have HCC := HCC'
  clear HCC'
  clear HCD
  have HCD := HCD'
  clear HCD'
  clear HR
  have HR := HR'
  clear HR'
  clear hb
  generalize w3.alloc (Obj.cells #[.int .i64 1, .slice sad smd scd, .slice ead emd ecd] 25) = w4 at *
  have Z4 := Lib.hid hz4
  clear hz4
  rw [Z3.out] at HD
  have hcall := wants_any (caseR false) _ _ 0 _ HCC.out
  rw [v_wants0] at hcall
  simp only at hcall
  refine hcall.mono ?_
  clear hcall
  rintro e w5 ⟨rfl, hb⟩
  have HB' := Lib.hid (HB.out.trans (hb.mono HB.out.size))
  have HCC' := Lib.hid (HCC.out.below hb)
  have HCD' := Lib.hid (HCD.out.below hb)
  have HR' := Lib.hid ((hb.block _ (lt_of_block HR.out)).trans HR.out)
  have HD' := Lib.hid ((hb.block _ (lt_of_block HD.out)).trans HD.out)
  clear HB
  have HB := HB'
  clear HB'
  clear HCC
  have HCC := HCC'
  clear HCC'
  clear HCD
  have HCD := HCD'
  clear HCD'
  clear HR
  have HR := HR'
  clear HR'
  clear HD
  have HD := HD'
  clear HD'
  clear hb
  have cHR0 := cellOf HR.out 0 _ rfl
  have cHR1 := cellOf HR.out 1 _ rfl
  have cHR2 := cellOf HR.out 2 _ rfl
  have lHR := lt_of_block HR.out
  go_wp2_with fail
  clear cHR0 cHR1 cHR2 lHR
  have hb := (Below.refl w5.heap.size w5).alloc (Nat.le_refl _) (Obj.cells #[.int .i64 3, .int .i64 4] 31)
  have HS3 := Lib.hid (heap_alloc_new w5 (Obj.cells #[.int .i64 3, .int .i64 4] 31))
  have hz6 : (w5.alloc (Obj.cells #[.int .i64 3, .int .i64 4] 31)).heap.size = w5.heap.size + 1 := by simp
  have HB' := Lib.hid (HB.out.trans (hb.mono HB.out.size))
  have HCC' := Lib.hid (HCC.out.below hb)
  have HCD' := Lib.hid (HCD.out.below hb)
  have HR' := Lib.hid ((hb.block _ (lt_of_block HR.out)).trans HR.out)
  have HD' := Lib.hid ((hb.block _ (lt_of_block HD.out)).trans HD.out)
  clear HB
  have HB := HB'
  clear HB'
  clear HCC
  have HCC := HCC'
  clear HCC'
  clear HCD
  have HCD := HCD'
  clear HCD'
  clear HR
  have HR := HR'
  clear HR'
  clear HD
  have HD := HD'
  clear HD'
  clear hb
  generalize w5.alloc (Obj.cells #[.int .i64 3, .int .i64 4] 31) = w6 at *
  have Z6 := Lib.hid hz6
  clear hz6
  have hb := (Below.refl w6.heap.size w6).alloc (Nat.le_refl _) (Obj.cells #[.int .i64 4, .int .i64 0, .int .i64 0] 3)
  have HI : Hid (IntsAt (w6.alloc (Obj.cells #[.int .i64 4, .int .i64 0, .int .i64 0] 3)) (.slice (some ⟨w5.heap.size + 1, 0, none⟩) 3 3) [4, 0, 0]) := ints_at w6 [4, 0, 0] 3 (by simp) (w5.heap.size + 1) (Z6.out)
  have hz7 : (w6.alloc (Obj.cells #[.int .i64 4, .int .i64 0, .int .i64 0] 3)).heap.size = w6.heap.size + 1 := by simp
  have HB' := Lib.hid (HB.out.trans (hb.mono HB.out.size))
  have HCC' := Lib.hid (HCC.out.below hb)
  have HCD' := Lib.hid (HCD.out.below hb)
  have HR' := Lib.hid ((hb.block _ (lt_of_block HR.out)).trans HR.out)
  have HD' := Lib.hid ((hb.block _ (lt_of_block HD.out)).trans HD.out)
  have HS3' := Lib.hid ((hb.block _ (lt_of_block HS3.out)).trans HS3.out)
  clear HB
  have HB := HB'
  clear HB'
  clear HCC
  have HCC := HCC'
  clear HCC'
  clear HCD
  have HCD := HCD'
  clear HCD'
  clear HR
  have HR := HR'
  clear HR'
  clear HD
  have HD := HD'
  clear HD'
  clear HS3
  have HS3 := HS3'
  clear HS3'
  clear hb
  generalize w6.alloc (Obj.cells #[.int .i64 4, .int .i64 0, .int .i64 0] 3) = w7 at *
  have Z7 := Lib.hid hz7
  clear hz7
  have hcall := agrees_any (caseR false) _ _ _ [4, 0, 0] _ HCC.out HI.out
  rw [v_agrees] at hcall
  simp only at hcall
  refine hcall.mono ?_
  clear hcall
  rintro e w8 ⟨rfl, hb⟩
  have HB' := Lib.hid (HB.out.trans (hb.mono HB.out.size))
  have HCC' := Lib.hid (HCC.out.below hb)
  have HCD' := Lib.hid (HCD.out.below hb)
  have HR' := Lib.hid ((hb.block _ (lt_of_block HR.out)).trans HR.out)
  have HD' := Lib.hid ((hb.block _ (lt_of_block HD.out)).trans HD.out)
  have HS3' := Lib.hid ((hb.block _ (lt_of_block HS3.out)).trans HS3.out)
  have HI' := Lib.hid (HI.out.below hb)
  clear HB
  have HB := HB'
  clear HB'
  clear HCC
  have HCC := HCC'
  clear HCC'
  clear HCD
  have HCD := HCD'
  clear HCD'
  clear HR
  have HR := HR'
  clear HR'
  clear HD
  have HD := HD'
  clear HD'
  clear HS3
  have HS3 := HS3'
  clear HS3'
  clear HI
  have HI := HI'
  clear HI'
  clear hb
  clear HI
  have cHR0 := cellOf HR.out 0 _ rfl
  have cHR1 := cellOf HR.out 1 _ rfl
  have cHR2 := cellOf HR.out 2 _ rfl
  have lHR := lt_of_block HR.out
  go_wp2_with fail
  clear cHR0 cHR1 cHR2 lHR
  have hb := (Below.refl w8.heap.size w8).alloc (Nat.le_refl _) (Obj.cells #[.int .i64 3, .int .i64 0, .int .i64 (-1)] 3)
  have HI : Hid (IntsAt (w8.alloc (Obj.cells #[.int .i64 3, .int .i64 0, .int .i64 (-1)] 3)) (.slice (some ⟨w8.heap.size, 0, none⟩) 3 3) [3, 0, -1]) := ints_at w8 [3, 0, -1] 3 (by simp) (w8.heap.size) (rfl)
  have hz9 : (w8.alloc (Obj.cells #[.int .i64 3, .int .i64 0, .int .i64 (-1)] 3)).heap.size = w8.heap.size + 1 := by simp
  have HB' := Lib.hid (HB.out.trans (hb.mono HB.out.size))
  have HCC' := Lib.hid (HCC.out.below hb)
  have HCD' := Lib.hid (HCD.out.below hb)
  have HR' := Lib.hid ((hb.block _ (lt_of_block HR.out)).trans HR.out)
  have HD' := Lib.hid ((hb.block _ (lt_of_block HD.out)).trans HD.out)
  have HS3' := Lib.hid ((hb.block _ (lt_of_block HS3.out)).trans HS3.out)
  clear HB
  have HB := HB'
  clear HB'
  clear HCC
  have HCC := HCC'
  clear HCC'
  clear HCD
  have HCD := HCD'
  clear HCD'
  clear HR
  have HR := HR'
  clear HR'
  clear HD
  have HD := HD'
  clear HD'
  clear HS3
  have HS3 := HS3'
  clear HS3'
  clear hb
  generalize w8.alloc (Obj.cells #[.int .i64 3, .int .i64 0, .int .i64 (-1)] 3) = w9 at *
  have Z9 := Lib.hid hz9
  clear hz9
  have hcall := cost__any (caseR false) _ _ _ [3, 0, -1] _ HCC.out HI.out
  rw [v_cost] at hcall
  simp only at hcall
  refine hcall.mono ?_
  clear hcall
  rintro e w10 ⟨rfl, hb⟩
  have HB' := Lib.hid (HB.out.trans (hb.mono HB.out.size))
  have HCC' := Lib.hid (HCC.out.below hb)
  have HCD' := Lib.hid (HCD.out.below hb)
  have HR' := Lib.hid ((hb.block _ (lt_of_block HR.out)).trans HR.out)
  have HD' := Lib.hid ((hb.block _ (lt_of_block HD.out)).trans HD.out)
  have HS3' := Lib.hid ((hb.block _ (lt_of_block HS3.out)).trans HS3.out)
  have HI' := Lib.hid (HI.out.below hb)
  clear HB
  have HB := HB'
  clear HB'
  clear HCC
  have HCC := HCC'
  clear HCC'
  clear HCD
  have HCD := HCD'
  clear HCD'
  clear HR
  have HR := HR'
  clear HR'
  clear HD
  have HD := HD'
  clear HD'
  clear HS3
  have HS3 := HS3'
  clear HS3'
  clear HI
  have HI := HI'
  clear HI'
  clear hb
  clear HI
  have cHR0 := cellOf HR.out 0 _ rfl
  have cHR1 := cellOf HR.out 1 _ rfl
  have cHR2 := cellOf HR.out 2 _ rfl
  have lHR := lt_of_block HR.out
  go_wp2_with fail
  clear cHR0 cHR1 cHR2 lHR
  have hcall := rangeT_any (caseR false) _ _ 1 _ HCC.out
  rw [v_range1] at hcall
  simp only at hcall
  refine hcall.mono ?_
  clear hcall
  rintro e w11 ⟨rfl, hb⟩
  have HB' := Lib.hid (HB.out.trans (hb.mono HB.out.size))
  have HCC' := Lib.hid (HCC.out.below hb)
  have HCD' := Lib.hid (HCD.out.below hb)
  have HR' := Lib.hid ((hb.block _ (lt_of_block HR.out)).trans HR.out)
  have HD' := Lib.hid ((hb.block _ (lt_of_block HD.out)).trans HD.out)
  have HS3' := Lib.hid ((hb.block _ (lt_of_block HS3.out)).trans HS3.out)
  clear HB
  have HB := HB'
  clear HB'
  clear HCC
  have HCC := HCC'
  clear HCC'
  clear HCD
  have HCD := HCD'
  clear HCD'
  clear HR
  have HR := HR'
  clear HR'
  clear HD
  have HD := HD'
  clear HD'
  clear HS3
  have HS3 := HS3'
  clear HS3'
  clear hb
  have cHR0 := cellOf HR.out 0 _ rfl
  have cHR1 := cellOf HR.out 1 _ rfl
  have cHR2 := cellOf HR.out 2 _ rfl
  have lHR := lt_of_block HR.out
  go_wp2_with fail
  clear cHR0 cHR1 cHR2 lHR
  have hb := (Below.refl w11.heap.size w11).alloc (Nat.le_refl _) (Obj.cells #[.int .i64 (-5), .int .i64 (3)] 31)
  have HS9 := Lib.hid (heap_alloc_new w11 (Obj.cells #[.int .i64 (-5), .int .i64 (3)] 31))
  have hz12 : (w11.alloc (Obj.cells #[.int .i64 (-5), .int .i64 (3)] 31)).heap.size = w11.heap.size + 1 := by simp
  have HB' := Lib.hid (HB.out.trans (hb.mono HB.out.size))
  have HCC' := Lib.hid (HCC.out.below hb)
  have HCD' := Lib.hid (HCD.out.below hb)
  have HR' := Lib.hid ((hb.block _ (lt_of_block HR.out)).trans HR.out)
  have HD' := Lib.hid ((hb.block _ (lt_of_block HD.out)).trans HD.out)
  have HS3' := Lib.hid ((hb.block _ (lt_of_block HS3.out)).trans HS3.out)
  clear HB
  have HB := HB'
  clear HB'
  clear HCC
  have HCC := HCC'
  clear HCC'
  clear HCD
  have HCD := HCD'
  clear HCD'
  clear HR
  have HR := HR'
  clear HR'
  clear HD
  have HD := HD'
  clear HD'
  clear HS3
  have HS3 := HS3'
  clear HS3'
  clear hb
  generalize w11.alloc (Obj.cells #[.int .i64 (-5), .int .i64 (3)] 31) = w12 at *
  have Z12 := Lib.hid hz12
  clear hz12
  have hcall := leastT_any (caseR false) _ _ _ HCC.out
  refine hcall.mono ?_
  clear hcall
  rintro e w13 ⟨_, _, hl, hb⟩
  obtain ⟨v, rfl, hi⟩ := hl (v_err _) v_high _ v_cheap
  rw [v_costK']
  have hi' : IntsAt w13 v [3, 0, -1] := hi
  obtain ⟨la, lc, rfl⟩ : ∃ a c, v = .slice a 3 c := by obtain ⟨_, a, cap, h, _⟩ := hi'; exact ⟨_, _, h⟩
  have HB' := Lib.hid (HB.out.trans (hb.mono HB.out.size))
  have HCC' := Lib.hid (HCC.out.below hb)
  have HCD' := Lib.hid (HCD.out.below hb)
  have HR' := Lib.hid ((hb.block _ (lt_of_block HR.out)).trans HR.out)
  have HD' := Lib.hid ((hb.block _ (lt_of_block HD.out)).trans HD.out)
  have HS3' := Lib.hid ((hb.block _ (lt_of_block HS3.out)).trans HS3.out)
  have HS9' := Lib.hid ((hb.block _ (lt_of_block HS9.out)).trans HS9.out)
  clear HB
  have HB := HB'
  clear HB'
  clear HCC
  have HCC := HCC'
  clear HCC'
  clear HCD
  have HCD := HCD'
  clear HCD'
  clear HR
  have HR := HR'
  clear HR'
  clear HD
  have HD := HD'
  clear HD'
  clear HS3
  have HS3 := HS3'
  clear HS3'
  clear HS9
  have HS9 := HS9'
  clear HS9'
  have HLS := Lib.hid (hi')
  clear hb
  clear hi hi' hl
  have cHR0 := cellOf HR.out 0 _ rfl
  have cHR1 := cellOf HR.out 1 _ rfl
  have cHR2 := cellOf HR.out 2 _ rfl
  have lHR := lt_of_block HR.out
  go_wp2_with fail
  clear cHR0 cHR1 cHR2 lHR
  have hb := (Below.refl w13.heap.size w13).alloc (Nat.le_refl _) (Obj.cells #[.int .i64 3, .int .i64 0, .int .i64 0] 3)
  have HI : Hid (IntsAt (w13.alloc (Obj.cells #[.int .i64 3, .int .i64 0, .int .i64 0] 3)) (.slice (some ⟨w13.heap.size, 0, none⟩) 3 3) [3, 0, 0]) := ints_at w13 [3, 0, 0] 3 (by simp) (w13.heap.size) (rfl)
  have hz14 : (w13.alloc (Obj.cells #[.int .i64 3, .int .i64 0, .int .i64 0] 3)).heap.size = w13.heap.size + 1 := by simp
  have HB' := Lib.hid (HB.out.trans (hb.mono HB.out.size))
  have HCC' := Lib.hid (HCC.out.below hb)
  have HCD' := Lib.hid (HCD.out.below hb)
  have HR' := Lib.hid ((hb.block _ (lt_of_block HR.out)).trans HR.out)
  have HD' := Lib.hid ((hb.block _ (lt_of_block HD.out)).trans HD.out)
  have HS3' := Lib.hid ((hb.block _ (lt_of_block HS3.out)).trans HS3.out)
  have HS9' := Lib.hid ((hb.block _ (lt_of_block HS9.out)).trans HS9.out)
  have HLS' := Lib.hid (HLS.out.below hb)
  clear HB
  have HB := HB'
  clear HB'
  clear HCC
  have HCC := HCC'
  clear HCC'
  clear HCD
  have HCD := HCD'
  clear HCD'
  clear HR
  have HR := HR'
  clear HR'
  clear HD
  have HD := HD'
  clear HD'
  clear HS3
  have HS3 := HS3'
  clear HS3'
  clear HS9
  have HS9 := HS9'
  clear HS9'
  clear HLS
  have HLS := HLS'
  clear HLS'
  clear hb
  generalize w13.alloc (Obj.cells #[.int .i64 3, .int .i64 0, .int .i64 0] 3) = w14 at *
  have Z14 := Lib.hid hz14
  clear hz14
  have hcall := boundT_any (caseR false) _ _ _ [3, 0, 0] _ HCC.out HI.out
  rw [v_bound] at hcall
  simp only at hcall
  refine hcall.mono ?_
  clear hcall
  rintro e w15 ⟨rfl, hb⟩
  have HB' := Lib.hid (HB.out.trans (hb.mono HB.out.size))
  have HCC' := Lib.hid (HCC.out.below hb)
  have HCD' := Lib.hid (HCD.out.below hb)
  have HR' := Lib.hid ((hb.block _ (lt_of_block HR.out)).trans HR.out)
  have HD' := Lib.hid ((hb.block _ (lt_of_block HD.out)).trans HD.out)
  have HS3' := Lib.hid ((hb.block _ (lt_of_block HS3.out)).trans HS3.out)
  have HS9' := Lib.hid ((hb.block _ (lt_of_block HS9.out)).trans HS9.out)
  have HLS' := Lib.hid (HLS.out.below hb)
  have HI' := Lib.hid (HI.out.below hb)
  clear HB
  have HB := HB'
  clear HB'
  clear HCC
  have HCC := HCC'
  clear HCC'
  clear HCD
  have HCD := HCD'
  clear HCD'
  clear HR
  have HR := HR'
  clear HR'
  clear HD
  have HD := HD'
  clear HD'
  clear HS3
  have HS3 := HS3'
  clear HS3'
  clear HS9
  have HS9 := HS9'
  clear HS9'
  clear HLS
  have HLS := HLS'
  clear HLS'
  clear HI
  have HI := HI'
  clear HI'
  clear hb
  clear HI
  have cHR0 := cellOf HR.out 0 _ rfl
  have cHR1 := cellOf HR.out 1 _ rfl
  have cHR2 := cellOf HR.out 2 _ rfl
  have lHR := lt_of_block HR.out
  go_wp2_with fail
  clear cHR0 cHR1 cHR2 lHR
  have hcall := proofT_any (caseR false) _ _ _ HCC.out
  refine hcall.mono ?_
  clear hcall
  rintro e w16 ⟨_, _, hl, hb⟩
  obtain ⟨v, rfl, hi⟩ := hl (v_err _) v_torn' _ v_proof
  have hi' : IntsAt w16 v [1, 0, 1] := hi
  obtain ⟨pa, pc, rfl⟩ : ∃ a c, v = .slice a 3 c := by obtain ⟨_, a, cap, h, _⟩ := hi'; exact ⟨_, _, h⟩
  have HB' := Lib.hid (HB.out.trans (hb.mono HB.out.size))
  have HCC' := Lib.hid (HCC.out.below hb)
  have HCD' := Lib.hid (HCD.out.below hb)
  have HR' := Lib.hid ((hb.block _ (lt_of_block HR.out)).trans HR.out)
  have HD' := Lib.hid ((hb.block _ (lt_of_block HD.out)).trans HD.out)
  have HS3' := Lib.hid ((hb.block _ (lt_of_block HS3.out)).trans HS3.out)
  have HS9' := Lib.hid ((hb.block _ (lt_of_block HS9.out)).trans HS9.out)
  have HLS' := Lib.hid (HLS.out.below hb)
  clear HB
  have HB := HB'
  clear HB'
  clear HCC
  have HCC := HCC'
  clear HCC'
  clear HCD
  have HCD := HCD'
  clear HCD'
  clear HR
  have HR := HR'
  clear HR'
  clear HD
  have HD := HD'
  clear HD'
  clear HS3
  have HS3 := HS3'
  clear HS3'
  clear HS9
  have HS9 := HS9'
  clear HS9'
  clear HLS
  have HLS := HLS'
  clear HLS'
  have HPF := Lib.hid (hi')
  clear hb
  clear hi hi' hl
  have cHD0 := cellOf HD.out 0 _ rfl
  have cHD1 := cellOf HD.out 1 _ rfl
  have cHD2 := cellOf HD.out 2 _ rfl
  have lHD := lt_of_block HD.out
  go_wp2_with fail
  clear cHD0 cHD1 cHD2 lHD
  have hcall := without_any (caseR true) _ _ _ HCD.out
  refine hcall.mono ?_
  clear hcall
  rintro e w17 ⟨_, hl, hb⟩
  obtain ⟨v, rfl, hi⟩ := hl (v_err _)
  rw [v_without] at hi
  obtain ⟨oa, oc, rfl⟩ : ∃ a c, v = .slice a 1 c := by obtain ⟨_, a, cap, h, _⟩ := hi; exact ⟨_, _, h⟩
  have HB' := Lib.hid (HB.out.trans (hb.mono HB.out.size))
  have HCC' := Lib.hid (HCC.out.below hb)
  have HCD' := Lib.hid (HCD.out.below hb)
  have HR' := Lib.hid ((hb.block _ (lt_of_block HR.out)).trans HR.out)
  have HD' := Lib.hid ((hb.block _ (lt_of_block HD.out)).trans HD.out)
  have HS3' := Lib.hid ((hb.block _ (lt_of_block HS3.out)).trans HS3.out)
  have HS9' := Lib.hid ((hb.block _ (lt_of_block HS9.out)).trans HS9.out)
  have HLS' := Lib.hid (HLS.out.below hb)
  have HPF' := Lib.hid (HPF.out.below hb)
  clear HB
  have HB := HB'
  clear HB'
  clear HCC
  have HCC := HCC'
  clear HCC'
  clear HCD
  have HCD := HCD'
  clear HCD'
  clear HR
  have HR := HR'
  clear HR'
  clear HD
  have HD := HD'
  clear HD'
  clear HS3
  have HS3 := HS3'
  clear HS3'
  clear HS9
  have HS9 := HS9'
  clear HS9'
  clear HLS
  have HLS := HLS'
  clear HLS'
  clear HPF
  have HPF := HPF'
  clear HPF'
  have HOU := Lib.hid (hi)
  clear hb
  clear hi hl
  have cHD0 := cellOf HD.out 0 _ rfl
  have cHD1 := cellOf HD.out 1 _ rfl
  have cHD2 := cellOf HD.out 2 _ rfl
  have lHD := lt_of_block HD.out
  go_wp2_with fail
  clear cHD0 cHD1 cHD2 lHD
  have hcall := leastT_any (caseR true) _ _ _ HCD.out
  refine hcall.mono ?_
  clear hcall
  rintro e w18 ⟨_, hd, _, hb⟩
  obtain rfl := hd (v_err _) v_down
  have HB' := Lib.hid (HB.out.trans (hb.mono HB.out.size))
  have HCC' := Lib.hid (HCC.out.below hb)
  have HCD' := Lib.hid (HCD.out.below hb)
  have HR' := Lib.hid ((hb.block _ (lt_of_block HR.out)).trans HR.out)
  have HD' := Lib.hid ((hb.block _ (lt_of_block HD.out)).trans HD.out)
  have HS3' := Lib.hid ((hb.block _ (lt_of_block HS3.out)).trans HS3.out)
  have HS9' := Lib.hid ((hb.block _ (lt_of_block HS9.out)).trans HS9.out)
  have HLS' := Lib.hid (HLS.out.below hb)
  have HPF' := Lib.hid (HPF.out.below hb)
  have HOU' := Lib.hid (HOU.out.below hb)
  clear HB
  have HB := HB'
  clear HB'
  clear HCC
  have HCC := HCC'
  clear HCC'
  clear HCD
  have HCD := HCD'
  clear HCD'
  clear HR
  have HR := HR'
  clear HR'
  clear HD
  have HD := HD'
  clear HD'
  clear HS3
  have HS3 := HS3'
  clear HS3'
  clear HS9
  have HS9 := HS9'
  clear HS9'
  clear HLS
  have HLS := HLS'
  clear HLS'
  clear HPF
  have HPF := HPF'
  clear HPF'
  clear HOU
  have HOU := HOU'
  clear HOU'
  clear hb
  clear hd
  have cHR0 := cellOf HR.out 0 _ rfl
  have cHR1 := cellOf HR.out 1 _ rfl
  have cHR2 := cellOf HR.out 2 _ rfl
  have lHR := lt_of_block HR.out
  go_wp2_with fail
  clear cHR0 cHR1 cHR2 lHR
  have hcall := boundT_any (caseR false) _ _ _ [1, 0, 1] _ HCC.out HPF.out
  rw [v_best] at hcall
  simp only at hcall
  refine hcall.mono ?_
  clear hcall
  rintro e w19 ⟨rfl, hb⟩
  have HB' := Lib.hid (HB.out.trans (hb.mono HB.out.size))
  have HCC' := Lib.hid (HCC.out.below hb)
  have HCD' := Lib.hid (HCD.out.below hb)
  have HR' := Lib.hid ((hb.block _ (lt_of_block HR.out)).trans HR.out)
  have HD' := Lib.hid ((hb.block _ (lt_of_block HD.out)).trans HD.out)
  have HS3' := Lib.hid ((hb.block _ (lt_of_block HS3.out)).trans HS3.out)
  have HS9' := Lib.hid ((hb.block _ (lt_of_block HS9.out)).trans HS9.out)
  have HLS' := Lib.hid (HLS.out.below hb)
  have HPF' := Lib.hid (HPF.out.below hb)
  have HOU' := Lib.hid (HOU.out.below hb)
  clear HB
  have HB := HB'
  clear HB'
  clear HCC
  have HCC := HCC'
  clear HCC'
  clear HCD
  have HCD := HCD'
  clear HCD'
  clear HR
  have HR := HR'
  clear HR'
  clear HD
  have HD := HD'
  clear HD'
  clear HS3
  have HS3 := HS3'
  clear HS3'
  clear HS9
  have HS9 := HS9'
  clear HS9'
  clear HLS
  have HLS := HLS'
  clear HLS'
  clear HPF
  have HPF := HPF'
  clear HPF'
  clear HOU
  have HOU := HOU'
  clear HOU'
  clear hb
  clear HPF
  go_wp2_with fail
  simp only [List.append_eq, List.cons_append, List.nil_append]
  refine wp_region_noPanic ?_
  refine wp_region_held_drew (S := (fun W' => W'.cell? ⟨w5.heap.size, 0, none⟩ = some (.int .i64 3) ∧ W'.cell? ⟨w5.heap.size, 1, none⟩ = some (.int .i64 4) ∧ W'.cell? ⟨w11.heap.size, 0, none⟩ = some (.int .i64 (-5)) ∧ W'.cell? ⟨w11.heap.size, 1, none⟩ = some (.int .i64 3) ∧ Below w19.heap.size w19 W')) (by kernel_rfl) ?_ (fun hh0 => ?_)
  · try dsimp only
    exact ⟨cellOf HS3.out 0 _ rfl, cellOf HS3.out 1 _ rfl, cellOf HS9.out 0 _ rfl, cellOf HS9.out 1 _ rfl, (Below.refl _ _).drew⟩
  refine wpAnyH_take (i := 0) (v := ?_) rfl (by as_aux_lemma => kernel_rfl) (by as_aux_lemma => kernel_rfl) (by as_aux_lemma => kernel_rfl) (fun _ _ _ h => h) (Or.inl ⟨by rfl, ?_⟩) (by assumption) ?_
  rotate_left
  · intro w hSw
    try dsimp only at hSw
    go_simp
    try with_reducible rfl
  try simp only [Act.put, List.getElem_toArray, List.getElem_cons_succ, List.getElem_cons_zero, List.setIfInBounds_toArray, List.set_cons_zero, List.set_cons_succ]
  refine wpAnyH_take (i := 1) (v := ?_) rfl (by as_aux_lemma => kernel_rfl) (by as_aux_lemma => kernel_rfl) (by as_aux_lemma => kernel_rfl) (fun _ _ _ h => h) (Or.inl ⟨by rfl, ?_⟩) (by assumption) ?_
  rotate_left
  · intro w hSw
    try dsimp only at hSw
    go_simp
    try with_reducible rfl
  try simp only [Act.put, List.getElem_toArray, List.getElem_cons_succ, List.getElem_cons_zero, List.setIfInBounds_toArray, List.set_cons_zero, List.set_cons_succ]
  refine wpAnyH_take (i := 2) (v := ?_) rfl (by as_aux_lemma => kernel_rfl) (by as_aux_lemma => kernel_rfl) (by as_aux_lemma => kernel_rfl) (fun _ _ _ h => h) (Or.inl ⟨by rfl, ?_⟩) (by assumption) ?_
  rotate_left
  · intro w hSw
    try dsimp only at hSw
    go_simp
    try with_reducible rfl
  try simp only [Act.put, List.getElem_toArray, List.getElem_cons_succ, List.getElem_cons_zero, List.setIfInBounds_toArray, List.set_cons_zero, List.set_cons_succ]
  refine wpAnyH_take (i := 3) (v := ?_) rfl (by as_aux_lemma => kernel_rfl) (by as_aux_lemma => kernel_rfl) (by as_aux_lemma => kernel_rfl) (fun _ _ _ h => h) (Or.inl ⟨by rfl, ?_⟩) (by assumption) ?_
  rotate_left
  · intro w hSw
    try dsimp only at hSw
    go_simp
    try with_reducible rfl
  try simp only [Act.put, List.getElem_toArray, List.getElem_cons_succ, List.getElem_cons_zero, List.setIfInBounds_toArray, List.set_cons_zero, List.set_cons_succ]
  refine wpAnyH_take (i := 4) (v := ?_) rfl (by as_aux_lemma => kernel_rfl) (by as_aux_lemma => kernel_rfl) (by as_aux_lemma => kernel_rfl) (fun _ _ _ h => h) (Or.inl ⟨by rfl, ?_⟩) (by assumption) ?_
  rotate_left
  · intro w hSw
    try dsimp only at hSw
    go_simp
    try with_reducible rfl
  try simp only [Act.put, List.getElem_toArray, List.getElem_cons_succ, List.getElem_cons_zero, List.setIfInBounds_toArray, List.set_cons_zero, List.set_cons_succ]
  refine wpAnyH_take (i := 5) (v := ?_) rfl (by as_aux_lemma => kernel_rfl) (by as_aux_lemma => kernel_rfl) (by as_aux_lemma => kernel_rfl) (fun _ _ _ h => h) (Or.inl ⟨by rfl, ?_⟩) (by assumption) ?_
  rotate_left
  · intro w hSw
    try dsimp only at hSw
    go_simp
    try with_reducible rfl
  try simp only [Act.put, List.getElem_toArray, List.getElem_cons_succ, List.getElem_cons_zero, List.setIfInBounds_toArray, List.set_cons_zero, List.set_cons_succ]
  refine wpAnyH_take (i := 6) (v := ?_) rfl (by as_aux_lemma => kernel_rfl) (by as_aux_lemma => kernel_rfl) (by as_aux_lemma => kernel_rfl) (fun _ _ _ h => h) (Or.inl ⟨by rfl, ?_⟩) (by assumption) ?_
  rotate_left
  · intro w hSw
    try dsimp only at hSw
    go_simp
    try with_reducible rfl
  try simp only [Act.put, List.getElem_toArray, List.getElem_cons_succ, List.getElem_cons_zero, List.setIfInBounds_toArray, List.set_cons_zero, List.set_cons_succ]
  refine wpAnyH_take (i := 7) (v := ?_) rfl (by as_aux_lemma => kernel_rfl) (by as_aux_lemma => kernel_rfl) (by as_aux_lemma => kernel_rfl) (fun _ _ _ h => h) (Or.inl ⟨by rfl, ?_⟩) (by assumption) ?_
  rotate_left
  · intro w hSw
    try dsimp only at hSw
    go_simp
    try with_reducible rfl
  try simp only [Act.put, List.getElem_toArray, List.getElem_cons_succ, List.getElem_cons_zero, List.setIfInBounds_toArray, List.set_cons_zero, List.set_cons_succ]
  refine wpAnyH_take (i := 8) (v := ?_) rfl (by as_aux_lemma => kernel_rfl) (by as_aux_lemma => kernel_rfl) (by as_aux_lemma => kernel_rfl) (fun _ _ _ h => h) (Or.inl ⟨by rfl, ?_⟩) (by assumption) ?_
  rotate_left
  · intro w hSw
    try dsimp only at hSw
    go_simp
    try with_reducible rfl
  try simp only [Act.put, List.getElem_toArray, List.getElem_cons_succ, List.getElem_cons_zero, List.setIfInBounds_toArray, List.set_cons_zero, List.set_cons_succ]
  refine wpAnyH_take (i := 9) (v := ?_) rfl (by as_aux_lemma => kernel_rfl) (by as_aux_lemma => kernel_rfl) (by as_aux_lemma => kernel_rfl) (fun _ _ _ h => h) (Or.inl ⟨by rfl, ?_⟩) (by assumption) ?_
  rotate_left
  · intro w hSw
    try dsimp only at hSw
    go_simp
    try with_reducible rfl
  try simp only [Act.put, List.getElem_toArray, List.getElem_cons_succ, List.getElem_cons_zero, List.setIfInBounds_toArray, List.set_cons_zero, List.set_cons_succ]
  refine wpAnyH_take (i := 10) (v := ?_) rfl (by as_aux_lemma => kernel_rfl) (by as_aux_lemma => kernel_rfl) (by as_aux_lemma => kernel_rfl) (fun _ _ _ h => h) (Or.inl ⟨by rfl, ?_⟩) (by assumption) ?_
  rotate_left
  · intro w hSw
    try dsimp only at hSw
    go_simp
    try with_reducible rfl
  try simp only [Act.put, List.getElem_toArray, List.getElem_cons_succ, List.getElem_cons_zero, List.setIfInBounds_toArray, List.set_cons_zero, List.set_cons_succ]
  refine wpAnyH_take (i := 11) (v := ?_) rfl (by as_aux_lemma => kernel_rfl) (by as_aux_lemma => kernel_rfl) (by as_aux_lemma => kernel_rfl) (fun _ _ _ h => h) (Or.inl ⟨by rfl, ?_⟩) (by assumption) ?_
  rotate_left
  · intro w hSw
    try dsimp only at hSw
    go_simp
    try with_reducible rfl
  try simp only [Act.put, List.getElem_toArray, List.getElem_cons_succ, List.getElem_cons_zero, List.setIfInBounds_toArray, List.set_cons_zero, List.set_cons_succ]
  refine wpAnyH_take (i := 12) (v := ?_) rfl (by as_aux_lemma => kernel_rfl) (by as_aux_lemma => kernel_rfl) (by as_aux_lemma => kernel_rfl) (fun _ _ _ h => h) (Or.inl ⟨by rfl, ?_⟩) (by assumption) ?_
  rotate_left
  · intro w hSw
    try dsimp only at hSw
    go_simp
    try with_reducible rfl
  try simp only [Act.put, List.getElem_toArray, List.getElem_cons_succ, List.getElem_cons_zero, List.setIfInBounds_toArray, List.set_cons_zero, List.set_cons_succ]
  refine wpAnyH_take (i := 13) (v := ?_) rfl (by as_aux_lemma => kernel_rfl) (by as_aux_lemma => kernel_rfl) (by as_aux_lemma => kernel_rfl) (fun _ _ _ h => h) (Or.inl ⟨by rfl, ?_⟩) (by assumption) ?_
  rotate_left
  · intro w hSw
    try dsimp only at hSw
    go_simp
    try with_reducible rfl
  try simp only [Act.put, List.getElem_toArray, List.getElem_cons_succ, List.getElem_cons_zero, List.setIfInBounds_toArray, List.set_cons_zero, List.set_cons_succ]
  refine wpAnyH_take (i := 14) (v := ?_) rfl (by as_aux_lemma => kernel_rfl) (by as_aux_lemma => kernel_rfl) (by as_aux_lemma => kernel_rfl) (fun _ _ _ h => h) (Or.inl ⟨by rfl, ?_⟩) (by assumption) ?_
  rotate_left
  · intro w hSw
    try dsimp only at hSw
    go_simp
    try with_reducible rfl
  try simp only [Act.put, List.getElem_toArray, List.getElem_cons_succ, List.getElem_cons_zero, List.setIfInBounds_toArray, List.set_cons_zero, List.set_cons_succ]
  refine wpAnyH_take (i := 15) (v := ?_) rfl (by as_aux_lemma => kernel_rfl) (by as_aux_lemma => kernel_rfl) (by as_aux_lemma => kernel_rfl) (fun _ _ _ h => h) (Or.inl ⟨by rfl, ?_⟩) (by assumption) ?_
  rotate_left
  · intro w hSw
    try dsimp only at hSw
    go_simp
    try with_reducible rfl
  try simp only [Act.put, List.getElem_toArray, List.getElem_cons_succ, List.getElem_cons_zero, List.setIfInBounds_toArray, List.set_cons_zero, List.set_cons_succ]
  refine wpAnyH_take (i := 16) (v := ?_) rfl (by as_aux_lemma => kernel_rfl) (by as_aux_lemma => kernel_rfl) (by as_aux_lemma => kernel_rfl) (fun _ _ _ h => h) (Or.inl ⟨by rfl, ?_⟩) (by assumption) ?_
  rotate_left
  · intro w hSw
    try dsimp only at hSw
    go_simp
    try with_reducible rfl
  try simp only [Act.put, List.getElem_toArray, List.getElem_cons_succ, List.getElem_cons_zero, List.setIfInBounds_toArray, List.set_cons_zero, List.set_cons_succ]
  refine wpAnyH_take (i := 17) (v := ?_) rfl (by as_aux_lemma => kernel_rfl) (by as_aux_lemma => kernel_rfl) (by as_aux_lemma => kernel_rfl) (fun _ _ _ h => h) (Or.inl ⟨by rfl, ?_⟩) (by assumption) ?_
  rotate_left
  · intro w hSw
    try dsimp only at hSw
    go_simp
    try with_reducible rfl
  try simp only [Act.put, List.getElem_toArray, List.getElem_cons_succ, List.getElem_cons_zero, List.setIfInBounds_toArray, List.set_cons_zero, List.set_cons_succ]
  refine wpAnyH_take (i := 18) (v := ?_) rfl (by as_aux_lemma => kernel_rfl) (by as_aux_lemma => kernel_rfl) (by as_aux_lemma => kernel_rfl) (fun _ _ _ h => h) (Or.inl ⟨by rfl, ?_⟩) (by assumption) ?_
  rotate_left
  · intro w hSw
    try dsimp only at hSw
    go_simp
    try with_reducible rfl
  try simp only [Act.put, List.getElem_toArray, List.getElem_cons_succ, List.getElem_cons_zero, List.setIfInBounds_toArray, List.set_cons_zero, List.set_cons_succ]
  refine wpAnyH_take (i := 19) (v := ?_) rfl (by as_aux_lemma => kernel_rfl) (by as_aux_lemma => kernel_rfl) (by as_aux_lemma => kernel_rfl) (fun _ _ _ h => h) (Or.inl ⟨by rfl, ?_⟩) (by assumption) ?_
  rotate_left
  · intro w hSw
    try dsimp only at hSw
    go_simp
    try with_reducible rfl
  try simp only [Act.put, List.getElem_toArray, List.getElem_cons_succ, List.getElem_cons_zero, List.setIfInBounds_toArray, List.set_cons_zero, List.set_cons_succ]
  refine wpAnyH_take (i := 20) (v := ?_) rfl (by as_aux_lemma => kernel_rfl) (by as_aux_lemma => kernel_rfl) (by as_aux_lemma => kernel_rfl) (fun _ _ _ h => h) (Or.inl ⟨by rfl, ?_⟩) (by assumption) ?_
  rotate_left
  · intro w hSw
    try dsimp only at hSw
    go_simp
    try with_reducible rfl
  try simp only [Act.put, List.getElem_toArray, List.getElem_cons_succ, List.getElem_cons_zero, List.setIfInBounds_toArray, List.set_cons_zero, List.set_cons_succ]
  refine wpAnyH_take (i := 21) (v := ?_) rfl (by as_aux_lemma => kernel_rfl) (by as_aux_lemma => kernel_rfl) (by as_aux_lemma => kernel_rfl) (fun _ _ _ h => h) (Or.inl ⟨by rfl, ?_⟩) (by assumption) ?_
  rotate_left
  · intro w hSw
    try dsimp only at hSw
    go_simp
    try with_reducible rfl
  try simp only [Act.put, List.getElem_toArray, List.getElem_cons_succ, List.getElem_cons_zero, List.setIfInBounds_toArray, List.set_cons_zero, List.set_cons_succ]
  refine wpAnyH_take (i := 22) (v := ?_) rfl (by as_aux_lemma => kernel_rfl) (by as_aux_lemma => kernel_rfl) (by as_aux_lemma => kernel_rfl) (fun _ _ _ h => h) (Or.inl ⟨by rfl, ?_⟩) (by assumption) ?_
  rotate_left
  · intro w hSw
    try dsimp only at hSw
    go_simp
    try with_reducible rfl
  try simp only [Act.put, List.getElem_toArray, List.getElem_cons_succ, List.getElem_cons_zero, List.setIfInBounds_toArray, List.set_cons_zero, List.set_cons_succ]
  refine wpAnyH_take (i := 23) (v := ?_) rfl (by as_aux_lemma => kernel_rfl) (by as_aux_lemma => kernel_rfl) (by as_aux_lemma => kernel_rfl) (fun _ _ _ h => h) (Or.inl ⟨by rfl, ?_⟩) (by assumption) ?_
  rotate_left
  · intro w hSw
    try dsimp only at hSw
    go_simp
    try with_reducible rfl
  try simp only [Act.put, List.getElem_toArray, List.getElem_cons_succ, List.getElem_cons_zero, List.setIfInBounds_toArray, List.set_cons_zero, List.set_cons_succ]
  refine wpAnyH_take (i := 24) (v := ?_) rfl (by as_aux_lemma => kernel_rfl) (by as_aux_lemma => kernel_rfl) (by as_aux_lemma => kernel_rfl) (fun _ _ _ h => h) (Or.inl ⟨by rfl, ?_⟩) (by assumption) ?_
  rotate_left
  · intro w hSw
    try dsimp only at hSw
    go_simp
    try with_reducible rfl
  try simp only [Act.put, List.getElem_toArray, List.getElem_cons_succ, List.getElem_cons_zero, List.setIfInBounds_toArray, List.set_cons_zero, List.set_cons_succ]
  refine wpAnyH_take (i := 25) (v := ?_) rfl (by as_aux_lemma => kernel_rfl) (by as_aux_lemma => kernel_rfl) (by as_aux_lemma => kernel_rfl) (fun _ _ _ h => h) (Or.inl ⟨by rfl, ?_⟩) (by assumption) ?_
  rotate_left
  · intro w hSw
    try dsimp only at hSw
    go_simp
    try with_reducible rfl
  try simp only [Act.put, List.getElem_toArray, List.getElem_cons_succ, List.getElem_cons_zero, List.setIfInBounds_toArray, List.set_cons_zero, List.set_cons_succ]
  refine wpAnyH_take (i := 26) (v := ?_) rfl (by as_aux_lemma => kernel_rfl) (by as_aux_lemma => kernel_rfl) (by as_aux_lemma => kernel_rfl) (fun _ _ _ h => h) (Or.inl ⟨by rfl, ?_⟩) (by assumption) ?_
  rotate_left
  · intro w hSw
    try dsimp only at hSw
    go_simp
    try with_reducible rfl
  try simp only [Act.put, List.getElem_toArray, List.getElem_cons_succ, List.getElem_cons_zero, List.setIfInBounds_toArray, List.set_cons_zero, List.set_cons_succ]
  refine wpAnyH_take (i := 27) (v := ?_) rfl (by as_aux_lemma => kernel_rfl) (by as_aux_lemma => kernel_rfl) (by as_aux_lemma => kernel_rfl) (fun _ _ _ h => h) (Or.inl ⟨by rfl, ?_⟩) (by assumption) ?_
  rotate_left
  · intro w hSw
    try dsimp only at hSw
    go_simp
    try with_reducible rfl
  try simp only [Act.put, List.getElem_toArray, List.getElem_cons_succ, List.getElem_cons_zero, List.setIfInBounds_toArray, List.set_cons_zero, List.set_cons_succ]
  refine wpAnyH_take (i := 28) (v := ?_) rfl (by as_aux_lemma => kernel_rfl) (by as_aux_lemma => kernel_rfl) (by as_aux_lemma => kernel_rfl) (fun _ _ _ h => h) (Or.inl ⟨by rfl, ?_⟩) (by assumption) ?_
  rotate_left
  · intro w hSw
    try dsimp only at hSw
    go_simp
    try with_reducible rfl
  try simp only [Act.put, List.getElem_toArray, List.getElem_cons_succ, List.getElem_cons_zero, List.setIfInBounds_toArray, List.set_cons_zero, List.set_cons_succ]
  refine wpAnyH_take (i := 29) (v := ?_) rfl (by as_aux_lemma => kernel_rfl) (by as_aux_lemma => kernel_rfl) (by as_aux_lemma => kernel_rfl) (fun _ _ _ h => h) (Or.inl ⟨by rfl, ?_⟩) (by assumption) ?_
  rotate_left
  · intro w hSw
    try dsimp only at hSw
    go_simp
    try with_reducible rfl
  try simp only [Act.put, List.getElem_toArray, List.getElem_cons_succ, List.getElem_cons_zero, List.setIfInBounds_toArray, List.set_cons_zero, List.set_cons_succ]
  refine wpAnyH_take (i := 30) (v := ?_) rfl (by as_aux_lemma => kernel_rfl) (by as_aux_lemma => kernel_rfl) (by as_aux_lemma => kernel_rfl) (fun _ _ _ h => h) (Or.inl ⟨by rfl, ?_⟩) (by assumption) ?_
  rotate_left
  · intro w hSw
    try dsimp only at hSw
    go_simp
    try with_reducible rfl
  try simp only [Act.put, List.getElem_toArray, List.getElem_cons_succ, List.getElem_cons_zero, List.setIfInBounds_toArray, List.set_cons_zero, List.set_cons_succ]
  refine wpAnyH_take (i := 31) (v := ?_) rfl (by as_aux_lemma => kernel_rfl) (by as_aux_lemma => kernel_rfl) (by as_aux_lemma => kernel_rfl) (fun _ _ _ h => h) (Or.inl ⟨by rfl, ?_⟩) (by assumption) ?_
  rotate_left
  · intro w hSw
    try dsimp only at hSw
    go_simp
    try with_reducible rfl
  try simp only [Act.put, List.getElem_toArray, List.getElem_cons_succ, List.getElem_cons_zero, List.setIfInBounds_toArray, List.set_cons_zero, List.set_cons_succ]
  refine wpAnyH_take (i := 32) (v := ?_) rfl (by as_aux_lemma => kernel_rfl) (by as_aux_lemma => kernel_rfl) (by as_aux_lemma => kernel_rfl) (fun _ _ _ h => h) (Or.inl ⟨by rfl, ?_⟩) (by assumption) ?_
  rotate_left
  · intro w hSw
    try dsimp only at hSw
    go_simp
    try with_reducible rfl
  try simp only [Act.put, List.getElem_toArray, List.getElem_cons_succ, List.getElem_cons_zero, List.setIfInBounds_toArray, List.set_cons_zero, List.set_cons_succ]
  refine wpAnyH_take (i := 33) (v := ?_) rfl (by as_aux_lemma => kernel_rfl) (by as_aux_lemma => kernel_rfl) (by as_aux_lemma => kernel_rfl) (fun _ _ _ h => h) (Or.inl ⟨by rfl, ?_⟩) (by assumption) ?_
  rotate_left
  · intro w hSw
    try dsimp only at hSw
    go_simp
    try with_reducible rfl
  try simp only [Act.put, List.getElem_toArray, List.getElem_cons_succ, List.getElem_cons_zero, List.setIfInBounds_toArray, List.set_cons_zero, List.set_cons_succ]
  refine wpAnyH_take (i := 34) (v := ?_) rfl (by as_aux_lemma => kernel_rfl) (by as_aux_lemma => kernel_rfl) (by as_aux_lemma => kernel_rfl) (fun _ _ _ h => h) (Or.inl ⟨by rfl, ?_⟩) (by assumption) ?_
  rotate_left
  · intro w hSw
    try dsimp only at hSw
    go_simp
    try with_reducible rfl
  try simp only [Act.put, List.getElem_toArray, List.getElem_cons_succ, List.getElem_cons_zero, List.setIfInBounds_toArray, List.set_cons_zero, List.set_cons_succ]
  refine wpAnyH_take (i := 35) (v := ?_) rfl (by as_aux_lemma => kernel_rfl) (by as_aux_lemma => kernel_rfl) (by as_aux_lemma => kernel_rfl) (fun _ _ _ h => h) (Or.inl ⟨by rfl, ?_⟩) (by assumption) ?_
  rotate_left
  · intro w hSw
    try dsimp only at hSw
    go_simp
    try with_reducible rfl
  try simp only [Act.put, List.getElem_toArray, List.getElem_cons_succ, List.getElem_cons_zero, List.setIfInBounds_toArray, List.set_cons_zero, List.set_cons_succ]
  refine wpAnyH_ready (rs := [36]) (by as_aux_lemma => kernel_rfl) (by simp) ?_
  refine AllReadyH.cons rfl (fun K hK => ?_) AllReadyH.nil
  go_simp
  refine (lspan_any _ _ _).mono ?_
  rintro e w' ⟨rfl, hb⟩
  refine hK.out _ _ ?_ (fun hh1 => ?_)
  · try dsimp only
    exact ⟨keepK hh0.1 hb, keepK hh0.2.1 hb, keepK hh0.2.2.1 hb, keepK hh0.2.2.2.1 hb, hh0.2.2.2.2.trans (hb.mono hh0.2.2.2.2.size)⟩
  clear hK K hh0
  try simp only [Act.put, List.getElem_toArray, List.getElem_cons_succ, List.getElem_cons_zero, List.setIfInBounds_toArray, List.set_cons_zero, List.set_cons_succ]
  refine wpAnyH_take (i := 37) (v := ?_) rfl (by as_aux_lemma => kernel_rfl) (by as_aux_lemma => kernel_rfl) (by as_aux_lemma => kernel_rfl) (fun _ _ _ h => h) (Or.inl ⟨by rfl, ?_⟩) (by assumption) ?_
  rotate_left
  · intro w hSw
    try dsimp only at hSw
    go_simp
    try with_reducible rfl
  try simp only [Act.put, List.getElem_toArray, List.getElem_cons_succ, List.getElem_cons_zero, List.setIfInBounds_toArray, List.set_cons_zero, List.set_cons_succ]
  refine wpAnyH_take (i := 38) (v := ?_) rfl (by as_aux_lemma => kernel_rfl) (by as_aux_lemma => kernel_rfl) (by as_aux_lemma => kernel_rfl) (fun _ _ _ h => h) (Or.inl ⟨by rfl, ?_⟩) (by assumption) ?_
  rotate_left
  · intro w hSw
    try dsimp only at hSw
    go_simp
    try with_reducible rfl
  try simp only [Act.put, List.getElem_toArray, List.getElem_cons_succ, List.getElem_cons_zero, List.setIfInBounds_toArray, List.set_cons_zero, List.set_cons_succ]
  refine wpAnyH_take (i := 39) (v := ?_) rfl (by as_aux_lemma => kernel_rfl) (by as_aux_lemma => kernel_rfl) (by as_aux_lemma => kernel_rfl) (fun _ _ _ h => h) (Or.inl ⟨by rfl, ?_⟩) (by assumption) ?_
  rotate_left
  · intro w hSw
    try dsimp only at hSw
    go_simp
    try with_reducible rfl
  try simp only [Act.put, List.getElem_toArray, List.getElem_cons_succ, List.getElem_cons_zero, List.setIfInBounds_toArray, List.set_cons_zero, List.set_cons_succ]
  refine wpAnyH_take (i := 40) (v := ?_) rfl (by as_aux_lemma => kernel_rfl) (by as_aux_lemma => kernel_rfl) (by as_aux_lemma => kernel_rfl) (fun _ _ _ h => h) (Or.inl ⟨by rfl, ?_⟩) (by assumption) ?_
  rotate_left
  · intro w hSw
    try dsimp only at hSw
    go_simp
    try with_reducible rfl
  try simp only [Act.put, List.getElem_toArray, List.getElem_cons_succ, List.getElem_cons_zero, List.setIfInBounds_toArray, List.set_cons_zero, List.set_cons_succ]
  refine wpAnyH_take (i := 41) (v := ?_) rfl (by as_aux_lemma => kernel_rfl) (by as_aux_lemma => kernel_rfl) (by as_aux_lemma => kernel_rfl) (fun _ _ _ h => h) (Or.inl ⟨by rfl, ?_⟩) (by assumption) ?_
  rotate_left
  · intro w hSw
    try dsimp only at hSw
    go_simp
    try with_reducible rfl
  try simp only [Act.put, List.getElem_toArray, List.getElem_cons_succ, List.getElem_cons_zero, List.setIfInBounds_toArray, List.set_cons_zero, List.set_cons_succ]
  refine wpAnyH_take (i := 42) (v := ?_) rfl (by as_aux_lemma => kernel_rfl) (by as_aux_lemma => kernel_rfl) (by as_aux_lemma => kernel_rfl) (fun _ _ _ h => h) (Or.inl ⟨by rfl, ?_⟩) (by assumption) ?_
  rotate_left
  · intro w hSw
    try dsimp only at hSw
    go_simp
    try with_reducible rfl
  try simp only [Act.put, List.getElem_toArray, List.getElem_cons_succ, List.getElem_cons_zero, List.setIfInBounds_toArray, List.set_cons_zero, List.set_cons_succ]
  refine wpAnyH_take (i := 43) (v := ?_) rfl (by as_aux_lemma => kernel_rfl) (by as_aux_lemma => kernel_rfl) (by as_aux_lemma => kernel_rfl) (fun _ _ _ h => h) (Or.inl ⟨by rfl, ?_⟩) (by assumption) ?_
  rotate_left
  · intro w hSw
    try dsimp only at hSw
    go_simp
    try with_reducible rfl
  try simp only [Act.put, List.getElem_toArray, List.getElem_cons_succ, List.getElem_cons_zero, List.setIfInBounds_toArray, List.set_cons_zero, List.set_cons_succ]
  refine wpAnyH_take (i := 44) (v := ?_) rfl (by as_aux_lemma => kernel_rfl) (by as_aux_lemma => kernel_rfl) (by as_aux_lemma => kernel_rfl) (fun _ _ _ h => h) (Or.inl ⟨by rfl, ?_⟩) (by assumption) ?_
  rotate_left
  · intro w hSw
    try dsimp only at hSw
    go_simp
    try with_reducible rfl
  try simp only [Act.put, List.getElem_toArray, List.getElem_cons_succ, List.getElem_cons_zero, List.setIfInBounds_toArray, List.set_cons_zero, List.set_cons_succ]
  refine wpAnyH_take (i := 45) (v := ?_) rfl (by as_aux_lemma => kernel_rfl) (by as_aux_lemma => kernel_rfl) (by as_aux_lemma => kernel_rfl) (fun _ _ _ h => h) (Or.inl ⟨by rfl, ?_⟩) (by assumption) ?_
  rotate_left
  · intro w hSw
    try dsimp only at hSw
    go_simp
    try with_reducible rfl
  try simp only [Act.put, List.getElem_toArray, List.getElem_cons_succ, List.getElem_cons_zero, List.setIfInBounds_toArray, List.set_cons_zero, List.set_cons_succ]
  refine wpAnyH_take (i := 46) (v := ?_) rfl (by as_aux_lemma => kernel_rfl) (by as_aux_lemma => kernel_rfl) (by as_aux_lemma => kernel_rfl) (fun _ _ _ h => h) (Or.inl ⟨by rfl, ?_⟩) (by assumption) ?_
  rotate_left
  · intro w hSw
    try dsimp only at hSw
    go_simp
    try with_reducible rfl
  try simp only [Act.put, List.getElem_toArray, List.getElem_cons_succ, List.getElem_cons_zero, List.setIfInBounds_toArray, List.set_cons_zero, List.set_cons_succ]
  refine wpAnyH_take (i := 47) (v := ?_) rfl (by as_aux_lemma => kernel_rfl) (by as_aux_lemma => kernel_rfl) (by as_aux_lemma => kernel_rfl) (fun _ _ _ h => h) (Or.inl ⟨by rfl, ?_⟩) (by assumption) ?_
  rotate_left
  · intro w hSw
    try dsimp only at hSw
    go_simp
    try with_reducible rfl
  try simp only [Act.put, List.getElem_toArray, List.getElem_cons_succ, List.getElem_cons_zero, List.setIfInBounds_toArray, List.set_cons_zero, List.set_cons_succ]
  refine wpAnyH_take (i := 48) (v := ?_) rfl (by as_aux_lemma => kernel_rfl) (by as_aux_lemma => kernel_rfl) (by as_aux_lemma => kernel_rfl) (fun _ _ _ h => h) (Or.inl ⟨by rfl, ?_⟩) (by assumption) ?_
  rotate_left
  · intro w hSw
    try dsimp only at hSw
    go_simp
    try with_reducible rfl
  try simp only [Act.put, List.getElem_toArray, List.getElem_cons_succ, List.getElem_cons_zero, List.setIfInBounds_toArray, List.set_cons_zero, List.set_cons_succ]
  refine wpAnyH_ready (rs := [49]) (by as_aux_lemma => kernel_rfl) (by simp) ?_
  refine AllReadyH.cons rfl (fun K hK => ?_) AllReadyH.nil
  go_simp
  refine (lspan_any _ _ _).mono ?_
  rintro e w' ⟨rfl, hb⟩
  refine hK.out _ _ ?_ (fun hh2 => ?_)
  · try dsimp only
    exact ⟨keepK hh1.1 hb, keepK hh1.2.1 hb, keepK hh1.2.2.1 hb, keepK hh1.2.2.2.1 hb, hh1.2.2.2.2.trans (hb.mono hh1.2.2.2.2.size)⟩
  clear hK K hh1
  try simp only [Act.put, List.getElem_toArray, List.getElem_cons_succ, List.getElem_cons_zero, List.setIfInBounds_toArray, List.set_cons_zero, List.set_cons_succ]
  refine wpAnyH_take (i := 50) (v := ?_) rfl (by as_aux_lemma => kernel_rfl) (by as_aux_lemma => kernel_rfl) (by as_aux_lemma => kernel_rfl) (fun _ _ _ h => h) (Or.inl ⟨by rfl, ?_⟩) (by assumption) ?_
  rotate_left
  · intro w hSw
    try dsimp only at hSw
    go_simp
    try with_reducible rfl
  try simp only [Act.put, List.getElem_toArray, List.getElem_cons_succ, List.getElem_cons_zero, List.setIfInBounds_toArray, List.set_cons_zero, List.set_cons_succ]
  refine wpAnyH_take (i := 51) (v := ?_) rfl (by as_aux_lemma => kernel_rfl) (by as_aux_lemma => kernel_rfl) (by as_aux_lemma => kernel_rfl) (fun _ _ _ h => h) (Or.inl ⟨by rfl, ?_⟩) (by assumption) ?_
  rotate_left
  · intro w hSw
    try dsimp only at hSw
    go_simp
    try with_reducible rfl
  try simp only [Act.put, List.getElem_toArray, List.getElem_cons_succ, List.getElem_cons_zero, List.setIfInBounds_toArray, List.set_cons_zero, List.set_cons_succ]
  refine wpAnyH_take (i := 52) (v := ?_) rfl (by as_aux_lemma => kernel_rfl) (by as_aux_lemma => kernel_rfl) (by as_aux_lemma => kernel_rfl) (fun _ _ _ h => h) (Or.inl ⟨by rfl, ?_⟩) (by assumption) ?_
  rotate_left
  · intro w hSw
    try dsimp only at hSw
    go_simp
    try with_reducible rfl
  try simp only [Act.put, List.getElem_toArray, List.getElem_cons_succ, List.getElem_cons_zero, List.setIfInBounds_toArray, List.set_cons_zero, List.set_cons_succ]
  refine wpAnyH_take (i := 53) (v := ?_) rfl (by as_aux_lemma => kernel_rfl) (by as_aux_lemma => kernel_rfl) (by as_aux_lemma => kernel_rfl) (fun _ _ _ h => h) (Or.inl ⟨by rfl, ?_⟩) (by assumption) ?_
  rotate_left
  · intro w hSw
    try dsimp only at hSw
    go_simp
    try with_reducible rfl
  try simp only [Act.put, List.getElem_toArray, List.getElem_cons_succ, List.getElem_cons_zero, List.setIfInBounds_toArray, List.set_cons_zero, List.set_cons_succ]
  refine wpAnyH_ready (rs := [54]) (by as_aux_lemma => kernel_rfl) (by simp) ?_
  refine AllReadyH.cons rfl (fun K hK => ?_) AllReadyH.nil
  go_simp
  refine hK.out _ _ ?_ (fun hh3 => ?_)
  · try dsimp only
    refine keepS ?_ ((Below.refl _ _).alloc (Nat.le_refl _) _)
    assumption
  clear hK K hh2
  try simp only [Act.put, List.getElem_toArray, List.getElem_cons_succ, List.getElem_cons_zero, List.setIfInBounds_toArray, List.set_cons_zero, List.set_cons_succ]
  refine wpAnyH_ready (rs := [55]) (by as_aux_lemma => kernel_rfl) (by simp) ?_
  refine AllReadyH.cons rfl (fun K hK => ?_) AllReadyH.nil
  go_simp
  refine (ints_eq _ _ [3, 0, -1] _ ?_ (ints_at _ [3, 0, -1] _ (by simp) _ rfl)).mono ?_
  · exact HLS.out.below ((hh3.2.2.2.2 : Below w19.heap.size w19 _))
  rintro e w' ⟨rfl, hb⟩
  refine hK.out _ _ ?_ (fun hh4 => ?_)
  · try dsimp only
    exact ⟨keepK hh3.1 hb, keepK hh3.2.1 hb, keepK hh3.2.2.1 hb, keepK hh3.2.2.2.1 hb, hh3.2.2.2.2.trans (hb.mono hh3.2.2.2.2.size)⟩
  clear hK K hh3
  try simp only [Act.put, List.getElem_toArray, List.getElem_cons_succ, List.getElem_cons_zero, List.setIfInBounds_toArray, List.set_cons_zero, List.set_cons_succ]
  refine wpAnyH_take (i := 56) (v := ?_) rfl (by as_aux_lemma => kernel_rfl) (by as_aux_lemma => kernel_rfl) (by as_aux_lemma => kernel_rfl) (fun _ _ _ h => h) (Or.inl ⟨by rfl, ?_⟩) (by assumption) ?_
  rotate_left
  · intro w hSw
    try dsimp only at hSw
    go_simp
    try with_reducible rfl
  try simp only [Act.put, List.getElem_toArray, List.getElem_cons_succ, List.getElem_cons_zero, List.setIfInBounds_toArray, List.set_cons_zero, List.set_cons_succ]
  refine wpAnyH_take (i := 57) (v := ?_) rfl (by as_aux_lemma => kernel_rfl) (by as_aux_lemma => kernel_rfl) (by as_aux_lemma => kernel_rfl) (fun _ _ _ h => h) (Or.inl ⟨by rfl, ?_⟩) (by assumption) ?_
  rotate_left
  · intro w hSw
    try dsimp only at hSw
    go_simp
    try with_reducible rfl
  try simp only [Act.put, List.getElem_toArray, List.getElem_cons_succ, List.getElem_cons_zero, List.setIfInBounds_toArray, List.set_cons_zero, List.set_cons_succ]
  refine wpAnyH_take (i := 58) (v := ?_) rfl (by as_aux_lemma => kernel_rfl) (by as_aux_lemma => kernel_rfl) (by as_aux_lemma => kernel_rfl) (fun _ _ _ h => h) (Or.inl ⟨by rfl, ?_⟩) (by assumption) ?_
  rotate_left
  · intro w hSw
    try dsimp only at hSw
    go_simp
    try with_reducible rfl
  try simp only [Act.put, List.getElem_toArray, List.getElem_cons_succ, List.getElem_cons_zero, List.setIfInBounds_toArray, List.set_cons_zero, List.set_cons_succ]
  refine wpAnyH_take (i := 59) (v := ?_) rfl (by as_aux_lemma => kernel_rfl) (by as_aux_lemma => kernel_rfl) (by as_aux_lemma => kernel_rfl) (fun _ _ _ h => h) (Or.inl ⟨by rfl, ?_⟩) (by assumption) ?_
  rotate_left
  · intro w hSw
    try dsimp only at hSw
    go_simp
    try with_reducible rfl
  try simp only [Act.put, List.getElem_toArray, List.getElem_cons_succ, List.getElem_cons_zero, List.setIfInBounds_toArray, List.set_cons_zero, List.set_cons_succ]
  refine wpAnyH_take (i := 60) (v := ?_) rfl (by as_aux_lemma => kernel_rfl) (by as_aux_lemma => kernel_rfl) (by as_aux_lemma => kernel_rfl) (fun _ _ _ h => h) (Or.inl ⟨by rfl, ?_⟩) (by assumption) ?_
  rotate_left
  · intro w hSw
    try dsimp only at hSw
    go_simp
    try with_reducible rfl
  try simp only [Act.put, List.getElem_toArray, List.getElem_cons_succ, List.getElem_cons_zero, List.setIfInBounds_toArray, List.set_cons_zero, List.set_cons_succ]
  refine wpAnyH_take (i := 61) (v := ?_) rfl (by as_aux_lemma => kernel_rfl) (by as_aux_lemma => kernel_rfl) (by as_aux_lemma => kernel_rfl) (fun _ _ _ h => h) (Or.inl ⟨by rfl, ?_⟩) (by assumption) ?_
  rotate_left
  · intro w hSw
    try dsimp only at hSw
    go_simp
    try with_reducible rfl
  try simp only [Act.put, List.getElem_toArray, List.getElem_cons_succ, List.getElem_cons_zero, List.setIfInBounds_toArray, List.set_cons_zero, List.set_cons_succ]
  refine wpAnyH_take (i := 62) (v := ?_) rfl (by as_aux_lemma => kernel_rfl) (by as_aux_lemma => kernel_rfl) (by as_aux_lemma => kernel_rfl) (fun _ _ _ h => h) (Or.inl ⟨by rfl, ?_⟩) (by assumption) ?_
  rotate_left
  · intro w hSw
    try dsimp only at hSw
    go_simp
    try with_reducible rfl
  try simp only [Act.put, List.getElem_toArray, List.getElem_cons_succ, List.getElem_cons_zero, List.setIfInBounds_toArray, List.set_cons_zero, List.set_cons_succ]
  refine wpAnyH_take (i := 63) (v := ?_) rfl (by as_aux_lemma => kernel_rfl) (by as_aux_lemma => kernel_rfl) (by as_aux_lemma => kernel_rfl) (fun _ _ _ h => h) (Or.inl ⟨by rfl, ?_⟩) (by assumption) ?_
  rotate_left
  · intro w hSw
    try dsimp only at hSw
    go_simp
    try with_reducible rfl
  try simp only [Act.put, List.getElem_toArray, List.getElem_cons_succ, List.getElem_cons_zero, List.setIfInBounds_toArray, List.set_cons_zero, List.set_cons_succ]
  refine wpAnyH_take (i := 64) (v := ?_) rfl (by as_aux_lemma => kernel_rfl) (by as_aux_lemma => kernel_rfl) (by as_aux_lemma => kernel_rfl) (fun _ _ _ h => h) (Or.inl ⟨by rfl, ?_⟩) (by assumption) ?_
  rotate_left
  · intro w hSw
    try dsimp only at hSw
    go_simp
    try with_reducible rfl
  try simp only [Act.put, List.getElem_toArray, List.getElem_cons_succ, List.getElem_cons_zero, List.setIfInBounds_toArray, List.set_cons_zero, List.set_cons_succ]
  refine wpAnyH_take (i := 65) (v := ?_) rfl (by as_aux_lemma => kernel_rfl) (by as_aux_lemma => kernel_rfl) (by as_aux_lemma => kernel_rfl) (fun _ _ _ h => h) (Or.inl ⟨by rfl, ?_⟩) (by assumption) ?_
  rotate_left
  · intro w hSw
    try dsimp only at hSw
    go_simp
    try with_reducible rfl
  try simp only [Act.put, List.getElem_toArray, List.getElem_cons_succ, List.getElem_cons_zero, List.setIfInBounds_toArray, List.set_cons_zero, List.set_cons_succ]
  refine wpAnyH_take (i := 66) (v := ?_) rfl (by as_aux_lemma => kernel_rfl) (by as_aux_lemma => kernel_rfl) (by as_aux_lemma => kernel_rfl) (fun _ _ _ h => h) (Or.inl ⟨by rfl, ?_⟩) (by assumption) ?_
  rotate_left
  · intro w hSw
    try dsimp only at hSw
    go_simp
    try with_reducible rfl
  try simp only [Act.put, List.getElem_toArray, List.getElem_cons_succ, List.getElem_cons_zero, List.setIfInBounds_toArray, List.set_cons_zero, List.set_cons_succ]
  refine wpAnyH_take (i := 67) (v := ?_) rfl (by as_aux_lemma => kernel_rfl) (by as_aux_lemma => kernel_rfl) (by as_aux_lemma => kernel_rfl) (fun _ _ _ h => h) (Or.inl ⟨by rfl, ?_⟩) (by assumption) ?_
  rotate_left
  · intro w hSw
    try dsimp only at hSw
    go_simp
    try with_reducible rfl
  try simp only [Act.put, List.getElem_toArray, List.getElem_cons_succ, List.getElem_cons_zero, List.setIfInBounds_toArray, List.set_cons_zero, List.set_cons_succ]
  refine wpAnyH_take (i := 68) (v := ?_) rfl (by as_aux_lemma => kernel_rfl) (by as_aux_lemma => kernel_rfl) (by as_aux_lemma => kernel_rfl) (fun _ _ _ h => h) (Or.inl ⟨by rfl, ?_⟩) (by assumption) ?_
  rotate_left
  · intro w hSw
    try dsimp only at hSw
    go_simp
    try with_reducible rfl
  try simp only [Act.put, List.getElem_toArray, List.getElem_cons_succ, List.getElem_cons_zero, List.setIfInBounds_toArray, List.set_cons_zero, List.set_cons_succ]
  refine wpAnyH_take (i := 69) (v := ?_) rfl (by as_aux_lemma => kernel_rfl) (by as_aux_lemma => kernel_rfl) (by as_aux_lemma => kernel_rfl) (fun _ _ _ h => h) (Or.inl ⟨by rfl, ?_⟩) (by assumption) ?_
  rotate_left
  · intro w hSw
    try dsimp only at hSw
    go_simp
    try with_reducible rfl
  try simp only [Act.put, List.getElem_toArray, List.getElem_cons_succ, List.getElem_cons_zero, List.setIfInBounds_toArray, List.set_cons_zero, List.set_cons_succ]
  refine wpAnyH_take (i := 70) (v := ?_) rfl (by as_aux_lemma => kernel_rfl) (by as_aux_lemma => kernel_rfl) (by as_aux_lemma => kernel_rfl) (fun _ _ _ h => h) (Or.inl ⟨by rfl, ?_⟩) (by assumption) ?_
  rotate_left
  · intro w hSw
    try dsimp only at hSw
    go_simp
    try with_reducible rfl
  try simp only [Act.put, List.getElem_toArray, List.getElem_cons_succ, List.getElem_cons_zero, List.setIfInBounds_toArray, List.set_cons_zero, List.set_cons_succ]
  refine wpAnyH_ready (rs := [71]) (by as_aux_lemma => kernel_rfl) (by simp) ?_
  refine AllReadyH.cons rfl (fun K hK => ?_) AllReadyH.nil
  go_simp
  refine hK.out _ _ ?_ (fun hh5 => ?_)
  · try dsimp only
    refine keepS ?_ ((Below.refl _ _).alloc (Nat.le_refl _) _)
    assumption
  clear hK K hh4
  try simp only [Act.put, List.getElem_toArray, List.getElem_cons_succ, List.getElem_cons_zero, List.setIfInBounds_toArray, List.set_cons_zero, List.set_cons_succ]
  refine wpAnyH_ready (rs := [72]) (by as_aux_lemma => kernel_rfl) (by simp) ?_
  refine AllReadyH.cons rfl (fun K hK => ?_) AllReadyH.nil
  go_simp
  refine (ints_eq _ _ [3] _ ?_ (ints_at _ [3] _ (by simp) _ rfl)).mono ?_
  · exact HOU.out.below ((hh5.2.2.2.2 : Below w19.heap.size w19 _))
  rintro e w' ⟨rfl, hb⟩
  refine hK.out _ _ ?_ (fun hh6 => ?_)
  · try dsimp only
    exact ⟨keepK hh5.1 hb, keepK hh5.2.1 hb, keepK hh5.2.2.1 hb, keepK hh5.2.2.2.1 hb, hh5.2.2.2.2.trans (hb.mono hh5.2.2.2.2.size)⟩
  clear hK K hh5
  try simp only [Act.put, List.getElem_toArray, List.getElem_cons_succ, List.getElem_cons_zero, List.setIfInBounds_toArray, List.set_cons_zero, List.set_cons_succ]
  refine wpAnyH_take (i := 73) (v := ?_) rfl (by as_aux_lemma => kernel_rfl) (by as_aux_lemma => kernel_rfl) (by as_aux_lemma => kernel_rfl) (fun _ _ _ h => h) (Or.inl ⟨by rfl, ?_⟩) (by assumption) ?_
  rotate_left
  · intro w hSw
    try dsimp only at hSw
    go_simp
    try with_reducible rfl
  try simp only [Act.put, List.getElem_toArray, List.getElem_cons_succ, List.getElem_cons_zero, List.setIfInBounds_toArray, List.set_cons_zero, List.set_cons_succ]
  refine wpAnyH_take (i := 74) (v := ?_) rfl (by as_aux_lemma => kernel_rfl) (by as_aux_lemma => kernel_rfl) (by as_aux_lemma => kernel_rfl) (fun _ _ _ h => h) (Or.inl ⟨by rfl, ?_⟩) (by assumption) ?_
  rotate_left
  · intro w hSw
    try dsimp only at hSw
    go_simp
    try with_reducible rfl
  try simp only [Act.put, List.getElem_toArray, List.getElem_cons_succ, List.getElem_cons_zero, List.setIfInBounds_toArray, List.set_cons_zero, List.set_cons_succ]
  refine wpAnyH_done (by as_aux_lemma => kernel_rfl) ?_ _
  refine NoPanic.normal ?_
  go_wp2_with fail
  go_ret
  exact ⟨rfl, HB.out.trans (hh6.2.2.2.2.mono HB.out.size)⟩
end Go.Proofs.Ytojdocomkhihoaa
