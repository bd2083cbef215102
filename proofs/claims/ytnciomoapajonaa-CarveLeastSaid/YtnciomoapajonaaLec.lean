/- CarveLeast: the call returns true, whatever its arguments and the memory in which it begins; its arguments read as they did. -/
import Derived.Test.YtnciomoapajonaaRgc
import Derived.Test.YtnciomoapajonaaCxe
import Derived.Test.YtnciomoapajonaaCxg
import Derived.Test.YtnciomoapajonaaRows
import Derived.Test.YtnciomoapajonaaCar
import Derived.ProofKit
import Derived.JoinedOf
import Derived.JoinedAt
set_option linter.unusedSimpArgs false
set_option linter.unusedVariables false
namespace Go.Proofs.Ytnciomoapajonaa
open Go Go.RowKit Cv

theorem best_cases (r : Row) (h : errR r = 0) : (crossB r = true ∧ ∀ q, bestR r q = ([], 0, 0, 9)) ∨ (crossB r = false ∧ ∀ q, ∃ s, bestR r q = (s, fillsN r.pts s r.pts.length, manyL 0 (deepN r.pts s r.pts.length), 0) ∧ s.length = r.pts.length ∧ (∀ x, x ∈ s → 0 ≤ x ∧ x ≤ 9000) ∧ goodV r s = true ∧
    ∀ t, t.length = r.pts.length → goodV r t = true → ltN q (fillsN r.pts t r.pts.length, manyL 0 (deepN r.pts t r.pts.length)) (fillsN r.pts s r.pts.length, manyL 0 (deepN r.pts s r.pts.length)) = false) := by
  have hv := (check_valid r).1 h
  cases hc : crossB r
  · refine .inr ⟨rfl, fun q => ?_⟩
    have hb := best_is r hv hc q
    obtain ⟨hg, hn, hm⟩ := refL_some r.st q r.pts none _ hb
    simp only at hg hn hm
    have hl := hg.length
    refine ⟨surfL r.st q (bndR r) none, ?_, hl, ?_, (goodV_iff r _ hl).2 hg, fun t ht htg => ?_⟩
    · have e : boundE r = 0 := by unfold boundE; rw [h, hc]; rfl
      unfold bestR
      rw [if_pos e]
      have e2 : (wayK r q 0 none).2 = (wayL r.st q (bndR r) none).2 := by simp [wayK]
      rw [e2, hn, needS_is _ _ _ hl]
      rfl
    · intro x hx
      obtain ⟨i, hi, rfl⟩ := List.mem_iff_getElem.1 hx
      have := ((goodL_iff _ _ _ _).1 hg).2.1 i (by omega)
      have hp := hv.ok r.pts[i] (List.getElem_mem (by omega))
      rw [List.getD_eq_getElem?_getD, List.getElem?_eq_getElem (by omega), List.getD_eq_getElem?_getD, List.getElem?_eq_getElem hi] at this
      simp only [Option.getD_some] at this
      have := hp.l0
      have := hp.h9
      omega
    · have := hm t ((goodV_iff r t ht).1 htg)
      rw [hn, needS_is _ _ _ hl, needS_is _ _ _ ht] at this
      exact this
  · refine .inl ⟨rfl, fun q => ?_⟩
    have e : boundE r = 9 := by unfold boundE; rw [h, hc]; rfl
    unfold bestR
    rw [e]
    rfl
end Go.Proofs.Ytnciomoapajonaa
namespace Go.Proofs.Ytnciomoapajonaa
open Go Go.RowKit Go.Shelf Cv

theorem keepC {w w' : World} {b q : Nat} {v : Value} (h : w.cell? ⟨b, q, none⟩ = some v) (hb : Below w.heap.size w w') : w'.cell? ⟨b, q, none⟩ = some v :=
  (hb.cell (p := ⟨b, q, none⟩) (World.block_lt_of_cell? w _ h)).trans h
theorem deep_bd (l : List Pt) (s : List Int) (hl : ∀ p, p ∈ l → PtOk p) (hs : ∀ x, x ∈ s → 0 ≤ x ∧ x ≤ 9000) (h : s.length = l.length) : ∀ x, x ∈ deepN l s l.length → 0 ≤ x ∧ x ≤ 9000 := deepN_bd l s hl hs l.length (Nat.le_refl _) (by omega)

set_option maxRecDepth 100000 in
set_option maxHeartbeats 16000000 in
theorem lleast_no (st : Int) (pts : List Pt) (pa : Option Addr) (pc : Nat) (xv : Value) (l : List Nat) (w : World) (hP : PtsAt w (.slice pa pts.length pc) pts) (hU : U8At w xv l) (hv : ¬ errR ⟨st, pts⟩ = 0) :
    Calls Try.prog 9 #[.agg #[.int .i64 st, .slice pa pts.length pc], xv] w fun e w' => e = .returned (.bool true) ∧ Below w.heap.size w w' := by
  have HP := Lib.hid hP
  clear hP
  have hbe : boundE ⟨st, pts⟩ = errR ⟨st, pts⟩ := by unfold boundE; rw [if_neg hv]
  have HV : Hid (bestR ⟨st, pts⟩ true = ([], 0, 0, errR ⟨st, pts⟩)) := by show _ = _; unfold bestR; rw [if_neg (by rw [hbe]; exact hv), hbe]
  clear hbe
  generalize HE : errR ⟨st, pts⟩ = er at *
  have t1 : (er == 0) = false := by simp [hv]
  have t2 : (er != 0) = true := by simp [hv]
  have HB := Lib.hid (Below.refl w.heap.size w)
  obtain ⟨_, xa, xc, rfl, _⟩ := id hU
  have HX := Lib.hid hU
  clear hU
  go_enter Try.func9, Try.ntmps9
  go_wp2_with fail
  have hb := (Below.refl w.heap.size w).alloc (Nat.le_refl _) (Obj.cells #[.int .i64 st, .slice pa pts.length pc] 24)
  have HR := Lib.hid (heap_alloc_new w (Obj.cells #[.int .i64 st, .slice pa pts.length pc] 24))
  have hz1 : (w.alloc (Obj.cells #[.int .i64 st, .slice pa pts.length pc] 24)).heap.size = w.heap.size + 1 := by simp
  have HB' := Lib.hid (HB.out.trans (hb.mono HB.out.size))
  have HP' := Lib.hid (HP.out.below hb)
  have HX' := Lib.hid (HX.out.below hb)
  clear HB
  have HB := HB'
  clear HB'
  clear HP
  have HP := HP'
  clear HP'
  clear HX
  have HX := HX'
  clear HX'
  clear hb
  generalize w.alloc (Obj.cells #[.int .i64 st, .slice pa pts.length pc] 24) = w1 at *
  have hcall := valid_any ⟨st, pts⟩ _ w1 HP.out
  rw [HE, t1] at hcall
  refine hcall.mono ?_
  clear hcall
  rintro e w2 ⟨rfl, hb⟩
  have HB' := Lib.hid (HB.out.trans (hb.mono HB.out.size))
  have HP' := Lib.hid (HP.out.below hb)
  have HX' := Lib.hid (HX.out.below hb)
  have HR' := Lib.hid ((hb.block _ (lt_of_block HR.out)).trans HR.out)
  clear HB
  have HB := HB'
  clear HB'
  clear HP
  have HP := HP'
  clear HP'
  clear HX
  have HX := HX'
  clear HX'
  clear HR
  have HR := HR'
  clear HR'
  clear hb
  have ra := cellOf HR.out 0 _ rfl
  have rb := cellOf HR.out 1 _ rfl
  have rl := lt_of_block HR.out
  go_wp2_with fail
  clear ra rb rl
  have hcall := Best_any ⟨st, pts⟩ true _ w2 HP.out
  rw [HV.out] at hcall
  simp only at hcall
  refine hcall.mono ?_
  clear hcall
  rintro e w3 ⟨v1, rfl, hown, hb⟩
  have HB' := Lib.hid (HB.out.trans (hb.mono HB.out.size))
  have HP' := Lib.hid (HP.out.below hb)
  have HX' := Lib.hid (HX.out.below hb)
  have HR' := Lib.hid ((hb.block _ (lt_of_block HR.out)).trans HR.out)
  clear HB
  have HB := HB'
  clear HB'
  clear HP
  have HP := HP'
  clear HP'
  clear HX
  have HX := HX'
  clear HX'
  clear HR
  have HR := HR'
  clear HR'
  clear hb
  clear hown HV
  go_wp2_with fail
  have hcall := awake_any w3
  refine hcall.mono ?_
  clear hcall
  rintro e w4 ⟨rfl, hb⟩
  have HB' := Lib.hid (HB.out.trans (hb.mono HB.out.size))
  have HP' := Lib.hid (HP.out.below hb)
  have HX' := Lib.hid (HX.out.below hb)
  have HR' := Lib.hid ((hb.block _ (lt_of_block HR.out)).trans HR.out)
  clear HB
  have HB := HB'
  clear HB'
  clear HP
  have HP := HP'
  clear HP'
  clear HX
  have HX := HX'
  clear HX'
  clear HR
  have HR := HR'
  clear HR'
  clear hb
  go_wp2
  go_ret
  exact ⟨rfl, HB.out⟩

set_option maxRecDepth 100000 in
set_option maxHeartbeats 16000000 in
theorem lleast_down (st : Int) (pts : List Pt) (pa : Option Addr) (pc : Nat) (xv : Value) (l : List Nat) (w : World) (hP : PtsAt w (.slice pa pts.length pc) pts) (hU : U8At w xv l) (HE : Hid (errR ⟨st, pts⟩ = 0)) (HBR : Hid (∀ q, bestR ⟨st, pts⟩ q = ([], 0, 0, 9))) (HNG : Hid (∀ s, s.length = pts.length → goodV ⟨st, pts⟩ s = false)) :
    Calls Try.prog 9 #[.agg #[.int .i64 st, .slice pa pts.length pc], xv] w fun e w' => e = .returned (.bool true) ∧ Below w.heap.size w w' := by
  have HP := Lib.hid hP
  clear hP
  have HVV : Hid (Valid ⟨st, pts⟩) := (check_valid _).1 HE.out
  have HB := Lib.hid (Below.refl w.heap.size w)
  obtain ⟨_, xa, xc, rfl, _⟩ := id hU
  have HX := Lib.hid hU
  clear hU
  go_enter Try.func9, Try.ntmps9
  go_wp2_with fail
  have hb := (Below.refl w.heap.size w).alloc (Nat.le_refl _) (Obj.cells #[.int .i64 st, .slice pa pts.length pc] 24)
  have HR := Lib.hid (heap_alloc_new w (Obj.cells #[.int .i64 st, .slice pa pts.length pc] 24))
  have hz1 : (w.alloc (Obj.cells #[.int .i64 st, .slice pa pts.length pc] 24)).heap.size = w.heap.size + 1 := by simp
  have HB' := Lib.hid (HB.out.trans (hb.mono HB.out.size))
  have HP' := Lib.hid (HP.out.below hb)
  have HX' := Lib.hid (HX.out.below hb)
  clear HB
  have HB := HB'
  clear HB'
  clear HP
  have HP := HP'
  clear HP'
  clear HX
  have HX := HX'
  clear HX'
  clear hb
  generalize w.alloc (Obj.cells #[.int .i64 st, .slice pa pts.length pc] 24) = w1 at *
  have hcall := valid_any ⟨st, pts⟩ _ w1 HP.out
  rw [HE.out] at hcall
  have e0 : ((0 : Int) == 0) = true := rfl
  rw [e0] at hcall
  clear e0
  refine hcall.mono ?_
  clear hcall
  rintro e w2 ⟨rfl, hb⟩
  have HB' := Lib.hid (HB.out.trans (hb.mono HB.out.size))
  have HP' := Lib.hid (HP.out.below hb)
  have HX' := Lib.hid (HX.out.below hb)
  have HR' := Lib.hid ((hb.block _ (lt_of_block HR.out)).trans HR.out)
  clear HB
  have HB := HB'
  clear HB'
  clear HP
  have HP := HP'
  clear HP'
  clear HX
  have HX := HX'
  clear HX'
  clear HR
  have HR := HR'
  clear HR'
  clear hb
  have ra := cellOf HR.out 0 _ rfl
  have rb := cellOf HR.out 1 _ rfl
  have rl := lt_of_block HR.out
  go_wp2_with fail
  clear ra rb rl
  refine (any_any ⟨st, pts⟩ _ _ l w2 HP.out HX.out HVV.out).mono ?_
  rintro e w3 ⟨tv, t, rfl, htl, ht9, htI, hb⟩
  have HB' := Lib.hid (HB.out.trans (hb.mono HB.out.size))
  have HP' := Lib.hid (HP.out.below hb)
  have HX' := Lib.hid (HX.out.below hb)
  have HR' := Lib.hid ((hb.block _ (lt_of_block HR.out)).trans HR.out)
  clear HB
  have HB := HB'
  clear HB'
  clear HP
  have HP := HP'
  clear HP'
  clear HX
  have HX := HX'
  clear HX'
  clear HR
  have HR := HR'
  clear HR'
  clear hb
  have HTL : Hid (t.length = pts.length) := htl
  have HT9 := Lib.hid ht9
  have HTI := Lib.hid htI
  obtain ⟨_, ta, tc, rfl, _, _⟩ := id htI
  clear htl ht9 htI HX
  obtain ⟨tn, htn⟩ : ∃ tn, t.length = tn := ⟨_, rfl⟩
  rw [htn] at HTI ⊢
  have HTN := Lib.hid htn
  clear htn
  have ra := cellOf HR.out 0 _ rfl
  have rb := cellOf HR.out 1 _ rfl
  have rl := lt_of_block HR.out
  go_wp2_with fail
  clear ra rb rl
  obtain ⟨B, HB0⟩ : ∃ B, Hid (goodV ⟨st, pts⟩ t = B) := ⟨_, rfl⟩
  have hcall := good_any ⟨st, pts⟩ _ _ t w3 HP.out HTI.out HVV.out HTL.out HT9.out
  rw [HB0.out] at hcall
  refine hcall.mono ?_
  clear hcall
  rintro e w4 ⟨rfl, hb⟩
  have HB' := Lib.hid (HB.out.trans (hb.mono HB.out.size))
  have HP' := Lib.hid (HP.out.below hb)
  have HR' := Lib.hid ((hb.block _ (lt_of_block HR.out)).trans HR.out)
  have HTI' := Lib.hid (HTI.out.below hb)
  clear HB
  have HB := HB'
  clear HB'
  clear HP
  have HP := HP'
  clear HP'
  clear HR
  have HR := HR'
  clear HR'
  clear HTI
  have HTI := HTI'
  clear HTI'
  clear hb
  have ra := cellOf HR.out 0 _ rfl
  have rb := cellOf HR.out 1 _ rfl
  have rl := lt_of_block HR.out
  go_wp2_with fail
  obtain ⟨F, HF⟩ : ∃ F, Hid (fillsN pts t pts.length = F) := ⟨_, rfl⟩
  obtain ⟨M, HM⟩ : ∃ M, Hid (manyL 0 (deepN pts t pts.length) = M) := ⟨_, rfl⟩
  have HCF : Hid (∀ W', Below w4.heap.size w4 W' → Calls Try.prog 43 #[.agg #[.int .i64 st, .slice pa pts.length pc], .slice ta tn tc] W' fun e w' => e = .returned (.int .i64 F) ∧ Below W'.heap.size W' w') := fun W' hb => by
    have h := rfills_any ⟨st, pts⟩ _ _ t W' (HP.out.below hb) (HTI.out.below hb) HVV.out HTL.out HT9.out
    rw [HF.out] at h
    exact h
  have HCD : Hid (∀ W', Below w4.heap.size w4 W' → Calls Try.prog 45 #[.agg #[.int .i64 st, .slice pa pts.length pc], .slice ta tn tc] W' (DepthsP pts t W')) := fun W' hb =>
    rdepths_any ⟨st, pts⟩ _ _ t W' (HP.out.below hb) (HTI.out.below hb) HVV.out HTL.out HT9.out
  have HCM : Hid (∀ W' dv, IntsAt W' dv (deepN pts t pts.length) → Calls Try.prog 44 #[dv] W' fun e w' => e = .returned (.int .i64 M) ∧ W' = w') := fun W' dv hd => by
    have h := rmany_any dv _ W' hd (by rw [deepN_length]; exact HVV.out.n10) (deep_bd pts t HVV.out.ok HT9.out HTL.out)
    rw [HM.out] at h
    exact h
  refine wp_region_noPanic ?_
  refine wp_region_held_drew (S := (fun W' => W'.cell? ⟨w.heap.size, 0, none⟩ = some (.int .i64 st) ∧ W'.cell? ⟨w.heap.size, 1, none⟩ = some (.slice pa pts.length pc) ∧ Below w4.heap.size w4 W')) (by kernel_rfl) ?_ (fun hh0 => ?_)
  · try dsimp only
    exact ⟨ra, rb, (Below.refl _ _).drew⟩
  refine wpAnyH_take (i := 0) (v := ?_) rfl (by as_aux_lemma => kernel_rfl) (by as_aux_lemma => kernel_rfl) (by as_aux_lemma => kernel_rfl) (fun _ _ _ h => h) (Or.inl ⟨by rfl, ?_⟩) (by assumption) ?_
  rotate_left
  · intro w hSw
    try dsimp only at hSw
    go_simp
    try with_reducible rfl
  try simp only [Act.put, List.getElem_toArray, List.getElem_cons_succ, List.getElem_cons_zero, List.setIfInBounds_toArray, List.set_cons_zero, List.set_cons_succ]
  refine wpAnyH_take (i := 1) (v := ?_) rfl (by as_aux_lemma => kernel_rfl) (by as_aux_lemma => kernel_rfl) (by as_aux_lemma => kernel_rfl) (fun _ _ _ h => h) (Or.inl ⟨by rfl, ?_⟩) (by assumption) ?_
  rotate_left
  · intro w hSw
    try dsimp only at hSw
    go_simp
    try with_reducible rfl
  try simp only [Act.put, List.getElem_toArray, List.getElem_cons_succ, List.getElem_cons_zero, List.setIfInBounds_toArray, List.set_cons_zero, List.set_cons_succ]
  refine wpAnyH_take (i := 3) (v := ?_) rfl (by as_aux_lemma => kernel_rfl) (by as_aux_lemma => kernel_rfl) (by as_aux_lemma => kernel_rfl) (fun _ _ _ h => h) (Or.inl ⟨by rfl, ?_⟩) (by assumption) ?_
  rotate_left
  · intro w hSw
    try dsimp only at hSw
    go_simp
    try with_reducible rfl
  try simp only [Act.put, List.getElem_toArray, List.getElem_cons_succ, List.getElem_cons_zero, List.setIfInBounds_toArray, List.set_cons_zero, List.set_cons_succ]
  refine wpAnyH_take (i := 4) (v := ?_) rfl (by as_aux_lemma => kernel_rfl) (by as_aux_lemma => kernel_rfl) (by as_aux_lemma => kernel_rfl) (fun _ _ _ h => h) (Or.inl ⟨by rfl, ?_⟩) (by assumption) ?_
  rotate_left
  · intro w hSw
    try dsimp only at hSw
    go_simp
    try with_reducible rfl
  try simp only [Act.put, List.getElem_toArray, List.getElem_cons_succ, List.getElem_cons_zero, List.setIfInBounds_toArray, List.set_cons_zero, List.set_cons_succ]
  refine wpAnyH_ready (rs := [2]) (by as_aux_lemma => kernel_rfl) (by simp) ?_
  refine AllReadyH.cons rfl (fun K hK => ?_) AllReadyH.nil
  go_simp
  refine (HCF.out _ hh0.2.2).mono ?_
  rintro e wa ⟨rfl, hba⟩
  refine hK.out _ _ ?_ (fun hh1 => ?_)
  · try dsimp only
    exact ⟨keepC hh0.1 hba, keepC hh0.2.1 hba, hh0.2.2.trans (hba.mono hh0.2.2.size)⟩
  clear hK K hh0
  try simp only [Act.put, List.getElem_toArray, List.getElem_cons_succ, List.getElem_cons_zero, List.setIfInBounds_toArray, List.set_cons_zero, List.set_cons_succ]
  refine wpAnyH_ready (rs := [5]) (by as_aux_lemma => kernel_rfl) (by simp) ?_
  refine AllReadyH.cons rfl (fun K hK => ?_) AllReadyH.nil
  go_simp
  refine (HCD.out _ hh1.2.2).mono ?_
  rintro e wd ⟨dv, rfl, hdI, hbd⟩
  have HDI := Lib.hid hdI
  clear hdI
  refine hK.out _ _ ?_ (fun hh2 => ?_)
  · try dsimp only
    exact ⟨keepC hh1.1 hbd, keepC hh1.2.1 hbd, hh1.2.2.trans (hbd.mono hh1.2.2.size)⟩
  clear hK K hh1
  try simp only [Act.put, List.getElem_toArray, List.getElem_cons_succ, List.getElem_cons_zero, List.setIfInBounds_toArray, List.set_cons_zero, List.set_cons_succ]
  refine wpAnyH_ready (rs := [6]) (by as_aux_lemma => kernel_rfl) (by simp) ?_
  refine AllReadyH.cons rfl (fun K hK => ?_) AllReadyH.nil
  go_simp
  refine (HCM.out _ _ HDI.out).mono ?_
  rintro e wm ⟨rfl, rfl⟩
  refine hK.out _ _ ?_ (fun hh3 => ?_)
  · try dsimp only
    exact hh2
  clear hK K hh2
  try simp only [Act.put, List.getElem_toArray, List.getElem_cons_succ, List.getElem_cons_zero, List.setIfInBounds_toArray, List.set_cons_zero, List.set_cons_succ]
  refine wpAnyH_ready (rs := [7]) (by as_aux_lemma => kernel_rfl) (by simp) ?_
  refine AllReadyH.cons rfl (fun K hK => ?_) AllReadyH.nil
  go_simp
  refine hK.out _ _ ?_ (fun hh4 => ?_)
  · try dsimp only
    exact hh3
  clear hK K hh3
  try simp only [Act.put, List.getElem_toArray, List.getElem_cons_succ, List.getElem_cons_zero, List.setIfInBounds_toArray, List.set_cons_zero, List.set_cons_succ]
  refine wpAnyH_ready (rs := [8]) (by as_aux_lemma => kernel_rfl) (by simp) ?_
  refine AllReadyH.cons rfl (fun K hK => ?_) AllReadyH.nil
  go_simp
  refine hK.out _ _ ?_ (fun hh5 => ?_)
  · try dsimp only
    exact hh4
  clear hK K hh4
  try simp only [Act.put, List.getElem_toArray, List.getElem_cons_succ, List.getElem_cons_zero, List.setIfInBounds_toArray, List.set_cons_zero, List.set_cons_succ]
  refine wpAnyH_done (by as_aux_lemma => kernel_rfl) ?_ _
  refine NoPanic.normal ?_
  have hb := hh5.2.2
  clear ra rb rl HCF HCD HCM HDI HTI
  have HB' := Lib.hid (HB.out.trans (hb.mono HB.out.size))
  have HP' := Lib.hid (HP.out.below hb)
  have HR' := Lib.hid ((hb.block _ (lt_of_block HR.out)).trans HR.out)
  clear HB
  have HB := HB'
  clear HB'
  clear HP
  have HP := HP'
  clear HP'
  clear HR
  have HR := HR'
  clear HR'
  clear hb hh5
  go_wp2_with fail
  have hBf : B = false := by rw [← HB0.out]; exact HNG.out t HTL.out
  subst hBf
  have HL := Lib.hid (Below.refl wd.heap.size wd)
  go_loopg [13] 2 (fun g i wr => ∃ k : Nat, g + k = 2 ∧ i = .int .i64 k ∧ Hid (Below wd.heap.size wd wr))
  case atStart => exact ⟨0, rfl, rfl, HL.out⟩
  case round =>
    clear HL
    obtain ⟨k, hk, rfl, HL⟩ := hrel
    have hb := HL.out
    have HB' := Lib.hid (HB.out.trans (hb.mono HB.out.size))
    have HP' := Lib.hid (HP.out.below hb)
    have HR' := Lib.hid ((hb.block _ (lt_of_block HR.out)).trans HR.out)
    clear HB
    have HB := HB'
    clear HB'
    clear HP
    have HP := HP'
    clear HP'
    clear HR
    have HR := HR'
    clear HR'
    clear hb
    have hk3 : k = 0 ∨ k = 1 ∨ k = 2 := by omega
    rcases hk3 with rfl | rfl | rfl
    · obtain rfl : gk = 2 := by omega
      clear hk
      have ra := cellOf HR.out 0 _ rfl
      have rb := cellOf HR.out 1 _ rfl
      have rl := lt_of_block HR.out
      go_wp2_with fail
      clear ra rb rl
      have hcall := Best_any ⟨st, pts⟩ false _ wr HP.out
      rw [HBR.out] at hcall
      simp only at hcall
      refine hcall.mono ?_
      clear hcall
      rintro e w5 ⟨v1, rfl, hown, hb⟩
      have HB' := Lib.hid (HB.out.trans (hb.mono HB.out.size))
      have HP' := Lib.hid (HP.out.below hb)
      have HR' := Lib.hid ((hb.block _ (lt_of_block HR.out)).trans HR.out)
      have HL' := Lib.hid (HL.out.trans (hb.mono HL.out.size))
      clear HB
      have HB := HB'
      clear HB'
      clear HP
      have HP := HP'
      clear HP'
      clear HR
      have HR := HR'
      clear HR'
      clear HL
      have HL := HL'
      clear HL'
      clear hb
      obtain ⟨sa, sc, rfl⟩ := own_slice hown
      clear hown
      go_wp2
      go_roundg 1
      case measure => omega
      case rel => exact ⟨1, by omega, by go_num, HL.out⟩
    · obtain rfl : gk = 1 := by omega
      clear hk
      have ra := cellOf HR.out 0 _ rfl
      have rb := cellOf HR.out 1 _ rfl
      have rl := lt_of_block HR.out
      go_wp2_with fail
      clear ra rb rl
      have hcall := Best_any ⟨st, pts⟩ true _ wr HP.out
      rw [HBR.out] at hcall
      simp only at hcall
      refine hcall.mono ?_
      clear hcall
      rintro e w6 ⟨v1, rfl, hown, hb⟩
      have HB' := Lib.hid (HB.out.trans (hb.mono HB.out.size))
      have HP' := Lib.hid (HP.out.below hb)
      have HR' := Lib.hid ((hb.block _ (lt_of_block HR.out)).trans HR.out)
      have HL' := Lib.hid (HL.out.trans (hb.mono HL.out.size))
      clear HB
      have HB := HB'
      clear HB'
      clear HP
      have HP := HP'
      clear HP'
      clear HR
      have HR := HR'
      clear HR'
      clear HL
      have HL := HL'
      clear HL'
      clear hb
      obtain ⟨sa, sc, rfl⟩ := own_slice hown
      clear hown
      go_wp2
      go_roundg 0
      case measure => omega
      case rel => exact ⟨2, by omega, by go_num, HL.out⟩
    · obtain rfl : gk = 0 := by omega
      go_wp2_with fail
      have hcall := awake_any wr
      refine hcall.mono ?_
      clear hcall
      rintro e w7 ⟨rfl, hb⟩
      have HB' := Lib.hid (HB.out.trans (hb.mono HB.out.size))
      have HP' := Lib.hid (HP.out.below hb)
      have HR' := Lib.hid ((hb.block _ (lt_of_block HR.out)).trans HR.out)
      have HL' := Lib.hid (HL.out.trans (hb.mono HL.out.size))
      clear HB
      have HB := HB'
      clear HB'
      clear HP
      have HP := HP'
      clear HP'
      clear HR
      have HR := HR'
      clear HR'
      clear HL
      have HL := HL'
      clear HL'
      clear hb
      go_wp2
      go_ret
      exact ⟨rfl, HB.out⟩

set_option maxRecDepth 100000 in
set_option maxHeartbeats 16000000 in
theorem lleast_ok (st : Int) (pts : List Pt) (pa : Option Addr) (pc : Nat) (xv : Value) (l : List Nat) (w : World) (hP : PtsAt w (.slice pa pts.length pc) pts) (hU : U8At w xv l) (HE : Hid (errR ⟨st, pts⟩ = 0)) (HQ : Hid (∀ q, ∃ s, bestR ⟨st, pts⟩ q = (s, fillsN pts s pts.length, manyL 0 (deepN pts s pts.length), 0) ∧ s.length = pts.length ∧ (∀ x, x ∈ s → 0 ≤ x ∧ x ≤ 9000) ∧ goodV ⟨st, pts⟩ s = true ∧ ∀ t, t.length = pts.length → goodV ⟨st, pts⟩ t = true → ltN q (fillsN pts t pts.length, manyL 0 (deepN pts t pts.length)) (fillsN pts s pts.length, manyL 0 (deepN pts s pts.length)) = false)) :
    Calls Try.prog 9 #[.agg #[.int .i64 st, .slice pa pts.length pc], xv] w fun e w' => e = .returned (.bool true) ∧ Below w.heap.size w w' := by
  have HP := Lib.hid hP
  clear hP
  have HVV : Hid (Valid ⟨st, pts⟩) := (check_valid _).1 HE.out
  have HB := Lib.hid (Below.refl w.heap.size w)
  obtain ⟨_, xa, xc, rfl, _⟩ := id hU
  have HX := Lib.hid hU
  clear hU
  go_enter Try.func9, Try.ntmps9
  go_wp2_with fail
  have hb := (Below.refl w.heap.size w).alloc (Nat.le_refl _) (Obj.cells #[.int .i64 st, .slice pa pts.length pc] 24)
  have HR := Lib.hid (heap_alloc_new w (Obj.cells #[.int .i64 st, .slice pa pts.length pc] 24))
  have hz1 : (w.alloc (Obj.cells #[.int .i64 st, .slice pa pts.length pc] 24)).heap.size = w.heap.size + 1 := by simp
  have HB' := Lib.hid (HB.out.trans (hb.mono HB.out.size))
  have HP' := Lib.hid (HP.out.below hb)
  have HX' := Lib.hid (HX.out.below hb)
  clear HB
  have HB := HB'
  clear HB'
  clear HP
  have HP := HP'
  clear HP'
  clear HX
  have HX := HX'
  clear HX'
  clear hb
  generalize w.alloc (Obj.cells #[.int .i64 st, .slice pa pts.length pc] 24) = w1 at *
  have hcall := valid_any ⟨st, pts⟩ _ w1 HP.out
  rw [HE.out] at hcall
  have e0 : ((0 : Int) == 0) = true := rfl
  rw [e0] at hcall
  clear e0
  refine hcall.mono ?_
  clear hcall
  rintro e w2 ⟨rfl, hb⟩
  have HB' := Lib.hid (HB.out.trans (hb.mono HB.out.size))
  have HP' := Lib.hid (HP.out.below hb)
  have HX' := Lib.hid (HX.out.below hb)
  have HR' := Lib.hid ((hb.block _ (lt_of_block HR.out)).trans HR.out)
  clear HB
  have HB := HB'
  clear HB'
  clear HP
  have HP := HP'
  clear HP'
  clear HX
  have HX := HX'
  clear HX'
  clear HR
  have HR := HR'
  clear HR'
  clear hb
  have ra := cellOf HR.out 0 _ rfl
  have rb := cellOf HR.out 1 _ rfl
  have rl := lt_of_block HR.out
  go_wp2_with fail
  clear ra rb rl
  refine (any_any ⟨st, pts⟩ _ _ l w2 HP.out HX.out HVV.out).mono ?_
  rintro e w3 ⟨tv, t, rfl, htl, ht9, htI, hb⟩
  have HB' := Lib.hid (HB.out.trans (hb.mono HB.out.size))
  have HP' := Lib.hid (HP.out.below hb)
  have HX' := Lib.hid (HX.out.below hb)
  have HR' := Lib.hid ((hb.block _ (lt_of_block HR.out)).trans HR.out)
  clear HB
  have HB := HB'
  clear HB'
  clear HP
  have HP := HP'
  clear HP'
  clear HX
  have HX := HX'
  clear HX'
  clear HR
  have HR := HR'
  clear HR'
  clear hb
  have HTL : Hid (t.length = pts.length) := htl
  have HT9 := Lib.hid ht9
  have HTI := Lib.hid htI
  obtain ⟨_, ta, tc, rfl, _, _⟩ := id htI
  clear htl ht9 htI HX
  obtain ⟨tn, htn⟩ : ∃ tn, t.length = tn := ⟨_, rfl⟩
  rw [htn] at HTI ⊢
  have HTN := Lib.hid htn
  clear htn
  have ra := cellOf HR.out 0 _ rfl
  have rb := cellOf HR.out 1 _ rfl
  have rl := lt_of_block HR.out
  go_wp2_with fail
  clear ra rb rl
  obtain ⟨B, HB0⟩ : ∃ B, Hid (goodV ⟨st, pts⟩ t = B) := ⟨_, rfl⟩
  have hcall := good_any ⟨st, pts⟩ _ _ t w3 HP.out HTI.out HVV.out HTL.out HT9.out
  rw [HB0.out] at hcall
  refine hcall.mono ?_
  clear hcall
  rintro e w4 ⟨rfl, hb⟩
  have HB' := Lib.hid (HB.out.trans (hb.mono HB.out.size))
  have HP' := Lib.hid (HP.out.below hb)
  have HR' := Lib.hid ((hb.block _ (lt_of_block HR.out)).trans HR.out)
  have HTI' := Lib.hid (HTI.out.below hb)
  clear HB
  have HB := HB'
  clear HB'
  clear HP
  have HP := HP'
  clear HP'
  clear HR
  have HR := HR'
  clear HR'
  clear HTI
  have HTI := HTI'
  clear HTI'
  clear hb
  have ra := cellOf HR.out 0 _ rfl
  have rb := cellOf HR.out 1 _ rfl
  have rl := lt_of_block HR.out
  go_wp2_with fail
  obtain ⟨F, HF⟩ : ∃ F, Hid (fillsN pts t pts.length = F) := ⟨_, rfl⟩
  obtain ⟨M, HM⟩ : ∃ M, Hid (manyL 0 (deepN pts t pts.length) = M) := ⟨_, rfl⟩
  have HCF : Hid (∀ W', Below w4.heap.size w4 W' → Calls Try.prog 43 #[.agg #[.int .i64 st, .slice pa pts.length pc], .slice ta tn tc] W' fun e w' => e = .returned (.int .i64 F) ∧ Below W'.heap.size W' w') := fun W' hb => by
    have h := rfills_any ⟨st, pts⟩ _ _ t W' (HP.out.below hb) (HTI.out.below hb) HVV.out HTL.out HT9.out
    rw [HF.out] at h
    exact h
  have HCD : Hid (∀ W', Below w4.heap.size w4 W' → Calls Try.prog 45 #[.agg #[.int .i64 st, .slice pa pts.length pc], .slice ta tn tc] W' (DepthsP pts t W')) := fun W' hb =>
    rdepths_any ⟨st, pts⟩ _ _ t W' (HP.out.below hb) (HTI.out.below hb) HVV.out HTL.out HT9.out
  have HCM : Hid (∀ W' dv, IntsAt W' dv (deepN pts t pts.length) → Calls Try.prog 44 #[dv] W' fun e w' => e = .returned (.int .i64 M) ∧ W' = w') := fun W' dv hd => by
    have h := rmany_any dv _ W' hd (by rw [deepN_length]; exact HVV.out.n10) (deep_bd pts t HVV.out.ok HT9.out HTL.out)
    rw [HM.out] at h
    exact h
  refine wp_region_noPanic ?_
  refine wp_region_held_drew (S := (fun W' => W'.cell? ⟨w.heap.size, 0, none⟩ = some (.int .i64 st) ∧ W'.cell? ⟨w.heap.size, 1, none⟩ = some (.slice pa pts.length pc) ∧ Below w4.heap.size w4 W')) (by kernel_rfl) ?_ (fun hh0 => ?_)
  · try dsimp only
    exact ⟨ra, rb, (Below.refl _ _).drew⟩
  refine wpAnyH_take (i := 0) (v := ?_) rfl (by as_aux_lemma => kernel_rfl) (by as_aux_lemma => kernel_rfl) (by as_aux_lemma => kernel_rfl) (fun _ _ _ h => h) (Or.inl ⟨by rfl, ?_⟩) (by assumption) ?_
  rotate_left
  · intro w hSw
    try dsimp only at hSw
    go_simp
    try with_reducible rfl
  try simp only [Act.put, List.getElem_toArray, List.getElem_cons_succ, List.getElem_cons_zero, List.setIfInBounds_toArray, List.set_cons_zero, List.set_cons_succ]
  refine wpAnyH_take (i := 1) (v := ?_) rfl (by as_aux_lemma => kernel_rfl) (by as_aux_lemma => kernel_rfl) (by as_aux_lemma => kernel_rfl) (fun _ _ _ h => h) (Or.inl ⟨by rfl, ?_⟩) (by assumption) ?_
  rotate_left
  · intro w hSw
    try dsimp only at hSw
    go_simp
    try with_reducible rfl
  try simp only [Act.put, List.getElem_toArray, List.getElem_cons_succ, List.getElem_cons_zero, List.setIfInBounds_toArray, List.set_cons_zero, List.set_cons_succ]
  refine wpAnyH_take (i := 3) (v := ?_) rfl (by as_aux_lemma => kernel_rfl) (by as_aux_lemma => kernel_rfl) (by as_aux_lemma => kernel_rfl) (fun _ _ _ h => h) (Or.inl ⟨by rfl, ?_⟩) (by assumption) ?_
  rotate_left
  · intro w hSw
    try dsimp only at hSw
    go_simp
    try with_reducible rfl
  try simp only [Act.put, List.getElem_toArray, List.getElem_cons_succ, List.getElem_cons_zero, List.setIfInBounds_toArray, List.set_cons_zero, List.set_cons_succ]
  refine wpAnyH_take (i := 4) (v := ?_) rfl (by as_aux_lemma => kernel_rfl) (by as_aux_lemma => kernel_rfl) (by as_aux_lemma => kernel_rfl) (fun _ _ _ h => h) (Or.inl ⟨by rfl, ?_⟩) (by assumption) ?_
  rotate_left
  · intro w hSw
    try dsimp only at hSw
    go_simp
    try with_reducible rfl
  try simp only [Act.put, List.getElem_toArray, List.getElem_cons_succ, List.getElem_cons_zero, List.setIfInBounds_toArray, List.set_cons_zero, List.set_cons_succ]
  refine wpAnyH_ready (rs := [2]) (by as_aux_lemma => kernel_rfl) (by simp) ?_
  refine AllReadyH.cons rfl (fun K hK => ?_) AllReadyH.nil
  go_simp
  refine (HCF.out _ hh0.2.2).mono ?_
  rintro e wa ⟨rfl, hba⟩
  refine hK.out _ _ ?_ (fun hh1 => ?_)
  · try dsimp only
    exact ⟨keepC hh0.1 hba, keepC hh0.2.1 hba, hh0.2.2.trans (hba.mono hh0.2.2.size)⟩
  clear hK K hh0
  try simp only [Act.put, List.getElem_toArray, List.getElem_cons_succ, List.getElem_cons_zero, List.setIfInBounds_toArray, List.set_cons_zero, List.set_cons_succ]
  refine wpAnyH_ready (rs := [5]) (by as_aux_lemma => kernel_rfl) (by simp) ?_
  refine AllReadyH.cons rfl (fun K hK => ?_) AllReadyH.nil
  go_simp
  refine (HCD.out _ hh1.2.2).mono ?_
  rintro e wd ⟨dv, rfl, hdI, hbd⟩
  have HDI := Lib.hid hdI
  clear hdI
  refine hK.out _ _ ?_ (fun hh2 => ?_)
  · try dsimp only
    exact ⟨keepC hh1.1 hbd, keepC hh1.2.1 hbd, hh1.2.2.trans (hbd.mono hh1.2.2.size)⟩
  clear hK K hh1
  try simp only [Act.put, List.getElem_toArray, List.getElem_cons_succ, List.getElem_cons_zero, List.setIfInBounds_toArray, List.set_cons_zero, List.set_cons_succ]
  refine wpAnyH_ready (rs := [6]) (by as_aux_lemma => kernel_rfl) (by simp) ?_
  refine AllReadyH.cons rfl (fun K hK => ?_) AllReadyH.nil
  go_simp
  refine (HCM.out _ _ HDI.out).mono ?_
  rintro e wm ⟨rfl, rfl⟩
  refine hK.out _ _ ?_ (fun hh3 => ?_)
  · try dsimp only
    exact hh2
  clear hK K hh2
  try simp only [Act.put, List.getElem_toArray, List.getElem_cons_succ, List.getElem_cons_zero, List.setIfInBounds_toArray, List.set_cons_zero, List.set_cons_succ]
  refine wpAnyH_ready (rs := [7]) (by as_aux_lemma => kernel_rfl) (by simp) ?_
  refine AllReadyH.cons rfl (fun K hK => ?_) AllReadyH.nil
  go_simp
  refine hK.out _ _ ?_ (fun hh4 => ?_)
  · try dsimp only
    exact hh3
  clear hK K hh3
  try simp only [Act.put, List.getElem_toArray, List.getElem_cons_succ, List.getElem_cons_zero, List.setIfInBounds_toArray, List.set_cons_zero, List.set_cons_succ]
  refine wpAnyH_ready (rs := [8]) (by as_aux_lemma => kernel_rfl) (by simp) ?_
  refine AllReadyH.cons rfl (fun K hK => ?_) AllReadyH.nil
  go_simp
  refine hK.out _ _ ?_ (fun hh5 => ?_)
  · try dsimp only
    exact hh4
  clear hK K hh4
  try simp only [Act.put, List.getElem_toArray, List.getElem_cons_succ, List.getElem_cons_zero, List.setIfInBounds_toArray, List.set_cons_zero, List.set_cons_succ]
  refine wpAnyH_done (by as_aux_lemma => kernel_rfl) ?_ _
  refine NoPanic.normal ?_
  have hb := hh5.2.2
  clear ra rb rl HCF HCD HCM HDI HTI
  have HB' := Lib.hid (HB.out.trans (hb.mono HB.out.size))
  have HP' := Lib.hid (HP.out.below hb)
  have HR' := Lib.hid ((hb.block _ (lt_of_block HR.out)).trans HR.out)
  clear HB
  have HB := HB'
  clear HB'
  clear HP
  have HP := HP'
  clear HP'
  clear HR
  have HR := HR'
  clear HR'
  clear hb hh5
  go_wp2_with fail
  have HL := Lib.hid (Below.refl wd.heap.size wd)
  go_loopg [13] 2 (fun g i wr => ∃ k : Nat, g + k = 2 ∧ i = .int .i64 k ∧ Hid (Below wd.heap.size wd wr))
  case atStart => exact ⟨0, rfl, rfl, HL.out⟩
  case round =>
    clear HL
    obtain ⟨k, hk, rfl, HL⟩ := hrel
    have hb := HL.out
    have HB' := Lib.hid (HB.out.trans (hb.mono HB.out.size))
    have HP' := Lib.hid (HP.out.below hb)
    have HR' := Lib.hid ((hb.block _ (lt_of_block HR.out)).trans HR.out)
    clear HB
    have HB := HB'
    clear HB'
    clear HP
    have HP := HP'
    clear HP'
    clear HR
    have HR := HR'
    clear HR'
    clear hb
    have hk3 : k = 0 ∨ k = 1 ∨ k = 2 := by omega
    rcases hk3 with rfl | rfl | rfl
    · obtain rfl : gk = 2 := by omega
      clear hk
      obtain ⟨s, hbr, hsl0, hs90, hsg0, hmin0⟩ := HQ.out false
      have HSL := Lib.hid hsl0
      have HS9 := Lib.hid hs90
      have HSG := Lib.hid hsg0
      have HMIN : Hid (B = true → ltN false (F, M) (fillsN pts s pts.length, manyL 0 (deepN pts s pts.length)) = false) := fun hb => by rw [← HF.out, ← HM.out]; exact hmin0 t HTL.out (by rw [HB0.out]; exact hb)
      clear hsl0 hs90 hsg0 hmin0
      obtain ⟨p, HPE⟩ : ∃ p, Hid (fillsN pts s pts.length = p) := ⟨_, rfl⟩
      obtain ⟨m, HME⟩ : ∃ m, Hid (manyL 0 (deepN pts s pts.length) = m) := ⟨_, rfl⟩
      rw [HPE.out, HME.out] at hbr HMIN
      have ra := cellOf HR.out 0 _ rfl
      have rb := cellOf HR.out 1 _ rfl
      have rl := lt_of_block HR.out
      go_wp2_with fail
      clear ra rb rl
      have hcall := Best_any ⟨st, pts⟩ false _ wr HP.out
      rw [hbr] at hcall
      simp only at hcall
      refine hcall.mono ?_
      clear hcall
      rintro e w5 ⟨v1, rfl, hown, hb⟩
      have HB' := Lib.hid (HB.out.trans (hb.mono HB.out.size))
      have HP' := Lib.hid (HP.out.below hb)
      have HR' := Lib.hid ((hb.block _ (lt_of_block HR.out)).trans HR.out)
      have HL' := Lib.hid (HL.out.trans (hb.mono HL.out.size))
      clear HB
      have HB := HB'
      clear HB'
      clear HP
      have HP := HP'
      clear HP'
      clear HR
      have HR := HR'
      clear HR'
      clear HL
      have HL := HL'
      clear HL'
      clear hb
      have hsi := intsAt_own hown (by have := HSL.out; have := HVV.out.n10; simp only at this; omega)
      obtain ⟨sa, sc, rfl⟩ := own_slice hown
      obtain ⟨sn, hsn⟩ : ∃ sn, s.length = sn := ⟨_, rfl⟩
      rw [hsn] at hsi
      have HSN := Lib.hid hsn
      have HSI := Lib.hid hsi
      rw [hsn]
      clear hown hsn hsi hbr
      have ra := cellOf HR.out 0 _ rfl
      have rb := cellOf HR.out 1 _ rfl
      have rl := lt_of_block HR.out
      go_wp2_with fail
      clear ra rb rl
      have hcall := good_any ⟨st, pts⟩ _ _ s w5 HP.out HSI.out HVV.out HSL.out HS9.out
      rw [HSG.out] at hcall
      refine hcall.mono ?_
      clear hcall
      rintro e w6 ⟨rfl, hb⟩
      have HB' := Lib.hid (HB.out.trans (hb.mono HB.out.size))
      have HP' := Lib.hid (HP.out.below hb)
      have HR' := Lib.hid ((hb.block _ (lt_of_block HR.out)).trans HR.out)
      have HL' := Lib.hid (HL.out.trans (hb.mono HL.out.size))
      have HSI' := Lib.hid (HSI.out.below hb)
      clear HB
      have HB := HB'
      clear HB'
      clear HP
      have HP := HP'
      clear HP'
      clear HR
      have HR := HR'
      clear HR'
      clear HL
      have HL := HL'
      clear HL'
      clear HSI
      have HSI := HSI'
      clear HSI'
      clear hb
      have ra := cellOf HR.out 0 _ rfl
      have rb := cellOf HR.out 1 _ rfl
      have rl := lt_of_block HR.out
      go_wp2_with fail
      clear ra rb rl
      have hcall := rfills_any ⟨st, pts⟩ _ _ s w6 HP.out HSI.out HVV.out HSL.out HS9.out
      try simp only at hcall
      rw [HPE.out] at hcall
      refine hcall.mono ?_
      clear hcall
      rintro e w7 ⟨rfl, hb⟩
      have HB' := Lib.hid (HB.out.trans (hb.mono HB.out.size))
      have HP' := Lib.hid (HP.out.below hb)
      have HR' := Lib.hid ((hb.block _ (lt_of_block HR.out)).trans HR.out)
      have HL' := Lib.hid (HL.out.trans (hb.mono HL.out.size))
      have HSI' := Lib.hid (HSI.out.below hb)
      clear HB
      have HB := HB'
      clear HB'
      clear HP
      have HP := HP'
      clear HP'
      clear HR
      have HR := HR'
      clear HR'
      clear HL
      have HL := HL'
      clear HL'
      clear HSI
      have HSI := HSI'
      clear HSI'
      clear hb
      have ra := cellOf HR.out 0 _ rfl
      have rb := cellOf HR.out 1 _ rfl
      have rl := lt_of_block HR.out
      go_wp2_with fail
      clear ra rb rl
      have hcall := rdepths_any ⟨st, pts⟩ _ _ s w7 HP.out HSI.out HVV.out HSL.out HS9.out
      refine hcall.mono ?_
      clear hcall
      rintro e w8 ⟨dv, rfl, hdI, hb⟩
      have HB' := Lib.hid (HB.out.trans (hb.mono HB.out.size))
      have HP' := Lib.hid (HP.out.below hb)
      have HR' := Lib.hid ((hb.block _ (lt_of_block HR.out)).trans HR.out)
      have HL' := Lib.hid (HL.out.trans (hb.mono HL.out.size))
      have HSI' := Lib.hid (HSI.out.below hb)
      clear HB
      have HB := HB'
      clear HB'
      clear HP
      have HP := HP'
      clear HP'
      clear HR
      have HR := HR'
      clear HR'
      clear HL
      have HL := HL'
      clear HL'
      clear HSI
      have HSI := HSI'
      clear HSI'
      clear hb
      have HDI := Lib.hid hdI
      clear hdI
      have ra := cellOf HR.out 0 _ rfl
      have rb := cellOf HR.out 1 _ rfl
      have rl := lt_of_block HR.out
      go_wp2_with fail
      clear ra rb rl
      have hcall := rmany_any dv _ w8 HDI.out (by rw [deepN_length]; exact HVV.out.n10) (deep_bd pts s HVV.out.ok HS9.out HSL.out)
      try simp only at hcall
      rw [HME.out] at hcall
      refine hcall.mono ?_
      clear hcall
      rintro e w' ⟨rfl, rfl⟩
      clear HDI HSI HSG HSL HS9 HPE HME
      cases B
      · skip
        clear HMIN
        go_wp2
        go_roundg 1
        case measure => omega
        case rel => exact ⟨1, by omega, by go_num, HL.out⟩
      · have hm := HMIN.out rfl
        clear HMIN
        rw [← Bool.not_eq_true, ltN_iff] at hm
        simp at hm
        have d1 : decide (F < p) = false := by simp; omega
        by_cases he : F = p
        · have d2 : (F == p) = true := by simp [he]
          have d3 : decide (M < m) = false := by simp; omega
          clear hm he
          go_wp2
          go_roundg 1
          case measure => omega
          case rel => exact ⟨1, by omega, by go_num, HL.out⟩
        · have d2 : (F == p) = false := by simp [he]
          clear hm he
          go_wp2
          go_roundg 1
          case measure => omega
          case rel => exact ⟨1, by omega, by go_num, HL.out⟩
    · obtain rfl : gk = 1 := by omega
      clear hk
      obtain ⟨s, hbr, hsl0, hs90, hsg0, hmin0⟩ := HQ.out true
      have HSL := Lib.hid hsl0
      have HS9 := Lib.hid hs90
      have HSG := Lib.hid hsg0
      have HMIN : Hid (B = true → ltN true (F, M) (fillsN pts s pts.length, manyL 0 (deepN pts s pts.length)) = false) := fun hb => by rw [← HF.out, ← HM.out]; exact hmin0 t HTL.out (by rw [HB0.out]; exact hb)
      clear hsl0 hs90 hsg0 hmin0
      obtain ⟨p, HPE⟩ : ∃ p, Hid (fillsN pts s pts.length = p) := ⟨_, rfl⟩
      obtain ⟨m, HME⟩ : ∃ m, Hid (manyL 0 (deepN pts s pts.length) = m) := ⟨_, rfl⟩
      rw [HPE.out, HME.out] at hbr HMIN
      have ra := cellOf HR.out 0 _ rfl
      have rb := cellOf HR.out 1 _ rfl
      have rl := lt_of_block HR.out
      go_wp2_with fail
      clear ra rb rl
      have hcall := Best_any ⟨st, pts⟩ true _ wr HP.out
      rw [hbr] at hcall
      simp only at hcall
      refine hcall.mono ?_
      clear hcall
      rintro e w9 ⟨v1, rfl, hown, hb⟩
      have HB' := Lib.hid (HB.out.trans (hb.mono HB.out.size))
      have HP' := Lib.hid (HP.out.below hb)
      have HR' := Lib.hid ((hb.block _ (lt_of_block HR.out)).trans HR.out)
      have HL' := Lib.hid (HL.out.trans (hb.mono HL.out.size))
      clear HB
      have HB := HB'
      clear HB'
      clear HP
      have HP := HP'
      clear HP'
      clear HR
      have HR := HR'
      clear HR'
      clear HL
      have HL := HL'
      clear HL'
      clear hb
      have hsi := intsAt_own hown (by have := HSL.out; have := HVV.out.n10; simp only at this; omega)
      obtain ⟨sa, sc, rfl⟩ := own_slice hown
      obtain ⟨sn, hsn⟩ : ∃ sn, s.length = sn := ⟨_, rfl⟩
      rw [hsn] at hsi
      have HSN := Lib.hid hsn
      have HSI := Lib.hid hsi
      rw [hsn]
      clear hown hsn hsi hbr
      have ra := cellOf HR.out 0 _ rfl
      have rb := cellOf HR.out 1 _ rfl
      have rl := lt_of_block HR.out
      go_wp2_with fail
      clear ra rb rl
      have hcall := good_any ⟨st, pts⟩ _ _ s w9 HP.out HSI.out HVV.out HSL.out HS9.out
      rw [HSG.out] at hcall
      refine hcall.mono ?_
      clear hcall
      rintro e w10 ⟨rfl, hb⟩
      have HB' := Lib.hid (HB.out.trans (hb.mono HB.out.size))
      have HP' := Lib.hid (HP.out.below hb)
      have HR' := Lib.hid ((hb.block _ (lt_of_block HR.out)).trans HR.out)
      have HL' := Lib.hid (HL.out.trans (hb.mono HL.out.size))
      have HSI' := Lib.hid (HSI.out.below hb)
      clear HB
      have HB := HB'
      clear HB'
      clear HP
      have HP := HP'
      clear HP'
      clear HR
      have HR := HR'
      clear HR'
      clear HL
      have HL := HL'
      clear HL'
      clear HSI
      have HSI := HSI'
      clear HSI'
      clear hb
      have ra := cellOf HR.out 0 _ rfl
      have rb := cellOf HR.out 1 _ rfl
      have rl := lt_of_block HR.out
      go_wp2_with fail
      clear ra rb rl
      have hcall := rfills_any ⟨st, pts⟩ _ _ s w10 HP.out HSI.out HVV.out HSL.out HS9.out
      try simp only at hcall
      rw [HPE.out] at hcall
      refine hcall.mono ?_
      clear hcall
      rintro e w11 ⟨rfl, hb⟩
      have HB' := Lib.hid (HB.out.trans (hb.mono HB.out.size))
      have HP' := Lib.hid (HP.out.below hb)
      have HR' := Lib.hid ((hb.block _ (lt_of_block HR.out)).trans HR.out)
      have HL' := Lib.hid (HL.out.trans (hb.mono HL.out.size))
      have HSI' := Lib.hid (HSI.out.below hb)
      clear HB
      have HB := HB'
      clear HB'
      clear HP
      have HP := HP'
      clear HP'
      clear HR
      have HR := HR'
      clear HR'
      clear HL
      have HL := HL'
      clear HL'
      clear HSI
      have HSI := HSI'
      clear HSI'
      clear hb
      have ra := cellOf HR.out 0 _ rfl
      have rb := cellOf HR.out 1 _ rfl
      have rl := lt_of_block HR.out
      go_wp2_with fail
      clear ra rb rl
      have hcall := rdepths_any ⟨st, pts⟩ _ _ s w11 HP.out HSI.out HVV.out HSL.out HS9.out
      refine hcall.mono ?_
      clear hcall
      rintro e w12 ⟨dv, rfl, hdI, hb⟩
      have HB' := Lib.hid (HB.out.trans (hb.mono HB.out.size))
      have HP' := Lib.hid (HP.out.below hb)
      have HR' := Lib.hid ((hb.block _ (lt_of_block HR.out)).trans HR.out)
      have HL' := Lib.hid (HL.out.trans (hb.mono HL.out.size))
      have HSI' := Lib.hid (HSI.out.below hb)
      clear HB
      have HB := HB'
      clear HB'
      clear HP
      have HP := HP'
      clear HP'
      clear HR
      have HR := HR'
      clear HR'
      clear HL
      have HL := HL'
      clear HL'
      clear HSI
      have HSI := HSI'
      clear HSI'
      clear hb
      have HDI := Lib.hid hdI
      clear hdI
      have ra := cellOf HR.out 0 _ rfl
      have rb := cellOf HR.out 1 _ rfl
      have rl := lt_of_block HR.out
      go_wp2_with fail
      clear ra rb rl
      have hcall := rmany_any dv _ w12 HDI.out (by rw [deepN_length]; exact HVV.out.n10) (deep_bd pts s HVV.out.ok HS9.out HSL.out)
      try simp only at hcall
      rw [HME.out] at hcall
      refine hcall.mono ?_
      clear hcall
      rintro e w' ⟨rfl, rfl⟩
      clear HDI HSI HSG HSL HS9 HPE HME
      cases B
      · skip
        clear HMIN
        go_wp2
        go_roundg 0
        case measure => omega
        case rel => exact ⟨2, by omega, by go_num, HL.out⟩
      · have hm := HMIN.out rfl
        clear HMIN
        rw [← Bool.not_eq_true, ltN_iff] at hm
        simp at hm
        have d1 : decide (M < m) = false := by simp; omega
        by_cases he : M = m
        · have d2 : (M == m) = true := by simp [he]
          have d3 : decide (F < p) = false := by simp; omega
          clear hm he
          go_wp2
          go_roundg 0
          case measure => omega
          case rel => exact ⟨2, by omega, by go_num, HL.out⟩
        · have d2 : (M == m) = false := by simp [he]
          clear hm he
          go_wp2
          go_roundg 0
          case measure => omega
          case rel => exact ⟨2, by omega, by go_num, HL.out⟩
    · obtain rfl : gk = 0 := by omega
      go_wp2_with fail
      have hcall := awake_any wr
      refine hcall.mono ?_
      clear hcall
      rintro e w13 ⟨rfl, hb⟩
      have HB' := Lib.hid (HB.out.trans (hb.mono HB.out.size))
      have HP' := Lib.hid (HP.out.below hb)
      have HR' := Lib.hid ((hb.block _ (lt_of_block HR.out)).trans HR.out)
      have HL' := Lib.hid (HL.out.trans (hb.mono HL.out.size))
      clear HB
      have HB := HB'
      clear HB'
      clear HP
      have HP := HP'
      clear HP'
      clear HR
      have HR := HR'
      clear HR'
      clear HL
      have HL := HL'
      clear HL'
      clear hb
      go_wp2
      go_ret
      exact ⟨rfl, HB.out⟩

set_option maxRecDepth 100000 in
set_option maxHeartbeats 16000000 in
theorem lleast_any (r : Row) (pv xv : Value) (l : List Nat) (w : World) (hP : PtsAt w pv r.pts) (hU : U8At w xv l) :
    Calls Try.prog 9 #[.agg #[.int .i64 r.st, pv], xv] w fun e w' => e = .returned (.bool true) ∧ Below w.heap.size w w' := by
  obtain ⟨st, pts⟩ := r
  simp only at hP ⊢
  obtain ⟨lp, pa, pc, rfl, _, _⟩ := id hP
  by_cases hv : errR ⟨st, pts⟩ = 0
  · rcases best_cases ⟨st, pts⟩ hv with ⟨hc, h⟩ | ⟨hc, h⟩
    · exact lleast_down st pts pa pc xv l w hP hU hv h (fun s hs => no_good ⟨st, pts⟩ hv hc s hs)
    · exact lleast_ok st pts pa pc xv l w hP hU hv h
  · exact lleast_no st pts pa pc xv l w hP hU hv

end Go.Proofs.Ytnciomoapajonaa
namespace Go.Proofs.Ytnciomoapajonaa
namespace ClaimCarveLeast
open Go.ChangeShapes Go.WideShapes Go.ChangeAt Go.RowKit

theorem own : ownKnob Try.prog.godebug = none := by kernel_rfl
theorem laidOutP : laidOutB Try.prog = true := by kernel_rfl

set_option maxRecDepth 100000 in
theorem contract (H : Type) (enc : TypeId × Value → H) (W : World) (base : Nat) (args : Array Value) (ds gs : List (DataW H)) (before : List MemPlace)
    (hval : ∀ (j : Nat) t v, Try.f9.params[j]? = some t → args[j]? = some v → Value.okWide Try.prog W .any base t v)
    (hW : DataW.Whole enc Try.prog Try.f9.params.toList Rows.carveLeastSpec.vars false W args.toList ds gs before)
    (hsz : (DataW.weightsEach Try.prog (Try.f9.params.toList ++ Rows.carveLeastSpec.plain.varTypes Try.prog) (ds ++ gs)).all (· ≤ reachBytes) = true) :
    Calls Try.prog 9 args W fun e W' => ∃ v, e = .returned v ∧ Rows.carveLeastSpec.post enc Try.prog Try.f9 false true false false W args v W' := by
  have hW' := hW
  obtain ⟨p, q, hA0, hV, rfl, hfz, hnd⟩ := hW
  have hA : DataW.TrodAll enc Try.prog W 0 (fun _ => true) true Try.f9.params.toList args.toList ds p := hA0
  rw [Try.params9] at hA hval hsz
  obtain ⟨v0, vs0, d0, ds0, p0, q0, hargs, rfl, rfl, h0, r0⟩ := trodAll_cons hA
  obtain ⟨v1, vs1, d1, ds1, p1, q1, rfl, rfl, rfl, h1, r1⟩ := trodAll_cons r0
  obtain ⟨rfl, rfl, rfl⟩ := trodAll_nil r1
  obtain rfl : args = #[v0, v1] := by cases args; simp_all
  obtain ⟨rfl, rfl⟩ := trodVars_none hV
  have w0 : ∀ x ∈ d0.weights Try.prog 24, x ≤ reachBytes := fun x hx => of_decide_eq_true (List.all_eq_true.1 hsz _ (DataW.weights_mem_each (j := 0) (t := 24) (d := d0) rfl rfl x hx))
  obtain ⟨r, pv, rfl, hP, hs0, hs9⟩ := open_row (hval 0 24 v0 rfl rfl) h0 w0
  have w1 : ∀ x ∈ d1.weights Try.prog 51, x ≤ reachBytes := fun x hx => of_decide_eq_true (List.all_eq_true.1 hsz _ (DataW.weights_mem_each (j := 1) (t := 51) (d := d1) rfl rfl x hx))
  obtain ⟨l1, hU1⟩ := open_u8s (hval 1 51 v1 rfl rfl) h1 w1
  clear hA0
  refine (lleast_any r pv v1 l1 W hP hU1).mono fun e W' ⟨he, hb⟩ => ?_
  subst he
  exact ⟨_, rfl, post_law laidOutP (by rw [Try.params9]; intro t ht; simp at ht; rcases ht with rfl | rfl <;> exact ⟨by kernel_rfl, of_decide_eq_true (by kernel_rfl)⟩) rfl rfl Try.underlying4 rfl hW' hb⟩

set_option maxRecDepth 100000 in
theorem lifted (os : Os) (started : os.Started) (H : Type) (enc : TypeId × Value → H) :
    ReturnsInHanded {} Try.checked os 9 .any (Rows.carveLeastSpec.pre6 enc Try.prog Try.f9 Rows.carveLeastRow.domain false) (Rows.carveLeastSpec.post enc Try.prog Try.f9 false true false false) := by
  refine returnsInHanded_of_change_sized (C := Try.checked) own started (by kernel_rfl) Try.func9
    (ChangeSpec.witness6 (enc := enc) (C := Try.checked) false ⟨#[], #[.agg #[.int .i64 0, .slice none 0 0], .slice none 0 0], []⟩ 8 (by kernel_rfl) (by kernel_rfl) (by kernel_rfl) (by kernel_rfl)) ?_
  intro W base args ds gs before hval hW _ hsz _
  exact contract H enc W base args ds gs before hval hW hsz

theorem over : Rows.CarveLeastSaid :=
  OpenClaim.holds_of_wide 9 Try.f9 rfl rfl rfl rfl rfl rfl rfl ⟨rfl, rfl, rfl, rfl, rfl⟩ rfl rfl rfl rfl rfl (by kernel_rfl) Try.func9 (by kernel_rfl)
    (of_decide_eq_true (by kernel_rfl)) (by unfold Func.isWrapper; first | (rw [if_pos (by decide +kernel)]; kernel_rfl) | (rw [if_neg (by decide +kernel)]; exact ⟨rfl, rfl⟩))
    (fun os started H enc _ => lifted os started H enc)
end ClaimCarveLeast

theorem carveLeast_holds : Rows.CarveLeastSaid := ClaimCarveLeast.over
end Go.Proofs.Ytnciomoapajonaa
