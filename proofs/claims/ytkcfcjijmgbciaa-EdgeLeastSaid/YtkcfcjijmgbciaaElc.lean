/- EdgeLeast: the call returns true, whatever its arguments and the memory in which it begins; its arguments read as they did. -/
import Derived.Test.YtkcfcjijmgbciaaLvm
import Derived.Laws.StructEq
import Derived.Test.YtkcfcjijmgbciaaRows
import Derived.Test.YtkcfcjijmgbciaaEar
import Derived.ProofKit
import Derived.JoinedOf
import Derived.JoinedAt
set_option linter.unusedSimpArgs false
set_option linter.unusedVariables false
namespace Go.Proofs.Ytkcfcjijmgbciaa
open Go Go.RowKit Go.Shelf Ed

theorem ag_small {c : Cas} (hv : Valid c) {l : List Int} (hl : l.length = c.shs.length) (h : Ag (sysA c) (fun i => l.getD i 0)) (i : Nat) : -1000 ≤ l.getD i 0 ∧ l.getD i 0 ≤ 1000 := by
  rcases Nat.lt_or_ge i c.shs.length with hi | hi
  · have h1 := h.bx i hi
    have h2 := (hv.sh _ (List.getElem_mem hi)).m6
    simp only [sysC, getD_lt _ _ hi] at h1
    omega
  · rw [List.getD_eq_getElem?_getD, List.getElem?_eq_none (by omega)]
    simp
theorem any_small {c : Cas} (hv : Valid c) (x : List Nat) (i : Nat) : -1000 ≤ (anyC c x).getD i 0 ∧ (anyC c x).getD i 0 ≤ 1000 := by
  rcases Nat.lt_or_ge i c.shs.length with hi | hi
  · have h2 := (hv.sh _ (List.getElem_mem hi)).m6
    have h3 := (hv.sh _ (List.getElem_mem hi)).m0
    have e : (anyC c x).getD i 0 = ((turnS x i : Int) % (2 * c.shs[i].most + 1)) - c.shs[i].most := by
      unfold anyC anyK
      simp [List.getD_eq_getElem?_getD, hi]
    rw [e]
    have h4 := Int.emod_nonneg (turnS x i : Int) (show (2 * c.shs[i].most + 1) ≠ 0 by omega)
    have h5 := Int.emod_lt_of_pos (turnS x i : Int) (show 0 < (2 * c.shs[i].most + 1) by omega)
    omega
  · rw [List.getD_eq_getElem?_getD, List.getElem?_eq_none (by rw [anyC_length]; exact hi)]
    simp
set_option maxRecDepth 100000 in
set_option maxHeartbeats 8000000 in
theorem lleast_any (c : Cas) (sv ev xv : Value) (x : List Nat) (w : World) (hC : CasAt w c sv ev) (hX : U8At w xv x) :
    Calls Try.prog 7 #[.agg #[.int .i64 c.tol, sv, ev], xv] w fun e w' => e = .returned (.bool true) ∧ Below w.heap.size w w' := by
  obtain ⟨sa, n, sc, rfl⟩ : ∃ a n cc, sv = .slice a n cc := by obtain ⟨_, a, cap, h, _⟩ := hC.shs; exact ⟨_, _, _, h⟩
  obtain ⟨ea, m, ec, rfl⟩ : ∃ a n cc, ev = .slice a n cc := by obtain ⟨_, a, cap, h, _⟩ := hC.eds; exact ⟨_, _, _, h⟩
  obtain ⟨xa, q, xc, rfl⟩ : ∃ a n cc, xv = .slice a n cc := by obtain ⟨_, a, cap, h, _⟩ := hX; exact ⟨_, _, _, h⟩
  obtain ⟨tol, htol⟩ : ∃ t, c.tol = t := ⟨_, rfl⟩
  have HTOL := Lib.hid htol
  obtain ⟨W, hW⟩ : ∃ W, w.alloc (Obj.cells #[.int .i64 tol, .slice sa n sc, .slice ea m ec] 25) = W := ⟨_, rfl⟩
  have hb : Below w.heap.size w W := by rw [← hW]; exact (Below.refl _ _).alloc (Nat.le_refl _) _
  have HR : Hid (W.heap[w.heap.size]? = some (Obj.cells #[.int .i64 tol, .slice sa n sc, .slice ea m ec] 25)) := by show _ = _; rw [← hW]; exact heap_alloc_new w _
  have HC := Lib.hid (hC.below hb)
  have HX := Lib.hid (hX.below hb)
  have HW := Lib.hid hW
  have HB := Lib.hid hb
  rw [htol]
  clear hW hb hC hX htol
  go_enter Try.func7, Try.ntmps7
  go_wp2_with fail
  rw [HW.out]
  clear HW
  have r0 := cellOf HR.out 0 _ rfl
  have r1 := cellOf HR.out 1 _ rfl
  have r2 := cellOf HR.out 2 _ rfl
  have rl := lt_of_block HR.out
  go_wp2_with fail
  clear r0 r1 r2 rl
  have hcall := least1_any c _ _ W HC.out
  rw [HTOL.out] at hcall
  refine hcall.mono ?_
  clear hcall
  rintro e w1 ⟨lv, rfl, hI, hb⟩
  have HR' := Lib.hid ((hb.block _ (lt_of_block HR.out)).trans HR.out)
  have HC' := Lib.hid (HC.out.below hb)
  have HX' := Lib.hid (HX.out.below hb)
  have HB' := Lib.hid (HB.out.trans (hb.mono HB.out.size))
  clear HR
  have HR := HR'
  clear HR'
  clear HC
  have HC := HC'
  clear HC'
  clear HX
  have HX := HX'
  clear HX'
  clear HB
  have HB := HB'
  clear HB'
  clear hb
  have HI := Lib.hid hI
  clear hI
  obtain ⟨⟨ll, cost, er⟩, hle⟩ : ∃ x, leastE c = x := ⟨_, rfl⟩
  have HLE := Lib.hid hle
  rw [hle] at HI ⊢
  clear hle
  simp only at HI ⊢
  obtain ⟨va, vn, vc, rfl, hvn⟩ : ∃ a n cc, lv = .slice a n cc ∧ n = ll.length := by obtain ⟨_, a, cap, h, _⟩ := HI.out; exact ⟨_, _, _, h, rfl⟩
  have HVN := Lib.hid hvn
  clear hvn
  have r0 := cellOf HR.out 0 _ rfl
  have r1 := cellOf HR.out 1 _ rfl
  have r2 := cellOf HR.out 2 _ rfl
  have rl := lt_of_block HR.out
  go_wp2_with fail
  clear r0 r1 r2 rl
  have hcall := lvalid_any c _ _ w1 HC.out
  rw [HTOL.out] at hcall
  refine hcall.mono ?_
  clear hcall
  rintro e w2 ⟨rfl, hb⟩
  have HR' := Lib.hid ((hb.block _ (lt_of_block HR.out)).trans HR.out)
  have HC' := Lib.hid (HC.out.below hb)
  have HX' := Lib.hid (HX.out.below hb)
  have HB' := Lib.hid (HB.out.trans (hb.mono HB.out.size))
  have HI' := Lib.hid (HI.out.below hb)
  clear HR
  have HR := HR'
  clear HR'
  clear HC
  have HC := HC'
  clear HC'
  clear HX
  have HX := HX'
  clear HX'
  clear HB
  have HB := HB'
  clear HB'
  clear HI
  have HI := HI'
  clear HI'
  clear hb
  by_cases h0 : errC c = 0
  · skip
    have HV := Lib.hid (valid_of h0)
    have H0 := Lib.hid h0
    rw [show decide (errC c = 0) = true by simp [h0]]
    clear h0
    have r0 := cellOf HR.out 0 _ rfl
    have r1 := cellOf HR.out 1 _ rfl
    have r2 := cellOf HR.out 2 _ rfl
    have rl := lt_of_block HR.out
    go_wp2_with fail
    clear r0 r1 r2 rl
    have hcall := lany_any c HV.out _ _ _ x w2 HC.out HX.out
    rw [HTOL.out] at hcall
    refine hcall.mono ?_
    clear hcall
    rintro e w3 ⟨ov, rfl, hO, hb⟩
    have HR' := Lib.hid ((hb.block _ (lt_of_block HR.out)).trans HR.out)
    have HC' := Lib.hid (HC.out.below hb)
    have HX' := Lib.hid (HX.out.below hb)
    have HB' := Lib.hid (HB.out.trans (hb.mono HB.out.size))
    have HI' := Lib.hid (HI.out.below hb)
    clear HR
    have HR := HR'
    clear HR'
    clear HC
    have HC := HC'
    clear HC'
    clear HX
    have HX := HX'
    clear HX'
    clear HB
    have HB := HB'
    clear HB'
    clear HI
    have HI := HI'
    clear HI'
    clear hb
    have HO := Lib.hid hO
    clear hO
    obtain ⟨oa, on, oc, rfl⟩ : ∃ a n cc, ov = .slice a n cc := by obtain ⟨_, a, cap, h, _⟩ := HO.out; exact ⟨_, _, _, h⟩
    have r0 := cellOf HR.out 0 _ rfl
    have r1 := cellOf HR.out 1 _ rfl
    have r2 := cellOf HR.out 2 _ rfl
    have rl := lt_of_block HR.out
    go_wp2_with fail
    clear r0 r1 r2 rl
    have hcall := lagree_any c _ _ _ (anyC c x) w3 HC.out HO.out
    rw [HTOL.out] at hcall
    refine hcall.mono ?_
    clear hcall
    rintro e w4 ⟨rfl, hb⟩
    have HR' := Lib.hid ((hb.block _ (lt_of_block HR.out)).trans HR.out)
    have HC' := Lib.hid (HC.out.below hb)
    have HX' := Lib.hid (HX.out.below hb)
    have HB' := Lib.hid (HB.out.trans (hb.mono HB.out.size))
    have HI' := Lib.hid (HI.out.below hb)
    have HO' := Lib.hid (HO.out.below hb)
    clear HR
    have HR := HR'
    clear HR'
    clear HC
    have HC := HC'
    clear HC'
    clear HX
    have HX := HX'
    clear HX'
    clear HB
    have HB := HB'
    clear HB'
    clear HI
    have HI := HI'
    clear HI'
    clear HO
    have HO := HO'
    clear HO'
    clear hb
    have hsp := least_spec c H0.out
    rw [HLE.out] at hsp
    simp only at hsp
    rcases hsp with ⟨hs, hno⟩ | ⟨rfl, hs⟩
    · skip
      simp only [Prod.mk.injEq] at hs
      obtain ⟨rfl, rfl, rfl⟩ := hs
      have hf : agreeB c (anyC c x) = false := by
        cases hq : agreeB c (anyC c x)
        · rfl
        · exact absurd ((agree_iff c H0.out _).1 hq).2 (hno _)
      rw [hf]
      clear hf hno
      have hv0 : vn = 0 := HVN.out
      subst hv0
      have r0 := cellOf HR.out 0 _ rfl
      have r1 := cellOf HR.out 1 _ rfl
      have r2 := cellOf HR.out 2 _ rfl
      have rl := lt_of_block HR.out
      go_wp2_with fail
      clear r0 r1 r2 rl
      refine (awake_any w4).mono ?_
      rintro e w5 ⟨rfl, hb⟩
      have HBF := Lib.hid (HB.out.trans (hb.mono HB.out.size))
      clear hb
      go_wp2_with fail
      go_ret
      exact ⟨rfl, HBF.out⟩
    · skip
      have HS := Lib.hid hs
      have HLA : Hid (agreeB c ll = true) := (agree_iff c H0.out ll).2 ⟨hs.len, hs.ag⟩
      have HAO : Hid (agreeB c (anyC c x) = true → cost ≤ costF (sysA c) (fun i => (anyC c x).getD i 0)) := fun hq => by rw [HS.out.cost]; exact HS.out.mn.2 _ ((agree_iff c H0.out _).1 hq).2
      have HCO : Hid (costK c.shs ll ll.length = cost) := by show _ = _; rw [HS.out.len, HS.out.cost]; exact costK_eq c (wsC c) ll
      have HCA : Hid (costK c.shs (anyC c x) (anyC c x).length = costF (sysA c) (fun i => (anyC c x).getD i 0)) := by show _ = _; rw [anyC_length]; exact costK_eq c (wsC c) _
      clear hs
      obtain ⟨ab, hab⟩ : ∃ b, agreeB c (anyC c x) = b := ⟨_, rfl⟩
      rw [hab] at HAO ⊢
      clear hab
      have r0 := cellOf HR.out 0 _ rfl
      have r1 := cellOf HR.out 1 _ rfl
      have r2 := cellOf HR.out 2 _ rfl
      have rl := lt_of_block HR.out
      go_wp2_with fail
      clear r0 r1 r2 rl
      have hcall := lagree_any c _ _ _ ll w4 HC.out HI.out
      rw [HTOL.out] at hcall
      refine hcall.mono ?_
      clear hcall
      rintro e w5 ⟨rfl, hb⟩
      have HR' := Lib.hid ((hb.block _ (lt_of_block HR.out)).trans HR.out)
      have HC' := Lib.hid (HC.out.below hb)
      have HX' := Lib.hid (HX.out.below hb)
      have HB' := Lib.hid (HB.out.trans (hb.mono HB.out.size))
      have HI' := Lib.hid (HI.out.below hb)
      have HO' := Lib.hid (HO.out.below hb)
      clear HR
      have HR := HR'
      clear HR'
      clear HC
      have HC := HC'
      clear HC'
      clear HX
      have HX := HX'
      clear HX'
      clear HB
      have HB := HB'
      clear HB'
      clear HI
      have HI := HI'
      clear HI'
      clear HO
      have HO := HO'
      clear HO'
      clear hb
      rw [HLA.out]
      have r0 := cellOf HR.out 0 _ rfl
      have r1 := cellOf HR.out 1 _ rfl
      have r2 := cellOf HR.out 2 _ rfl
      have rl := lt_of_block HR.out
      go_wp2_with fail
      clear r0 r1 r2 rl
      have hcall := rcosts_any tol c.shs _ (.slice ea m ec) _ ll w5 HC.out.shs HV.out.sh HI.out (by rw [HS.out.len]; exact Nat.le_refl _) HV.out.n5 (ag_small HV.out HS.out.len HS.out.ag)
      refine hcall.mono ?_
      clear hcall
      rintro e w6 ⟨rfl, hb⟩
      have HR' := Lib.hid ((hb.block _ (lt_of_block HR.out)).trans HR.out)
      have HC' := Lib.hid (HC.out.below hb)
      have HX' := Lib.hid (HX.out.below hb)
      have HB' := Lib.hid (HB.out.trans (hb.mono HB.out.size))
      have HI' := Lib.hid (HI.out.below hb)
      have HO' := Lib.hid (HO.out.below hb)
      clear HR
      have HR := HR'
      clear HR'
      clear HC
      have HC := HC'
      clear HC'
      clear HX
      have HX := HX'
      clear HX'
      clear HB
      have HB := HB'
      clear HB'
      clear HI
      have HI := HI'
      clear HI'
      clear HO
      have HO := HO'
      clear HO'
      clear hb
      rw [HCO.out]
      have tcc : (cost == cost) = true := by simp
      cases ab
      · skip
        have r0 := cellOf HR.out 0 _ rfl
        have r1 := cellOf HR.out 1 _ rfl
        have r2 := cellOf HR.out 2 _ rfl
        have rl := lt_of_block HR.out
        go_wp2_with fail
        clear r0 r1 r2 rl
        refine (awake_any w6).mono ?_
        rintro e w7 ⟨rfl, hb⟩
        have HBF := Lib.hid (HB.out.trans (hb.mono HB.out.size))
        clear hb
        go_wp2_with fail
        go_ret
        exact ⟨rfl, HBF.out⟩
      · skip
        have r0 := cellOf HR.out 0 _ rfl
        have r1 := cellOf HR.out 1 _ rfl
        have r2 := cellOf HR.out 2 _ rfl
        have rl := lt_of_block HR.out
        go_wp2_with fail
        clear r0 r1 r2 rl
        have hcall := rcosts_any tol c.shs _ (.slice ea m ec) _ (anyC c x) w6 HC.out.shs HV.out.sh HO.out (by rw [anyC_length]; exact Nat.le_refl _) HV.out.n5 (any_small HV.out x)
        refine hcall.mono ?_
        clear hcall
        rintro e w7 ⟨rfl, hb⟩
        have HR' := Lib.hid ((hb.block _ (lt_of_block HR.out)).trans HR.out)
        have HC' := Lib.hid (HC.out.below hb)
        have HX' := Lib.hid (HX.out.below hb)
        have HB' := Lib.hid (HB.out.trans (hb.mono HB.out.size))
        have HI' := Lib.hid (HI.out.below hb)
        have HO' := Lib.hid (HO.out.below hb)
        clear HR
        have HR := HR'
        clear HR'
        clear HC
        have HC := HC'
        clear HC'
        clear HX
        have HX := HX'
        clear HX'
        clear HB
        have HB := HB'
        clear HB'
        clear HI
        have HI := HI'
        clear HI'
        clear HO
        have HO := HO'
        clear HO'
        clear hb
        rw [HCA.out]
        have hge := HAO.out (by simp)
        generalize costF (sysA c) (fun i => (anyC c x).getD i 0) = ca at *
        have tge : decide (ca ≥ cost) = true := by simp; omega
        have r0 := cellOf HR.out 0 _ rfl
        have r1 := cellOf HR.out 1 _ rfl
        have r2 := cellOf HR.out 2 _ rfl
        have rl := lt_of_block HR.out
        go_wp2_with fail
        clear r0 r1 r2 rl
        refine (awake_any w7).mono ?_
        rintro e w8 ⟨rfl, hb⟩
        have HBF := Lib.hid (HB.out.trans (hb.mono HB.out.size))
        clear hb
        go_wp2_with fail
        go_ret
        exact ⟨rfl, HBF.out⟩
  · skip
    have hle := least_err h0
    rw [HLE.out] at hle
    simp only [Prod.mk.injEq] at hle
    obtain ⟨rfl, rfl, rfl⟩ := hle
    rw [show decide (errC c = 0) = false by simp [h0]]
    obtain ⟨er, her⟩ : ∃ x, errC c = x := ⟨_, rfl⟩
    rw [her] at h0 ⊢
    have tz : (er != 0) = true := by simp [h0]
    clear her h0
    have hv0 : vn = 0 := HVN.out
    subst hv0
    have r0 := cellOf HR.out 0 _ rfl
    have r1 := cellOf HR.out 1 _ rfl
    have r2 := cellOf HR.out 2 _ rfl
    have rl := lt_of_block HR.out
    go_wp2_with fail
    clear r0 r1 r2 rl
    refine (awake_any w2).mono ?_
    rintro e w3 ⟨rfl, hb⟩
    have HBF := Lib.hid (HB.out.trans (hb.mono HB.out.size))
    clear hb
    go_wp2_with fail
    go_ret
    exact ⟨rfl, HBF.out⟩
end Go.Proofs.Ytkcfcjijmgbciaa
namespace Go.Proofs.Ytkcfcjijmgbciaa
namespace ClaimEdgeLeast
open Go.ChangeShapes Go.WideShapes Go.ChangeAt Go.RowKit

theorem own : ownKnob Try.prog.godebug = none := by kernel_rfl
theorem laidOutP : laidOutB Try.prog = true := by kernel_rfl

set_option maxRecDepth 100000 in
theorem contract (H : Type) (enc : TypeId × Value → H) (W : World) (base : Nat) (args : Array Value) (ds gs : List (DataW H)) (before : List MemPlace)
    (hval : ∀ (j : Nat) t v, Try.f7.params[j]? = some t → args[j]? = some v → Value.okWide Try.prog W .any base t v)
    (hW : DataW.Whole enc Try.prog Try.f7.params.toList Rows.edgeLeastSpec.vars false W args.toList ds gs before)
    (hsz : (DataW.weightsEach Try.prog (Try.f7.params.toList ++ Rows.edgeLeastSpec.plain.varTypes Try.prog) (ds ++ gs)).all (· ≤ reachBytes) = true) :
    Calls Try.prog 7 args W fun e W' => ∃ v, e = .returned v ∧ Rows.edgeLeastSpec.post enc Try.prog Try.f7 false true false false W args v W' := by
  have hW' := hW
  obtain ⟨p, q, hA0, hV, rfl, hfz, hnd⟩ := hW
  have hA : DataW.TrodAll enc Try.prog W 0 (fun _ => true) true Try.f7.params.toList args.toList ds p := hA0
  rw [Try.params7] at hA hval hsz
  obtain ⟨v0, vs0, d0, ds0, p0, q0, hargs, rfl, rfl, h0, r0⟩ := trodAll_cons hA
  obtain ⟨v1, vs1, d1, ds1, p1, q1, rfl, rfl, rfl, h1, r1⟩ := trodAll_cons r0
  obtain ⟨rfl, rfl, rfl⟩ := trodAll_nil r1
  obtain rfl : args = #[v0, v1] := by cases args; simp_all
  obtain ⟨rfl, rfl⟩ := trodVars_none hV
  have w0 : ∀ x ∈ d0.weights Try.prog 25, x ≤ reachBytes := fun x hx => of_decide_eq_true (List.all_eq_true.1 hsz _ (DataW.weights_mem_each (j := 0) (t := 25) (d := d0) rfl rfl x hx))
  obtain ⟨c0, sv0, ev0, rfl, hC0⟩ := open_case (hval 0 25 v0 rfl rfl) h0 w0
  have w1 : ∀ x ∈ d1.weights Try.prog 47, x ≤ reachBytes := fun x hx => of_decide_eq_true (List.all_eq_true.1 hsz _ (DataW.weights_mem_each (j := 1) (t := 47) (d := d1) rfl rfl x hx))
  obtain ⟨l1, hL1⟩ := open_u8s (hval 1 47 v1 rfl rfl) h1 w1
  clear hA0
  refine (lleast_any c0 sv0 ev0 v1 l1 W hC0 hL1).mono fun e W' ⟨he, hb⟩ => ?_
  subst he
  exact ⟨_, rfl, post_law laidOutP (by rw [Try.params7]; intro t ht; simp at ht; rcases ht with rfl | rfl <;> exact ⟨by kernel_rfl, of_decide_eq_true (by kernel_rfl)⟩) rfl rfl Try.underlying4 rfl hW' hb⟩

set_option maxRecDepth 100000 in
theorem lifted (os : Os) (started : os.Started) (H : Type) (enc : TypeId × Value → H) :
    ReturnsInHanded {} Try.checked os 7 .any (Rows.edgeLeastSpec.pre6 enc Try.prog Try.f7 Rows.edgeLeastRow.domain false) (Rows.edgeLeastSpec.post enc Try.prog Try.f7 false true false false) := by
  refine returnsInHanded_of_change_sized (C := Try.checked) own started (by kernel_rfl) Try.func7
    (ChangeSpec.witness6 (enc := enc) (C := Try.checked) false ⟨#[], #[.agg #[.int .i64 0, .slice none 0 0, .slice none 0 0], .slice none 0 0], []⟩ 8 (by kernel_rfl) (by kernel_rfl) (by kernel_rfl) (by kernel_rfl)) ?_
  intro W base args ds gs before hval hW _ hsz _
  exact contract H enc W base args ds gs before hval hW hsz

theorem over : Rows.EdgeLeastSaid :=
  OpenClaim.holds_of_wide 7 Try.f7 rfl rfl rfl rfl rfl rfl rfl ⟨rfl, rfl, rfl, rfl, rfl⟩ rfl rfl rfl rfl rfl (by kernel_rfl) Try.func7 (by kernel_rfl)
    (of_decide_eq_true (by kernel_rfl)) (by unfold Func.isWrapper; first | (rw [if_pos (by decide +kernel)]; kernel_rfl) | (rw [if_neg (by decide +kernel)]; exact ⟨rfl, rfl⟩))
    (fun os started H enc _ => lifted os started H enc)
end ClaimEdgeLeast

theorem edgeLeast_holds : Rows.EdgeLeastSaid := ClaimEdgeLeast.over
end Go.Proofs.Ytkcfcjijmgbciaa
