/- EdgeWants: the call returns true, whatever its arguments and the memory in which it begins; its arguments read as they did. -/
import Derived.Test.YtkcfcjijmgbciaaRff
import Derived.Laws.StructEq
import Derived.Test.YtkcfcjijmgbciaaRows
import Derived.Test.YtkcfcjijmgbciaaEar
import Derived.ProofKit
import Derived.JoinedOf
import Derived.JoinedAt
set_option linter.unusedSimpArgs false
set_option linter.unusedVariables false
namespace Go.Proofs.Ytkcfcjijmgbciaa
open Go Go.RowKit Go.Shelf Ed

set_option maxRecDepth 100000 in
set_option maxHeartbeats 8000000 in
theorem lwants_any (c : Cas) (sv ev lv : Value) (i : Int) (l : List Int) (w : World) (hC : CasAt w c sv ev) (hL : IntsAt w lv l) :
    Calls Try.prog 3 #[.agg #[.int .i64 c.tol, sv, ev], .int .i64 i, lv] w fun e w' => e = .returned (.bool true) ∧ Below w.heap.size w w' := by
  obtain ⟨sa, n, sc, rfl⟩ : ∃ a n cc, sv = .slice a n cc := by obtain ⟨_, a, cap, h, _⟩ := hC.shs; exact ⟨_, _, _, h⟩
  obtain ⟨ea, m, ec, rfl⟩ : ∃ a n cc, ev = .slice a n cc := by obtain ⟨_, a, cap, h, _⟩ := hC.eds; exact ⟨_, _, _, h⟩
  obtain ⟨la, q, lc, rfl⟩ : ∃ a n cc, lv = .slice a n cc := by obtain ⟨_, a, cap, h, _⟩ := hL; exact ⟨_, _, _, h⟩
  obtain ⟨tol, htol⟩ : ∃ t, c.tol = t := ⟨_, rfl⟩
  have HTOL := Lib.hid htol
  obtain ⟨W, hW⟩ : ∃ W, w.alloc (Obj.cells #[.int .i64 tol, .slice sa n sc, .slice ea m ec] 25) = W := ⟨_, rfl⟩
  have hb : Below w.heap.size w W := by rw [← hW]; exact (Below.refl _ _).alloc (Nat.le_refl _) _
  have HR : Hid (W.heap[w.heap.size]? = some (Obj.cells #[.int .i64 tol, .slice sa n sc, .slice ea m ec] 25)) := by show _ = _; rw [← hW]; exact heap_alloc_new w _
  have HC := Lib.hid (hC.below hb)
  have HL := Lib.hid (hL.below hb)
  have HW := Lib.hid hW
  have HB := Lib.hid hb
  rw [htol]
  clear hW hb hC hL htol
  go_enter Try.func3, Try.ntmps3
  go_wp2_with fail
  rw [HW.out]
  clear HW
  have r0 := cellOf HR.out 0 _ rfl
  have r1 := cellOf HR.out 1 _ rfl
  have r2 := cellOf HR.out 2 _ rfl
  have rl := lt_of_block HR.out
  go_wp2_with fail
  have hcall := check_any c _ _ W HC.out
  rw [HTOL.out] at hcall
  refine hcall.mono ?_
  clear hcall
  rintro e w1 ⟨rfl, hb⟩
  clear r0 r1 r2 rl
  have HR' := Lib.hid ((hb.block _ (lt_of_block HR.out)).trans HR.out)
  have HC' := Lib.hid (HC.out.below hb)
  have HL' := Lib.hid (HL.out.below hb)
  have HB' := Lib.hid (HB.out.trans (hb.mono HB.out.size))
  clear HR
  have HR := HR'
  clear HR'
  clear HC
  have HC := HC'
  clear HC'
  clear HL
  have HL := HL'
  clear HL'
  clear HB
  have HB := HB'
  clear HB'
  clear hb
  have r0 := cellOf HR.out 0 _ rfl
  have r1 := cellOf HR.out 1 _ rfl
  have r2 := cellOf HR.out 2 _ rfl
  have rl := lt_of_block HR.out
  go_wp2_with fail
  have hcall := rcheck_any c _ _ w1 HC.out
  rw [HTOL.out] at hcall
  refine hcall.mono ?_
  clear hcall
  rintro e w2 ⟨rfl, hb⟩
  clear r0 r1 r2 rl
  have HR' := Lib.hid ((hb.block _ (lt_of_block HR.out)).trans HR.out)
  have HC' := Lib.hid (HC.out.below hb)
  have HL' := Lib.hid (HL.out.below hb)
  have HB' := Lib.hid (HB.out.trans (hb.mono HB.out.size))
  clear HR
  have HR := HR'
  clear HR'
  clear HC
  have HC := HC'
  clear HC'
  clear HL
  have HL := HL'
  clear HL'
  clear HB
  have HB := HB'
  clear HB'
  clear hb
  obtain ⟨⟨k1, k2, k3⟩, hk⟩ : ∃ x, checkC c = x := ⟨_, rfl⟩
  rw [hk]
  clear hk
  have tk1 : (k1 != k1) = false := by simp
  have tk2 : (k2 != k2) = false := by simp
  have tk3 : (k3 != k3) = false := by simp
  have r0 := cellOf HR.out 0 _ rfl
  have r1 := cellOf HR.out 1 _ rfl
  have r2 := cellOf HR.out 2 _ rfl
  have rl := lt_of_block HR.out
  go_wp2_with fail
  have hcall := wants_any c _ _ i w2 HC.out
  rw [HTOL.out] at hcall
  refine hcall.mono ?_
  clear hcall
  rintro e w3 ⟨rfl, hb⟩
  clear r0 r1 r2 rl
  have HR' := Lib.hid ((hb.block _ (lt_of_block HR.out)).trans HR.out)
  have HC' := Lib.hid (HC.out.below hb)
  have HL' := Lib.hid (HL.out.below hb)
  have HB' := Lib.hid (HB.out.trans (hb.mono HB.out.size))
  clear HR
  have HR := HR'
  clear HR'
  clear HC
  have HC := HC'
  clear HC'
  clear HL
  have HL := HL'
  clear HL'
  clear HB
  have HB := HB'
  clear HB'
  clear hb
  obtain ⟨⟨⟨a1, a2⟩, a3⟩, ha⟩ : ∃ x, wantsA c i = x := ⟨_, rfl⟩
  have HA := Lib.hid ha
  rw [ha]
  simp only
  clear ha
  have r0 := cellOf HR.out 0 _ rfl
  have r1 := cellOf HR.out 1 _ rfl
  have r2 := cellOf HR.out 2 _ rfl
  have rl := lt_of_block HR.out
  go_wp2_with fail
  clear r0 r1 r2 rl
  have hb := (Below.refl w3.heap.size w3).alloc (Nat.le_refl _) (Obj.cells #[.int .i64 a1, .int .i64 a2] 31)
  have HS1 := Lib.hid (heap_alloc_new w3 (Obj.cells #[.int .i64 a1, .int .i64 a2] 31))
  have hz : (w3.alloc (Obj.cells #[.int .i64 a1, .int .i64 a2] 31)).heap.size = w3.heap.size + 1 := by simp
  have HR' := Lib.hid ((hb.block _ (lt_of_block HR.out)).trans HR.out)
  have HC' := Lib.hid (HC.out.below hb)
  have HL' := Lib.hid (HL.out.below hb)
  have HB' := Lib.hid (HB.out.trans (hb.mono HB.out.size))
  clear HR
  have HR := HR'
  clear HR'
  clear HC
  have HC := HC'
  clear HC'
  clear HL
  have HL := HL'
  clear HL'
  clear HB
  have HB := HB'
  clear HB'
  clear hb
  generalize w3.alloc (Obj.cells #[.int .i64 a1, .int .i64 a2] 31) = w4 at *
  have Z4 := Lib.hid hz
  clear hz
  have hcall := rwants_any c _ _ i w4 HC.out
  rw [HTOL.out] at hcall
  refine hcall.mono ?_
  clear hcall
  rintro e w5 ⟨rfl, hb⟩
  have HR' := Lib.hid ((hb.block _ (lt_of_block HR.out)).trans HR.out)
  have HC' := Lib.hid (HC.out.below hb)
  have HL' := Lib.hid (HL.out.below hb)
  have HB' := Lib.hid (HB.out.trans (hb.mono HB.out.size))
  have HS1' := Lib.hid ((hb.block _ (lt_of_block HS1.out)).trans HS1.out)
  clear HR
  have HR := HR'
  clear HR'
  clear HC
  have HC := HC'
  clear HC'
  clear HL
  have HL := HL'
  clear HL'
  clear HB
  have HB := HB'
  clear HB'
  clear HS1
  have HS1 := HS1'
  clear HS1'
  clear hb
  rw [HA.out]
  simp only
  have ta3 : (a3 != a3) = false := by simp
  have ta1 : (a1 != a1) = false := by simp
  have ta2 : (a2 != a2) = false := by simp
  obtain ⟨u1, hu1⟩ : ∃ u, w3.heap.size = u := ⟨_, rfl⟩
  rw [hu1] at HS1 ⊢
  clear hu1
  have x0 := cellOf HS1.out 0 _ rfl
  have x1 := cellOf HS1.out 1 _ rfl
  have xl := lt_of_block HS1.out
  have r0 := cellOf HR.out 0 _ rfl
  have r1 := cellOf HR.out 1 _ rfl
  have r2 := cellOf HR.out 2 _ rfl
  have rl := lt_of_block HR.out
  go_wp2_with fail
  clear x0 x1 xl r0 r1 r2 rl
  have hb := (Below.refl w5.heap.size w5).alloc (Nat.le_refl _) (Obj.cells #[.int .i64 a1, .int .i64 a2] 31)
  have HS2 := Lib.hid (heap_alloc_new w5 (Obj.cells #[.int .i64 a1, .int .i64 a2] 31))
  have hz : (w5.alloc (Obj.cells #[.int .i64 a1, .int .i64 a2] 31)).heap.size = w5.heap.size + 1 := by simp
  have HR' := Lib.hid ((hb.block _ (lt_of_block HR.out)).trans HR.out)
  have HC' := Lib.hid (HC.out.below hb)
  have HL' := Lib.hid (HL.out.below hb)
  have HB' := Lib.hid (HB.out.trans (hb.mono HB.out.size))
  have HS1' := Lib.hid ((hb.block _ (lt_of_block HS1.out)).trans HS1.out)
  clear HR
  have HR := HR'
  clear HR'
  clear HC
  have HC := HC'
  clear HC'
  clear HL
  have HL := HL'
  clear HL'
  clear HB
  have HB := HB'
  clear HB'
  clear HS1
  have HS1 := HS1'
  clear HS1'
  clear hb
  generalize w5.alloc (Obj.cells #[.int .i64 a1, .int .i64 a2] 31) = w6 at *
  clear hz
  have hcall := agrees_any c _ _ _ l w6 HC.out HL.out
  rw [HTOL.out] at hcall
  refine hcall.mono ?_
  clear hcall
  rintro e w7 ⟨rfl, hb⟩
  have HR' := Lib.hid ((hb.block _ (lt_of_block HR.out)).trans HR.out)
  have HC' := Lib.hid (HC.out.below hb)
  have HL' := Lib.hid (HL.out.below hb)
  have HB' := Lib.hid (HB.out.trans (hb.mono HB.out.size))
  have HS1' := Lib.hid ((hb.block _ (lt_of_block HS1.out)).trans HS1.out)
  have HS2' := Lib.hid ((hb.block _ (lt_of_block HS2.out)).trans HS2.out)
  clear HR
  have HR := HR'
  clear HR'
  clear HC
  have HC := HC'
  clear HC'
  clear HL
  have HL := HL'
  clear HL'
  clear HB
  have HB := HB'
  clear HB'
  clear HS1
  have HS1 := HS1'
  clear HS1'
  clear HS2
  have HS2 := HS2'
  clear HS2'
  clear hb
  obtain ⟨⟨b1, b2⟩, hbb⟩ : ∃ x, agreesC c l = x := ⟨_, rfl⟩
  have HAG := Lib.hid hbb
  rw [hbb]
  simp only
  clear hbb
  have r0 := cellOf HR.out 0 _ rfl
  have r1 := cellOf HR.out 1 _ rfl
  have r2 := cellOf HR.out 2 _ rfl
  have rl := lt_of_block HR.out
  go_wp2_with fail
  clear r0 r1 r2 rl
  have hcall := ragrees_any c _ _ _ l w7 HC.out HL.out
  rw [HTOL.out] at hcall
  refine hcall.mono ?_
  clear hcall
  rintro e w8 ⟨rfl, hb⟩
  have HR' := Lib.hid ((hb.block _ (lt_of_block HR.out)).trans HR.out)
  have HC' := Lib.hid (HC.out.below hb)
  have HL' := Lib.hid (HL.out.below hb)
  have HB' := Lib.hid (HB.out.trans (hb.mono HB.out.size))
  have HS1' := Lib.hid ((hb.block _ (lt_of_block HS1.out)).trans HS1.out)
  have HS2' := Lib.hid ((hb.block _ (lt_of_block HS2.out)).trans HS2.out)
  clear HR
  have HR := HR'
  clear HR'
  clear HC
  have HC := HC'
  clear HC'
  clear HL
  have HL := HL'
  clear HL'
  clear HB
  have HB := HB'
  clear HB'
  clear HS1
  have HS1 := HS1'
  clear HS1'
  clear HS2
  have HS2 := HS2'
  clear HS2'
  clear hb
  rw [HAG.out]
  simp only
  have tb1 : (b1 != b1) = false := by simp
  have tb2 : (b2 != b2) = false := by simp
  have r0 := cellOf HR.out 0 _ rfl
  have r1 := cellOf HR.out 1 _ rfl
  have r2 := cellOf HR.out 2 _ rfl
  have rl := lt_of_block HR.out
  go_wp2_with fail
  clear r0 r1 r2 rl
  have hcall := cost__any c _ _ _ l w8 HC.out HL.out
  rw [HTOL.out] at hcall
  refine hcall.mono ?_
  clear hcall
  rintro e w9 ⟨rfl, hb⟩
  have HR' := Lib.hid ((hb.block _ (lt_of_block HR.out)).trans HR.out)
  have HC' := Lib.hid (HC.out.below hb)
  have HL' := Lib.hid (HL.out.below hb)
  have HB' := Lib.hid (HB.out.trans (hb.mono HB.out.size))
  have HS1' := Lib.hid ((hb.block _ (lt_of_block HS1.out)).trans HS1.out)
  have HS2' := Lib.hid ((hb.block _ (lt_of_block HS2.out)).trans HS2.out)
  clear HR
  have HR := HR'
  clear HR'
  clear HC
  have HC := HC'
  clear HC'
  clear HL
  have HL := HL'
  clear HL'
  clear HB
  have HB := HB'
  clear HB'
  clear HS1
  have HS1 := HS1'
  clear HS1'
  clear HS2
  have HS2 := HS2'
  clear HS2'
  clear hb
  obtain ⟨⟨d1, d2⟩, hdd⟩ : ∃ x, costC c l = x := ⟨_, rfl⟩
  have HCO := Lib.hid hdd
  rw [hdd]
  simp only
  clear hdd
  have r0 := cellOf HR.out 0 _ rfl
  have r1 := cellOf HR.out 1 _ rfl
  have r2 := cellOf HR.out 2 _ rfl
  have rl := lt_of_block HR.out
  go_wp2_with fail
  clear r0 r1 r2 rl
  have hcall := rcost_any c _ _ _ l w9 HC.out HL.out
  rw [HTOL.out] at hcall
  refine hcall.mono ?_
  clear hcall
  rintro e w10 ⟨rfl, hb⟩
  have HR' := Lib.hid ((hb.block _ (lt_of_block HR.out)).trans HR.out)
  have HC' := Lib.hid (HC.out.below hb)
  have HL' := Lib.hid (HL.out.below hb)
  have HB' := Lib.hid (HB.out.trans (hb.mono HB.out.size))
  have HS1' := Lib.hid ((hb.block _ (lt_of_block HS1.out)).trans HS1.out)
  have HS2' := Lib.hid ((hb.block _ (lt_of_block HS2.out)).trans HS2.out)
  clear HR
  have HR := HR'
  clear HR'
  clear HC
  have HC := HC'
  clear HC'
  clear HL
  have HL := HL'
  clear HL'
  clear HB
  have HB := HB'
  clear HB'
  clear HS1
  have HS1 := HS1'
  clear HS1'
  clear HS2
  have HS2 := HS2'
  clear HS2'
  clear hb
  rw [HCO.out]
  simp only
  have td1 : (d1 == d1) = true := by simp
  have td2 : (d2 == d2) = true := by simp
  have r0 := cellOf HR.out 0 _ rfl
  have r1 := cellOf HR.out 1 _ rfl
  have r2 := cellOf HR.out 2 _ rfl
  have rl := lt_of_block HR.out
  go_wp2_with fail
  clear r0 r1 r2 rl
  refine (awake_any w10).mono ?_
  rintro e w11 ⟨rfl, hb⟩
  have HBF := Lib.hid (HB.out.trans (hb.mono HB.out.size))
  clear hb
  go_wp2_with fail
  go_ret
  exact ⟨rfl, HBF.out⟩
end Go.Proofs.Ytkcfcjijmgbciaa
namespace Go.Proofs.Ytkcfcjijmgbciaa
namespace ClaimEdgeWants
open Go.ChangeShapes Go.WideShapes Go.ChangeAt Go.RowKit

theorem own : ownKnob Try.prog.godebug = none := by kernel_rfl
theorem laidOutP : laidOutB Try.prog = true := by kernel_rfl

set_option maxRecDepth 100000 in
theorem contract (H : Type) (enc : TypeId × Value → H) (W : World) (base : Nat) (args : Array Value) (ds gs : List (DataW H)) (before : List MemPlace)
    (hval : ∀ (j : Nat) t v, Try.f3.params[j]? = some t → args[j]? = some v → Value.okWide Try.prog W .any base t v)
    (hW : DataW.Whole enc Try.prog Try.f3.params.toList Rows.edgeWantsSpec.vars false W args.toList ds gs before)
    (hsz : (DataW.weightsEach Try.prog (Try.f3.params.toList ++ Rows.edgeWantsSpec.plain.varTypes Try.prog) (ds ++ gs)).all (· ≤ reachBytes) = true) :
    Calls Try.prog 3 args W fun e W' => ∃ v, e = .returned v ∧ Rows.edgeWantsSpec.post enc Try.prog Try.f3 false true false false W args v W' := by
  have hW' := hW
  obtain ⟨p, q, hA0, hV, rfl, hfz, hnd⟩ := hW
  have hA : DataW.TrodAll enc Try.prog W 0 (fun _ => true) true Try.f3.params.toList args.toList ds p := hA0
  rw [Try.params3] at hA hval hsz
  obtain ⟨v0, vs0, d0, ds0, p0, q0, hargs, rfl, rfl, h0, r0⟩ := trodAll_cons hA
  obtain ⟨v1, vs1, d1, ds1, p1, q1, rfl, rfl, rfl, h1, r1⟩ := trodAll_cons r0
  obtain ⟨v2, vs2, d2, ds2, p2, q2, rfl, rfl, rfl, h2, r2⟩ := trodAll_cons r1
  obtain ⟨rfl, rfl, rfl⟩ := trodAll_nil r2
  obtain rfl : args = #[v0, v1, v2] := by cases args; simp_all
  obtain ⟨rfl, rfl⟩ := trodVars_none hV
  have w0 : ∀ x ∈ d0.weights Try.prog 25, x ≤ reachBytes := fun x hx => of_decide_eq_true (List.all_eq_true.1 hsz _ (DataW.weights_mem_each (j := 0) (t := 25) (d := d0) rfl rfl x hx))
  obtain ⟨c0, sv0, ev0, rfl, hC0⟩ := open_case (hval 0 25 v0 rfl rfl) h0 w0
  obtain ⟨n1, rfl, _, _, k1⟩ := open_int Try.underlying3 (hval 1 3 v1 rfl rfl) h1
  have b1 : -9223372036854775808 ≤ n1 ∧ n1 ≤ 9223372036854775807 := by simpa [Lit.wf, IntKind.min, IntKind.max, IntKind.signed, IntKind.bits] using k1
  have w2 : ∀ x ∈ d2.weights Try.prog 26, x ≤ reachBytes := fun x hx => of_decide_eq_true (List.all_eq_true.1 hsz _ (DataW.weights_mem_each (j := 2) (t := 26) (d := d2) rfl rfl x hx))
  obtain ⟨l2, hL2⟩ := open_ints (hval 2 26 v2 rfl rfl) h2 w2
  clear hA0
  refine (lwants_any c0 sv0 ev0 v2 n1 l2 W hC0 hL2).mono fun e W' ⟨he, hb⟩ => ?_
  subst he
  exact ⟨_, rfl, post_law laidOutP (by rw [Try.params3]; intro t ht; simp at ht; rcases ht with rfl | rfl | rfl <;> exact ⟨by kernel_rfl, of_decide_eq_true (by kernel_rfl)⟩) rfl rfl Try.underlying4 rfl hW' hb⟩

set_option maxRecDepth 100000 in
theorem lifted (os : Os) (started : os.Started) (H : Type) (enc : TypeId × Value → H) :
    ReturnsInHanded {} Try.checked os 3 .any (Rows.edgeWantsSpec.pre6 enc Try.prog Try.f3 Rows.edgeWantsRow.domain false) (Rows.edgeWantsSpec.post enc Try.prog Try.f3 false true false false) := by
  refine returnsInHanded_of_change_sized (C := Try.checked) own started (by kernel_rfl) Try.func3
    (ChangeSpec.witness6 (enc := enc) (C := Try.checked) false ⟨#[], #[.agg #[.int .i64 0, .slice none 0 0, .slice none 0 0], .int .i64 0, .slice none 0 0], []⟩ 8 (by kernel_rfl) (by kernel_rfl) (by kernel_rfl) (by kernel_rfl)) ?_
  intro W base args ds gs before hval hW _ hsz _
  exact contract H enc W base args ds gs before hval hW hsz

theorem over : Rows.EdgeWantsSaid :=
  OpenClaim.holds_of_wide 3 Try.f3 rfl rfl rfl rfl rfl rfl rfl ⟨rfl, rfl, rfl, rfl, rfl⟩ rfl rfl rfl rfl rfl (by kernel_rfl) Try.func3 (by kernel_rfl)
    (of_decide_eq_true (by kernel_rfl)) (by unfold Func.isWrapper; first | (rw [if_pos (by decide +kernel)]; kernel_rfl) | (rw [if_neg (by decide +kernel)]; exact ⟨rfl, rfl⟩))
    (fun os started H enc _ => lifted os started H enc)
end ClaimEdgeWants

theorem edgeWants_holds : Rows.EdgeWantsSaid := ClaimEdgeWants.over
end Go.Proofs.Ytkcfcjijmgbciaa
