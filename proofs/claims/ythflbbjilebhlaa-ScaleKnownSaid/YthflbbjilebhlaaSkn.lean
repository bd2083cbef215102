/- ScaleKnown: the call returns true, whatever the memory in which it begins. -/
import Derived.Test.YthflbbjilebhlaaRows
import Derived.Test.YthflbbjilebhlaaXg
import Derived.ProofKit
import Derived.OpenShut
import Derived.ChangeSame
import Derived.JoinedOf
import Derived.JoinedAt
set_option linter.unusedSimpArgs false
set_option linter.unusedVariables false
namespace Go.Proofs.Ythflbbjilebhlaa
namespace ScKnown
open Go.ChangeShapes Go.WideShapes Go.ChangeAt Go.RowKit

theorem own : ownKnob Try.prog.godebug = none := by kernel_rfl

set_option maxRecDepth 100000 in
/-- Where nothing came in, and what was there has not turned. -/
theorem post_nothing {H : Type} {enc : TypeId × Value → H} {W W' : World} {ds gs : List (DataW H)} {before : List MemPlace} (hW : DataW.Whole enc Try.prog Try.f6.params.toList Rows.scaleKnownSpec.vars false W (#[] : Array Value).toList ds gs before) (hd : ds = []) (hg : gs = []) (hbf : before = []) (hb : Below W.heap.size W W') :
    Rows.scaleKnownSpec.post enc Try.prog Try.f6 false true false false W #[] (.bool true) W' := by
  subst hd hg hbf
  refine ⟨[], [], [], [], [], [], hW, trodAll_cons_mk (shut_bool Try.underlying4 _) trodAll_mk0, trodAll_mk0, rfl, World.keptBut_mono (fun p hp => by simp at hp) (hb.frame (· ∈ [])), fun _ => ?_⟩
  exact ⟨ok_one (by kernel_rfl) rfl (okWide_bool_mk Try.underlying4 _), _, [], [], ⟨[], [], trodAll_cons_mk (shut_bool Try.underlying4 _) trodAll_mk0, rfl, rfl, fun b off h => absurd h (by simp), fun _ => List.nodup_nil⟩, fun p hp => absurd hp (by simp)⟩

theorem contract (H : Type) (enc : TypeId × Value → H) (W : World) (base : Nat) (args : Array Value) (ds gs : List (DataW H)) (before : List MemPlace)
    (hval : ∀ (j : Nat) t v, Try.f6.params[j]? = some t → args[j]? = some v → Value.okWide Try.prog W .any base t v)
    (hW : DataW.Whole enc Try.prog Try.f6.params.toList Rows.scaleKnownSpec.vars false W args.toList ds gs before) :
    Calls Try.prog 6 args W fun e W' => ∃ v, e = .returned v ∧ Rows.scaleKnownSpec.post enc Try.prog Try.f6 false true false false W args v W' := by
  have hW' := hW
  obtain ⟨p, q, hA0, hV, rfl, hfz, hnd⟩ := hW
  have hA : DataW.TrodAll enc Try.prog W 0 (fun _ => true) true Try.f6.params.toList args.toList ds p := hA0
  rw [Try.params6] at hA
  obtain ⟨ha, rfl, rfl⟩ := trodAll_nil hA
  obtain rfl : args = #[] := by cases args; simp_all
  obtain ⟨rfl, rfl⟩ := trodVars_none hV
  refine (known_any W).mono fun e W' ⟨he, hb⟩ => ?_
  subst he
  exact ⟨_, rfl, post_nothing hW' rfl rfl rfl hb⟩

set_option maxRecDepth 100000 in
theorem lifted (os : Os) (started : os.Started) (H : Type) (enc : TypeId × Value → H) :
    ReturnsInHanded {} Try.checked os 6 .any (Rows.scaleKnownSpec.pre6 enc Try.prog Try.f6 Rows.scaleKnownRow.domain false) (Rows.scaleKnownSpec.post enc Try.prog Try.f6 false true false false) := by
  refine returnsInHanded_of_change (C := Try.checked) own started (by kernel_rfl) Try.func6
    (ChangeSpec.witness6 (enc := enc) (C := Try.checked) false ⟨#[], #[], []⟩ 8 (by kernel_rfl) (by kernel_rfl) (by kernel_rfl) (by kernel_rfl)) ?_
  intro W base args ds gs before hval hW _ _
  exact contract H enc W base args ds gs before hval hW

theorem over : Rows.ScaleKnownSaid :=
  OpenClaim.holds_of_wide 6 Try.f6 rfl rfl rfl rfl rfl rfl rfl ⟨rfl, rfl, rfl, rfl, rfl⟩ rfl rfl rfl rfl rfl (by kernel_rfl) Try.func6 (by kernel_rfl)
    (of_decide_eq_true (by kernel_rfl)) (by unfold Func.isWrapper; first | (rw [if_pos (by decide +kernel)]; kernel_rfl) | (rw [if_neg (by decide +kernel)]; exact ⟨rfl, rfl⟩))
    (fun os started H enc _ => lifted os started H enc)
end ScKnown

theorem scaleKnown_holds : Rows.ScaleKnownSaid := ScKnown.over
end Go.Proofs.Ythflbbjilebhlaa
