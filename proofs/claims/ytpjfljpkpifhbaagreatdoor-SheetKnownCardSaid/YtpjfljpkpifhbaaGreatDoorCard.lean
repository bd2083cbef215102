/- SheetKnown: the call returns true, whatever the memory in which it begins. Condition: the variables of Go's library that the row lists read as their own text lays them. -/
import Derived.Test.YtpjfljpkpifhbaaGreatDoorCards
import Derived.Test.YtpjfljpkpifhbaaGreatDoorTie
import Derived.Test.YtpjfljpkpifhbaaGreatDoorKnown
import Derived.ProofKit
import Derived.OpenShut
import Derived.ChangeSame
import Derived.LaidLaws
import Derived.Deep.DeepHandedRow
import Derived.Deep.DeepWitnessRowRef
import Derived.Lib.LaidTab
import Derived.Stop.LaidErr
set_option linter.unusedSimpArgs false
set_option linter.unusedVariables false
namespace Go.Proofs.YtpjfljpkpifhbaaGreatDoor
namespace CardK
open Go.ChangeShapes Go.WideShapes Go.ChangeAt Go.RowKit

theorem own : ownKnob Tryz.prog.godebug = none := by kernel_rfl
theorem gPowType : (Tryz.prog.globals[0]?).map (·.type) = some 150 := by kernel_rfl
theorem cellsTab : Tryz.prog.cellsOf 150 = 20 := by kernel_rfl
theorem cellsU64 : Tryz.prog.cellsOf 134 = 1 := by kernel_rfl

/-- What the row's list and the world's shape give. -/
theorem tabs_of {W : World} (h : laidMetH Tryz.prog Rows.sheetKnownRow.laid W) (hsh : W.ShapedOpen Tryz.prog) : Tabs W := by
  have h' : laidMet Tryz.prog Rows.sheetKnownRow.laid W := h
  refine ⟨?_, Tryz.laysM146.s1_3 W hsh⟩
  exact Lib.tabIs_of_head (zs := Lib.pow10Tab) (rest := _) gPow gPowType Tryz.underlying150 Tryz.underlying134 cellsU64 cellsTab (laidMet.tail (laidMet.tail h'))

/-- The values of a datum. -/
def valOf : DataW Unit → Value
  | .lit (.int k n) => .int k n
  | _ => undef
def flatOf : DataW Unit → List Value
  | .agg ps => ps.flatMap fun p => match p with
    | .agg rs => rs.map valOf
    | d => [valOf d]
  | d => [valOf d]
abbrev synS : ByteArray := { data := #[105, 110, 118, 97, 108, 105, 100, 32, 115, 121, 110, 116, 97, 120] }
abbrev rngS : ByteArray := { data := #[118, 97, 108, 117, 101, 32, 111, 117, 116, 32, 111, 102, 32, 114, 97, 110, 103, 101] }
noncomputable def low : Nat := (World.holding Tryz.prog default ⟨#[], #[], []⟩).heap.size
def put (cs : List Value) : Obj → Obj
  | .cells _ t fr => .cells cs.toArray t fr
  | o => o
/-- A start that fits. -/
noncomputable def laidWorld (os : Os) : World :=
  let w0 := World.holding Tryz.prog os ⟨#[.cells #[.string synS] 177, .cells #[.string rngS] 177], #[], []⟩
  { w0 with heap := ((((((w0.heap.modify 6 (put (flatOf Rows.laid_math_bits_deBruijn32tab))).modify 7 (put (flatOf Rows.laid_math_bits_deBruijn64tab))).modify 0 (put (flatOf Rows.laid_internal_strconv_uint64pow10))).modify 3 (put (flatOf Rows.laid_unicode_utf8_acceptRanges))).modify 2 (put (flatOf Rows.laid_unicode_utf8_first))).modify 5 (put [.iface 175 (.pointer (some ⟨low + 1, 0, none⟩))])).modify 4 (put [.iface 175 (.pointer (some ⟨low, 0, none⟩))]) }
theorem laid_met (os : Os) : laidMet Tryz.prog Rows.sheetKnownRow.laid ((laidWorld os).forCall (fun _ _ => 0) ⟨#[], #[], []⟩).memory :=
  laidMet_of_run' 8 (by kernel_rfl) (by kernel_rfl)
theorem reads (os : Os) {H : Type} (enc : TypeId × Value → H) : ∃ places, DataW.whole enc Tryz.prog ((laidWorld os).forCall (fun _ _ => 0) ⟨#[], #[], []⟩).memory Tryz.f3.params.toList Rows.sheetKnownSpec.vars false (#[] : Array Value).toList 8 = some ([], [], places) :=
  ⟨[], by kernel_rfl⟩

set_option maxRecDepth 100000 in
/-- Where nothing came in, and what was there has not turned. -/
theorem post_nothing {H : Type} {enc : TypeId × Value → H} {W W' : World} {ds gs : List (DataW H)} {before : List MemPlace} (hW : DataW.Whole enc Tryz.prog Tryz.f3.params.toList Rows.sheetKnownSpec.vars false W (#[] : Array Value).toList ds gs before) (hd : ds = []) (hg : gs = []) (hbf : before = []) (hb : Below W.heap.size W W') :
    Rows.sheetKnownSpec.post enc Tryz.prog Tryz.f3 false true false false W #[] (.bool true) W' := by
  subst hd hg hbf
  refine ⟨[], [], [], [], [], [], hW, trodAll_cons_mk (shut_bool Tryz.underlying4 _) trodAll_mk0, trodAll_mk0, rfl, World.keptBut_mono (fun p hp => by simp at hp) (hb.frame (· ∈ [])), fun _ => ?_⟩
  exact ⟨ok_one (by kernel_rfl) rfl (okWide_bool_mk Tryz.underlying4 _), _, [], [], ⟨[], [], trodAll_cons_mk (shut_bool Tryz.underlying4 _) trodAll_mk0, rfl, rfl, fun b off h => absurd h (by simp), fun _ => List.nodup_nil⟩, fun p hp => absurd hp (by simp)⟩

theorem contract (H : Type) (enc : TypeId × Value → H) (W : World) (base : Nat) (args : Array Value) (ds gs : List (DataW H)) (before : List MemPlace)
    (hval : ∀ (j : Nat) t v, Tryz.f3.params[j]? = some t → args[j]? = some v → Value.okWide Tryz.prog W .any base t v)
    (hW : DataW.Whole enc Tryz.prog Tryz.f3.params.toList Rows.sheetKnownSpec.vars false W args.toList ds gs before) (hT : Tabs W) :
    Calls Tryz.prog 3 args W fun e W' => ∃ v, e = .returned v ∧ Rows.sheetKnownSpec.post enc Tryz.prog Tryz.f3 false true false false W args v W' := by
  have hW' := hW
  obtain ⟨p, q, hA0, hV, rfl, hfz, hnd⟩ := hW
  have hA : DataW.TrodAll enc Tryz.prog W 0 (fun _ => true) true Tryz.f3.params.toList args.toList ds p := hA0
  rw [Tryz.params3] at hA
  obtain ⟨ha, rfl, rfl⟩ := trodAll_nil hA
  obtain rfl : args = #[] := by cases args; simp_all
  obtain ⟨rfl, rfl⟩ := trodVars_none hV
  refine (known_any W hT).mono fun e W' ⟨he, hb⟩ => ?_
  subst he
  exact ⟨_, rfl, post_nothing hW' rfl rfl rfl hb⟩

set_option maxRecDepth 100000 in
theorem lifted (os : Os) (started : os.Started) (H : Type) (enc : TypeId × Value → H) (F : Stop.Interp) :
    ReturnsInHanded {} Tryz.checked os 3 .any ((OpenSpec.ofChange Rows.sheetKnownSpec).preRow enc Tryz.prog Tryz.f3 Rows.sheetKnownRow.domain false Rows.sheetKnownRow.laid) (((OpenSpec.ofChange Rows.sheetKnownSpec).at F).post enc Tryz.prog Tryz.f3 false true false false) := by
  obtain ⟨places, hx⟩ := reads os enc
  refine returnsInHanded_of_row (C := Tryz.checked) (s := OpenSpec.ofChange Rows.sheetKnownSpec) own started (by kernel_rfl) Tryz.func3
    (witness_row_atRef (enc := enc) (C := Tryz.checked) false (laidWorld os) #[] rfl (by kernel_rfl) (by kernel_rfl) (by kernel_rfl)
      (OpenSpec.preRow_of_cond 8 hx (by kernel_rfl) (fun k hk => by cases hk) (by kernel_rfl) (laid_met os))) ?_
  intro W base args ds gs before hval hW _ _ _ hL hsh _
  exact contract H enc W base args ds gs before hval hW (tabs_of hL hsh)

theorem said : Rows.SheetKnownSaid :=
  OpenClaim.holds_of_cond 3 Tryz.f3 rfl rfl rfl rfl rfl rfl rfl ⟨rfl, rfl, rfl, rfl, rfl⟩ rfl rfl rfl rfl rfl (by kernel_rfl) Tryz.func3 (by kernel_rfl)
    (of_decide_eq_true (by kernel_rfl)) (by unfold Func.isWrapper; first | (rw [if_pos (by decide +kernel)]; kernel_rfl) | (rw [if_neg (by decide +kernel)]; exact ⟨rfl, rfl⟩))
    (fun os started H enc _ F => by rw [OpenClaim.pre_eq_preRow]; exact lifted os started H enc F)

theorem plain (f : FuncId) (fn : Func) (hf : Tryz.pinned.checked.prog.funcNamed "hachure/hachurelaw01.SheetKnown" = some f) (hfn : Tryz.pinned.checked.prog.funcs[f]? = some fn) :
    true = Tryz.pinned.checked.prog.looks [] ∧ ∀ (j : Nat) t, fn.params[j]? = some t → Tryz.pinned.checked.prog.wantsStandIn t = false := by
  obtain rfl : f = 3 := Option.some.inj ((show Tryz.prog.funcNamed "hachure/hachurelaw01.SheetKnown" = some 3 by kernel_rfl).symm.trans hf) |>.symm
  obtain rfl : fn = Tryz.f3 := (Option.some.inj (Tryz.func3.symm.trans hfn)).symm
  refine ⟨by kernel_rfl, fun j t ht => ?_⟩
  rw [Tryz.params3] at ht
  simp at ht
end CardK

theorem sheetKnown_card : Rows.SheetKnownCardSaid :=
  Claim7.holds_tied_plain_at .later [] _ _ _ _ CardK.said (fun _ h => by cases h) (by kernel_rfl) (fun _ h => by cases h) sheetKnown_row_tie rfl ⟨rfl, rfl⟩ (by kernel_rfl) rfl CardK.plain (by kernel_rfl)
end Go.Proofs.YtpjfljpkpifhbaaGreatDoor
