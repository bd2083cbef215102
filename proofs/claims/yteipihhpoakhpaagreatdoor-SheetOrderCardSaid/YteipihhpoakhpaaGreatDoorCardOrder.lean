/- SheetOrder: the call returns true, whatever its arguments and the memory in which it begins; its arguments read as they did. Condition: the variables of Go's library that the row lists read as their own text lays them. -/
import Derived.Test.YteipihhpoakhpaaGreatDoorCards
import Derived.Test.YteipihhpoakhpaaGreatDoorTie
import Derived.Test.YteipihhpoakhpaaGreatDoorOrder
import Derived.Test.YteipihhpoakhpaaGreatDoorRead
import Derived.Test.YteipihhpoakhpaaGreatDoorArg
import Derived.ProofKit
import Derived.OpenShut
import Derived.ChangeSame
import Derived.LaidLaws
import Derived.Deep.DeepHandedRow
import Derived.Deep.DeepWitnessRowRef
import Derived.Lib.LaidTab
import Derived.Stop.LaidErr
set_option linter.unusedSimpArgs false
set_option linter.unusedVariables false
namespace Go.Proofs.YteipihhpoakhpaaGreatDoor
open Go.ChangeShapes Go.WideShapes Go.ChangeAt Go.RowKit

theorem laidOutP : laidOutB Tryz.prog = true := by kernel_rfl
theorem own : ownKnob Tryz.prog.godebug = none := by kernel_rfl
theorem gPowType : (Tryz.prog.globals[0]?).map (·.type) = some 193 := by kernel_rfl
theorem cellsTab : Tryz.prog.cellsOf 193 = 20 := by kernel_rfl
theorem cellsU64 : Tryz.prog.cellsOf 178 = 1 := by kernel_rfl

/-- What the row's list and the world's shape give. -/
theorem tabs_of {W : World} (h : laidMetH Tryz.prog Rows.sheetChecksRow.laid W) (hsh : W.ShapedOpen Tryz.prog) : Tabs W := by
  have h' : laidMet Tryz.prog Rows.sheetChecksRow.laid W := h
  refine ⟨?_, Tryz.laysM146.s1_3 W hsh⟩
  exact Lib.tabIs_of_head (zs := Lib.pow10Tab) (rest := _) gPow gPowType Tryz.underlying193 Tryz.underlying178 cellsU64 cellsTab (laidMet.tail (laidMet.tail h'))

/-- The values of a datum. -/
def valOf : DataW Unit → Value
  | .lit (.int k n) => .int k n
  | _ => undef
def flatOf : DataW Unit → List Value
  | .agg ps => ps.flatMap fun p => match p with
    | .agg rs => rs.map valOf
    | d => [valOf d]
  | d => [valOf d]
abbrev synS : ByteArray := { data := #[105, 110, 118, 97, 108, 105, 100, 32, 115, 121, 110, 116, 97, 120] }
abbrev rngS : ByteArray := { data := #[118, 97, 108, 117, 101, 32, 111, 117, 116, 32, 111, 102, 32, 114, 97, 110, 103, 101] }
noncomputable def low : Nat := (World.holding Tryz.prog default ⟨#[], #[], []⟩).heap.size
def put (cs : List Value) : Obj → Obj
  | .cells _ t fr => .cells cs.toArray t fr
  | o => o
/-- A start that fits. -/
noncomputable def laidWorld (os : Os) : World :=
  let w0 := World.holding Tryz.prog os ⟨#[.cells #[.string synS] 220, .cells #[.string rngS] 220], #[], []⟩
  { w0 with heap := ((((((w0.heap.modify 6 (put (flatOf Rows.laid_math_bits_deBruijn32tab))).modify 7 (put (flatOf Rows.laid_math_bits_deBruijn64tab))).modify 0 (put (flatOf Rows.laid_internal_strconv_uint64pow10))).modify 3 (put (flatOf Rows.laid_unicode_utf8_acceptRanges))).modify 2 (put (flatOf Rows.laid_unicode_utf8_first))).modify 5 (put [.iface 218 (.pointer (some ⟨low + 1, 0, none⟩))])).modify 4 (put [.iface 218 (.pointer (some ⟨low, 0, none⟩))]) }

section
variable {H : Type} {enc : TypeId × Value → H} {W : World} {sp : Nat → Bool} {base : Nat} {v : Value} {d : DataW H} {p : List MemPlace}
set_option maxRecDepth 100000 in
theorem open_str (hok : Value.okWide Tryz.prog W .any base 9 v) (h : DataW.Trod enc Tryz.prog W 0 sp true 9 v d p) (hw : ∀ x ∈ d.weights Tryz.prog 9, x ≤ reachBytes) :
    ∃ s : ByteArray, v = .string s ∧ s.size ≤ 140737488351232 := by
  obtain ⟨s, rfl⟩ := okWide_string Tryz.underlying9 hok
  obtain ⟨n, hn⟩ := h
  obtain ⟨s', e, hd, _⟩ := DataW.trod_string Tryz.underlying9 hn
  simp [Value.cells] at e
  subst e
  simp only [Prod.mk.injEq] at hd
  obtain ⟨rfl, _⟩ := hd
  refine ⟨s, rfl, ?_⟩
  have := hw s.size (by simp [DataW.weights])
  have hr : reachBytes = 140737488351232 := rfl
  omega
theorem cellsU16 : Tryz.prog.cellsOf 64 = 1 := by kernel_rfl
theorem cellsU8 : Tryz.prog.cellsOf 5 = 1 := by kernel_rfl
theorem cellsU8x2 : Tryz.prog.cellsOf 58 = 2 := by kernel_rfl
set_option maxRecDepth 100000 in
theorem open_u16 (hok : Value.okWide Tryz.prog W .any base 64 v) (h : DataW.Trod enc Tryz.prog W 0 sp true 64 v d p) : ∃ n : Nat, v = .int .u16 n ∧ n ≤ 65535 := by
  obtain ⟨n, rfl, _, _, hw⟩ := open_int Tryz.underlying64 hok h
  have hb := bounds_u16 hw
  exact ⟨n.toNat, by rw [Int.toNat_of_nonneg hb.1], by omega⟩
theorem okWide_arr2 {P : Program} {r : Reach} {b0 : Nat} {t e : TypeId} {n : Nat} (ht : P.underlying t = some (.array n e)) (h : Value.okWide P W r b0 t v) : ∃ cs, v = .agg cs ∧ cs.size = P.cellsOf t := by
  simp only [Value.okWide, ht] at h
  obtain ⟨cs, h1, h2, _⟩ := h
  exact ⟨cs, h1, h2⟩
set_option maxRecDepth 100000 in
theorem open_u8x2 (hok : Value.okWide Tryz.prog W .any base 58 v) (h : DataW.Trod enc Tryz.prog W 0 sp true 58 v d p) : ∃ x y : Nat, v = .agg #[.int .u8 x, .int .u8 y] ∧ x ≤ 255 ∧ y ≤ 255 := by
  obtain ⟨cs, rfl, hsz⟩ := okWide_arr2 Tryz.underlying58 hok
  rw [cellsU8x2] at hsz
  obtain ⟨l⟩ := cs
  match l, hsz with
  | [c0, c1], _ =>
    obtain ⟨fuel, hf⟩ := h
    obtain ⟨xs, m, _, _, _, hlen, hg⟩ := DataW.trod_array Tryz.underlying58 hf
    match xs, hlen with
    | [y0, y1], _ =>
      have h0 := hg 0 (by omega)
      have h1 := hg 1 (by omega)
      rw [cellsU8] at h0 h1
      obtain ⟨k0, e0, _, w0⟩ := DataW.trod_int Tryz.underlying5 (h0.trans (by rfl : [y0, y1][0]? = some y0))
      obtain ⟨k1, e1, _, w1⟩ := DataW.trod_int Tryz.underlying5 (h1.trans (by rfl : [y0, y1][1]? = some y1))
      simp [Value.cells] at e0 e1
      subst e0 e1
      have b0 := bounds_u8 w0
      have b1 := bounds_u8 w1
      exact ⟨k0.toNat, k1.toNat, by rw [Int.toNat_of_nonneg b0.1, Int.toNat_of_nonneg b1.1], by omega, by omega⟩
set_option maxRecDepth 100000 in
theorem open_note1 (hok : Value.okWide Tryz.prog W .any base 67 v) (h : DataW.Trod enc Tryz.prog W 0 sp true 67 v d p) : ∃ x : Hs.Note, v = noteV x := by
  obtain ⟨cs, rfl, _⟩ := okWide_struct Tryz.underlying67 hok
  obtain ⟨n, hn⟩ := h
  obtain ⟨x, hx⟩ := open_note hn
  refine ⟨x, ?_⟩
  obtain ⟨l⟩ := cs
  simp [Value.cells] at hx
  rw [hx]
set_option maxRecDepth 100000 in
/-- The notes of a sheet that came in take no more than all addresses. -/
theorem sheet_len {s : Hs.Sheet} {pv nv : Value} {n : Nat} (hok : Value.okWide Tryz.prog W .any base 25 (.agg #[.int .i64 s.iv, pv, nv])) (h : DataW.Trod enc Tryz.prog W 0 sp true 25 (.agg #[.int .i64 s.iv, pv, nv]) d p)
    (hw : ∀ x ∈ d.weights Tryz.prog 25, x ≤ reachBytes) (hn : NotesAt n W nv s.notes) : s.notes.length * 40 ≤ 140737488351232 := by
  obtain ⟨v0, v1, v2, y0, y1, y2, m, e, rfl, rfl, h0, h1, h2⟩ := Go.Joins.open_agg3 Tryz.underlying25 (by kernel_rfl) cellsSheet hok h
  simp only [Value.agg.injEq, Array.mk.injEq, List.cons.injEq, and_true] at e
  obtain ⟨_, _, rfl⟩ := e
  simp only [DataW.weights, Tryz.underlying25, DataW.weightsEach, List.map, List.mem_append] at hw
  obtain ⟨_, a, c, rfl, _⟩ := hn
  have hr : reachBytes = 140737488351232 := rfl
  rcases Go.Deep.open_slice Tryz.underlying23 h2 with ⟨hcs, _⟩ | ⟨a', len, cap, q, n', D, Pl, hcs, _, hl, hm, hmm, hx, hel⟩
  · simp only [List.cons.injEq, Value.slice.injEq, and_true] at hcs
    omega
  · simp only [List.cons.injEq, Value.slice.injEq, and_true] at hcs
    obtain ⟨_, hlen, _⟩ := hcs
    have hlq : len ≤ q := by rw [hmm]; split <;> omega
    have := hw ((((List.range len).map D).length + ((List.range (q - len)).map fun j => D (len + j)).length) * 40) (Or.inr (Or.inr (Or.inl (by rw [hx]; simp [DataW.weights, Tryz.underlying23, bytesNote]))))
    simp only [List.length_map, List.length_range] at this
    omega
end
end Go.Proofs.YteipihhpoakhpaaGreatDoor
namespace Go.Proofs.YteipihhpoakhpaaGreatDoor
namespace CardSheetOrder
open Go.ChangeShapes Go.WideShapes Go.ChangeAt Go.RowKit

theorem laid_met (os : Os) : laidMet Tryz.prog Rows.sheetOrderRow.laid ((laidWorld os).forCall (fun _ _ => 0) ⟨#[], #[.agg #[.int .i64 0, .slice none 0 0, .slice none 0 0], .slice none 0 0], []⟩).memory :=
  laidMet_of_run' 8 (by kernel_rfl) (by kernel_rfl)
theorem reads (os : Os) {H : Type} (enc : TypeId × Value → H) : ∃ places, DataW.whole enc Tryz.prog ((laidWorld os).forCall (fun _ _ => 0) ⟨#[], #[.agg #[.int .i64 0, .slice none 0 0, .slice none 0 0], .slice none 0 0], []⟩).memory Tryz.f13.params.toList Rows.sheetOrderSpec.vars false (#[.agg #[.int .i64 0, .slice none 0 0, .slice none 0 0], .slice none 0 0] : Array Value).toList 8 = some ([.agg [.lit (.int .i64 0), .nil, .nil], .nil], [], places) :=
  ⟨[], by kernel_rfl⟩

set_option maxRecDepth 100000 in
theorem contract (H : Type) (enc : TypeId × Value → H) (W : World) (base : Nat) (args : Array Value) (ds gs : List (DataW H)) (before : List MemPlace)
    (hval : ∀ (j : Nat) t v, Tryz.f13.params[j]? = some t → args[j]? = some v → Value.okWide Tryz.prog W .any base t v)
    (hW : DataW.Whole enc Tryz.prog Tryz.f13.params.toList Rows.sheetOrderSpec.vars false W args.toList ds gs before)
    (hsz : (DataW.weightsEach Tryz.prog (Tryz.f13.params.toList ++ (OpenSpec.ofChange Rows.sheetOrderSpec).bare.plain.varTypes Tryz.prog) (ds ++ gs)).all (· ≤ reachBytes) = true) (hT : Tabs W) :
    Calls Tryz.prog 13 args W fun e W' => ∃ v, e = .returned v ∧ Rows.sheetOrderSpec.post enc Tryz.prog Tryz.f13 false true false false W args v W' := by
  have hW' := hW
  obtain ⟨p, q, hA0, hV, rfl, hfz, hnd⟩ := hW
  have hA : DataW.TrodAll enc Tryz.prog W 0 (fun _ => true) true Tryz.f13.params.toList args.toList ds p := hA0
  rw [Tryz.params13] at hA hval hsz
  obtain ⟨v0, vs0, d0, ds0, p0, q0, hargs, rfl, rfl, h0, r0⟩ := trodAll_cons hA
  obtain ⟨v1, vs1, d1, ds1, p1, q1, rfl, rfl, rfl, h1, r1⟩ := trodAll_cons r0
  obtain ⟨rfl, rfl, rfl⟩ := trodAll_nil r1
  obtain rfl : args = #[v0, v1] := by cases args; simp_all
  obtain ⟨rfl, rfl⟩ := trodVars_none hV
  have w0 : ∀ x ∈ d0.weights Tryz.prog 25, x ≤ reachBytes := fun x hx => of_decide_eq_true (List.all_eq_true.1 hsz _ (DataW.weights_mem_each (j := 0) (t := 25) (d := d0) rfl rfl x hx))
  obtain ⟨s0, pv0, nv0, rfl, hS0, hcap0⟩ := open_sheet (hval 0 25 v0 rfl rfl) h0 w0
  have w1 : ∀ x ∈ d1.weights Tryz.prog 56, x ≤ reachBytes := fun x hx => of_decide_eq_true (List.all_eq_true.1 hsz _ (DataW.weights_mem_each (j := 1) (t := 56) (d := d1) rfl rfl x hx))
  obtain ⟨l1, hl1⟩ := open_u16s (hval 1 56 v1 rfl rfl) h1 w1
  clear hA0
  refine (lorder_any s0 pv0 nv0 v1 l1 W hS0 hcap0 hl1 hT).mono fun e W' ⟨he, hb⟩ => ?_
  subst he
  exact ⟨_, rfl, post_law laidOutP (by rw [Tryz.params13]; intro t ht; simp at ht; rcases ht with rfl | rfl <;> exact ⟨by kernel_rfl, of_decide_eq_true (by kernel_rfl)⟩) rfl rfl Tryz.underlying4 rfl hW' hb⟩

set_option maxRecDepth 100000 in
theorem lifted (os : Os) (started : os.Started) (H : Type) (enc : TypeId × Value → H) (F : Stop.Interp) :
    ReturnsInHanded {} Tryz.checked os 13 .any ((OpenSpec.ofChange Rows.sheetOrderSpec).preRow enc Tryz.prog Tryz.f13 Rows.sheetOrderRow.domain false Rows.sheetOrderRow.laid) (((OpenSpec.ofChange Rows.sheetOrderSpec).at F).post enc Tryz.prog Tryz.f13 false true false false) := by
  obtain ⟨places, hx⟩ := reads os enc
  refine returnsInHanded_of_row (C := Tryz.checked) (s := OpenSpec.ofChange Rows.sheetOrderSpec) own started (by kernel_rfl) Tryz.func13
    (witness_row_atRef (enc := enc) (C := Tryz.checked) false (laidWorld os) #[.agg #[.int .i64 0, .slice none 0 0, .slice none 0 0], .slice none 0 0] rfl (by kernel_rfl) (by kernel_rfl) (by kernel_rfl)
      (OpenSpec.preRow_of_cond 8 hx (by kernel_rfl) (fun k hk => by cases hk) (by kernel_rfl) (laid_met os))) ?_
  intro W base args ds gs before hval hW _ _ hsz hL hsh _
  exact contract H enc W base args ds gs before hval hW hsz (tabs_of hL hsh)

theorem said : Rows.SheetOrderSaid :=
  OpenClaim.holds_of_cond 13 Tryz.f13 rfl rfl rfl rfl rfl rfl rfl ⟨rfl, rfl, rfl, rfl, rfl⟩ rfl rfl rfl rfl rfl (by kernel_rfl) Tryz.func13 (by kernel_rfl)
    (of_decide_eq_true (by kernel_rfl)) (by unfold Func.isWrapper; first | (rw [if_pos (by decide +kernel)]; kernel_rfl) | (rw [if_neg (by decide +kernel)]; exact ⟨rfl, rfl⟩))
    (fun os started H enc _ F => by rw [OpenClaim.pre_eq_preRow]; exact lifted os started H enc F)

theorem plain (f : FuncId) (fn : Func) (hf : Tryz.pinned.checked.prog.funcNamed "hachure/hachurelaw01.SheetOrder" = some f) (hfn : Tryz.pinned.checked.prog.funcs[f]? = some fn) :
    true = Tryz.pinned.checked.prog.looks [] ∧ ∀ (j : Nat) t, fn.params[j]? = some t → Tryz.pinned.checked.prog.wantsStandIn t = false := by
  obtain rfl : f = 13 := Option.some.inj ((show Tryz.prog.funcNamed "hachure/hachurelaw01.SheetOrder" = some 13 by kernel_rfl).symm.trans hf) |>.symm
  obtain rfl : fn = Tryz.f13 := (Option.some.inj (Tryz.func13.symm.trans hfn)).symm
  refine ⟨by kernel_rfl, fun j t ht => ?_⟩
  rw [Tryz.params13] at ht
  have h := Array.mem_of_getElem? ht
  simp at h
  rcases h with rfl | rfl <;> (show Tryz.prog.wantsStandIn _ = false; kernel_rfl)
end CardSheetOrder

theorem sheetOrder_card : Rows.SheetOrderCardSaid :=
  Claim7.holds_tied_plain_at .later [] _ _ _ _ CardSheetOrder.said (fun _ h => by cases h) (by kernel_rfl) (fun _ h => by cases h) sheetOrder_row_tie rfl ⟨rfl, rfl⟩ (by kernel_rfl) rfl CardSheetOrder.plain (by kernel_rfl)
end Go.Proofs.YteipihhpoakhpaaGreatDoor
