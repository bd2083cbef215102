/- What the cards of the statements about package sheet share: a start that fits, the tables out of what the rows list, arguments opened. -/
import Derived.Test.YtacmaddjpaebfaaGreatDoorCards
import Derived.Test.YtacmaddjpaebfaaGreatDoorTie
import Derived.Test.YtacmaddjpaebfaaGreatDoorRead
import Derived.Test.YtacmaddjpaebfaaGreatDoorArg
import Derived.ProofKit
import Derived.OpenShut
import Derived.ChangeSame
import Derived.LaidLaws
import Derived.Deep.DeepHandedRow
import Derived.Deep.DeepWitnessRowRef
import Derived.Lib.LaidTab
import Derived.Stop.LaidErr
set_option linter.unusedSimpArgs false
set_option linter.unusedVariables false
namespace Go.Proofs.YtacmaddjpaebfaaGreatDoor
open Go.ChangeShapes Go.WideShapes Go.ChangeAt Go.RowKit

theorem laidOutP : laidOutB Tryz.prog = true := by kernel_rfl
theorem own : ownKnob Tryz.prog.godebug = none := by kernel_rfl
theorem gPowType : (Tryz.prog.globals[0]?).map (·.type) = some 193 := by kernel_rfl
theorem cellsTab : Tryz.prog.cellsOf 193 = 20 := by kernel_rfl
theorem cellsU64 : Tryz.prog.cellsOf 178 = 1 := by kernel_rfl

/-- What the row's list and the world's shape give. -/
theorem tabs_of {W : World} (h : laidMetH Tryz.prog Rows.sheetChecksRow.laid W) (hsh : W.ShapedOpen Tryz.prog) : Tabs W := by
  have h' : laidMet Tryz.prog Rows.sheetChecksRow.laid W := h
  refine ⟨?_, Tryz.laysM146.s1_3 W hsh⟩
  exact Lib.tabIs_of_head (zs := Lib.pow10Tab) (rest := _) gPow gPowType Tryz.underlying193 Tryz.underlying178 cellsU64 cellsTab (laidMet.tail (laidMet.tail h'))

/-- The values of a datum. -/
def valOf : DataW Unit → Value
  | .lit (.int k n) => .int k n
  | _ => undef
def flatOf : DataW Unit → List Value
  | .agg ps => ps.flatMap fun p => match p with
    | .agg rs => rs.map valOf
    | d => [valOf d]
  | d => [valOf d]
abbrev synS : ByteArray := { data := #[105, 110, 118, 97, 108, 105, 100, 32, 115, 121, 110, 116, 97, 120] }
abbrev rngS : ByteArray := { data := #[118, 97, 108, 117, 101, 32, 111, 117, 116, 32, 111, 102, 32, 114, 97, 110, 103, 101] }
noncomputable def low : Nat := (World.holding Tryz.prog default ⟨#[], #[], []⟩).heap.size
def put (cs : List Value) : Obj → Obj
  | .cells _ t fr => .cells cs.toArray t fr
  | o => o
/-- A start that fits. -/
noncomputable def laidWorld (os : Os) : World :=
  let w0 := World.holding Tryz.prog os ⟨#[.cells #[.string synS] 220, .cells #[.string rngS] 220], #[], []⟩
  { w0 with heap := ((((((w0.heap.modify 6 (put (flatOf Rows.laid_math_bits_deBruijn32tab))).modify 7 (put (flatOf Rows.laid_math_bits_deBruijn64tab))).modify 0 (put (flatOf Rows.laid_internal_strconv_uint64pow10))).modify 3 (put (flatOf Rows.laid_unicode_utf8_acceptRanges))).modify 2 (put (flatOf Rows.laid_unicode_utf8_first))).modify 5 (put [.iface 218 (.pointer (some ⟨low + 1, 0, none⟩))])).modify 4 (put [.iface 218 (.pointer (some ⟨low, 0, none⟩))]) }

section
variable {H : Type} {enc : TypeId × Value → H} {W : World} {sp : Nat → Bool} {base : Nat} {v : Value} {d : DataW H} {p : List MemPlace}
set_option maxRecDepth 100000 in
theorem open_str (hok : Value.okWide Tryz.prog W .any base 9 v) (h : DataW.Trod enc Tryz.prog W 0 sp true 9 v d p) (hw : ∀ x ∈ d.weights Tryz.prog 9, x ≤ reachBytes) :
    ∃ s : ByteArray, v = .string s ∧ s.size ≤ 140737488351232 := by
  obtain ⟨s, rfl⟩ := okWide_string Tryz.underlying9 hok
  obtain ⟨n, hn⟩ := h
  obtain ⟨s', e, hd, _⟩ := DataW.trod_string Tryz.underlying9 hn
  simp [Value.cells] at e
  subst e
  simp only [Prod.mk.injEq] at hd
  obtain ⟨rfl, _⟩ := hd
  refine ⟨s, rfl, ?_⟩
  have := hw s.size (by simp [DataW.weights])
  have hr : reachBytes = 140737488351232 := rfl
  omega
theorem cellsU16 : Tryz.prog.cellsOf 64 = 1 := by kernel_rfl
theorem cellsU8 : Tryz.prog.cellsOf 5 = 1 := by kernel_rfl
theorem cellsU8x2 : Tryz.prog.cellsOf 58 = 2 := by kernel_rfl
set_option maxRecDepth 100000 in
theorem open_u16 (hok : Value.okWide Tryz.prog W .any base 64 v) (h : DataW.Trod enc Tryz.prog W 0 sp true 64 v d p) : ∃ n : Nat, v = .int .u16 n ∧ n ≤ 65535 := by
  obtain ⟨n, rfl, _, _, hw⟩ := open_int Tryz.underlying64 hok h
  have hb := bounds_u16 hw
  exact ⟨n.toNat, by rw [Int.toNat_of_nonneg hb.1], by omega⟩
theorem okWide_arr2 {P : Program} {r : Reach} {b0 : Nat} {t e : TypeId} {n : Nat} (ht : P.underlying t = some (.array n e)) (h : Value.okWide P W r b0 t v) : ∃ cs, v = .agg cs ∧ cs.size = P.cellsOf t := by
  simp only [Value.okWide, ht] at h
  obtain ⟨cs, h1, h2, _⟩ := h
  exact ⟨cs, h1, h2⟩
set_option maxRecDepth 100000 in
theorem open_u8x2 (hok : Value.okWide Tryz.prog W .any base 58 v) (h : DataW.Trod enc Tryz.prog W 0 sp true 58 v d p) : ∃ x y : Nat, v = .agg #[.int .u8 x, .int .u8 y] ∧ x ≤ 255 ∧ y ≤ 255 := by
  obtain ⟨cs, rfl, hsz⟩ := okWide_arr2 Tryz.underlying58 hok
  rw [cellsU8x2] at hsz
  obtain ⟨l⟩ := cs
  match l, hsz with
  | [c0, c1], _ =>
    obtain ⟨fuel, hf⟩ := h
    obtain ⟨xs, m, _, _, _, hlen, hg⟩ := DataW.trod_array Tryz.underlying58 hf
    match xs, hlen with
    | [y0, y1], _ =>
      have h0 := hg 0 (by omega)
      have h1 := hg 1 (by omega)
      rw [cellsU8] at h0 h1
      obtain ⟨k0, e0, _, w0⟩ := DataW.trod_int Tryz.underlying5 (h0.trans (by rfl : [y0, y1][0]? = some y0))
      obtain ⟨k1, e1, _, w1⟩ := DataW.trod_int Tryz.underlying5 (h1.trans (by rfl : [y0, y1][1]? = some y1))
      simp [Value.cells] at e0 e1
      subst e0 e1
      have b0 := bounds_u8 w0
      have b1 := bounds_u8 w1
      exact ⟨k0.toNat, k1.toNat, by rw [Int.toNat_of_nonneg b0.1, Int.toNat_of_nonneg b1.1], by omega, by omega⟩
theorem cellsI64x2 : Tryz.prog.cellsOf 32 = 2 := by kernel_rfl
set_option maxRecDepth 100000 in
theorem open_i64x2 (hok : Value.okWide Tryz.prog W .any base 32 v) (h : DataW.Trod enc Tryz.prog W 0 sp true 32 v d p) : ∃ x y : Int, v = .agg #[.int .i64 x, .int .i64 y] := by
  obtain ⟨cs, rfl, hsz⟩ := okWide_arr2 Tryz.underlying32 hok
  rw [cellsI64x2] at hsz
  obtain ⟨l⟩ := cs
  match l, hsz with
  | [c0, c1], _ =>
    obtain ⟨fuel, hf⟩ := h
    obtain ⟨xs, m, _, _, _, hlen, hg⟩ := DataW.trod_array Tryz.underlying32 hf
    match xs, hlen with
    | [y0, y1], _ =>
      have h0 := hg 0 (by omega)
      have h1 := hg 1 (by omega)
      rw [cellsInt] at h0 h1
      obtain ⟨k0, e0, _, _⟩ := DataW.trod_int Tryz.underlying3 (h0.trans (by rfl : [y0, y1][0]? = some y0))
      obtain ⟨k1, e1, _, _⟩ := DataW.trod_int Tryz.underlying3 (h1.trans (by rfl : [y0, y1][1]? = some y1))
      simp [Value.cells] at e0 e1
      subst e0 e1
      exact ⟨k0, k1, rfl⟩
set_option maxRecDepth 100000 in
theorem open_note1 (hok : Value.okWide Tryz.prog W .any base 67 v) (h : DataW.Trod enc Tryz.prog W 0 sp true 67 v d p) : ∃ x : Hs.Note, v = noteV x := by
  obtain ⟨cs, rfl, _⟩ := okWide_struct Tryz.underlying67 hok
  obtain ⟨n, hn⟩ := h
  obtain ⟨x, hx⟩ := open_note hn
  refine ⟨x, ?_⟩
  obtain ⟨l⟩ := cs
  simp [Value.cells] at hx
  rw [hx]
set_option maxRecDepth 100000 in
/-- The notes of a sheet that came in take no more than all addresses. -/
theorem sheet_len {s : Hs.Sheet} {pv nv : Value} {n : Nat} (hok : Value.okWide Tryz.prog W .any base 25 (.agg #[.int .i64 s.iv, pv, nv])) (h : DataW.Trod enc Tryz.prog W 0 sp true 25 (.agg #[.int .i64 s.iv, pv, nv]) d p)
    (hw : ∀ x ∈ d.weights Tryz.prog 25, x ≤ reachBytes) (hn : NotesAt n W nv s.notes) : s.notes.length * 40 ≤ 140737488351232 := by
  obtain ⟨v0, v1, v2, y0, y1, y2, m, e, rfl, rfl, h0, h1, h2⟩ := Go.Joins.open_agg3 Tryz.underlying25 (by kernel_rfl) cellsSheet hok h
  simp only [Value.agg.injEq, Array.mk.injEq, List.cons.injEq, and_true] at e
  obtain ⟨_, _, rfl⟩ := e
  simp only [DataW.weights, Tryz.underlying25, DataW.weightsEach, List.map, List.mem_append] at hw
  obtain ⟨_, a, c, rfl, _⟩ := hn
  have hr : reachBytes = 140737488351232 := rfl
  rcases Go.Deep.open_slice Tryz.underlying23 h2 with ⟨hcs, _⟩ | ⟨a', len, cap, q, n', D, Pl, hcs, _, hl, hm, hmm, hx, hel⟩
  · simp only [List.cons.injEq, Value.slice.injEq, and_true] at hcs
    omega
  · simp only [List.cons.injEq, Value.slice.injEq, and_true] at hcs
    obtain ⟨_, hlen, _⟩ := hcs
    have hlq : len ≤ q := by rw [hmm]; split <;> omega
    have := hw ((((List.range len).map D).length + ((List.range (q - len)).map fun j => D (len + j)).length) * 40) (Or.inr (Or.inr (Or.inl (by rw [hx]; simp [DataW.weights, Tryz.underlying23, bytesNote]))))
    simp only [List.length_map, List.length_range] at this
    omega
end
end Go.Proofs.YtacmaddjpaebfaaGreatDoor
