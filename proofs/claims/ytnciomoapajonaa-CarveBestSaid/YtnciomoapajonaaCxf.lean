/- The small functions of the statements of package carve. -/
import Derived.Test.YtnciomoapajonaaCxe
import Derived.Laws.StructEq
set_option linter.unusedSimpArgs false
set_option linter.unusedVariables false
namespace Go.Proofs.Ytnciomoapajonaa
open Go Go.RowKit Go.Shelf Cv

set_option maxRecDepth 100000 in
set_option maxHeartbeats 1000000 in
theorem ints_eq (va vb : Value) (l : List Int) (w : World) (ha : IntsAt w va l) (hb : IntsAt w vb l) :
    Calls Try.prog 35 #[va, vb] w fun e w' => e = .returned (.bool true) ∧ Below w.heap.size w w' := by
  obtain ⟨hm, a, ca, rfl, _, _⟩ := id ha
  obtain ⟨_, b, cb, rfl, _, _⟩ := id hb
  have HA := Lib.hid ha
  have HB := Lib.hid hb
  have hm' : (l.length : Int) ≤ 4611686018427387904 := by omega
  clear ha hb
  go_enter Try.func35, Try.ntmps35
  go_wp2
  go_loopg [5] l.length (fun gh i wr => ∃ k : Nat, gh + k = l.length ∧ i = .int .i64 (k : Int) ∧ Hid (Below w.heap.size w wr))
  case atStart => exact ⟨0, by omega, rfl, Below.refl _ _⟩
  case round =>
    obtain ⟨k, hk, rfl, HBB⟩ := hrel
    by_cases hlt : k < l.length
    · have kI : (k : Int) < (l.length : Int) := by omega
      obtain ⟨b1, o1, rfl, c1⟩ := (HA.out.below HBB.out).get hlt
      obtain ⟨b2, o2, rfl, c2⟩ := (HB.out.below HBB.out).get hlt
      obtain ⟨x, hx⟩ : ∃ x : Int, l[k] = x := ⟨_, rfl⟩
      rw [hx] at c1 c2
      clear hx
      go_wp2_with fail
      go_quiet (fail)
      have HBN : Hid (Below w.heap.size w (wr.drewN nq)) := HBB.out.trans ⟨rfl, rfl, rfl, Nat.le_refl _, fun _ _ => rfl⟩
      clear c1 c2
      go_wp2
      go_roundg (gk - 1)
      case measure => omega
      case rel => exact ⟨k + 1, by omega, by go_num, HBN⟩
    · have kI : ¬ (k : Int) < (l.length : Int) := by omega
      clear hlt hk
      go_wp2
      go_ret
      exact ⟨rfl, HBB.out⟩
set_option maxRecDepth 100000 in
set_option maxHeartbeats 1000000 in
theorem spans_eq (va vb : Value) (l : List (Int × Int)) (w : World) (ha : PassAt w va l) (hb : PassAt w vb l) :
    Calls Try.prog 20 #[va, vb] w fun e w' => e = .returned (.bool true) ∧ Below w.heap.size w w' := by
  obtain ⟨hm, a, ca, rfl, _, _⟩ := id ha
  obtain ⟨_, b, cb, rfl, _, _⟩ := id hb
  have HA := Lib.hid ha
  have HB := Lib.hid hb
  have hm' : (l.length : Int) ≤ 4611686018427387904 := by omega
  clear ha hb
  go_enter Try.func20, Try.ntmps20
  go_wp2
  go_loopg [5] l.length (fun gh i wr => ∃ k : Nat, gh + k = l.length ∧ i = .int .i64 (k : Int) ∧ Hid (Below w.heap.size w wr))
  case atStart => exact ⟨0, by omega, rfl, Below.refl _ _⟩
  case round =>
    obtain ⟨k, hk, rfl, HBB⟩ := hrel
    by_cases hlt : k < l.length
    · have kI : (k : Int) < (l.length : Int) := by omega
      obtain ⟨b1, o1, rfl, c1, d1⟩ := (HA.out.below HBB.out).get hlt
      obtain ⟨b2, o2, rfl, c2, d2⟩ := (HB.out.below HBB.out).get hlt
      obtain ⟨⟨x, y⟩, hx⟩ : ∃ x : Int × Int, l[k] = x := ⟨_, rfl⟩
      rw [hx] at c1 c2 d1 d2
      simp only at c1 c2 d1 d2
      clear hx
      go_wp2_with fail
      go_quiet (fail)
      have HBN : Hid (Below w.heap.size w (wr.drewN nq)) := HBB.out.trans ⟨rfl, rfl, rfl, Nat.le_refl _, fun _ _ => rfl⟩
      clear c1 c2 d1 d2
      go_wp2
      go_roundg (gk - 1)
      case measure => omega
      case rel => exact ⟨k + 1, by omega, by go_num, HBN⟩
    · have kI : ¬ (k : Int) < (l.length : Int) := by omega
      clear hlt hk
      go_wp2
      go_ret
      exact ⟨rfl, HBB.out⟩
set_option maxRecDepth 100000 in
set_option maxHeartbeats 1000000 in
theorem same_eq (va vb : Value) (l : List (Int × Int)) (w : World) (ha : PassAt w va l) (hb : PassAt w vb l) :
    Calls Try.prog 32 #[va, vb] w fun e w' => e = .returned (.bool true) ∧ Below w.heap.size w w' := by
  obtain ⟨hm, a, ca, rfl, _, _⟩ := id ha
  obtain ⟨_, b, cb, rfl, _, _⟩ := id hb
  have HA := Lib.hid ha
  have HB := Lib.hid hb
  have hm' : (l.length : Int) ≤ 4611686018427387904 := by omega
  clear ha hb
  go_enter Try.func32, Try.ntmps32
  go_wp2
  go_loopg [5] l.length (fun gh i wr => ∃ k : Nat, gh + k = l.length ∧ i = .int .i64 (k : Int) ∧ Hid (Below w.heap.size w wr))
  case atStart => exact ⟨0, by omega, rfl, Below.refl _ _⟩
  case round =>
    obtain ⟨k, hk, rfl, HBB⟩ := hrel
    by_cases hlt : k < l.length
    · have kI : (k : Int) < (l.length : Int) := by omega
      obtain ⟨b1, o1, rfl, c1, d1⟩ := (HA.out.below HBB.out).get hlt
      obtain ⟨b2, o2, rfl, c2, d2⟩ := (HB.out.below HBB.out).get hlt
      obtain ⟨⟨x, y⟩, hx⟩ : ∃ x : Int × Int, l[k] = x := ⟨_, rfl⟩
      rw [hx] at c1 c2 d1 d2
      simp only at c1 c2 d1 d2
      clear hx
      go_wp2_with fail
      go_quiet (fail)
      have HBN : Hid (Below w.heap.size w (wr.drewN nq)) := HBB.out.trans ⟨rfl, rfl, rfl, Nat.le_refl _, fun _ _ => rfl⟩
      clear c1 c2 d1 d2
      go_wp2
      go_roundg (gk - 1)
      case measure => omega
      case rel => exact ⟨k + 1, by omega, by go_num, HBN⟩
    · have kI : ¬ (k : Int) < (l.length : Int) := by omega
      clear hlt hk
      go_wp2
      go_ret
      exact ⟨rfl, HBB.out⟩
set_option maxHeartbeats 400000 in
theorem lspan_any (lo hi : Int) (w : World) :
    Calls Try.prog 48 #[.int .i64 lo, .int .i64 hi] w fun e w' => e = .returned (.agg #[.int .i64 lo, .int .i64 hi]) ∧ Below w.heap.size w w' := by
  go_enter Try.func48, Try.ntmps48
  go_wp2
  exact bodyPost_ret (v := .agg #[.int .i64 lo, .int .i64 hi]) (by simp [results, Try.results48, go_sem]) rfl ⟨rfl, by go_grown⟩
set_option maxHeartbeats 400000 in
theorem lpass_any (lo hi : Int) (w : World) :
    Calls Try.prog 59 #[.int .i64 lo, .int .i64 hi] w fun e w' => e = .returned (.agg #[.int .i64 lo, .int .i64 hi]) ∧ Below w.heap.size w w' := by
  go_enter Try.func59, Try.ntmps59
  go_wp2
  exact bodyPost_ret (v := .agg #[.int .i64 lo, .int .i64 hi]) (by simp [results, Try.results59, go_sem]) rfl ⟨rfl, by go_grown⟩
theorem row_result {fn : Func} {p : Tmp} (h : fn.results = #[.cell p 24]) (tmps : Array Value) (w : World) (g : Nat) (x y : Value)
    (hp : tmps.getD p undef = .pointer (some ⟨g, 0, none⟩)) (hg : w.heap[g]? = some (.cells #[x, y] 24 (0, 0))) :
    (results fn tmps).run Try.prog w = .ok (.agg #[x, y]) w := by
  have c0 : w.cell? ⟨g, 0, none⟩ = some x := cellOf hg 0 _ rfl
  have c1 : w.cell? ⟨g, 1, none⟩ = some y := cellOf hg 1 _ rfl
  have hp' : tmps[p]?.getD undef = .pointer (some ⟨g, 0, none⟩) := by simpa using hp
  simp only [results, h]
  simp [Sem.run_bind, Result.andThen, hp', asAddr, go_sem, c0, c1]
/-- The points of the row R of the examples; of T. -/
def rowP : List Pt := [⟨10, 4, 8⟩, ⟨10, 9, 12⟩, ⟨6, 7, 9⟩, ⟨12, 3, 6⟩]
def twoP : List Pt := [⟨10, 0, 20⟩, ⟨8, 0, 20⟩]
set_option maxRecDepth 100000 in
set_option maxHeartbeats 1000000 in
theorem lrow_any (st : Int) (w : World) : Calls Try.prog 38 #[.int .i64 st] w fun e w' => ∃ g, e = .returned (.agg #[.int .i64 st, .slice (some ⟨g, 0, none⟩) 4 4]) ∧ PtsAt w' (.slice (some ⟨g, 0, none⟩) 4 4) rowP ∧ Below w.heap.size w w' := by
  go_enter Try.func38, Try.ntmps38
  go_wp2
  obtain ⟨V, hV, h1, h2, hb, _⟩ := al2 w (Obj.cells #[.int .i64 st, .slice (some ⟨w.heap.size + 1, 0, none⟩) 4 4] 24) (Obj.cells #[.int .i64 10, .int .i64 4, .int .i64 8, .int .i64 10, .int .i64 9, .int .i64 12, .int .i64 6, .int .i64 7, .int .i64 9, .int .i64 12, .int .i64 3, .int .i64 6] 58)
  rw [hV]
  refine bodyPost_ret (row_result rfl _ _ w.heap.size _ _ rfl h1) rfl ⟨w.heap.size + 1, rfl, ⟨by simp [rowP], _, 4, rfl, by simp [rowP], fun _ => ⟨w.heap.size + 1, 0, rfl, fun k hk => ?_⟩⟩, hb⟩
  simp [rowP] at hk
  match k, hk with
  | 0, _ => exact ⟨cellOf h2 0 _ rfl, cellOf h2 1 _ rfl, cellOf h2 2 _ rfl⟩
  | 1, _ => exact ⟨cellOf h2 3 _ rfl, cellOf h2 4 _ rfl, cellOf h2 5 _ rfl⟩
  | 2, _ => exact ⟨cellOf h2 6 _ rfl, cellOf h2 7 _ rfl, cellOf h2 8 _ rfl⟩
  | 3, _ => exact ⟨cellOf h2 9 _ rfl, cellOf h2 10 _ rfl, cellOf h2 11 _ rfl⟩
set_option maxRecDepth 100000 in
set_option maxHeartbeats 1000000 in
theorem ltwo_any (w : World) : Calls Try.prog 39 #[] w fun e w' => ∃ g, e = .returned (.agg #[.int .i64 0, .slice (some ⟨g, 0, none⟩) 2 2]) ∧ PtsAt w' (.slice (some ⟨g, 0, none⟩) 2 2) twoP ∧ Below w.heap.size w w' := by
  go_enter Try.func39, Try.ntmps39
  go_wp2
  obtain ⟨V, hV, h1, h2, hb, _⟩ := al2 w (Obj.cells #[.int .i64 0, .slice (some ⟨w.heap.size + 1, 0, none⟩) 2 2] 24) (Obj.cells #[.int .i64 10, .int .i64 0, .int .i64 20, .int .i64 8, .int .i64 0, .int .i64 20] 58)
  rw [hV]
  refine bodyPost_ret (row_result rfl _ _ w.heap.size _ _ rfl h1) rfl ⟨w.heap.size + 1, rfl, ⟨by simp [twoP], _, 2, rfl, by simp [twoP], fun _ => ⟨w.heap.size + 1, 0, rfl, fun k hk => ?_⟩⟩, hb⟩
  simp [twoP] at hk
  match k, hk with
  | 0, _ => exact ⟨cellOf h2 0 _ rfl, cellOf h2 1 _ rfl, cellOf h2 2 _ rfl⟩
  | 1, _ => exact ⟨cellOf h2 3 _ rfl, cellOf h2 4 _ rfl, cellOf h2 5 _ rfl⟩
/-! ## What the calls of Awake answer -/
def rowR (st : Int) : Row := ⟨st, rowP⟩
def twoR : Row := ⟨0, twoP⟩
theorem a_why : whyR (rowR 2) [8, 9, 7, 4] = (3, 3, 0) := by decide +kernel
theorem a_bounds : boundsR (rowR 2) = ([(7, 8), (9, 10), (7, 8), (5, 6)], 0) := by decide +kernel
theorem a_prev : prevR (rowR 1) = (1, 3, 0) := by decide +kernel
theorem a_need : needR (rowR 2) = (2, 0) := by decide +kernel
theorem a_plaster : plasterR (rowR 2) [8, 9, 8, 6] = (2, 0) := by decide +kernel
theorem a_passes : passesR (rowR 2) [8, 9, 8, 6] = ([(0, 1), (3, 3), (0, 0), (3, 3), (3, 3), (3, 3), (3, 3), (3, 3)], 0) := by decide +kernel
theorem a_carved : carvedR (rowR 2) [(0, 1), (3, 3)] = ([1, 1, 0, 1], 0) := by decide +kernel
theorem a_best : bestR (rowR 2) false = ([8, 9, 7, 6], 1, 8, 0) := by decide +kernel
theorem a_two : bestR twoR true = ([10, 10], 2, 0, 0) := by decide +kernel
theorem a_down : boundsR (rowR 1) = ([], 9) := by decide +kernel
end Go.Proofs.Ytnciomoapajonaa
