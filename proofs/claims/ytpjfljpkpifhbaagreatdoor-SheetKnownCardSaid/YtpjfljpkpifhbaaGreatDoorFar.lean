/- The matrices of package sheet: what their functions compute. -/
import Derived.Test.YtpjfljpkpifhbaaGreatDoorBase
import Derived.Deep.WholeRow
import Derived.Laws.CopyOwn
set_option linter.unusedSimpArgs false
set_option linter.unusedVariables false
namespace Go.Proofs.YtpjfljpkpifhbaaGreatDoor
open Go Go.RowKit

/-- The cells of a matrix of 9 times 9 numbers. -/
def cs (m : List Int) : Array Value := (m.map (Value.int .i64)).toArray
theorem cs_get (m : List Int) (i : Nat) (h : i < m.length) : (cs m)[i]? = some (.int .i64 (m.getD i 0)) := by
  simp [cs, h]
theorem cs_size (m : List Int) : (cs m).size = m.length := by simp [cs]

/-- Block b holds the matrix m, and may be written. -/
def FarBlk (w : World) (b : Nat) (m : List Int) : Prop := w.heap[b]? = some (.cells (cs m) 49 (0, 0))
theorem FarBlk.lt {w : World} {b : Nat} {m : List Int} (h : FarBlk w b m) : b < w.heap.size := lt_of_block h
theorem FarBlk.cell {w : World} {b : Nat} {m : List Int} (h : FarBlk w b m) (i : Nat) (hi : i < m.length) : w.cell? ⟨b, i, none⟩ = some (.int .i64 (m[i]?.getD 0)) := by
  rw [cell_of_row w b i _ _ _ h, cs_get m i hi]
  simp
theorem FarBlk.free {w : World} {b : Nat} {m : List Int} (h : FarBlk w b m) (i : Nat) : w.frozen? ⟨b, i, none⟩ = false := frozen_of_row w b i _ _ h
theorem cs_set (m : List Int) (i : Nat) (x : Int) : (cs m).setIfInBounds i (.int .i64 x) = cs (m.set i x) := by
  apply Array.ext'
  simp [cs, List.map_set]
theorem FarBlk.set {w : World} {b : Nat} {m : List Int} (h : FarBlk w b m) (i : Nat) (x : Int) : FarBlk (w.setCell ⟨b, i, none⟩ (.int .i64 x)) b (m.set i x) := by
  unfold FarBlk
  rw [heap_setCell_same w b i _ _ _ h, cs_set]
theorem FarBlk.other {w : World} {b b' i : Nat} {m : List Int} (h : FarBlk w b m) (hne : b ≠ b') (u : Value) : FarBlk (w.setCell ⟨b', i, none⟩ u) b m := by
  unfold FarBlk
  rw [heap_setCell_other w _ _ _ hne]
  exact h
theorem FarBlk.alloc {w : World} {b : Nat} {m : List Int} (h : FarBlk w b m) (o : Obj) : FarBlk (w.alloc o) b m := by
  unfold FarBlk
  exact (Below.heap_alloc w o b h.lt).trans h
theorem FarBlk.new (w : World) (m : List Int) : FarBlk (w.alloc (.cells (cs m) 49)) w.heap.size m := heap_alloc_new w _
theorem FarBlk.new' (w : World) (m : List Int) (n : Nat) (hn : n = w.heap.size) : FarBlk (w.alloc (.cells (cs m) 49)) n m := hn ▸ heap_alloc_new w _
theorem FarBlk.drew {w : World} {b : Nat} {m : List Int} (h : FarBlk w b m) : FarBlk w.drew b m := h
theorem FarBlk.below {w w' : World} {b n : Nat} {m : List Int} (h : FarBlk w b m) (hb : Below n w w') (hn : b < n) : FarBlk w' b m := (hb.block b hn).trans h
theorem FarBlk.put {w : World} {b : Nat} {m : List Int} (h : FarBlk w b m) (m' : List Int) : FarBlk (w.setRow b (cs m')) b m' := setRow_heap w b _ _ _ _ h
theorem FarBlk.putOther {w : World} {b b' : Nat} {m : List Int} (h : FarBlk w b m) (hne : b ≠ b') (m' : List Int) : FarBlk (w.setRow b' (cs m')) b m := by
  unfold FarBlk
  rw [setRow_other w b' b _ hne]
  exact h
theorem cs_one (m : List Int) : (cs m).all (·.oneCell') = true := by
  rw [Array.all_eq_true_iff_forall_mem]
  intro x hx
  simp [cs] at hx
  obtain ⟨y, _, rfl⟩ := hx
  rfl

def negDiag (m : List Int) (k : Nat) : Bool := (List.range k).any fun i => decide (m.getD (9 * i + i) 0 < 0)

theorem negDiag_succ (m : List Int) (k : Nat) : negDiag m (k + 1) = (negDiag m k || decide (m.getD (k * 9 + k) 0 < 0)) := by
  unfold negDiag
  rw [List.range_succ, List.any_append, Nat.mul_comm k 9]
  simp
theorem negDiag_true (m : List Int) (k : Nat) (hk : k < 9) (h : m[k * 9 + k]?.getD 0 < 0) : negDiag m 9 = true := by
  unfold negDiag
  rw [List.any_eq_true]
  exact ⟨k, by simp; omega, by rw [Nat.mul_comm 9 k]; simpa using h⟩
theorem far_cell (w : World) (m : List Int) (i : Nat) (h : i < m.length) : (w.alloc (Obj.cells (cs m) 49)).cell? ⟨w.heap.size, i, none⟩ = some (.int .i64 (m.getD i 0)) := by
  rw [World.cell?_alloc_new]
  exact cs_get m i h

set_option maxHeartbeats 400000 in
theorem contradicts_any (m : List Int) (w : World) (hm : m.length = 81) :
    Calls Tryz.prog 69 #[.agg (cs m)] w fun e w' => e = .returned (.bool (negDiag m 9)) ∧ Below w.heap.size w w' := by
  have HM := Lib.hid hm
  clear hm
  go_enter Tryz.func69, Tryz.ntmps69
  go_wp2
  have hcell : ∀ i, i < 81 → (w.alloc (Obj.cells (cs m) 49)).cell? ⟨w.heap.size, i, none⟩ = some (.int .i64 (m.getD i 0)) := fun i hi => far_cell w m i (by rw [HM.out]; exact hi)
  have hbel : Below w.heap.size w (w.alloc (Obj.cells (cs m) 49)) := (Below.refl _ _).alloc (Nat.le_refl _) _
  generalize w.alloc (Obj.cells (cs m) 49) = W at hcell hbel ⊢
  go_loop [4] (fun i => ∃ k : Nat, k ≤ 9 ∧ i = .int .i64 k ∧ negDiag m k = false) (fun i => 9 - (intOf i).toNat)
  case atStart => exact ⟨0, by omega, rfl, rfl⟩
  case round =>
    obtain ⟨k, hk, rfl, hn⟩ := hrel
    have HN := Lib.hid hn
    clear hn
    by_cases hlt : k < 9
    · have hck := hcell (k * 9 + k) (by omega)
      have HS := Lib.hid (negDiag_succ m k)
      clear hcell
      go_wp2
      all_goals first
        | (go_ret; exact ⟨by rw [negDiag_true m k (by omega) (by assumption)]; rfl, hbel⟩)
        | (go_round
           case rel => exact ⟨k + 1, by omega, by go_num, by rw [HS.out, HN.out]; simp; assumption⟩
           case measure => simp [intOf]; omega)
    · go_wp2
      go_ret
      have e : k = 9 := by omega
      subst e
      exact ⟨by rw [HN.out]; rfl, hbel⟩

/-- 81 noughts. -/
def z81 : List Int := List.replicate 81 0
theorem zeroInfo : (Tryz.prog.info? 49).map (fun i => (i.zero, i.size)) = some (some (.agg (cs z81)), 81) := by kernel_rfl
theorem farSize : (Tryz.prog.info? 49).map (·.size) = some 81 := by kernel_rfl

theorem far_load {ops : Array Oper} {rest : List Oper} {o : Oper} {a : Act} {w : World} {Q : Exit → Act → World → Prop} (hgd : o.guard = none) (x : Operand) (ho : o.op = .load 49 x)
    (g : Nat) (hx : a.eval x = .pointer (some ⟨g, 0, none⟩)) (m : List Int) (hF : FarBlk w g m) (hm : m.length = 81)
    (h : wpList Tryz.prog ops Q rest (a.put o.dst (.agg (cs m))) w) : wpList Tryz.prog ops Q (o :: rest) a w :=
  wpList_load_row hgd 49 x ho g hx 49 (cs m) (0, 0) _ hF Tryz.underlying49 rfl (by rw [farSize, cs_size, hm]) h
theorem far_store {ops : Array Oper} {rest : List Oper} {o : Oper} {a : Act} {w : World} {Q : Exit → Act → World → Prop} (hgd : o.guard = none) (x y : Operand) (ho : o.op = .store 49 x y)
    (g : Nat) (hx : a.eval x = .pointer (some ⟨g, 0, none⟩)) (m old : List Int) (hy : a.eval y = .agg (cs m)) (hF : FarBlk w g old) (hm : m.length = 81) (ho' : old.length = 81) (hd : o.dst = none)
    (h : wpList Tryz.prog ops Q rest a (w.setRow g (cs m))) : wpList Tryz.prog ops Q (o :: rest) a w :=
  wpList_store_row hgd 49 x y ho g (cs m) hx hy 49 (cs old) hF (by rw [farSize, cs_size, hm]) (by rw [cs_size, cs_size, hm, ho']) (cs_one m) (by rw [hd]; exact h)
theorem far_result {fn : Func} {p : Tmp} (h : fn.results = #[.cell p 49]) (tmps : Array Value) (w : World) (g : Nat) (m : List Int)
    (hp : tmps.getD p undef = .pointer (some ⟨g, 0, none⟩)) (hF : FarBlk w g m) (hm : m.length = 81) : (results fn tmps).run Tryz.prog w = .ok (.agg (cs m)) w :=
  results_cell_row h tmps w g 49 (cs m) (0, 0) _ hp hF Tryz.underlying49 rfl (by rw [farSize, cs_size, hm])

/-- What unbound has laid behind k numbers. -/
def unbM : Nat → List Int
  | 0 => z81
  | k + 1 => if k / 9 ≠ k % 9 ∧ k / 9 ≠ 8 then (unbM k).set k 9000 else unbM k
theorem unbM_length (k : Nat) : (unbM k).length = 81 := by
  induction k with
  | zero => rfl
  | succ k ih => unfold unbM; split <;> simp [ih]

theorem unbM_succ (k j : Nat) (hj : j < 9) : unbM (9 * k + (j + 1)) = if k ≠ j ∧ k ≠ 8 then (unbM (9 * k + j)).set (k * 9 + j) 9000 else unbM (9 * k + j) := by
  have e1 : (9 * k + j) / 9 = k := by omega
  have e2 : (9 * k + j) % 9 = j := by omega
  show (if (9 * k + j) / 9 ≠ (9 * k + j) % 9 ∧ (9 * k + j) / 9 ≠ 8 then _ else _) = _
  rw [e1, e2, Nat.mul_comm 9 k]
  rfl

def unbFar : List Int := unbM 81
theorem unbFar_length : unbFar.length = 81 := unbM_length 81

set_option maxHeartbeats 400000 in
theorem unbound_any (w : World) :
    Calls Tryz.prog 53 #[] w fun e w' => e = .returned (.agg (cs unbFar)) ∧ Below w.heap.size w w' := by
  have hz := (zero_of_info zeroInfo).1
  go_enter Tryz.func53, Tryz.ntmps53
  go_wp2
  have hB := (Below.refl w.heap.size w).alloc (Nat.le_refl _) (Obj.cells (cs z81) 49)
  have hF := FarBlk.new w z81
  clear hz
  generalize w.alloc (Obj.cells (cs z81) 49) = W at hB hF ⊢
  go_loopw [3] (fun i wr => ∃ k : Nat, k ≤ 9 ∧ i = .int .i64 k ∧ FarBlk wr w.heap.size (unbM (9 * k)) ∧ Below w.heap.size w wr) (fun i _ => 9 - (intOf i).toNat)
  case atStart => exact ⟨0, by omega, rfl, hF, hB⟩
  case round =>
    obtain ⟨k, hk, rfl, hF1, hB1⟩ := hrel
    clear hF hB
    by_cases hlt : k < 9
    · go_wp2
      go_loopw [6] (fun i wx => ∃ j : Nat, j ≤ 9 ∧ i = .int .i64 j ∧ FarBlk wx w.heap.size (unbM (9 * k + j)) ∧ Below w.heap.size w wx) (fun i _ => 9 - (intOf i).toNat)
      case atStart => exact ⟨0, by omega, rfl, hF1, hB1⟩
      case round =>
        obtain ⟨j, hj, rfl, hF2, hB2⟩ := hrel
        clear hF1 hB1
        by_cases hlj : j < 9
        · have hc := hF2.cell (k * 9 + j) (by rw [unbM_length]; omega)
          have hf := hF2.free (k * 9 + j)
          have hlen := unbM_length (9 * k + j)
          have hst : unbM (9 * k + (j + 1)) = if k ≠ j ∧ k ≠ 8 then (unbM (9 * k + j)).set (k * 9 + j) 9000 else unbM (9 * k + j) := unbM_succ k j (by omega)
          have HST := Lib.hid hst
          have HL := Lib.hid hlen
          clear hst hlen
          have e8 : ∀ x : Int, x = 8 → k = 8 → ((k : Int) != 8) = false := fun _ _ h => by simp [h]
          by_cases h1 : k = j
          · have b1 : ((k : Int) != (j : Int)) = false := by simp [h1]
            have H1 := Lib.hid h1
            clear h1 e8
            go_wp2
            go_roundw
            case rel => exact ⟨j + 1, by omega, by go_num, by rw [HST.out, if_neg (by simp [H1.out])]; exact hF2, hB2⟩
            case measure => simp [intOf]; omega
          · have b1 : ((k : Int) != (j : Int)) = true := by simp; omega
            by_cases h2 : k = 8
            · have b2 : ((k : Int) != 8) = false := by simp [h2]
              have H2 := Lib.hid h2
              clear h2 e8
              go_wp2
              go_roundw
              case rel => exact ⟨j + 1, by omega, by go_num, by rw [HST.out, if_neg (by simp [H2.out])]; exact hF2, hB2⟩
              case measure => simp [intOf]; omega
            · have b2 : ((k : Int) != 8) = true := by simp; omega
              clear e8
              go_wp2
              go_roundw
              case rel => exact ⟨j + 1, by omega, by go_num, by rw [HST.out, if_pos ⟨h1, h2⟩]; exact hF2.set _ _, hB2.setCell (Nat.le_refl _) _⟩
              case measure => simp [intOf]; omega
        · go_wp2
          have ej : j = 9 := by omega
          subst ej
          go_roundw
          case rel => exact ⟨k + 1, by omega, by go_num, by rw [show 9 * (k + 1) = 9 * k + 9 by omega]; exact hF2, hB2⟩
          case measure => simp [intOf]; omega
    · have ek : k = 9 := by omega
      subst ek
      obtain ⟨q, hq, HQ, hqe⟩ : ∃ q, FarBlk wr w.heap.size q ∧ Hid (q.length = 81) ∧ Hid (q = unbFar) := ⟨_, hF1, unbM_length 81, rfl⟩
      clear hF1
      go_wp2_with (first
        | (refine far_load rfl (.tmp 0) rfl w.heap.size rfl q hq HQ.out ?_)
        | (refine far_store rfl (.tmp 0) (.tmp 22) rfl w.heap.size rfl q q rfl hq HQ.out HQ.out rfl ?_))
      refine bodyPost_ret (far_result rfl _ _ w.heap.size q rfl (hq.put _) HQ.out) rfl ⟨by rw [hqe.out], ?_⟩
      exact below_setRow hB1 (Nat.le_refl _) _
end Go.Proofs.YtpjfljpkpifhbaaGreatDoor
