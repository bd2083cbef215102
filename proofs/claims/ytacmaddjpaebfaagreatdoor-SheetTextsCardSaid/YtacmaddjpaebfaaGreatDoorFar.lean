/- The matrices of package sheet: what their functions compute. -/
import Derived.Test.YtacmaddjpaebfaaGreatDoorBase
import Derived.Deep.WholeRow
import Derived.Laws.CopyOwn
import Derived.ChangeKeysEq
set_option linter.unusedSimpArgs false
set_option linter.unusedVariables false
namespace Go.Proofs.YtacmaddjpaebfaaGreatDoor
open Go Go.RowKit

/-- The cells of a matrix of 9 times 9 numbers. -/
def cs (m : List Int) : Array Value := (m.map (Value.int .i64)).toArray
theorem cs_get (m : List Int) (i : Nat) (h : i < m.length) : (cs m)[i]? = some (.int .i64 (m.getD i 0)) := by
  simp [cs, h]
theorem cs_size (m : List Int) : (cs m).size = m.length := by simp [cs]

/-- Block b holds the matrix m, and may be written. -/
def FarBlk (w : World) (b : Nat) (m : List Int) : Prop := w.heap[b]? = some (.cells (cs m) 99 (0, 0))
theorem FarBlk.lt {w : World} {b : Nat} {m : List Int} (h : FarBlk w b m) : b < w.heap.size := lt_of_block h
theorem FarBlk.cell {w : World} {b : Nat} {m : List Int} (h : FarBlk w b m) (i : Nat) (hi : i < m.length) : w.cell? ⟨b, i, none⟩ = some (.int .i64 (m[i]?.getD 0)) := by
  rw [cell_of_row w b i _ _ _ h, cs_get m i hi]
  simp
theorem FarBlk.free {w : World} {b : Nat} {m : List Int} (h : FarBlk w b m) (i : Nat) : w.frozen? ⟨b, i, none⟩ = false := frozen_of_row w b i _ _ h
theorem cs_set (m : List Int) (i : Nat) (x : Int) : (cs m).setIfInBounds i (.int .i64 x) = cs (m.set i x) := by
  apply Array.ext'
  simp [cs, List.map_set]
theorem FarBlk.set {w : World} {b : Nat} {m : List Int} (h : FarBlk w b m) (i : Nat) (x : Int) : FarBlk (w.setCell ⟨b, i, none⟩ (.int .i64 x)) b (m.set i x) := by
  unfold FarBlk
  rw [heap_setCell_same w b i _ _ _ h, cs_set]
theorem FarBlk.other {w : World} {b b' i : Nat} {m : List Int} (h : FarBlk w b m) (hne : b ≠ b') (u : Value) : FarBlk (w.setCell ⟨b', i, none⟩ u) b m := by
  unfold FarBlk
  rw [heap_setCell_other w _ _ _ hne]
  exact h
theorem FarBlk.alloc {w : World} {b : Nat} {m : List Int} (h : FarBlk w b m) (o : Obj) : FarBlk (w.alloc o) b m := by
  unfold FarBlk
  exact (Below.heap_alloc w o b h.lt).trans h
theorem FarBlk.new (w : World) (m : List Int) : FarBlk (w.alloc (.cells (cs m) 99)) w.heap.size m := heap_alloc_new w _
theorem FarBlk.new' (w : World) (m : List Int) (n : Nat) (hn : n = w.heap.size) : FarBlk (w.alloc (.cells (cs m) 99)) n m := hn ▸ heap_alloc_new w _
theorem FarBlk.drew {w : World} {b : Nat} {m : List Int} (h : FarBlk w b m) : FarBlk w.drew b m := h
theorem FarBlk.below {w w' : World} {b n : Nat} {m : List Int} (h : FarBlk w b m) (hb : Below n w w') (hn : b < n) : FarBlk w' b m := (hb.block b hn).trans h
theorem FarBlk.put {w : World} {b : Nat} {m : List Int} (h : FarBlk w b m) (m' : List Int) : FarBlk (w.setRow b (cs m')) b m' := setRow_heap w b _ _ _ _ h
theorem FarBlk.putOther {w : World} {b b' : Nat} {m : List Int} (h : FarBlk w b m) (hne : b ≠ b') (m' : List Int) : FarBlk (w.setRow b' (cs m')) b m := by
  unfold FarBlk
  rw [setRow_other w b' b _ hne]
  exact h
theorem cs_one (m : List Int) : (cs m).all (·.oneCell') = true := by
  rw [Array.all_eq_true_iff_forall_mem]
  intro x hx
  simp [cs] at hx
  obtain ⟨y, _, rfl⟩ := hx
  rfl

def negDiag (m : List Int) (k : Nat) : Bool := (List.range k).any fun i => decide (m.getD (9 * i + i) 0 < 0)

theorem negDiag_succ (m : List Int) (k : Nat) : negDiag m (k + 1) = (negDiag m k || decide (m.getD (k * 9 + k) 0 < 0)) := by
  unfold negDiag
  rw [List.range_succ, List.any_append, Nat.mul_comm k 9]
  simp
theorem negDiag_true (m : List Int) (k : Nat) (hk : k < 9) (h : m[k * 9 + k]?.getD 0 < 0) : negDiag m 9 = true := by
  unfold negDiag
  rw [List.any_eq_true]
  exact ⟨k, by simp; omega, by rw [Nat.mul_comm 9 k]; simpa using h⟩
theorem far_cell (w : World) (m : List Int) (i : Nat) (h : i < m.length) : (w.alloc (Obj.cells (cs m) 99)).cell? ⟨w.heap.size, i, none⟩ = some (.int .i64 (m.getD i 0)) := by
  rw [World.cell?_alloc_new]
  exact cs_get m i h

set_option maxHeartbeats 400000 in
theorem contradicts_any (m : List Int) (w : World) (hm : m.length = 81) :
    Calls Tryz.prog 133 #[.agg (cs m)] w fun e w' => e = .returned (.bool (negDiag m 9)) ∧ Below w.heap.size w w' := by
  have HM := Lib.hid hm
  clear hm
  go_enter Tryz.func133, Tryz.ntmps133
  go_wp2
  have hcell : ∀ i, i < 81 → (w.alloc (Obj.cells (cs m) 99)).cell? ⟨w.heap.size, i, none⟩ = some (.int .i64 (m.getD i 0)) := fun i hi => far_cell w m i (by rw [HM.out]; exact hi)
  have hbel : Below w.heap.size w (w.alloc (Obj.cells (cs m) 99)) := (Below.refl _ _).alloc (Nat.le_refl _) _
  generalize w.alloc (Obj.cells (cs m) 99) = W at hcell hbel ⊢
  go_loop [4] (fun i => ∃ k : Nat, k ≤ 9 ∧ i = .int .i64 k ∧ negDiag m k = false) (fun i => 9 - (intOf i).toNat)
  case atStart => exact ⟨0, by omega, rfl, rfl⟩
  case round =>
    obtain ⟨k, hk, rfl, hn⟩ := hrel
    have HN := Lib.hid hn
    clear hn
    by_cases hlt : k < 9
    · have hck := hcell (k * 9 + k) (by omega)
      have HS := Lib.hid (negDiag_succ m k)
      clear hcell
      go_wp2
      all_goals first
        | (go_ret; exact ⟨by rw [negDiag_true m k (by omega) (by assumption)]; rfl, hbel⟩)
        | (go_round
           case rel => exact ⟨k + 1, by omega, by go_num, by rw [HS.out, HN.out]; simp; assumption⟩
           case measure => simp [intOf]; omega)
    · go_wp2
      go_ret
      have e : k = 9 := by omega
      subst e
      exact ⟨by rw [HN.out]; rfl, hbel⟩

/-- 81 noughts. -/
def z81 : List Int := List.replicate 81 0
theorem zeroInfo : (Tryz.prog.info? 99).map (fun i => (i.zero, i.size)) = some (some (.agg (cs z81)), 81) := by kernel_rfl
theorem farSize : (Tryz.prog.info? 99).map (·.size) = some 81 := by kernel_rfl

theorem far_load {ops : Array Oper} {rest : List Oper} {o : Oper} {a : Act} {w : World} {Q : Exit → Act → World → Prop} (hgd : o.guard = none) (x : Operand) (ho : o.op = .load 99 x)
    (g : Nat) (hx : a.eval x = .pointer (some ⟨g, 0, none⟩)) (m : List Int) (hF : FarBlk w g m) (hm : m.length = 81)
    (h : wpList Tryz.prog ops Q rest (a.put o.dst (.agg (cs m))) w) : wpList Tryz.prog ops Q (o :: rest) a w :=
  wpList_load_row hgd 99 x ho g hx 99 (cs m) (0, 0) _ hF Tryz.underlying99 rfl (by rw [farSize, cs_size, hm]) h
theorem far_store {ops : Array Oper} {rest : List Oper} {o : Oper} {a : Act} {w : World} {Q : Exit → Act → World → Prop} (hgd : o.guard = none) (x y : Operand) (ho : o.op = .store 99 x y)
    (g : Nat) (hx : a.eval x = .pointer (some ⟨g, 0, none⟩)) (m old : List Int) (hy : a.eval y = .agg (cs m)) (hF : FarBlk w g old) (hm : m.length = 81) (ho' : old.length = 81) (hd : o.dst = none)
    (h : wpList Tryz.prog ops Q rest a (w.setRow g (cs m))) : wpList Tryz.prog ops Q (o :: rest) a w :=
  wpList_store_row hgd 99 x y ho g (cs m) hx hy 99 (cs old) hF (by rw [farSize, cs_size, hm]) (by rw [cs_size, cs_size, hm, ho']) (cs_one m) (by rw [hd]; exact h)
theorem far_result {fn : Func} {p : Tmp} (h : fn.results = #[.cell p 99]) (tmps : Array Value) (w : World) (g : Nat) (m : List Int)
    (hp : tmps.getD p undef = .pointer (some ⟨g, 0, none⟩)) (hF : FarBlk w g m) (hm : m.length = 81) : (results fn tmps).run Tryz.prog w = .ok (.agg (cs m)) w :=
  results_cell_row h tmps w g 99 (cs m) (0, 0) _ hp hF Tryz.underlying99 rfl (by rw [farSize, cs_size, hm])

/-- What unbound has laid behind k numbers. -/
def unbM : Nat → List Int
  | 0 => z81
  | k + 1 => if k / 9 ≠ k % 9 ∧ k / 9 ≠ 8 then (unbM k).set k 9000 else unbM k
theorem unbM_length (k : Nat) : (unbM k).length = 81 := by
  induction k with
  | zero => rfl
  | succ k ih => unfold unbM; split <;> simp [ih]

theorem unbM_succ (k j : Nat) (hj : j < 9) : unbM (9 * k + (j + 1)) = if k ≠ j ∧ k ≠ 8 then (unbM (9 * k + j)).set (k * 9 + j) 9000 else unbM (9 * k + j) := by
  have e1 : (9 * k + j) / 9 = k := by omega
  have e2 : (9 * k + j) % 9 = j := by omega
  show (if (9 * k + j) / 9 ≠ (9 * k + j) % 9 ∧ (9 * k + j) / 9 ≠ 8 then _ else _) = _
  rw [e1, e2, Nat.mul_comm 9 k]
  rfl

def unbFar : List Int := unbM 81
theorem unbFar_length : unbFar.length = 81 := unbM_length 81

set_option maxHeartbeats 400000 in
theorem unbound_any (w : World) :
    Calls Tryz.prog 116 #[] w fun e w' => e = .returned (.agg (cs unbFar)) ∧ Below w.heap.size w w' := by
  have hz := (zero_of_info zeroInfo).1
  go_enter Tryz.func116, Tryz.ntmps116
  go_wp2
  have hB := (Below.refl w.heap.size w).alloc (Nat.le_refl _) (Obj.cells (cs z81) 99)
  have hF := FarBlk.new w z81
  clear hz
  generalize w.alloc (Obj.cells (cs z81) 99) = W at hB hF ⊢
  go_loopw [3] (fun i wr => ∃ k : Nat, k ≤ 9 ∧ i = .int .i64 k ∧ FarBlk wr w.heap.size (unbM (9 * k)) ∧ Below w.heap.size w wr) (fun i _ => 9 - (intOf i).toNat)
  case atStart => exact ⟨0, by omega, rfl, hF, hB⟩
  case round =>
    obtain ⟨k, hk, rfl, hF1, hB1⟩ := hrel
    clear hF hB
    by_cases hlt : k < 9
    · go_wp2
      go_loopw [6] (fun i wx => ∃ j : Nat, j ≤ 9 ∧ i = .int .i64 j ∧ FarBlk wx w.heap.size (unbM (9 * k + j)) ∧ Below w.heap.size w wx) (fun i _ => 9 - (intOf i).toNat)
      case atStart => exact ⟨0, by omega, rfl, hF1, hB1⟩
      case round =>
        obtain ⟨j, hj, rfl, hF2, hB2⟩ := hrel
        clear hF1 hB1
        by_cases hlj : j < 9
        · have hc := hF2.cell (k * 9 + j) (by rw [unbM_length]; omega)
          have hf := hF2.free (k * 9 + j)
          have hlen := unbM_length (9 * k + j)
          have hst : unbM (9 * k + (j + 1)) = if k ≠ j ∧ k ≠ 8 then (unbM (9 * k + j)).set (k * 9 + j) 9000 else unbM (9 * k + j) := unbM_succ k j (by omega)
          have HST := Lib.hid hst
          have HL := Lib.hid hlen
          clear hst hlen
          have e8 : ∀ x : Int, x = 8 → k = 8 → ((k : Int) != 8) = false := fun _ _ h => by simp [h]
          by_cases h1 : k = j
          · have b1 : ((k : Int) != (j : Int)) = false := by simp [h1]
            have H1 := Lib.hid h1
            clear h1 e8
            go_wp2
            go_roundw
            case rel => exact ⟨j + 1, by omega, by go_num, by rw [HST.out, if_neg (by simp [H1.out])]; exact hF2, hB2⟩
            case measure => simp [intOf]; omega
          · have b1 : ((k : Int) != (j : Int)) = true := by simp; omega
            by_cases h2 : k = 8
            · have b2 : ((k : Int) != 8) = false := by simp [h2]
              have H2 := Lib.hid h2
              clear h2 e8
              go_wp2
              go_roundw
              case rel => exact ⟨j + 1, by omega, by go_num, by rw [HST.out, if_neg (by simp [H2.out])]; exact hF2, hB2⟩
              case measure => simp [intOf]; omega
            · have b2 : ((k : Int) != 8) = true := by simp; omega
              clear e8
              go_wp2
              go_roundw
              case rel => exact ⟨j + 1, by omega, by go_num, by rw [HST.out, if_pos ⟨h1, h2⟩]; exact hF2.set _ _, hB2.setCell (Nat.le_refl _) _⟩
              case measure => simp [intOf]; omega
        · go_wp2
          have ej : j = 9 := by omega
          subst ej
          go_roundw
          case rel => exact ⟨k + 1, by omega, by go_num, by rw [show 9 * (k + 1) = 9 * k + 9 by omega]; exact hF2, hB2⟩
          case measure => simp [intOf]; omega
    · have ek : k = 9 := by omega
      subst ek
      obtain ⟨q, hq, HQ, hqe⟩ : ∃ q, FarBlk wr w.heap.size q ∧ Hid (q.length = 81) ∧ Hid (q = unbFar) := ⟨_, hF1, unbM_length 81, rfl⟩
      clear hF1
      go_wp2_with (first
        | (refine far_load rfl (.tmp 0) rfl w.heap.size rfl q hq HQ.out ?_)
        | (refine far_store rfl (.tmp 0) (.tmp 22) rfl w.heap.size rfl q q rfl hq HQ.out HQ.out rfl ?_))
      refine bodyPost_ret (far_result rfl _ _ w.heap.size q rfl (hq.put _) HQ.out) rfl ⟨by rw [hqe.out], ?_⟩
      exact below_setRow hB1 (Nat.le_refl _) _
end Go.Proofs.YtacmaddjpaebfaaGreatDoor
/- The doubling step of package sheet: what chained computes. -/
namespace Go.Proofs.YtacmaddjpaebfaaGreatDoor
open Go Go.RowKit

/-- One entry of the next matrix. -/
def chStep (m q : List Int) (a v b : Nat) : List Int := q.set (a * 9 + b) (if m[a * 9 + v]?.getD 0 + m[v * 9 + b]?.getD 0 < q[a * 9 + b]?.getD 0 then m[a * 9 + v]?.getD 0 + m[v * 9 + b]?.getD 0 else q[a * 9 + b]?.getD 0)
/-- What chained has laid behind p entries. -/
def chM (m : List Int) : Nat → List Int
  | 0 => m
  | p + 1 => chStep m (chM m p) (p / 81) (p / 9 % 9) (p % 9)
theorem chM_length (m : List Int) (p : Nat) : (chM m p).length = m.length := by
  induction p with
  | zero => rfl
  | succ p ih => unfold chM chStep; simp [ih]
theorem chM_succ (m : List Int) (a v b : Nat) (hv : v < 9) (hb : b < 9) : chM m (81 * a + 9 * v + (b + 1)) = chStep m (chM m (81 * a + 9 * v + b)) a v b := by
  have e1 : (81 * a + 9 * v + b) / 81 = a := by omega
  have e2 : (81 * a + 9 * v + b) / 9 % 9 = v := by omega
  have e3 : (81 * a + 9 * v + b) % 9 = b := by omega
  show chStep m (chM m (81 * a + 9 * v + b)) ((81 * a + 9 * v + b) / 81) ((81 * a + 9 * v + b) / 9 % 9) ((81 * a + 9 * v + b) % 9) = _
  rw [e1, e2, e3]
def chained (m : List Int) : List Int := chM m 729
theorem chained_length (m : List Int) : (chained m).length = m.length := chM_length m 729

/-- All entries are small. -/
def Bd (m : List Int) : Prop := ∀ i : Nat, -1000000 ≤ m[i]?.getD 0 ∧ m[i]?.getD 0 ≤ 1000000

set_option maxHeartbeats 1000000 in
theorem chained_any (m : List Int) (w : World) (hm : m.length = 81) (hbd : Bd m) :
    Calls Tryz.prog 132 #[.agg (cs m)] w fun e w' => e = .returned (.agg (cs (chained m))) ∧ Below w.heap.size w w' := by
  have hz := (zero_of_info zeroInfo).1
  have HM := Lib.hid hm
  have HBD := Lib.hid hbd
  clear hm hbd
  go_enter Tryz.func132, Tryz.ntmps132
  have h1 : FarBlk (((w.alloc (Obj.cells (cs m) 99)).alloc (Obj.cells (cs z81) 99)).alloc (Obj.cells (cs z81) 99)) w.heap.size m := ((FarBlk.new w m).alloc _).alloc _
  have h2 : FarBlk (((w.alloc (Obj.cells (cs m) 99)).alloc (Obj.cells (cs z81) 99)).alloc (Obj.cells (cs z81) 99)) (w.heap.size + 1) z81 := (FarBlk.new' _ _ _ (by simp)).alloc _
  have h3 : FarBlk (((w.alloc (Obj.cells (cs m) 99)).alloc (Obj.cells (cs z81) 99)).alloc (Obj.cells (cs z81) 99)) (w.heap.size + 1 + 1) z81 := FarBlk.new' _ _ _ (by simp)
  have hB : Below w.heap.size w (((w.alloc (Obj.cells (cs m) 99)).alloc (Obj.cells (cs z81) 99)).alloc (Obj.cells (cs z81) 99)) := (((Below.refl _ _).alloc (Nat.le_refl _) _).alloc (by simp) _).alloc (by simp; omega) _
  go_wp2_with (first
    | (refine far_load rfl (.tmp 1) rfl w.heap.size rfl m ((FarBlk.new w m).alloc _) HM.out ?_)
    | (refine far_store rfl (.tmp 3) (.tmp 7) rfl (w.heap.size + 1 + 1) rfl m z81 rfl h3 HM.out rfl rfl ?_))
  clear hz
  have k1 := h1.putOther (b' := w.heap.size + 1 + 1) (by omega) m
  have k2 := h2.putOther (b' := w.heap.size + 1 + 1) (by omega) m
  have k3 := h3.put m
  have kB := below_setRow hB (show w.heap.size ≤ w.heap.size + 1 + 1 by omega) (cs m)
  clear h1 h2 h3 hB
  generalize World.setRow _ (w.heap.size + 1 + 1) (cs m) = W at k1 k2 k3 kB ⊢
  go_loopw [8] (fun i wr => ∃ a : Nat, a ≤ 9 ∧ i = .int .i64 a ∧ FarBlk wr w.heap.size m ∧ FarBlk wr (w.heap.size + 1) z81 ∧ FarBlk wr (w.heap.size + 1 + 1) (chM m (81 * a)) ∧ Below w.heap.size w wr) (fun i _ => 9 - (intOf i).toNat)
  case atStart => exact ⟨0, by omega, rfl, k1, k2, k3, kB⟩
  case round =>
    obtain ⟨a, ha, rfl, m1, m2, m3, mB⟩ := hrel
    clear k1 k2 k3 kB
    by_cases hla : a < 9
    · go_wp2
      go_loopw [11] (fun i wx => ∃ v : Nat, v ≤ 9 ∧ i = .int .i64 v ∧ FarBlk wx w.heap.size m ∧ FarBlk wx (w.heap.size + 1) z81 ∧ FarBlk wx (w.heap.size + 1 + 1) (chM m (81 * a + 9 * v)) ∧ Below w.heap.size w wx) (fun i _ => 9 - (intOf i).toNat)
      case atStart => exact ⟨0, by omega, rfl, m1, m2, m3, mB⟩
      case round =>
        obtain ⟨v, hv, rfl, n1, n2, n3, nB⟩ := hrel
        clear m1 m2 m3 mB
        by_cases hlv : v < 9
        · go_wp2
          go_loopw [14] (fun i wy => ∃ b : Nat, b ≤ 9 ∧ i = .int .i64 b ∧ FarBlk wy w.heap.size m ∧ FarBlk wy (w.heap.size + 1) z81 ∧ FarBlk wy (w.heap.size + 1 + 1) (chM m (81 * a + 9 * v + b)) ∧ Below w.heap.size w wy) (fun i _ => 9 - (intOf i).toNat)
          case atStart => exact ⟨0, by omega, rfl, n1, n2, n3, nB⟩
          case round =>
            obtain ⟨b, hb, rfl, p1, p2, p3, pB⟩ := hrel
            clear n1 n2 n3 nB
            by_cases hlb : b < 9
            · have hst := Lib.hid (chM_succ m a v b hlv hlb)
              have hl : Hid ((chM m (81 * a + 9 * v + b)).length = 81) := (chM_length m _).trans HM.out
              generalize chM m (81 * a + 9 * v + b) = q at p3 hst hl ⊢
              have c1 := p1.cell (a * 9 + v) (by rw [HM.out]; omega)
              have c2 := p1.cell (v * 9 + b) (by rw [HM.out]; omega)
              have c3 := p3.cell (a * 9 + b) (by rw [hl.out]; omega)
              have f3 := p3.free (a * 9 + b)
              have b1 := HBD.out (a * 9 + v)
              have b2 := HBD.out (v * 9 + b)
              go_wp2
              go_region
              go_wp2
              go_roundw
              case rel => exact ⟨b + 1, by omega, by go_num, (p1.other (by omega) _).drew, (p2.other (by omega) _).drew, by rw [hst.out]; exact (p3.set _ _).drew, (pB.setCell (p := ⟨w.heap.size + 1 + 1, a * 9 + b, none⟩) (show w.heap.size ≤ w.heap.size + 1 + 1 by omega) _).drew⟩
              case measure => simp [intOf]; omega
            · go_wp2
              have eb : b = 9 := by omega
              subst eb
              go_roundw
              case rel => exact ⟨v + 1, by omega, by go_num, p1, p2, by rw [show 81 * a + 9 * (v + 1) = 81 * a + 9 * v + 9 by omega]; exact p3, pB⟩
              case measure => simp [intOf]; omega
        · go_wp2
          have ev : v = 9 := by omega
          subst ev
          go_roundw
          case rel => exact ⟨a + 1, by omega, by go_num, n1, n2, by rw [show 81 * (a + 1) = 81 * a + 9 * 9 by omega]; exact n3, nB⟩
          case measure => simp [intOf]; omega
    · have ea : a = 9 := by omega
      subst ea
      obtain ⟨q, hq, HQ, hqe⟩ : ∃ q, FarBlk wr (w.heap.size + 1 + 1) q ∧ Hid (q.length = 81) ∧ Hid (q = chained m) := ⟨_, m3, (chM_length m _).trans HM.out, rfl⟩
      clear m3
      go_wp2_with (first
        | (refine far_load rfl (.tmp 3) rfl (w.heap.size + 1 + 1) rfl q hq HQ.out ?_)
        | (refine far_store rfl (.tmp 2) (.tmp 41) rfl (w.heap.size + 1) rfl q z81 rfl m2 HQ.out rfl rfl ?_))
      refine bodyPost_ret (far_result rfl _ _ (w.heap.size + 1) q rfl (m2.put _) HQ.out) rfl ⟨by rw [hqe.out], ?_⟩
      exact below_setRow mB (by omega) _
end Go.Proofs.YtacmaddjpaebfaaGreatDoor
/- The comparison of two matrices of package sheet. -/
namespace Go.Proofs.YtacmaddjpaebfaaGreatDoor
open Go Go.RowKit

theorem eqItems_int (d : Nat) (p q : List Int) (w : World) : ∀ is : List Nat, (∀ i, i ∈ is → i < p.length ∧ i < q.length) →
    (Op.eqItems (d + 1) 3 1 (cs p) (cs q) is).run Tryz.prog w = .ok (is.all fun i => p[i]?.getD 0 == q[i]?.getD 0) w
  | [], _ => by simp [Op.eqItems]
  | i :: is, h => by
    obtain ⟨h1, h2⟩ := h i (by simp)
    have ih := eqItems_int d p q w is (fun j hj => h j (by simp [hj]))
    have pk : Tryz.prog.plainKey 3 = true := by kernel_rfl
    have e1 := run_part_plain (w := w) pk (off := i * 1) (by rw [Nat.mul_one]; exact cs_get p i h1)
    have e2 := run_part_plain (w := w) pk (off := i * 1) (by rw [Nat.mul_one]; exact cs_get q i h2)
    have e3 := run_equalIn_int (P := Tryz.prog) (w := w) d 3 .i64 .i64 (p.getD i 0) (q.getD i 0) Tryz.underlying3
    simp only [Op.eqItems, Sem.run_bind, e1, e2, e3, Result.andThen_ok]
    cases hb : (p.getD i 0 == q.getD i 0)
    · simp at hb
      simp [hb]
    · simp at hb
      simp [ih, hb]

theorem cs_extract (p : List Int) (a b : Nat) : (cs p).extract a (a + b) = cs ((p.drop a).take b) := by
  apply Array.ext'
  simp [cs, List.map_take, List.map_drop, List.extract]

theorem part_row (p : List Int) (i : Nat) (w : World) : (part 97 (cs p) (i * 9)).run Tryz.prog w = .ok (.agg (cs ((p.drop (i * 9)).take 9))) w := by
  obtain ⟨inf, hi⟩ := info_of_underlying Tryz.underlying97
  have hc : Tryz.prog.cellsOf 97 = 9 := by kernel_rfl
  have := run_sizeOf (w := w) hi
  rw [hc] at this
  simp [part, isAgg, run_underlying Tryz.underlying97, this, cs_extract]

theorem eqItems_row (d : Nat) (p q : List Int) (w : World) (hp : p.length = 81) (hq : q.length = 81) : ∀ is : List Nat, (∀ i, i ∈ is → i < 9) →
    (Op.eqItems (d + 2) 97 9 (cs p) (cs q) is).run Tryz.prog w = .ok (is.all fun i => decide ((p.drop (i * 9)).take 9 = (q.drop (i * 9)).take 9)) w
  | [], _ => by simp [Op.eqItems]
  | i :: is, h => by
    have hi9 := h i (by simp)
    have ih := eqItems_row d p q w hp hq is (fun j hj => h j (by simp [hj]))
    obtain ⟨inf, hinf⟩ := info_of_underlying Tryz.underlying3
    have l1 : ((p.drop (i * 9)).take 9).length = 9 := by simp; omega
    have l2 : ((q.drop (i * 9)).take 9).length = 9 := by simp; omega
    have hc : Tryz.prog.cellsOf 3 = 1 := by kernel_rfl
    have e3 : (Op.equalIn (d + 2) 97 (.agg (cs ((p.drop (i * 9)).take 9))) (.agg (cs ((q.drop (i * 9)).take 9)))).run Tryz.prog w = .ok (decide ((p.drop (i * 9)).take 9 = (q.drop (i * 9)).take 9)) w := by
      rw [run_equalIn_array (w := w) (d + 1) _ _ Tryz.underlying97 hinf, hc, eqItems_int d _ _ w (List.range 9) (by intro j hj; simp at hj; omega)]
      refine congrArg (fun b => Result.ok b w) ?_
      generalize (p.drop (i * 9)).take 9 = x at l1
      generalize (q.drop (i * 9)).take 9 = y at l2
      rw [Bool.eq_iff_iff, List.all_eq_true, decide_eq_true_iff]
      constructor
      · intro hall
        apply List.ext_getElem (by omega)
        intro n h1 h2
        have := hall n (by simp; omega)
        simpa [h1, h2] using this
      · intro e
        simp [e]
    simp only [Op.eqItems, Sem.run_bind, part_row, e3, Result.andThen_ok]
    cases hb : decide ((p.drop (i * 9)).take 9 = (q.drop (i * 9)).take 9)
    · simp at hb
      simp [hb]
    · simp at hb
      simp [ih, hb]

theorem eq_of_chunks (p q : List Int) (hp : p.length = 81) (hq : q.length = 81) (h : ∀ i, i < 9 → (p.drop (i * 9)).take 9 = (q.drop (i * 9)).take 9) : p = q := by
  apply List.ext_getElem (by omega)
  intro n h1 h2
  have hn := h (n / 9) (by omega)
  have := congrArg (fun l : List Int => l[n % 9]?) hn
  simp only [List.getElem?_take, List.getElem?_drop] at this
  have e : n / 9 * 9 + n % 9 = n := by omega
  rw [if_pos (by omega), if_pos (by omega), e] at this
  simpa [h1, h2] using this

theorem far_eql (p q : List Int) (hp : p.length = 81) (hq : q.length = 81) (w : World) :
    (Op.equalIn 10000 99 (.agg (cs p)) (.agg (cs q))).run Tryz.prog w = .ok (decide (p = q)) w := by
  obtain ⟨inf, hinf⟩ := info_of_underlying Tryz.underlying97
  have hc : Tryz.prog.cellsOf 97 = 9 := by kernel_rfl
  rw [run_equalIn_array (w := w) 9999 _ _ Tryz.underlying99 hinf, hc, eqItems_row 9997 p q w hp hq (List.range 9) (by intro j hj; simpa using hj)]
  refine congrArg (fun b => Result.ok b w) ?_
  rw [Bool.eq_iff_iff, List.all_eq_true, decide_eq_true_iff]
  constructor
  · intro h
    exact eq_of_chunks p q hp hq (fun i hi => by simpa using h i (by simpa using hi))
  · intro e
    simp [e]
end Go.Proofs.YtacmaddjpaebfaaGreatDoor
