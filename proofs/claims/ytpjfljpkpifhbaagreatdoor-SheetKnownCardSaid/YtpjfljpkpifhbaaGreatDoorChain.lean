/- The doubling step of package sheet: what chained computes. -/
import Derived.Test.YtpjfljpkpifhbaaGreatDoorFar
set_option linter.unusedSimpArgs false
set_option linter.unusedVariables false
namespace Go.Proofs.YtpjfljpkpifhbaaGreatDoor
open Go Go.RowKit

/-- One entry of the next matrix. -/
def chStep (m q : List Int) (a v b : Nat) : List Int := q.set (a * 9 + b) (if m[a * 9 + v]?.getD 0 + m[v * 9 + b]?.getD 0 < q[a * 9 + b]?.getD 0 then m[a * 9 + v]?.getD 0 + m[v * 9 + b]?.getD 0 else q[a * 9 + b]?.getD 0)
/-- What chained has laid behind p entries. -/
def chM (m : List Int) : Nat → List Int
  | 0 => m
  | p + 1 => chStep m (chM m p) (p / 81) (p / 9 % 9) (p % 9)
theorem chM_length (m : List Int) (p : Nat) : (chM m p).length = m.length := by
  induction p with
  | zero => rfl
  | succ p ih => unfold chM chStep; simp [ih]
theorem chM_succ (m : List Int) (a v b : Nat) (hv : v < 9) (hb : b < 9) : chM m (81 * a + 9 * v + (b + 1)) = chStep m (chM m (81 * a + 9 * v + b)) a v b := by
  have e1 : (81 * a + 9 * v + b) / 81 = a := by omega
  have e2 : (81 * a + 9 * v + b) / 9 % 9 = v := by omega
  have e3 : (81 * a + 9 * v + b) % 9 = b := by omega
  show chStep m (chM m (81 * a + 9 * v + b)) ((81 * a + 9 * v + b) / 81) ((81 * a + 9 * v + b) / 9 % 9) ((81 * a + 9 * v + b) % 9) = _
  rw [e1, e2, e3]
def chained (m : List Int) : List Int := chM m 729
theorem chained_length (m : List Int) : (chained m).length = m.length := chM_length m 729

/-- All entries are small. -/
def Bd (m : List Int) : Prop := ∀ i : Nat, -1000000 ≤ m[i]?.getD 0 ∧ m[i]?.getD 0 ≤ 1000000

set_option maxHeartbeats 1000000 in
theorem chained_any (m : List Int) (w : World) (hm : m.length = 81) (hbd : Bd m) :
    Calls Tryz.prog 68 #[.agg (cs m)] w fun e w' => e = .returned (.agg (cs (chained m))) ∧ Below w.heap.size w w' := by
  have hz := (zero_of_info zeroInfo).1
  have HM := Lib.hid hm
  have HBD := Lib.hid hbd
  clear hm hbd
  go_enter Tryz.func68, Tryz.ntmps68
  have h1 : FarBlk (((w.alloc (Obj.cells (cs m) 49)).alloc (Obj.cells (cs z81) 49)).alloc (Obj.cells (cs z81) 49)) w.heap.size m := ((FarBlk.new w m).alloc _).alloc _
  have h2 : FarBlk (((w.alloc (Obj.cells (cs m) 49)).alloc (Obj.cells (cs z81) 49)).alloc (Obj.cells (cs z81) 49)) (w.heap.size + 1) z81 := (FarBlk.new' _ _ _ (by simp)).alloc _
  have h3 : FarBlk (((w.alloc (Obj.cells (cs m) 49)).alloc (Obj.cells (cs z81) 49)).alloc (Obj.cells (cs z81) 49)) (w.heap.size + 1 + 1) z81 := FarBlk.new' _ _ _ (by simp)
  have hB : Below w.heap.size w (((w.alloc (Obj.cells (cs m) 49)).alloc (Obj.cells (cs z81) 49)).alloc (Obj.cells (cs z81) 49)) := (((Below.refl _ _).alloc (Nat.le_refl _) _).alloc (by simp) _).alloc (by simp; omega) _
  go_wp2_with (first
    | (refine far_load rfl (.tmp 1) rfl w.heap.size rfl m ((FarBlk.new w m).alloc _) HM.out ?_)
    | (refine far_store rfl (.tmp 3) (.tmp 7) rfl (w.heap.size + 1 + 1) rfl m z81 rfl h3 HM.out rfl rfl ?_))
  clear hz
  have k1 := h1.putOther (b' := w.heap.size + 1 + 1) (by omega) m
  have k2 := h2.putOther (b' := w.heap.size + 1 + 1) (by omega) m
  have k3 := h3.put m
  have kB := below_setRow hB (show w.heap.size ≤ w.heap.size + 1 + 1 by omega) (cs m)
  clear h1 h2 h3 hB
  generalize World.setRow _ (w.heap.size + 1 + 1) (cs m) = W at k1 k2 k3 kB ⊢
  go_loopw [8] (fun i wr => ∃ a : Nat, a ≤ 9 ∧ i = .int .i64 a ∧ FarBlk wr w.heap.size m ∧ FarBlk wr (w.heap.size + 1) z81 ∧ FarBlk wr (w.heap.size + 1 + 1) (chM m (81 * a)) ∧ Below w.heap.size w wr) (fun i _ => 9 - (intOf i).toNat)
  case atStart => exact ⟨0, by omega, rfl, k1, k2, k3, kB⟩
  case round =>
    obtain ⟨a, ha, rfl, m1, m2, m3, mB⟩ := hrel
    clear k1 k2 k3 kB
    by_cases hla : a < 9
    · go_wp2
      go_loopw [11] (fun i wx => ∃ v : Nat, v ≤ 9 ∧ i = .int .i64 v ∧ FarBlk wx w.heap.size m ∧ FarBlk wx (w.heap.size + 1) z81 ∧ FarBlk wx (w.heap.size + 1 + 1) (chM m (81 * a + 9 * v)) ∧ Below w.heap.size w wx) (fun i _ => 9 - (intOf i).toNat)
      case atStart => exact ⟨0, by omega, rfl, m1, m2, m3, mB⟩
      case round =>
        obtain ⟨v, hv, rfl, n1, n2, n3, nB⟩ := hrel
        clear m1 m2 m3 mB
        by_cases hlv : v < 9
        · go_wp2
          go_loopw [14] (fun i wy => ∃ b : Nat, b ≤ 9 ∧ i = .int .i64 b ∧ FarBlk wy w.heap.size m ∧ FarBlk wy (w.heap.size + 1) z81 ∧ FarBlk wy (w.heap.size + 1 + 1) (chM m (81 * a + 9 * v + b)) ∧ Below w.heap.size w wy) (fun i _ => 9 - (intOf i).toNat)
          case atStart => exact ⟨0, by omega, rfl, n1, n2, n3, nB⟩
          case round =>
            obtain ⟨b, hb, rfl, p1, p2, p3, pB⟩ := hrel
            clear n1 n2 n3 nB
            by_cases hlb : b < 9
            · have hst := Lib.hid (chM_succ m a v b hlv hlb)
              have hl : Hid ((chM m (81 * a + 9 * v + b)).length = 81) := (chM_length m _).trans HM.out
              generalize chM m (81 * a + 9 * v + b) = q at p3 hst hl ⊢
              have c1 := p1.cell (a * 9 + v) (by rw [HM.out]; omega)
              have c2 := p1.cell (v * 9 + b) (by rw [HM.out]; omega)
              have c3 := p3.cell (a * 9 + b) (by rw [hl.out]; omega)
              have f3 := p3.free (a * 9 + b)
              have b1 := HBD.out (a * 9 + v)
              have b2 := HBD.out (v * 9 + b)
              go_wp2
              go_region
              go_wp2
              go_roundw
              case rel => exact ⟨b + 1, by omega, by go_num, (p1.other (by omega) _).drew, (p2.other (by omega) _).drew, by rw [hst.out]; exact (p3.set _ _).drew, (pB.setCell (p := ⟨w.heap.size + 1 + 1, a * 9 + b, none⟩) (show w.heap.size ≤ w.heap.size + 1 + 1 by omega) _).drew⟩
              case measure => simp [intOf]; omega
            · go_wp2
              have eb : b = 9 := by omega
              subst eb
              go_roundw
              case rel => exact ⟨v + 1, by omega, by go_num, p1, p2, by rw [show 81 * a + 9 * (v + 1) = 81 * a + 9 * v + 9 by omega]; exact p3, pB⟩
              case measure => simp [intOf]; omega
        · go_wp2
          have ev : v = 9 := by omega
          subst ev
          go_roundw
          case rel => exact ⟨a + 1, by omega, by go_num, n1, n2, by rw [show 81 * (a + 1) = 81 * a + 9 * 9 by omega]; exact n3, nB⟩
          case measure => simp [intOf]; omega
    · have ea : a = 9 := by omega
      subst ea
      obtain ⟨q, hq, HQ, hqe⟩ : ∃ q, FarBlk wr (w.heap.size + 1 + 1) q ∧ Hid (q.length = 81) ∧ Hid (q = chained m) := ⟨_, m3, (chM_length m _).trans HM.out, rfl⟩
      clear m3
      go_wp2_with (first
        | (refine far_load rfl (.tmp 3) rfl (w.heap.size + 1 + 1) rfl q hq HQ.out ?_)
        | (refine far_store rfl (.tmp 2) (.tmp 41) rfl (w.heap.size + 1) rfl q z81 rfl m2 HQ.out rfl rfl ?_))
      refine bodyPost_ret (far_result rfl _ _ (w.heap.size + 1) q rfl (m2.put _) HQ.out) rfl ⟨by rw [hqe.out], ?_⟩
      exact below_setRow mB (by omega) _
end Go.Proofs.YtpjfljpkpifhbaaGreatDoor
