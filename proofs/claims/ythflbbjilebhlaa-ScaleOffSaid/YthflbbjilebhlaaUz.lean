/- Package scale: the points that tell two models apart. -/
import Derived.Test.YthflbbjilebhlaaUx
import Derived.BigQuiet
set_option linter.unusedSimpArgs false
set_option linter.unusedVariables false
namespace Go.Proofs.Ythflbbjilebhlaa
open Go Go.RowKit Go.Shelf Sc

/-- The first so many points whose cuts differ. -/
def apTo (x y : List Int) (k : Nat) : List Int := ((List.range k).filter fun i => x.getD i 0 != y.getD i 0).map Int.ofNat
theorem apTo_yes {x y : List Int} {k : Nat} (h : (x.getD k 0 != y.getD k 0) = true) : apTo x y (k + 1) = apTo x y k ++ [(k : Int)] := by
  unfold apTo
  rw [List.range_succ, List.filter_append, List.map_append, List.filter_cons_of_pos (p := fun i => x.getD i 0 != y.getD i 0) (by exact h)]
  rfl
theorem apTo_no {x y : List Int} {k : Nat} (h : (x.getD k 0 != y.getD k 0) = false) : apTo x y (k + 1) = apTo x y k := by
  unfold apTo
  rw [List.range_succ, List.filter_append, List.map_append, List.filter_cons_of_neg (p := fun i => x.getD i 0 != y.getD i 0) (by simp only [h]; simp)]
  exact List.append_nil _
theorem apTo_len (x y : List Int) (k : Nat) : (apTo x y k).length ≤ k := by
  unfold apTo
  rw [List.length_map]
  exact Nat.le_trans (List.length_filter_le _ _) (by simp)
set_option maxRecDepth 100000 in
set_option maxHeartbeats 8000000 in
theorem apart_any (p p' : List Value) (cs cs' : List Int) (a : Option Addr) (n cap : Nat) (w : World) (hn : n ≤ 8) (hp : p.length = 9) (hp' : p'.length = 9) (hcs : cs.length = 8) (hcs' : cs'.length = 8) (h3 : p[3]? = some (.slice a n cap)) :
    Calls Try.prog 65 #[.agg (mdC p cs), .agg (mdC p' cs')] w fun e w' => ∃ v, e = .returned v ∧ IntsAt w' v (apTo cs cs' n) ∧ Below w.heap.size w w' := by
  obtain ⟨W, hW, q1, q2, hb, hsz⟩ := al2 w (Obj.cells (mdC p cs) 99) (Obj.cells (mdC p' cs') 99)
  have M1 : MdBlk W w.heap.size p cs := q1
  have M2 : MdBlk W (w.heap.size + 1) p' cs' := q2
  have HM1 := Lib.hid M1
  have HM2 := Lib.hid M2
  have HW := Lib.hid hW
  have HB := Lib.hid hb
  have HP := Lib.hid hp
  have HP' := Lib.hid hp'
  have HCS := Lib.hid hcs
  have HCS' := Lib.hid hcs'
  have c3 := M1.cp 3 _ h3
  have ml := M1.lt
  have nI : (n : Int) ≤ 8 := by omega
  clear hW q1 q2 hb hsz M1 M2 hp hp' hcs hcs' h3
  go_enter Try.func65, Try.ntmps65
  go_upto_region 1 with fail
  rw [HW.out]
  go_wp2_with fail
  clear c3 ml
  go_loopg [4, 5, 11] n (fun g v4 _ v wr => ∃ (k q : Nat) (a4 : Option Addr) (c4 : Nat), g + k = n ∧ v = .int .i64 k ∧ v4 = .slice a4 q c4 ∧ Hid ((apTo cs cs' k).length = q) ∧ Hid (wr.ownsRow W.heap.size 3 1 (.slice a4 q c4) q ((apTo cs cs' k).map (Value.int .i64))) ∧ Hid (Below W.heap.size W wr))
  case atStart => exact ⟨0, 0, none, 0, by omega, rfl, rfl, rfl, World.ownsRow_nil .., Below.refl _ _⟩
  case round =>
    obtain ⟨k, q, a4, c4, hk, rfl, rfl, HQ, HO, HL⟩ := hrel
    by_cases hkn : k < n
    · have kI : (k : Int) < (n : Int) := by omega
      have k8 : (k : Int) < 8 := by omega
      have kz : (0 : Int) ≤ (k : Int) := by omega
      have N1 := HM1.out.below HL.out HM1.out.lt
      have N2 := HM2.out.below HL.out HM2.out.lt
      have d0 := N1.cw HP.out k (by rw [HCS.out]; omega)
      have d1 := N2.cw HP'.out k (by rw [HCS'.out]; omega)
      obtain ⟨B, hB⟩ : ∃ B, (cs.getD k 0 != cs'.getD k 0) = B := ⟨_, rfl⟩
      have HBB := Lib.hid hB
      obtain ⟨x, hx⟩ : ∃ x, cs.getD k 0 = x := ⟨_, rfl⟩
      obtain ⟨y, hy⟩ : ∃ y, cs'.getD k 0 = y := ⟨_, rfl⟩
      rw [hx] at d0 hB
      rw [hy] at d1 hB
      have ml1 := N1.lt
      have ml2 := N2.lt
      have hq8 : q ≤ k := by rw [← HQ.out]; exact apTo_len _ _ _
      clear N1 N2 hx hy
      go_upto_region 4 with fail
      go_quiet (fail)
      have hb5 : Below wr.heap.size wr (wr.drewN nq) := below_dn (Below.refl _ _) _
      have L5 := Lib.hid (HL.out.trans (hb5.mono HL.out.size))
      have O5 := Lib.hid (own_below HO.out hb5)
      clear hb5
      generalize wr.drewN nq = w5 at *
      clear d0 d1 ml1 ml2 HO HL
      cases B
      · have hno := apTo_no HBB.out
        have O6 : Hid (w5.ownsRow W.heap.size 3 1 (.slice a4 q c4) q ((apTo cs cs' (k + 1)).map (Value.int .i64))) := by show World.ownsRow ..; rw [hno]; exact O5.out
        have Q6 : Hid ((apTo cs cs' (k + 1)).length = q) := by show _ = _; rw [hno]; exact HQ.out
        clear hno
        go_wp2_with fail
        go_roundg (gk - 1)
        case measure => omega
        case rel => exact ⟨k + 1, q, a4, c4, by omega, by go_num, rfl, Q6, O6, L5⟩
      · have HY := Lib.hid (apTo_yes HBB.out)
        have hba5 : Below w5.heap.size w5 (w5.alloc (Obj.cells #[.int .i64 (k : Int)] 3)) := by go_grown
        have HBA5 := Lib.hid hba5
        have hs6 : W.heap.size ≤ (w5.alloc (Obj.cells #[.int .i64 (k : Int)] 3)).heap.size := by have := L5.out.size; have := hba5.size; omega
        clear hba5
        go_wp2_with (at_builtin; refine wpl_app1 rfl _ _ rfl W.heap.size q _ _ w5.heap.size (k : Int) rfl rfl (own_below O5.out HBA5.out) (cellOf (heap_alloc_new w5 (Obj.cells #[.int .i64 (k : Int)] 3)) 0 _ rfl) (by omega) hs6 ?_)
        intro v' w6 hown6 hg6 _
        have L6 : Hid (Below W.heap.size W w6) := (L5.out.trans (HBA5.out.mono L5.out.size)).grown hg6 hs6 (fun g hg => (O5.out.lt g hg).1)
        obtain ⟨va, vc, rfl⟩ := own_slice hown6
        have O6 : Hid (w6.ownsRow W.heap.size 3 1 (.slice va (q + 1) vc) (q + 1) ((apTo cs cs' (k + 1)).map (Value.int .i64))) := by
          show World.ownsRow ..
          rw [HY.out, List.map_append]
          exact hown6
        have Q6 : Hid ((apTo cs cs' (k + 1)).length = q + 1) := by show _ = _; rw [HY.out, List.length_append, HQ.out]; rfl
        clear hown6 hg6
        go_wp2_with fail
        go_roundg (gk - 1)
        case measure => omega
        case rel => exact ⟨k + 1, q + 1, va, vc, by omega, by go_num, rfl, Q6, O6, L6⟩
    · obtain rfl : k = n := by omega
      have kI : ¬ (k : Int) < (k : Int) := by omega
      have HI : Hid (IntsAt wr (.slice a4 q c4) (apTo cs cs' k)) := by
        have hq8 : q ≤ k := by rw [← HQ.out]; exact apTo_len _ _ _
        refine intsAt_own (base := W.heap.size) ?_ ?_
        · rw [HQ.out]; exact HO.out
        · rw [HQ.out]; omega
      clear hkn hk HO
      go_wp2_with fail
      go_ret
      exact ⟨_, rfl, HI.out, HB.out.trans (HL.out.mono HB.out.size)⟩
end Go.Proofs.Ythflbbjilebhlaa
