/- between, canTop, tight and orderOf of package sheet: what they compute. -/
import Derived.Test.YtacmaddjpaebfaaGreatDoorFar
import Derived.Deep.LoopGhost
set_option linter.unusedSimpArgs false
set_option linter.unusedVariables false
namespace Go.Proofs.YtacmaddjpaebfaaGreatDoor
open Go Go.RowKit

/-- The value of a span. -/
abbrev spanV (lo hi : Int) : Value := .agg #[.int .i64 lo, .int .i64 hi]

set_option maxHeartbeats 400000 in
theorem between_any (m : List Int) (a b : Nat) (w : World) (hm : m.length = 81) (ha : a < 9) (hb : b < 9) (hbd : Bd m) :
    Calls Tryz.prog 70 #[.agg (cs m), .int .i64 a, .int .i64 b] w fun e w' => e = .returned (spanV (-(m[b * 9 + a]?.getD 0)) (m[a * 9 + b]?.getD 0)) ∧ Below w.heap.size w w' := by
  have c1 : (cs m)[b * 9 + a]? = some (.int .i64 (m[b * 9 + a]?.getD 0)) := by rw [cs_get m _ (by rw [hm]; omega)]; simp
  have c2 : (cs m)[a * 9 + b]? = some (.int .i64 (m[a * 9 + b]?.getD 0)) := by rw [cs_get m _ (by rw [hm]; omega)]; simp
  have b1 := hbd (b * 9 + a)
  have a9 : (a : Int) < 9 := by omega
  have b9 : (b : Int) < 9 := by omega
  have HB := Lib.hid hbd
  have HM := Lib.hid hm
  clear hbd hm
  go_enter Tryz.func70, Tryz.ntmps70
  go_wp2
  go_region
  all_goals go_wp2
  all_goals refine bodyPost_ret (v := spanV (-(m[b * 9 + a]?.getD 0)) (m[a * 9 + b]?.getD 0)) (by simp [results, Tryz.results70, go_sem]) rfl ⟨rfl, ?_⟩
  all_goals repeat (first | exact Below.refl _ _ | refine Below.drew ?_ | refine Below.alloc ?_ (by simp) _ | refine Below.setCell ?_ (by simp) _)

def topB (m : List Int) (a k : Nat) : Bool := (List.range k).all fun b => decide (0 ≤ m[a * 9 + b]?.getD 0)
theorem topB_succ (m : List Int) (a k : Nat) : topB m a (k + 1) = (topB m a k && decide (0 ≤ m[a * 9 + k]?.getD 0)) := by
  unfold topB
  rw [List.range_succ, List.all_append]
  simp
theorem topB_false (m : List Int) (a k n : Nat) (hk : k < n) (h : m[a * 9 + k]?.getD 0 < 0) : topB m a n = false := by
  unfold topB
  rw [List.all_eq_false]
  exact ⟨k, by simpa using hk, by simp; omega⟩

set_option maxHeartbeats 400000 in
theorem canTop_any (m : List Int) (a n : Nat) (w : World) (hm : m.length = 81) (ha : a < 9) (hn : n ≤ 9) :
    Calls Tryz.prog 73 #[.agg (cs m), .int .i64 a, .int .i64 n] w fun e w' => e = .returned (.bool (topB m a n)) ∧ Below w.heap.size w w' := by
  have HM := Lib.hid hm
  clear hm
  go_enter Tryz.func73, Tryz.ntmps73
  go_wp2
  have hF := FarBlk.new w m
  have hB := (Below.refl w.heap.size w).alloc (Nat.le_refl _) (Obj.cells (cs m) 99)
  generalize w.alloc (Obj.cells (cs m) 99) = W at hF hB ⊢
  go_loop [9] (fun i => ∃ k : Nat, k ≤ n ∧ i = .int .i64 k ∧ Hid (topB m a k = true)) (fun i => n - (intOf i).toNat)
  case atStart => exact ⟨0, Nat.zero_le _, rfl, rfl⟩
  case round =>
    obtain ⟨k, hk, rfl, HT⟩ := hrel
    by_cases hlt : k < n
    · have hck := hF.cell (a * 9 + k) (by rw [HM.out]; omega)
      have HS := Lib.hid (topB_succ m a k)
      go_wp2
      all_goals first
        | (go_ret; exact ⟨by rw [topB_false m a k n hlt (by assumption)]; rfl, hB⟩)
        | (go_round
           case rel => exact ⟨k + 1, by omega, by go_num, by show _ = _; rw [HS.out, HT.out]; simp; assumption⟩
           case measure => simp [intOf]; omega)
    · go_wp2
      go_ret
      have e : k = n := by omega
      subst e
      exact ⟨by rw [HT.out]; rfl, hB⟩

/-- The rounds of tight: the k-th matrix. -/
def itM (m : List Int) : Nat → List Int
  | 0 => m
  | k + 1 => chained (itM m k)
theorem itM_length (m : List Int) (k : Nat) : (itM m k).length = m.length := by
  induction k with
  | zero => rfl
  | succ k ih => exact (chained_length _).trans ih

theorem far_result2 {fn : Func} {p u : Tmp} (h : fn.results = #[.cell p 99, .tmp u]) (tmps : Array Value) (w : World) (g : Nat) (m : List Int)
    (hp : tmps.getD p undef = .pointer (some ⟨g, 0, none⟩)) (hF : FarBlk w g m) (hm : m.length = 81) : (results fn tmps).run Tryz.prog w = .ok (.tuple #[.agg (cs m), tmps.getD u undef]) w := by
  rw [results_cell_tmp h, hp]
  have := run_loadVar_row (P := Tryz.prog) w g 99 99 (cs m) (0, 0) _ hF Tryz.underlying99 rfl (by rw [farSize, cs_size, hm])
  simp [asAddr, this, Result.andThen]

set_option maxHeartbeats 400000 in
/-- tight goes on N times, and then stops. -/
theorem tight_any (m : List Int) (N : Nat) (w : World) (hm : m.length = 81) (hbd : ∀ k, k ≤ N → Bd (itM m k))
    (hgo : ∀ k, k < N → negDiag (itM m (k + 1)) 9 = false ∧ itM m (k + 1) ≠ itM m k) (hend : negDiag (itM m (N + 1)) 9 = true ∨ itM m (N + 1) = itM m N) :
    Calls Tryz.prog 118 #[.agg (cs m)] w fun e w' =>
      e = .returned (.tuple #[.agg (cs (if negDiag (itM m (N + 1)) 9 then z81 else itM m N)), .bool (!negDiag (itM m (N + 1)) 9)]) ∧ Below w.heap.size w w' := by
  have hz := (zero_of_info zeroInfo).1
  have HM := Lib.hid hm
  have HBD := Lib.hid hbd
  have HGO := Lib.hid hgo
  have HEND := Lib.hid hend
  clear hm hbd hgo hend
  go_enter Tryz.func118, Tryz.ntmps118
  go_wp2_with fail
  have h1 := (FarBlk.new w m).alloc (Obj.cells (cs z81) 99)
  have h2 : FarBlk ((w.alloc (Obj.cells (cs m) 99)).alloc (Obj.cells (cs z81) 99)) (w.heap.size + 1) z81 := FarBlk.new' _ _ _ (by simp)
  have hB : Below w.heap.size w ((w.alloc (Obj.cells (cs m) 99)).alloc (Obj.cells (cs z81) 99)) := ((Below.refl _ _).alloc (Nat.le_refl _) _).alloc (by simp) _
  generalize ((w.alloc (Obj.cells (cs m) 99)).alloc (Obj.cells (cs z81) 99)) = W at h1 h2 hB ⊢
  go_loopg [4] N (fun g _ wr => ∃ k : Nat, k + g = N ∧ FarBlk wr w.heap.size (itM m k) ∧ FarBlk wr (w.heap.size + 1) z81 ∧ Below w.heap.size w wr)
  case atStart => exact ⟨0, by omega, h1, h2, hB⟩
  case round =>
    obtain ⟨k, hk, k1, k2, kB⟩ := hrel
    clear h1 h2 hB
    obtain ⟨p, hpe, k1⟩ : ∃ p, Hid (p = itM m k) ∧ FarBlk wr w.heap.size p := ⟨_, rfl, k1⟩
    obtain ⟨q, hqe, hch⟩ : ∃ q, Hid (q = itM m (k + 1)) ∧ Hid (chained p = q) := ⟨_, rfl, by show chained p = chained (itM m k); rw [hpe.out]⟩
    have hl : Hid (p.length = 81) := by show p.length = 81; rw [hpe.out]; exact (itM_length m k).trans HM.out
    have hl' : Hid (q.length = 81) := by show q.length = 81; rw [hqe.out]; exact (itM_length m (k + 1)).trans HM.out
    have hb : Hid (Bd p) := by show Bd p; rw [hpe.out]; exact HBD.out k (by omega)
    go_wp2_with (refine far_load rfl (.tmp 1) rfl w.heap.size rfl p k1 hl.out ?_)
    refine (chained_any p _ hl.out hb.out).mono ?_
    rintro e w1 ⟨rfl, hb1⟩
    rw [hch.out]
    have n1 := k1.below hb1 k1.lt
    have n2 := k2.below hb1 k2.lt
    have nB := kB.trans (hb1.mono kB.size)
    have n3 : FarBlk (w1.alloc (Obj.cells (cs z81) 99)) w1.heap.size z81 := FarBlk.new w1 z81
    have hlt1 : w.heap.size < w1.heap.size := n1.lt
    have hlt2 : w.heap.size + 1 < w1.heap.size := n2.lt
    clear k1 k2 kB hb1
    go_wp2_with (first
      | (refine far_store rfl (.tmp 4) (.tmp 6) rfl w1.heap.size rfl q z81 rfl n3 hl'.out rfl rfl ?_)
      | (refine far_load rfl (.tmp 4) rfl w1.heap.size rfl q (n3.put _) hl'.out ?_))
    have o1 := (n1.alloc (Obj.cells (cs z81) 99)).putOther (b' := w1.heap.size) (by omega) q
    have o2 := (n2.alloc (Obj.cells (cs z81) 99)).putOther (b' := w1.heap.size) (by omega) q
    have o3 := n3.put q
    have oB := below_setRow (nB.alloc (by omega) (Obj.cells (cs z81) 99)) (show w.heap.size ≤ w1.heap.size by omega) (cs q)
    clear n1 n2 n3 nB
    generalize (w1.alloc (Obj.cells (cs z81) 99)).setRow w1.heap.size (cs q) = W2 at o1 o2 o3 oB ⊢
    refine (contradicts_any q _ hl'.out).mono ?_
    rintro e w2 ⟨rfl, hb2⟩
    have q1 := o1.below hb2 o1.lt
    have q2 := o2.below hb2 o2.lt
    have q3 := o3.below hb2 o3.lt
    have qB := oB.trans (hb2.mono oB.size)
    clear o1 o2 o3 oB hb2
    cases hn : negDiag q 9
    · have hn' := hn
      rw [hqe.out] at hn'
      have HN := Lib.hid hn'
      clear hn hn'
      have hcmp := far_eql q p hl'.out hl.out w2
      by_cases he : q = p
      · have hd : decide (q = p) = true := by simp [he]
        rw [hd] at hcmp
        have he' := he
        rw [hqe.out, hpe.out] at he'
        have hkN : k = N := by
          rcases Nat.lt_or_ge k N with h | h
          · exact absurd he' (HGO.out k h).2
          · omega
        have HK := Lib.hid hkN
        clear hd he he' hkN
        go_wp2_with (first
          | (refine far_load rfl (.tmp 4) rfl w1.heap.size rfl q q3 hl'.out ?_)
          | (refine far_load rfl (.tmp 1) rfl w.heap.size rfl p q1 hl.out ?_)
          | (refine far_store rfl (.tmp 2) (.tmp 13) rfl (w.heap.size + 1) rfl p z81 rfl q2 hl.out rfl rfl ?_; repeat (first | go_values | go_skip | go_guarded | go_step | go_upon); go_simp; (iterate 4 go_step); refine wp_ret ?_; simp only [Exit.then, Exit.inBlock]; refine Hid.out ?_))
        unfold Hid
        refine bodyPost_ret (far_result2 rfl _ _ (w.heap.size + 1) p rfl (q2.put _) hl.out) rfl ⟨?_, below_setRow qB (by omega) _⟩
        show Ending.returned (.tuple #[.agg (cs p), .bool true]) = _
        have e1 : itM m (N + 1) = itM m (k + 1) := by rw [HK.out]
        have e2 : itM m N = p := by rw [hpe.out, HK.out]
        rw [e1, HN.out, e2, if_neg (by decide)]
        rfl
      · have hd : decide (q = p) = false := by simp [he]
        rw [hd] at hcmp
        have he' := he
        rw [hqe.out, hpe.out] at he'
        have hkN : k < N := by
          rcases Nat.lt_or_ge k N with h | h
          · exact h
          · obtain rfl : k = N := by omega
            rcases HEND.out with h1 | h1
            · rw [HN.out] at h1; cases h1
            · exact absurd h1 he'
        clear hd he he'
        go_wp2_with (first
          | (refine far_load rfl (.tmp 4) rfl w1.heap.size rfl q q3 hl'.out ?_)
          | (refine far_load rfl (.tmp 1) rfl w.heap.size rfl p q1 hl.out ?_)
          | (refine far_store rfl (.tmp 1) (.tmp 14) rfl w.heap.size rfl q p rfl q1 hl'.out hl.out rfl ?_))
        go_roundg (gk - 1)
        case measure => omega
        case rel => exact ⟨k + 1, by omega, by rw [← hqe.out]; exact q1.put _, q2.putOther (by omega) _, below_setRow qB (Nat.le_refl _) _⟩
    · have hn' := hn
      rw [hqe.out] at hn'
      have HN := Lib.hid hn'
      clear hn hn'
      have hkN : k = N := by
        rcases Nat.lt_or_ge k N with h | h
        · have := (HGO.out k h).1
          rw [HN.out] at this; cases this
        · omega
      have HK := Lib.hid hkN
      clear hkN
      go_wp2_with (first
          | (refine far_store rfl (.tmp 2) (.tmp 9) rfl (w.heap.size + 1) rfl z81 z81 rfl q2 rfl rfl rfl ?_; repeat (first | go_values | go_skip | go_guarded | go_step | go_upon); go_simp; (iterate 4 go_step); refine wp_ret ?_; simp only [Exit.then, Exit.inBlock]; refine Hid.out ?_))
      unfold Hid
      refine bodyPost_ret (far_result2 rfl _ _ (w.heap.size + 1) z81 rfl (q2.put _) rfl) rfl ⟨?_, below_setRow qB (by omega) _⟩
      show Ending.returned (.tuple #[.agg (cs z81), .bool false]) = _
      have e1 : itM m (N + 1) = itM m (k + 1) := by rw [HK.out]
      rw [e1, HN.out, if_pos rfl]
      rfl
end Go.Proofs.YtacmaddjpaebfaaGreatDoor
