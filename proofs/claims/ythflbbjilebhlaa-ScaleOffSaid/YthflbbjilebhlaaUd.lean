/- Package scale: lowest; the error of a scale, and of marks. -/
import Derived.Test.YthflbbjilebhlaaUc
import Derived.Laws.StructEq
import Derived.Deep.RegionHeld3
set_option linter.unusedSimpArgs false
set_option linter.unusedVariables false
namespace Go.Proofs.Ythflbbjilebhlaa
open Go Go.RowKit Sc

theorem frozen_of_row (w : World) (b i : Nat) (C : Array Value) (t : TypeId) (h : w.heap[b]? = some (.cells C t (0, 0))) : w.frozen? ⟨b, i, none⟩ = false := by simp [World.frozen?, h]
theorem sc_result {fn : Func} {p : Tmp} (h : fn.results = #[.cell p 27]) (tmps : Array Value) (w : World) (g : Nat) (x y : Value)
    (hp : tmps.getD p undef = .pointer (some ⟨g, 0, none⟩)) (hg : w.heap[g]? = some (.cells #[x, y] 27 (0, 0))) :
    (results fn tmps).run Try.prog w = .ok (.agg #[x, y]) w := by
  have c0 : w.cell? ⟨g, 0, none⟩ = some x := cellOf hg 0 _ rfl
  have c1 : w.cell? ⟨g, 1, none⟩ = some y := cellOf hg 1 _ rfl
  have hp' : tmps[p]?.getD undef = .pointer (some ⟨g, 0, none⟩) := by simpa using hp
  simp only [results, h]
  simp [Sem.run_bind, Result.andThen, hp', asAddr, go_sem, c0, c1]
theorem two_set {V : World} {g : Nat} {z0 z1 x y : Value} {T : TypeId} (h : V.heap[g]? = some (.cells #[z0, z1] T (0, 0))) :
    ((V.setCell ⟨g, 0, none⟩ x).setCell ⟨g, 1, none⟩ y).heap[g]? = some (.cells #[x, y] T (0, 0)) := by
  have h0 := heap_setCell_same V g 0 _ _ x h
  exact heap_setCell_same _ g 1 _ _ y h0
theorem two_below {w V : World} {B g : Nat} {x y : Value} (h : Below B w V) (hg : B ≤ g) : Below B w ((V.setCell ⟨g, 0, none⟩ x).setCell ⟨g, 1, none⟩ y) :=
  (h.setCell (p := ⟨g, 0, none⟩) hg x).setCell (p := ⟨g, 1, none⟩) hg y
set_option maxRecDepth 100000 in
set_option maxHeartbeats 4000000 in
theorem lowest_any (u d : Int) (w : World) (hu : 1 ≤ u ∧ u ≤ 30) (hd : 1 ≤ d ∧ d ≤ 30) :
    Calls Try.prog 115 #[.agg #[.int .i64 u, .int .i64 d]] w fun e w' => e = .returned (.agg #[.int .i64 (u / gdK u d (min u d).toNat), .int .i64 (d / gdK u d (min u d).toNat)]) ∧ Below w.heap.size w w' := by
  obtain ⟨u0, u30⟩ := hu
  obtain ⟨d0, d30⟩ := hd
  obtain ⟨m, hm⟩ : ∃ m, (min u d).toNat = m := ⟨_, rfl⟩
  have hmI : min u d = (m : Int) := by omega
  have m30 : m ≤ 30 := by omega
  have mI : (m : Int) ≤ 30 := by omega
  obtain ⟨W, hW, q1, q2, hb, hsz⟩ := al2 w (Obj.cells #[.int .i64 u, .int .i64 d] 27) (Obj.cells #[.int .i64 0, .int .i64 0] 27)
  have HW := Lib.hid hW
  have HQ1 := Lib.hid q1
  have HQ2 := Lib.hid q2
  have HB := Lib.hid hb
  rw [hm]
  have HMI := Lib.hid hmI
  have hm1 : (if u < d then u else d) = (m : Int) := by rw [← hmI]; omega
  have hm2 : (if d < u then d else u) = (m : Int) := by rw [← hmI]; omega
  obtain ⟨x, hx⟩ : ∃ x, u / gdK u d m = x := ⟨_, rfl⟩
  obtain ⟨y, hy⟩ : ∃ y, d / gdK u d m = y := ⟨_, rfl⟩
  rw [hx, hy]
  have HX := Lib.hid hx
  have HY := Lib.hid hy
  clear hx hy hmI hW q1 q2 hb hsz hm
  go_enter Try.func115, Try.ntmps115
  go_wp2_with fail
  rw [HW.out]
  clear hm1 hm2
  go_loop [3, 4, 5, 11] (fun g _ _ i => ∃ k : Nat, k ≤ m ∧ i = .int .i64 k ∧ g = .int .i64 (gdK u d k)) (fun _ _ _ i => m - (intOf i).toNat)
  case atStart => exact ⟨0, Nat.zero_le _, rfl, rfl⟩
  case round =>
    obtain ⟨k, hk, rfl, rfl⟩ := hrel
    have g0 := cellOf HQ1.out 0 _ rfl
    have g1 := cellOf HQ1.out 1 _ rfl
    have gl := lt_of_block HQ1.out
    by_cases hlt : k < m
    · have kI : (k : Int) < (m : Int) := by omega
      have hg : Hid (gdK u d (k + 1) = if u % ((k : Int) + 1) = 0 ∧ d % ((k : Int) + 1) = 0 then (k : Int) + 1 else gdK u d k) := rfl
      obtain ⟨G, hG⟩ : ∃ G, gdK u d k = G := ⟨_, rfl⟩
      obtain ⟨G2, hG2⟩ : ∃ G, gdK u d (k + 1) = G := ⟨_, rfl⟩
      have HG2 := Lib.hid hG2
      rw [hG2, hG] at hg
      rw [hG]
      obtain ⟨q, hq⟩ : ∃ q : Int, (k : Int) + 1 = q := ⟨_, rfl⟩
      have HQ := Lib.hid hq
      have hw : IntKind.i64.wrap ((k : Int) + 1) = q := by rw [IntKind.wrap_i64] <;> omega
      have q0 : ¬ q = 0 := by omega
      have q1 : ¬ q = -1 := by omega
      have t1 : u.tmod q = u % q := Int.tmod_eq_emod_of_nonneg (by omega)
      have t2 : d.tmod q = d % q := Int.tmod_eq_emod_of_nonneg (by omega)
      rw [hq] at hg
      have b1 := Int.emod_nonneg u q0
      have b2 := Int.emod_nonneg d q0
      have b3 := Int.emod_lt_of_pos u (show 0 < q by omega)
      have b4 := Int.emod_lt_of_pos d (show 0 < q by omega)
      have q31 : q ≤ 31 := by omega
      generalize u % q = r1 at *
      generalize d % q = r2 at *
      clear hG hG2 hq
      by_cases h1 : r1 = 0
      · have e1 : (r1 == 0) = true := by simp [h1]
        by_cases h2 : r2 = 0
        · have e2 : (r2 == 0) = true := by simp [h2]
          rw [if_pos ⟨h1, h2⟩] at hg
          clear h1 h2
          go_wp2_with fail
          go_round
          case rel => exact ⟨k + 1, by omega, by simp [← HQ.out], by rw [HG2.out, hg.out]⟩
          case measure => simp [intOf, ← HQ.out]; omega
        · have e2 : (r2 == 0) = false := by simp [h2]
          rw [if_neg (fun h => h2 h.2)] at hg
          clear h1 h2
          go_wp2_with fail
          go_round
          case rel => exact ⟨k + 1, by omega, by simp [← HQ.out], by rw [HG2.out, hg.out]⟩
          case measure => simp [intOf, ← HQ.out]; omega
      · have e1 : (r1 == 0) = false := by simp [h1]
        rw [if_neg (fun h => h1 h.1)] at hg
        clear h1
        go_wp2_with fail
        go_round
        case rel => exact ⟨k + 1, by omega, by simp [← HQ.out], by rw [HG2.out, hg.out]⟩
        case measure => simp [intOf, ← HQ.out]; omega
    · obtain rfl : k = m := by omega
      have kI : ¬ (k : Int) < (k : Int) := by omega
      have hb := gdK_bd u d k
      generalize gdK u d k = G at *
      have G0 : ¬ G = 0 := by omega
      have G1 : ¬ G = -1 := by omega
      have t1 : u.tdiv G = u / G := Int.tdiv_eq_ediv_of_nonneg (by omega)
      have t2 : d.tdiv G = d / G := Int.tdiv_eq_ediv_of_nonneg (by omega)
      have b1 : 0 ≤ u / G := Int.ediv_nonneg (by omega) (by omega)
      have b2 : 0 ≤ d / G := Int.ediv_nonneg (by omega) (by omega)
      have b3 : u / G ≤ u := Int.ediv_le_self _ (by omega)
      have b4 : d / G ≤ d := Int.ediv_le_self _ (by omega)
      have hx := HX.out
      have hy := HY.out
      rw [hx] at t1 b1 b3
      rw [hy] at t2 b2 b4
      have g2 := lt_of_block HQ2.out
      have z0 := cellOf HQ2.out 0 _ rfl
      have z1 := cellOf HQ2.out 1 _ rfl
      have f0 := frozen_of_row _ _ 0 _ _ HQ2.out
      have f1 := frozen_of_row _ _ 1 _ _ HQ2.out
      clear hlt hb hk hx hy
      go_wp2_with fail
      go_region
      all_goals
        go_wp2_with fail
        refine bodyPost_ret (sc_result rfl _ _ (w.heap.size + 1) (.int .i64 x) (.int .i64 y) rfl (two_set HQ2.out)) rfl ?_
        exact ⟨rfl, (two_below (g := w.heap.size + 1) (x := .int .i64 x) (y := .int .i64 y) HB.out (by omega)).drew⟩
set_option maxRecDepth 100000 in
set_option maxHeartbeats 4000000 in
theorem scaleFault_any (s : Scl) (w : World) :
    Calls Try.prog 97 #[.agg #[.int .i64 s.1, .int .i64 s.2]] w fun e w' => e = .returned (.int .i64 (sclE s)) ∧ Below w.heap.size w w' := by
  obtain ⟨u, d⟩ := s
  simp only
  have hB : Below w.heap.size w (w.alloc (Obj.cells #[.int .i64 u, .int .i64 d] 27)) := by go_grown
  have HB := Lib.hid hB
  have HG := Lib.hid (heap_alloc_new w (Obj.cells #[.int .i64 u, .int .i64 d] 27))
  have HE : Hid (sclE (u, d) = if inB 1 30 u = false ∨ inB 1 30 d = false then 7 else if comB u d = true then 6 else 0) := rfl
  clear hB
  go_enter Try.func97, Try.ntmps97
  go_wp2_with fail
  have hsz : w.heap.size + 1 = (w.alloc (Obj.cells #[.int .i64 u, .int .i64 d] 27)).heap.size := by simp
  generalize w.alloc (Obj.cells #[.int .i64 u, .int .i64 d] 27) = w0 at *
  have h1 := within_2 1 30 u d w0 (w.heap.size + 1) 3 hsz
  obtain ⟨B1, hB1⟩ : ∃ B, okIn 1 30 u = B := ⟨_, rfl⟩
  obtain ⟨B2, hB2⟩ : ∃ B, okIn 1 30 d = B := ⟨_, rfl⟩
  have e1 : inB 1 30 u = B1 := hB1
  have e2 : inB 1 30 d = B2 := hB2
  have E1 := Lib.hid e1
  have E2 := Lib.hid e2
  rw [hB1, hB2] at h1
  rw [e1, e2] at HE
  have HC1 := Lib.hid h1
  clear h1 hB1 e1 hB2 e2 hsz
  refine HC1.out.mono ?_
  rintro e w1 ⟨rfl, rfl⟩
  clear HC1
  have hb1 : Below w0.heap.size w0 (w0.alloc (Obj.cells #[.int .i64 u, .int .i64 d] 3)) := by go_grown
  have HB1 := Lib.hid (HB.out.trans (hb1.mono HB.out.size))
  have HG1 := Lib.hid ((hb1.block _ (lt_of_block HG.out)).trans HG.out)
  generalize w0.alloc (Obj.cells #[.int .i64 u, .int .i64 d] 3) = w1 at *
  clear hb1 HB HG
  by_cases hbb : (B1 && B2) = false
  · have hor : B1 = false ∨ B2 = false := by revert hbb; cases B1 <;> cases B2 <;> simp
    rw [if_pos hor] at HE
    rw [hbb]
    clear hor hbb
    go_wp2_with fail
    go_ret
    exact ⟨by rw [HE.out]; rfl, HB1.out⟩
  · have hbt : (B1 && B2) = true := by simpa using hbb
    have hor : ¬ (B1 = false ∨ B2 = false) := by revert hbb; cases B1 <;> cases B2 <;> simp
    rw [if_neg hor] at HE
    have hin : (1 ≤ u ∧ u ≤ 30) ∧ 1 ≤ d ∧ d ≤ 30 := by
      have q1 := E1.out
      have q2 := E2.out
      rw [Bool.and_eq_true] at hbt
      rw [hbt.1] at q1
      rw [hbt.2] at q2
      unfold inB at q1 q2
      simp only [Bool.and_eq_true, decide_eq_true_eq] at q1 q2
      exact ⟨q1, q2⟩
    rw [hbt]
    have hli := lowest_iff u d hin.1 hin.2 (min u d).toNat (by omega)
    have hlo : Hid (∀ n, Calls Try.prog 115 #[.agg #[.int .i64 u, .int .i64 d]] (w1.drewN n) fun e w' => e = .returned (.agg #[.int .i64 (u / gdK u d (min u d).toNat), .int .i64 (d / gdK u d (min u d).toNat)]) ∧ Below (w1.drewN n).heap.size (w1.drewN n) w') := fun n => lowest_any u d _ hin.1 hin.2
    generalize u / gdK u d (min u d).toNat = x at *
    generalize d / gdK u d (min u d).toNat = y at *
    have HLI := Lib.hid hli
    have g0 := cellOf HG1.out 0 _ rfl
    have g1 := cellOf HG1.out 1 _ rfl
    have gl := lt_of_block HG1.out
    have HH : Hid (Below w1.heap.size w1 w1) := Below.refl _ _
    clear hor hbb hbt hin hli
    go_wp2_with fail
    have keepS : ∀ {W W' : World}, (W.cell? ⟨w.heap.size, 0, none⟩ = some (.int .i64 u) ∧ W.cell? ⟨w.heap.size, 1, none⟩ = some (.int .i64 d) ∧ Hid (Below w1.heap.size w1 W)) → Below W.heap.size W W' → (W'.cell? ⟨w.heap.size, 0, none⟩ = some (.int .i64 u) ∧ W'.cell? ⟨w.heap.size, 1, none⟩ = some (.int .i64 d) ∧ Hid (Below w1.heap.size w1 W')) := fun h hb => ⟨keepK h.1 hb, keepK h.2.1 hb, h.2.2.out.trans (hb.mono h.2.2.out.size)⟩
    have HL := HLI.out
    clear HLI
    by_cases hx : x = u
    · by_cases hy : y = d
      · have hc : comB u d = false := HL.1 ⟨hx, hy⟩
        rw [hc, if_neg (by simp)] at HE
        clear hc HL
        have q1 : (x == u) = true := by simp [hx]
        have q2 : (y == d) = true := by simp [hy]
        clear hx hy
        go_region_held3 (fun W' => W'.cell? ⟨w.heap.size, 0, none⟩ = some (.int .i64 u) ∧ W'.cell? ⟨w.heap.size, 1, none⟩ = some (.int .i64 d) ∧ Hid (Below w1.heap.size w1 W'))
          (first | exact ⟨g0, g1, (Below.refl _ _).drew⟩ | (refine keepS ?_ hb; assumption))
          (first | (go_at_call 115; refine (hlo.out _).mono ?_; rintro e w' ⟨rfl, hb⟩))
        have HBW : Hid (Below w1.heap.size w1 w') := (by assumption : w'.cell? ⟨w.heap.size, 0, none⟩ = some (.int .i64 u) ∧ w'.cell? ⟨w.heap.size, 1, none⟩ = some (.int .i64 d) ∧ Hid (Below w1.heap.size w1 w')).2.2
        go_wp2_with fail
        go_ret
        exact ⟨by rw [HE.out]; rfl, HB1.out.trans (HBW.out.mono HB1.out.size)⟩
      · have hc : comB u d = true := by
          cases e : comB u d
          · exact absurd (HL.2 e).2 hy
          · rfl
        rw [hc, if_pos rfl] at HE
        clear hc HL
        have q1 : (x == u) = true := by simp [hx]
        have q2 : (y == d) = false := by simp [hy]
        clear hx hy
        go_region_held3 (fun W' => W'.cell? ⟨w.heap.size, 0, none⟩ = some (.int .i64 u) ∧ W'.cell? ⟨w.heap.size, 1, none⟩ = some (.int .i64 d) ∧ Hid (Below w1.heap.size w1 W'))
          (first | exact ⟨g0, g1, (Below.refl _ _).drew⟩ | (refine keepS ?_ hb; assumption))
          (first | (go_at_call 115; refine (hlo.out _).mono ?_; rintro e w' ⟨rfl, hb⟩))
        have HBW : Hid (Below w1.heap.size w1 w') := (by assumption : w'.cell? ⟨w.heap.size, 0, none⟩ = some (.int .i64 u) ∧ w'.cell? ⟨w.heap.size, 1, none⟩ = some (.int .i64 d) ∧ Hid (Below w1.heap.size w1 w')).2.2
        go_wp2_with fail
        go_ret
        exact ⟨by rw [HE.out]; rfl, HB1.out.trans (HBW.out.mono HB1.out.size)⟩
    · have hc : comB u d = true := by
        cases e : comB u d
        · exact absurd (HL.2 e).1 hx
        · rfl
      rw [hc, if_pos rfl] at HE
      clear hc HL
      have q1 : (x == u) = false := by simp [hx]
      clear hx
      go_region_held3 (fun W' => W'.cell? ⟨w.heap.size, 0, none⟩ = some (.int .i64 u) ∧ W'.cell? ⟨w.heap.size, 1, none⟩ = some (.int .i64 d) ∧ Hid (Below w1.heap.size w1 W'))
        (first | exact ⟨g0, g1, (Below.refl _ _).drew⟩ | (refine keepS ?_ hb; assumption))
        (first | (go_at_call 115; refine (hlo.out _).mono ?_; rintro e w' ⟨rfl, hb⟩))
      have HBW : Hid (Below w1.heap.size w1 w') := (by assumption : w'.cell? ⟨w.heap.size, 0, none⟩ = some (.int .i64 u) ∧ w'.cell? ⟨w.heap.size, 1, none⟩ = some (.int .i64 d) ∧ Hid (Below w1.heap.size w1 w')).2.2
      go_wp2_with fail
      go_ret
      exact ⟨by rw [HE.out]; rfl, HB1.out.trans (HBW.out.mono HB1.out.size)⟩
end Go.Proofs.Ythflbbjilebhlaa
