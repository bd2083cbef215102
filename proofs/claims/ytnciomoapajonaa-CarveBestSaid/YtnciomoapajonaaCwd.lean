/- Package carve: many. -/
import Derived.Test.YtnciomoapajonaaCwc
import Derived.Test.YtnciomoapajonaaCvbc
import Derived.Test.YtnciomoapajonaaRound
set_option linter.unusedSimpArgs false
set_option linter.unusedVariables false
namespace Go.Proofs.Ytnciomoapajonaa
open Go Go.RowKit Go.Shelf Cv
attribute [local go_sem] Oper.semAt_some

theorem blk_own {β : Type} (b : Nat) (f : β → Array Value) (t : TypeId) (fr : Nat × Nat) : Own (fun s W => W.heap[b]? = some (.cells (f s) t fr)) := by
  intro s X Y row h hg hr
  refine (hg.block b (lt_of_block h) (fun e => ?_)).trans h
  obtain ⟨o, ho, hc⟩ := hr b e.symm
  have h' : X.heap[b]? = _ := h
  rw [h'] at ho; cases ho; cases hc
/-- The passes that are begun, at some pairs of neighbours. -/
def nbSum {n : Nat} (d : List Int) (pre : List (Nb n)) : Int := max 0 (d.getD 0 0 - 0) + (pre.map fun x => max 0 (d.getD (x.1 + 1) 0 - d.getD x.1 0)).sum
theorem nbSum_snoc {n : Nat} (d : List Int) (pre : List (Nb n)) (x : Nb n) : nbSum d (pre ++ [x]) = nbSum d pre + max 0 (d.getD (x.1 + 1) 0 - d.getD x.1 0) := by
  unfold nbSum
  simp only [List.map_append, List.map_cons, List.map_nil, List.sum_append, List.sum_cons, List.sum_nil]
  omega
theorem getD_bd (d : List Int) (hd : ∀ x, x ∈ d → 0 ≤ x ∧ x ≤ 9000) (i : Nat) : 0 ≤ d.getD i 0 ∧ d.getD i 0 ≤ 9000 := by
  rcases Nat.lt_or_ge i d.length with h | h
  · rw [show d.getD i 0 = d[i] by simp [List.getD_eq_getElem?_getD, h]]
    exact hd _ (List.getElem_mem h)
  · rw [show d.getD i 0 = 0 by simp [List.getD_eq_getElem?_getD, h]]
    omega
theorem nbSum_bd {n : Nat} (d : List Int) (hd : ∀ x, x ∈ d → 0 ≤ x ∧ x ≤ 9000) (pre : List (Nb n)) : 0 ≤ nbSum d pre ∧ nbSum d pre ≤ 9000 * ((pre.length : Int) + 1) := by
  unfold nbSum
  induction pre with
  | nil =>
    have := getD_bd d hd 0
    simp only [List.map_nil, List.sum_nil, List.length_nil]
    omega
  | cons x l ih =>
    simp only [List.map_cons, List.sum_cons, List.length_cons] at ih ⊢
    have a := getD_bd d hd x.1
    have b := getD_bd d hd (x.1 + 1)
    push_cast
    omega
def mTo (d : List Int) : Nat → Int
  | 0 => max 0 (d.getD 0 0 - 0)
  | k + 1 => mTo d k + max 0 (d.getD (k + 1) 0 - d.getD k 0)
theorem nbSum_range {n : Nat} (d : List Int) : ∀ (k : Nat) (pre : List (Nb n)), pre.map (·.1) = List.range k → nbSum d pre = mTo d k := by
  have key : ∀ (pre : List (Nb n)), (pre.map fun x => max 0 (d.getD (x.1 + 1) 0 - d.getD x.1 0)) = (pre.map (·.1)).map fun k => max 0 (d.getD (k + 1) 0 - d.getD k 0) := by
    intro pre; rw [List.map_map]; rfl
  intro k pre h
  unfold nbSum
  rw [key, h]
  clear h key
  induction k with
  | zero => simp [mTo]
  | succ k ih =>
    rw [List.range_succ, List.map_append, List.sum_append]
    unfold mTo
    simp only [List.map_cons, List.map_nil, List.sum_cons, List.sum_nil]
    omega
theorem many_shift (x : Int) : ∀ (l : List Int) (y : Int) (k : Nat), l.length = k → manyL y l = (if k = 0 then 0 else max 0 (l.getD 0 0 - y)) + manyL (l.getD 0 0) (l.drop 1) := by
  intro l y k h
  cases l with
  | nil => subst h; rfl
  | cons a l => subst h; rfl
theorem mTo_many : ∀ (d : List Int) (y : Int), d ≠ [] → manyL y d = max 0 (d.getD 0 0 - y) + (mTo d (d.length - 1) - max 0 (d.getD 0 0)) := by
  intro d
  induction d with
  | nil => intro y h; exact absurd rfl h
  | cons x l ih =>
    intro y _
    cases l with
    | nil => simp [manyL, mTo]
    | cons z l =>
      have h := ih x (by simp)
      unfold manyL
      rw [h]
      have key : ∀ k, mTo (x :: z :: l) (k + 1) - max 0 x = mTo (z :: l) k - max 0 z + max 0 (z - x) := by
        intro k
        induction k with
        | zero => simp [mTo]; omega
        | succ k ih =>
          have a : mTo (x :: z :: l) (k + 1 + 1) = mTo (x :: z :: l) (k + 1) + max 0 ((z :: l).getD (k + 1) 0 - (z :: l).getD k 0) := rfl
          have b : mTo (z :: l) (k + 1) = mTo (z :: l) k + max 0 ((z :: l).getD (k + 1) 0 - (z :: l).getD k 0) := rfl
          omega
      have hk := key l.length
      have e1 : (x :: z :: l).length - 1 = l.length + 1 := by simp
      have e2 : (z :: l).length - 1 = l.length := by simp
      have e3 : (x :: z :: l).getD 0 0 = x := rfl
      have e4 : (z :: l).getD 0 0 = z := rfl
      rw [e1, e2, e3, e4]
      omega
theorem mTo_all (d : List Int) (h : d ≠ []) : mTo d (d.length - 1) = manyL 0 d := by
  have := mTo_many d 0 h
  omega

set_option maxRecDepth 100000 in
theorem nbr_stops (m : Nat) (hm : 1 ≤ m) (Bl : Nat) (st : Int) (pa : Option Addr) (n pc : Nat) (n1 : 1 ≤ n) (n10 : n ≤ 10) (w : World) (hL : w.heap[Bl]? = some (.cells #[.int .i64 st, .slice pa n pc] 76 (0, 0))) :
    SeqStopsK Fence.wide m Try.prog 88 #[.pointer (some ⟨Bl, 0, none⟩)] (encN (n := n)) (KB Bl) (fun ys => ys.map (·.1) = List.range (n - 1)) (fun _ => True) (n - 1) w := fun l J Jx W hW hJ _ hY h0 =>
  nbr1_in m hm l Bl st pa n pc n1 n10 J Jx W hY ((hW.block Bl (lt_of_block hL)).trans hL) h0

set_option maxRecDepth 100000 in
set_option maxHeartbeats 4000000 in
theorem many_any (st : Int) (pa : Option Addr) (pc : Nat) (dv : Value) (d : List Int) (w : World) (hD : IntsAt w dv d) (h1 : 0 < d.length) (h10 : d.length ≤ 10) (hd : ∀ x, x ∈ d → 0 ≤ x ∧ x ≤ 9000) :
    Calls Try.prog 66 #[.agg #[.int .i64 st, .slice pa d.length pc], dv] w fun e w' => e = .returned (.int .i64 (manyL 0 d)) ∧ Below w.heap.size w w' := by
  obtain ⟨_, da, dc, rfl, _, _⟩ := id hD
  refine (callsIn_wide (n := 4)).1 ?_
  refine callsIn_of_wp_marks Try.func66 rfl trivial ?_ rfl
  simp only [Try.ntmps66, List.size_toArray, List.length_cons, List.length_nil, Nat.reduceAdd, Nat.reduceSub, Array.replicate_succ, Array.replicate_zero, List.push_toArray, List.append_toArray, List.nil_append, List.cons_append]
  have hD0 := hD.get (k := 0) h1
  obtain ⟨bd, od, rfl, c0⟩ := hD0
  rw [Nat.add_zero] at c0
  have hbd : bd < w.heap.size := World.block_lt_of_cell? w _ c0
  have x0 := hd d[0] (List.getElem_mem _)
  have hy0 : Hid (d.getD 0 0 = d[0]) := by show _ = _; simp [List.getD_eq_getElem?_getD, h1]
  generalize d[0] = y0 at *
  have n10 : (d.length : Int) ≤ 10 := by omega
  have HD := Lib.hid hD
  have HDD := Lib.hid hd
  clear hD hd
  have HL0 := Lib.hid (heap_alloc2_old w (Obj.cells #[.int .i64 st, .slice pa d.length pc] 76) (Obj.cells #[.slice (some ⟨bd, od, none⟩) d.length dc] 36))
  have HE0 := Lib.hid (heap_alloc2_new w (Obj.cells #[.int .i64 st, .slice pa d.length pc] 76) (Obj.cells #[.slice (some ⟨bd, od, none⟩) d.length dc] 36))
  have HB0 : Hid (Below w.heap.size w ((w.alloc (Obj.cells #[.int .i64 st, .slice pa d.length pc] 76)).alloc (Obj.cells #[.slice (some ⟨bd, od, none⟩) d.length dc] 36))) := by show Below _ _ _; go_grown
  have hs0 : ((w.alloc (Obj.cells #[.int .i64 st, .slice pa d.length pc] 76)).alloc (Obj.cells #[.slice (some ⟨bd, od, none⟩) d.length dc] 36)).heap.size = w.heap.size + 2 := by simp
  gi_wp2_with fail
  generalize (w.alloc (Obj.cells #[.int .i64 st, .slice pa d.length pc] 76)).alloc (Obj.cells #[.slice (some ⟨bd, od, none⟩) d.length dc] 36) = W0 at *
  refine ⟨trivial, ?_⟩
  refine (callsIn_wide.2 (begun_any 0 y0 _ (by omega) (by omega) x0.1 (by omega))).mono ?_
  rintro e w1 ⟨rfl, rfl⟩
  have a0 := cellOf HL0.out 0 _ rfl
  have a1 := cellOf HL0.out 1 _ rfl
  have al := lt_of_block HL0.out
  gi_wp2_with fail
  have HL1 := Lib.hid ((Below.heap_alloc W0 (Obj.cells #[.int .i64 (max 0 y0)] 3) _ (lt_of_block HL0.out)).trans HL0.out)
  have HE1 := Lib.hid ((Below.heap_alloc W0 (Obj.cells #[.int .i64 (max 0 y0)] 3) _ (lt_of_block HE0.out)).trans HE0.out)
  have HM1 := Lib.hid (heap_alloc_new W0 (Obj.cells #[.int .i64 (max 0 y0)] 3))
  have HB1 := Lib.hid (HB0.out.alloc HB0.out.size (Obj.cells #[.int .i64 (max 0 y0)] 3))
  have hs1 : (W0.alloc (Obj.cells #[.int .i64 (max 0 y0)] 3)).heap.size = w.heap.size + 3 := by simp [hs0]
  rw [hs0] at HM1
  generalize W0.alloc (Obj.cells #[.int .i64 (max 0 y0)] 3) = W1 at *
  refine ⟨trivial, ?_⟩
  refine (neighbours_in 3 st (.slice pa d.length pc) _).mono ?_
  rintro e w3 ⟨rfl, rfl⟩
  have HE3 := Lib.hid ((Below.heap_alloc W1 (.cells #[.int .i64 st, .slice pa d.length pc] 76) _ (lt_of_block HE1.out)).trans HE1.out)
  have HM3 := Lib.hid ((Below.heap_alloc W1 (.cells #[.int .i64 st, .slice pa d.length pc] 76) _ (lt_of_block HM1.out)).trans HM1.out)
  have HN3 := Lib.hid (heap_alloc_new W1 (.cells #[.int .i64 st, .slice pa d.length pc] 76))
  have HB3 := Lib.hid (HB1.out.alloc HB1.out.size (.cells #[.int .i64 st, .slice pa d.length pc] 76))
  have hs3 : (W1.alloc (.cells #[.int .i64 st, .slice pa d.length pc] 76)).heap.size = w.heap.size + 4 := by simp [hs1]
  rw [hs1] at HN3 ⊢
  generalize W1.alloc (.cells #[.int .i64 st, .slice pa d.length pc] 76) = W3 at *
  clear HL1 HE1 HM1 HB1 hs1 a0 a1 al HL0 HE0 HB0 hs0
  gi_wp2_with fail
  have hnil : W3.heap[w.heap.size + 2]? = some (.cells #[.int .i64 (nbSum d ([] : List (Nb d.length)))] 3 (0, 0)) := by
    have e : nbSum d ([] : List (Nb d.length)) = max 0 (y0) := by
      unfold nbSum
      rw [hy0.out]
      simp
    rw [e]
    exact HM3.out
  have hstop := nbr_stops 3 (by omega) (w.heap.size + 3) st pa d.length pc h1 h10 W3 HN3.out
  refine wpIn_rangeFunc_ownH rfl (by omega) (gf := 88) (lb := #[.pointer (some ⟨w.heap.size + 3, 0, none⟩)]) rfl trivial (enters_of Try.func88 (by kernel_rfl) rfl)
    hstop (fun h k => KB.trans h k) (fun W l o o' hl _ _ _ => KB.putObj W l o' (by omega)) (Below.refl _ _) (fun _ => rfl)
    (fun pre W => W.heap[w.heap.size + 2]? = some (.cells #[.int .i64 (nbSum d pre)] 3 (0, 0)) ∧ W.heap[w.heap.size + 1]? = some (.cells #[.slice (some ⟨bd, od, none⟩) d.length dc] 36 (0, 0)) ∧ Below w.heap.size w W)
    (fun _ _ _ => False)
    (OwnFrom.and (Own.from (blk_own _ _ _ _) _) (OwnFrom.and (Own.from (blk_own _ (fun _ => #[.slice (some ⟨bd, od, none⟩) d.length dc]) _ _) _) (ownFrom_below (Nat.le_refl _) (by omega))))
    (fun _ _ _ _ _ hs _ _ => hs)
    ⟨hnil, HE3.out, HB3.out⟩
    (fun x a' W => a' = { tmps := #[.agg #[.int .i64 st, .slice pa d.length pc], .slice (some ⟨bd, od, none⟩) d.length dc, .pointer (some ⟨w.heap.size, 0, none⟩), .pointer (some ⟨w.heap.size + 1, 0, none⟩), .int .i64 0, .pointer (some ⟨w.heap.size + 2, 0, none⟩), .int .i64 (x.1 : Int), .int .i64 ((x.1 : Int) + 1), .slice (some ⟨bd, od, none⟩) d.length dc, .pointer (some ⟨bd, od, none⟩), .int .i64 y0, .int .i64 (max 0 y0), .agg #[.int .i64 st, .slice pa d.length pc], .func (.func 88) #[] #[.pointer (some ⟨w.heap.size + 3, 0, none⟩)], .int .i64 (x.1 : Int), .int .i64 ((x.1 : Int) + 1), undef, undef, undef, undef, undef, undef, undef, undef, undef, undef, undef, undef], defers := [] })
    ?hAx ?assign ?body ?done ?stop
  case hAx => exact fun x a' _ X Y row h _ _ => h
  case assign =>
    rintro l pre ⟨k, hk⟩ W K hI hK
    unfold encN
    gi_wp2
    exact hK _ _ (KeepsFrom.refl _ _) (KB.refl _ _) hI rfl
  case body =>
    rintro l pre ⟨k, hk⟩ a' W hl ⟨r, hr⟩ ⟨iM, iE, iB⟩ rfl hlt
    obtain ⟨j, hj⟩ : ∃ j : Nat, j = k + 1 := ⟨_, rfl⟩
    have hjI : (k : Int) + 1 = (j : Int) := by omega
    have hj' : j < d.length := by omega
    have hk' : k < d.length := by omega
    obtain ⟨b1, o1, e1, cj⟩ := (HD.out.below iB).get hj'
    obtain ⟨b2, o2, e2, ck⟩ := (HD.out.below iB).get hk'
    simp only [Option.some.injEq, Addr.mk.injEq, and_true] at e1 e2
    obtain ⟨rfl, rfl⟩ := e1
    obtain ⟨rfl, rfl⟩ := e2
    have bdj := HDD.out d[j] (List.getElem_mem _)
    have bdk := HDD.out d[k] (List.getElem_mem _)
    have HS := Lib.hid (nbSum_snoc d pre (⟨k, hk⟩ : Nb d.length))
    have hsb := nbSum_bd d HDD.out pre
    have hsc : nbSum d pre ≤ 99000 := by omega
    have m0 : W.cell? ⟨w.heap.size + 2, 0, none⟩ = some (.int .i64 (nbSum d pre)) := cellOf iM 0 _ rfl
    have m1 := frozen_of_row _ _ 0 _ _ iM
    have e0 : W.cell? ⟨w.heap.size + 1, 0, none⟩ = some (.slice (some ⟨bd, od, none⟩) d.length dc) := cellOf iE 0 _ rfl
    have jI : (j : Int) < (d.length : Int) := by omega
    have kI : (k : Int) < (d.length : Int) := by omega
    have HIM := Lib.hid iM
    have HIE := Lib.hid iE
    have HIB := Lib.hid iB
    clear iM iE iB hstop hlt
    simp only
    rw [hjI]
    have HJ := Lib.hid hj
    clear hj hjI
    generalize nbSum d pre = sm at *
    refine wpIn_block ?_
    refine wpIn_region_still_tail 11 (by kernel_rfl) (by kernel_rfl) (by kernel_rfl) (by rintro ⟨_, _, h⟩; exact h) ?_
    simp only [List.take_succ_cons, List.take_zero, List.drop_succ_cons, List.drop_zero]
    iterate 9 still_step
    still_call ((begun_any d[k] d[j] _ bdk.1 (by omega) bdj.1 (by omega)).mono fun e w h => ⟨h.1, h.2.symm⟩)
    still_step
    refine wpStill_nil ?_
    go_wp2_with fail
    have ew : wrap64 (sm + max 0 (d[j] - d[k])) = sm + max 0 (d[j] - d[k]) := by unfold wrap64; omega
    try rw [ew]
    refine ⟨((KeepsOthers.setCell _ _ _).trans (KeepsOthers.drew _)).from _, (KB.setCell W _ _ (by simp)).trans (KB.drew _), ?_, ?_, ?_⟩
    · show _ = some (Obj.cells #[.int .i64 (nbSum d (pre ++ [(⟨k, hk⟩ : Nb d.length)]))] 3 (0, 0))
      have e : nbSum d (pre ++ [(⟨k, hk⟩ : Nb d.length)]) = sm + max 0 (d[j] - d[k]) := by
        rw [HS.out]
        have := HJ.out
        subst this
        simp [List.getD_eq_getElem?_getD, hk', hj']
      rw [e]
      exact heap_setCell_same W _ 0 _ _ _ HIM.out
    · exact (heap_setCell_other W (⟨w.heap.size + 2, 0, none⟩ : Addr) (w.heap.size + 1) _ (by simp)).trans HIE.out
    · exact (HIB.out.setCell (p := ⟨w.heap.size + 2, 0, none⟩) (show w.heap.size ≤ w.heap.size + 2 by omega) _).drew
  case done =>
    rintro D ys W hD hys ⟨iM, iE, iB⟩ hK
    have HS : Hid (nbSum d ys = manyL 0 d) := by
      show _ = _
      rw [nbSum_range d _ ys hys]
      exact mTo_all d (by rintro rfl; simp at h1)
    have m0 : W.cell? ⟨w.heap.size + 2, 0, none⟩ = some (.int .i64 (nbSum d ys)) := cellOf iM 0 _ rfl
    rw [HS.out] at m0
    have HIB := Lib.hid iB
    have HK := Lib.hid hK
    clear iM iE iB hK hys hstop hnil
    gi_wp2_with fail
    refine ⟨by simp, .inl ⟨_, _, rfl, run_takeDeferred HK.out, ?_⟩⟩
    exact ⟨_, results_tmp rfl _ _ _, rfl, HIB.out.trans (belowK_b (w := w) (Nat.le_refl _) W D _ _ (by omega) HK.out rfl rfl)⟩
  case stop =>
    rintro D c pre W _ _ h _
    exact h.elim
end Go.Proofs.Ytnciomoapajonaa
