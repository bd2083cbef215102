/- Package edge: lowered. -/
import Derived.Test.YtojdocomkhihoaaFa1
set_option linter.unusedSimpArgs false
set_option linter.unusedVariables false
namespace Go.Proofs.Ytojdocomkhihoaa
open Go Go.RowKit Ed

theorem getD_set (l : List Int) (i j : Nat) (v : Int) : (l.set i v).getD j 0 = if i = j ∧ j < l.length then v else l.getD j 0 := by
  rw [List.getD_eq_getElem?_getD, List.getD_eq_getElem?_getD, List.getElem?_set]
  by_cases e : i = j
  · subst e
    by_cases h : i < l.length
    · simp [h]
    · simp [h]
  · simp [e]
/-- A step along an edge. -/
def lowStep (a b : Nat) (s : Int × Int) (x : List Int) : List Int :=
  (x.set a (min (x.getD a 0) (x.getD b 0 + s.2))).set b (min ((x.set a (min (x.getD a 0) (x.getD b 0 + s.2))).getD b 0) ((x.set a (min (x.getD a 0) (x.getD b 0 + s.2))).getD a 0 - s.1))
def lowTo (l : List Edg) (ws : List Int) (x : List Int) : Nat → List Int
  | 0 => x
  | k + 1 => lowStep (l.getD k default).a.toNat (l.getD k default).b.toNat (wL ws k) (lowTo l ws x k)
theorem lowTo_length (l : List Edg) (ws x : List Int) : ∀ k, (lowTo l ws x k).length = x.length := by
  intro k
  induction k with
  | zero => rfl
  | succ k ih => simp [lowTo, lowStep, ih]
def SpBd (ws : List Int) : Prop := ∀ i, -20000 ≤ (wL ws i).1 ∧ (wL ws i).1 ≤ 20000 ∧ -20000 ≤ (wL ws i).2 ∧ (wL ws i).2 ≤ 20000
theorem lowTo_bd (l : List Edg) (ws x : List Int) (hw : SpBd ws) (hx : ∀ i, -100000 ≤ x.getD i 0 ∧ x.getD i 0 ≤ 100000) : ∀ (k : Nat) (i : Nat), -100000 - 40000 * (k : Int) ≤ (lowTo l ws x k).getD i 0 ∧ (lowTo l ws x k).getD i 0 ≤ 100000 := by
  intro k
  induction k with
  | zero => intro i; have := hx i; simp only [lowTo]; omega
  | succ k ih =>
    intro i
    have h1 := ih i
    have h2 := ih (l.getD k default).a.toNat
    have h3 := ih (l.getD k default).b.toNat
    have h4 := hw k
    simp only [lowTo, lowStep, getD_set]
    push_cast
    generalize (l.getD k default).a.toNat = a at *
    generalize (l.getD k default).b.toNat = b at *
    generalize (lowTo l ws x k).getD a 0 = xa at *
    generalize (lowTo l ws x k).getD b 0 = xb at *
    split <;> split <;> (try split) <;> omega
theorem ch_result {fn : Func} {p : Tmp} (h : fn.results = #[.cell p 96]) (tmps : Array Value) (w : World) (g : Nat) (m : List Int)
    (hp : tmps.getD p undef = .pointer (some ⟨g, 0, none⟩)) (hF : ChBlk w g m) (hm : m.length = 5) : (results fn tmps).run Try.prog w = .ok (.agg (chC m)) w :=
  results_cell_row h tmps w g 96 (chC m) (0, 0) _ hp hF Try.underlying96 rfl (by rw [chSize, ch_size, hm])
set_option maxRecDepth 100000 in
set_option maxHeartbeats 8000000 in
theorem lowered_any (c : Cas) (sv ev : Value) (ws : List Int) (hw : ws.length = 16) (hsb : SpBd ws) (x : List Int) (hxl : x.length = 5) (hx : ∀ i, -100000 ≤ x.getD i 0 ∧ x.getD i 0 ≤ 100000) (w : World) (hC : CasAt w c sv ev) (hv : Valid c) :
    Calls Try.prog 86 #[.agg (lkC c.tol sv ev ws), .agg (chC x)] w fun e w' => e = .returned (.agg (chC (lowTo c.eds ws x c.eds.length))) ∧ Below w.heap.size w w' := by
  obtain ⟨tol, shs, eds⟩ := c
  obtain ⟨hS, hE⟩ := hC
  simp only at hS hE ⊢
  obtain ⟨ls, sa, sc, rfl, lsc, hsn, _⟩ := id hS
  obtain ⟨le, ea, ec, rfl, lec, _⟩ := id hE
  have n5 : shs.length ≤ 5 := hv.n5
  have m8 : eds.length ≤ 8 := hv.m8
  have HEO := Lib.hid hv.ed
  obtain ⟨n, hn⟩ : ∃ n, shs.length = n := ⟨_, rfl⟩
  obtain ⟨m, hm⟩ : ∃ m, eds.length = m := ⟨_, rfl⟩
  simp only [hn] at ls lsc hS n5 HEO ⊢
  simp only [hm] at le lec hE m8 ⊢
  have HNN := Lib.hid hn
  have HMM := Lib.hid hm
  have HE := Lib.hid hE
  have HW := Lib.hid hw
  have HSB := Lib.hid hsb
  have nI : (n : Int) ≤ 5 := by omega
  have mI : (m : Int) ≤ 8 := by omega
  have HX := Lib.hid hx
  have HXL := Lib.hid hxl
  obtain ⟨W, hW, q1, q2, q3, hb, hsz⟩ := al3 w (Obj.cells (lkC tol (.slice sa n sc) (.slice ea m ec) ws) 89) (Obj.cells (chC x) 96) (Obj.cells (chC z5) 96)
  have HK : Hid (LkBlk W w.heap.size tol (.slice sa n sc) (.slice ea m ec) ws) := q1
  have HKX : Hid (ChBlk W (w.heap.size + 1) x) := q2
  have HKZ : Hid (ChBlk W (w.heap.size + 1 + 1) z5) := q3
  have HB := Lib.hid hb
  have HWW := Lib.hid hW
  have HSZ := Lib.hid hsz
  have c1 : (((w.alloc (Obj.cells (lkC tol (.slice sa n sc) (.slice ea m ec) ws) 89)).alloc (Obj.cells (chC x) 96)).alloc (Obj.cells (chC z5) 96)).cell? ⟨w.heap.size, 2, none⟩ = some (.slice ea m ec) := by rw [hW]; exact HK.out.c2
  have hz := (zero_of_info chZero).1
  clear hW q1 q2 q3 hb hsz hS hE hv hn hm hsn hw hsb le lec ls lsc hx hxl
  go_enter Try.func86, Try.ntmps86
  go_wp2_with fail
  clear c1 hz
  rw [HWW.out]
  clear HWW
  go_loopg [11] m (fun g v wr => ∃ k : Nat, g + k = m ∧ v = .int .i64 k ∧ Hid (LkBlk wr w.heap.size tol (.slice sa n sc) (.slice ea m ec) ws) ∧ Hid (ChBlk wr (w.heap.size + 1) (lowTo eds ws x k)) ∧ Hid (ChBlk wr (w.heap.size + 1 + 1) z5) ∧ Hid (Below w.heap.size w wr))
  case atStart => exact ⟨0, by omega, rfl, HK, HKX, HKZ, HB⟩
  case round =>
    clear HK HKX HKZ HB
    obtain ⟨k, hk, rfl, HK, HKX, HKZ, HB⟩ := hrel
    by_cases hkm : k < m
    · have kI : (k : Int) < (m : Int) := by omega
      have k8 : (k : Int) < 8 := by omega
      have hk' : k < eds.length := by rw [HMM.out]; exact hkm
      obtain ⟨eb, eo, pa, pc, rfl, d0, d1, d2, hpp⟩ := (HE.out.below HB.out).get hk'
      have hok := HEO.out eds[k] (List.getElem_mem hk')
      have hget : eds.getD k default = eds[k] := by simp [List.getD_eq_getElem?_getD, hk']
      have HLS : Hid (lowTo eds ws x (k + 1) = lowStep eds[k].a.toNat eds[k].b.toNat (wL ws k) (lowTo eds ws x k)) := by show _ = _; rw [← hget]; rfl
      have HBD := Lib.hid (lowTo_bd eds ws x HSB.out HX.out k)
      have hsb := HSB.out k
      have HTL : Hid ((lowTo eds ws x k).length = 5) := by show _ = _; rw [lowTo_length]; exact HXL.out
      obtain ⟨x0, x1⟩ := HK.out.span k (by omega) HW.out
      generalize eds[k] = d at *
      generalize lowTo eds ws x k = X at *
      have HLO : Hid ((wL ws k).1 = (wL ws k).1) := rfl
      obtain ⟨s, hs⟩ : ∃ s, wL ws k = s := ⟨_, rfl⟩
      clear HLO
      rw [hs] at x0 x1 hsb HLS
      have HSS := Lib.hid hs
      clear hs
      obtain ⟨lo, up⟩ := s
      have HLO : Hid ((wL ws k).1 = lo) := by show _ = _; rw [HSS.out]
      simp only at x0 x1 hsb
      obtain ⟨da, db, ps⟩ := d
      simp only at d0 d1 d2 hpp
      obtain ⟨q1, q2, q3, q4, q5, q6, q7, q8⟩ := hok
      simp only at q1 q2 q3 q4 q5 q6 q7
      obtain ⟨an, rfl⟩ : ∃ an : Nat, da = an := ⟨da.toNat, by omega⟩
      obtain ⟨bn, rfl⟩ : ∃ bn : Nat, db = bn := ⟨db.toNat, by omega⟩
      have a5 : (an : Int) < 5 := by omega
      have b5 : (bn : Int) < 5 := by omega
      have a5n : an < 5 := by omega
      have b5n : bn < 5 := by omega
      obtain ⟨np, hnp⟩ : ∃ np, ps.length = np := ⟨_, rfl⟩
      rw [hnp] at d2
      have hsl := World.block_lt_of_cell? wr ⟨eb, eo + k * 3, none⟩ d0
      simp only [Int.toNat_natCast] at HLS
      obtain ⟨b1, b2, b3, b4⟩ := hsb
      have q5' : an ≠ bn := by intro e; exact q5 (by rw [e])
      have HLS2 : Hid (lowTo eds ws x (k + 1) = (X.set an (min (X.getD an 0) (X.getD bn 0 + up))).set bn (min (X.getD bn 0) (min (X.getD an 0) (X.getD bn 0 + up) - lo))) := by
        show _ = _
        rw [HLS.out]
        unfold lowStep
        simp only [getD_set]
        have hl := HTL.out
        simp [q5', show an < X.length by omega]
      have ya := HKX.out.cell an (by rw [HTL.out]; omega)
      have yb := HKX.out.cell bn (by rw [HTL.out]; omega)
      obtain ⟨xa1, xa2⟩ := HBD.out an
      obtain ⟨xb1, xb2⟩ := HBD.out bn
      obtain ⟨xa, hxa⟩ : ∃ v, X.getD an 0 = v := ⟨_, rfl⟩
      obtain ⟨xb, hxb⟩ : ∃ v, X.getD bn 0 = v := ⟨_, rfl⟩
      have HXB0 := Lib.hid hxb
      rw [hxa] at ya xa1 xa2 HLS2
      rw [hxb] at yb xb1 xb2 HLS2
      obtain ⟨mn, hmn⟩ : ∃ v, min xa (xb + up) = v := ⟨_, rfl⟩
      rw [hmn] at HLS2
      obtain ⟨mm, hmm⟩ : ∃ v, min xb (mn - lo) = v := ⟨_, rfl⟩
      rw [hmm] at HLS2
      have k8n : k < 8 := by omega
      have s1 : IntKind.i64.wrap (xb + up) = xb + up := by rw [IntKind.wrap_i64] <;> omega
      have s2 : IntKind.i64.wrap (mn - lo) = mn - lo := by rw [IntKind.wrap_i64] <;> omega
      have hba : Below wr.heap.size wr (wr.alloc (Obj.cells #[.int .i64 (an : Int), .int .i64 (bn : Int), .slice pa np pc] 71)) := by go_grown
      have HEB := Lib.hid (heap_alloc_new wr (Obj.cells #[.int .i64 (an : Int), .int .i64 (bn : Int), .slice pa np pc] 71))
      have HKa := Lib.hid (HK.out.below hba HK.out.lt)
      have HXa := Lib.hid (HKX.out.below hba HKX.out.lt)
      have HZa := Lib.hid (HKZ.out.below hba HKZ.out.lt)
      have HBa := Lib.hid (HB.out.trans (hba.mono HB.out.size))
      have HXB := Lib.hid HKX.out.lt
      have ya' := keepK ya hba
      have yb' := keepK yb hba
      have x0' := keepK x0 hba
      have x1' := keepK x1 hba
      clear hget hk' hba hpp hxa hxb hnp HLS HBD
      go_wp2_with fail
      generalize hwa : wr.alloc (Obj.cells #[.int .i64 (an : Int), .int .i64 (bn : Int), .slice pa np pc] 71) = wa at *
      clear hwa d0 d1 d2 x0 x1 ya yb hsl
      have e0 := cellOf HEB.out 0 _ rfl
      have e1 := cellOf HEB.out 1 _ rfl
      have fz := frozen_of_row _ _ an _ _ HXa.out
      have gl := HXa.out.lt
      refine wp_region_noPanic ?_
      refine wp_region_last (S := (fun W' => W'.cell? ⟨wr.heap.size, 0, none⟩ = some (.int .i64 (an : Int)) ∧ W'.cell? ⟨wr.heap.size, 1, none⟩ = some (.int .i64 (bn : Int)) ∧ W'.cell? ⟨w.heap.size + 1, an, none⟩ = some (.int .i64 xa) ∧ W'.cell? ⟨w.heap.size + 1, bn, none⟩ = some (.int .i64 xb) ∧ W'.cell? ⟨w.heap.size, 3 + k * 2 + 1, none⟩ = some (.int .i64 up))) 18 (by kernel_rfl) (by decide) (fun inv0 => ?_)
      have hh0 := (show _ ∧ _ ∧ _ ∧ _ ∧ _ from ⟨e0, e1, ya', yb', x1'⟩)
      refine wpAnyZ_take (i := 0) (v := ?_) rfl (Lib.hid ⟨by as_aux_lemma => kernel_rfl, by as_aux_lemma => kernel_rfl, by as_aux_lemma => kernel_rfl, rfl⟩) (by decide) inv0 (by as_aux_lemma => kernel_rfl) (by as_aux_lemma => kernel_rfl) (fun _ _ _ h => h) (Or.inl ⟨by rfl, ?_⟩) hh0 (fun inv1 => ?_)
      rotate_left
      · intro w hSw
        try dsimp only at hSw
        go_simp
        try with_reducible rfl
      clear inv0
      try simp only [Act.put, List.getElem_toArray, List.getElem_cons_succ, List.getElem_cons_zero, List.setIfInBounds_toArray, List.set_cons_zero, List.set_cons_succ]
      refine wpAnyZ_take (i := 1) (v := ?_) rfl (Lib.hid ⟨by as_aux_lemma => kernel_rfl, by as_aux_lemma => kernel_rfl, by as_aux_lemma => kernel_rfl, rfl⟩) (by decide) inv1 (by as_aux_lemma => kernel_rfl) (by as_aux_lemma => kernel_rfl) (fun _ _ _ h => h) (Or.inl ⟨by rfl, ?_⟩) hh0 (fun inv2 => ?_)
      rotate_left
      · intro w hSw
        try dsimp only at hSw
        go_simp
        try with_reducible rfl
      clear inv1
      try simp only [Act.put, List.getElem_toArray, List.getElem_cons_succ, List.getElem_cons_zero, List.setIfInBounds_toArray, List.set_cons_zero, List.set_cons_succ]
      refine wpAnyZ_take (i := 2) (v := ?_) rfl (Lib.hid ⟨by as_aux_lemma => kernel_rfl, by as_aux_lemma => kernel_rfl, by as_aux_lemma => kernel_rfl, rfl⟩) (by decide) inv2 (by as_aux_lemma => kernel_rfl) (by as_aux_lemma => kernel_rfl) (fun _ _ _ h => h) (Or.inl ⟨by rfl, ?_⟩) hh0 (fun inv3 => ?_)
      rotate_left
      · intro w hSw
        try dsimp only at hSw
        go_simp
        try with_reducible rfl
      clear inv2
      try simp only [Act.put, List.getElem_toArray, List.getElem_cons_succ, List.getElem_cons_zero, List.setIfInBounds_toArray, List.set_cons_zero, List.set_cons_succ]
      refine wpAnyZ_take (i := 3) (v := ?_) rfl (Lib.hid ⟨by as_aux_lemma => kernel_rfl, by as_aux_lemma => kernel_rfl, by as_aux_lemma => kernel_rfl, rfl⟩) (by decide) inv3 (by as_aux_lemma => kernel_rfl) (by as_aux_lemma => kernel_rfl) (fun _ _ _ h => h) (Or.inl ⟨by rfl, ?_⟩) hh0 (fun inv4 => ?_)
      rotate_left
      · intro w hSw
        try dsimp only at hSw
        go_simp
        try with_reducible rfl
      clear inv3
      try simp only [Act.put, List.getElem_toArray, List.getElem_cons_succ, List.getElem_cons_zero, List.setIfInBounds_toArray, List.set_cons_zero, List.set_cons_succ]
      refine wpAnyZ_take (i := 4) (v := ?_) rfl (Lib.hid ⟨by as_aux_lemma => kernel_rfl, by as_aux_lemma => kernel_rfl, by as_aux_lemma => kernel_rfl, rfl⟩) (by decide) inv4 (by as_aux_lemma => kernel_rfl) (by as_aux_lemma => kernel_rfl) (fun _ _ _ h => h) (Or.inl ⟨by rfl, ?_⟩) hh0 (fun inv5 => ?_)
      rotate_left
      · intro w hSw
        try dsimp only at hSw
        go_simp
        try with_reducible rfl
      clear inv4
      try simp only [Act.put, List.getElem_toArray, List.getElem_cons_succ, List.getElem_cons_zero, List.setIfInBounds_toArray, List.set_cons_zero, List.set_cons_succ]
      refine wpAnyZ_take (i := 5) (v := ?_) rfl (Lib.hid ⟨by as_aux_lemma => kernel_rfl, by as_aux_lemma => kernel_rfl, by as_aux_lemma => kernel_rfl, rfl⟩) (by decide) inv5 (by as_aux_lemma => kernel_rfl) (by as_aux_lemma => kernel_rfl) (fun _ _ _ h => h) (Or.inl ⟨by rfl, ?_⟩) hh0 (fun inv6 => ?_)
      rotate_left
      · intro w hSw
        try dsimp only at hSw
        go_simp
        try with_reducible rfl
      clear inv5
      try simp only [Act.put, List.getElem_toArray, List.getElem_cons_succ, List.getElem_cons_zero, List.setIfInBounds_toArray, List.set_cons_zero, List.set_cons_succ]
      refine wpAnyZ_take (i := 6) (v := ?_) rfl (Lib.hid ⟨by as_aux_lemma => kernel_rfl, by as_aux_lemma => kernel_rfl, by as_aux_lemma => kernel_rfl, rfl⟩) (by decide) inv6 (by as_aux_lemma => kernel_rfl) (by as_aux_lemma => kernel_rfl) (fun _ _ _ h => h) (Or.inl ⟨by rfl, ?_⟩) hh0 (fun inv7 => ?_)
      rotate_left
      · intro w hSw
        try dsimp only at hSw
        go_simp
        try with_reducible rfl
      clear inv6
      try simp only [Act.put, List.getElem_toArray, List.getElem_cons_succ, List.getElem_cons_zero, List.setIfInBounds_toArray, List.set_cons_zero, List.set_cons_succ]
      refine wpAnyZ_take (i := 7) (v := ?_) rfl (Lib.hid ⟨by as_aux_lemma => kernel_rfl, by as_aux_lemma => kernel_rfl, by as_aux_lemma => kernel_rfl, rfl⟩) (by decide) inv7 (by as_aux_lemma => kernel_rfl) (by as_aux_lemma => kernel_rfl) (fun _ _ _ h => h) (Or.inl ⟨by rfl, ?_⟩) hh0 (fun inv8 => ?_)
      rotate_left
      · intro w hSw
        try dsimp only at hSw
        go_simp
        try with_reducible rfl
      clear inv7
      try simp only [Act.put, List.getElem_toArray, List.getElem_cons_succ, List.getElem_cons_zero, List.setIfInBounds_toArray, List.set_cons_zero, List.set_cons_succ]
      refine wpAnyZ_take (i := 8) (v := ?_) rfl (Lib.hid ⟨by as_aux_lemma => kernel_rfl, by as_aux_lemma => kernel_rfl, by as_aux_lemma => kernel_rfl, rfl⟩) (by decide) inv8 (by as_aux_lemma => kernel_rfl) (by as_aux_lemma => kernel_rfl) (fun _ _ _ h => h) (Or.inl ⟨by rfl, ?_⟩) hh0 (fun inv9 => ?_)
      rotate_left
      · intro w hSw
        try dsimp only at hSw
        go_simp
        try with_reducible rfl
      clear inv8
      try simp only [Act.put, List.getElem_toArray, List.getElem_cons_succ, List.getElem_cons_zero, List.setIfInBounds_toArray, List.set_cons_zero, List.set_cons_succ]
      refine wpAnyZ_take (i := 9) (v := ?_) rfl (Lib.hid ⟨by as_aux_lemma => kernel_rfl, by as_aux_lemma => kernel_rfl, by as_aux_lemma => kernel_rfl, rfl⟩) (by decide) inv9 (by as_aux_lemma => kernel_rfl) (by as_aux_lemma => kernel_rfl) (fun _ _ _ h => h) (Or.inl ⟨by rfl, ?_⟩) hh0 (fun inv10 => ?_)
      rotate_left
      · intro w hSw
        try dsimp only at hSw
        go_simp
        try with_reducible rfl
      clear inv9
      try simp only [Act.put, List.getElem_toArray, List.getElem_cons_succ, List.getElem_cons_zero, List.setIfInBounds_toArray, List.set_cons_zero, List.set_cons_succ]
      refine wpAnyZ_take (i := 10) (v := ?_) rfl (Lib.hid ⟨by as_aux_lemma => kernel_rfl, by as_aux_lemma => kernel_rfl, by as_aux_lemma => kernel_rfl, rfl⟩) (by decide) inv10 (by as_aux_lemma => kernel_rfl) (by as_aux_lemma => kernel_rfl) (fun _ _ _ h => h) (Or.inl ⟨by rfl, ?_⟩) hh0 (fun inv11 => ?_)
      rotate_left
      · intro w hSw
        try dsimp only at hSw
        go_simp
        try with_reducible rfl
      clear inv10
      try simp only [Act.put, List.getElem_toArray, List.getElem_cons_succ, List.getElem_cons_zero, List.setIfInBounds_toArray, List.set_cons_zero, List.set_cons_succ]
      refine wpAnyZ_take (i := 11) (v := ?_) rfl (Lib.hid ⟨by as_aux_lemma => kernel_rfl, by as_aux_lemma => kernel_rfl, by as_aux_lemma => kernel_rfl, rfl⟩) (by decide) inv11 (by as_aux_lemma => kernel_rfl) (by as_aux_lemma => kernel_rfl) (fun _ _ _ h => h) (Or.inl ⟨by rfl, ?_⟩) hh0 (fun inv12 => ?_)
      rotate_left
      · intro w hSw
        try dsimp only at hSw
        go_simp
        try with_reducible rfl
      clear inv11
      try simp only [Act.put, List.getElem_toArray, List.getElem_cons_succ, List.getElem_cons_zero, List.setIfInBounds_toArray, List.set_cons_zero, List.set_cons_succ]
      refine wpAnyZ_take (i := 12) (v := ?_) rfl (Lib.hid ⟨by as_aux_lemma => kernel_rfl, by as_aux_lemma => kernel_rfl, by as_aux_lemma => kernel_rfl, rfl⟩) (by decide) inv12 (by as_aux_lemma => kernel_rfl) (by as_aux_lemma => kernel_rfl) (fun _ _ _ h => h) (Or.inl ⟨by rfl, ?_⟩) hh0 (fun inv13 => ?_)
      rotate_left
      · intro w hSw
        try dsimp only at hSw
        go_simp
        try with_reducible rfl
      clear inv12
      try simp only [Act.put, List.getElem_toArray, List.getElem_cons_succ, List.getElem_cons_zero, List.setIfInBounds_toArray, List.set_cons_zero, List.set_cons_succ]
      refine wpAnyZ_take (i := 13) (v := ?_) rfl (Lib.hid ⟨by as_aux_lemma => kernel_rfl, by as_aux_lemma => kernel_rfl, by as_aux_lemma => kernel_rfl, rfl⟩) (by decide) inv13 (by as_aux_lemma => kernel_rfl) (by as_aux_lemma => kernel_rfl) (fun _ _ _ h => h) (Or.inl ⟨by rfl, ?_⟩) hh0 (fun inv14 => ?_)
      rotate_left
      · intro w hSw
        try dsimp only at hSw
        go_simp
        try with_reducible rfl
      clear inv13
      try simp only [Act.put, List.getElem_toArray, List.getElem_cons_succ, List.getElem_cons_zero, List.setIfInBounds_toArray, List.set_cons_zero, List.set_cons_succ]
      refine wpAnyZ_take (i := 14) (v := ?_) rfl (Lib.hid ⟨by as_aux_lemma => kernel_rfl, by as_aux_lemma => kernel_rfl, by as_aux_lemma => kernel_rfl, rfl⟩) (by decide) inv14 (by as_aux_lemma => kernel_rfl) (by as_aux_lemma => kernel_rfl) (fun _ _ _ h => h) (Or.inl ⟨by rfl, ?_⟩) hh0 (fun inv15 => ?_)
      rotate_left
      · intro w hSw
        try dsimp only at hSw
        go_simp
        try with_reducible rfl
      clear inv14
      try simp only [Act.put, List.getElem_toArray, List.getElem_cons_succ, List.getElem_cons_zero, List.setIfInBounds_toArray, List.set_cons_zero, List.set_cons_succ]
      refine wpAnyZ_take (i := 15) (v := ?_) rfl (Lib.hid ⟨by as_aux_lemma => kernel_rfl, by as_aux_lemma => kernel_rfl, by as_aux_lemma => kernel_rfl, rfl⟩) (by decide) inv15 (by as_aux_lemma => kernel_rfl) (by as_aux_lemma => kernel_rfl) (fun _ _ _ h => h) (Or.inl ⟨by rfl, ?_⟩) hh0 (fun inv16 => ?_)
      rotate_left
      · intro w hSw
        try dsimp only at hSw
        go_simp
        try with_reducible rfl
      clear inv15
      try simp only [Act.put, List.getElem_toArray, List.getElem_cons_succ, List.getElem_cons_zero, List.setIfInBounds_toArray, List.set_cons_zero, List.set_cons_succ]
      refine wpAnyZ_take (i := 16) (v := ?_) rfl (Lib.hid ⟨by as_aux_lemma => kernel_rfl, by as_aux_lemma => kernel_rfl, by as_aux_lemma => kernel_rfl, rfl⟩) (by decide) inv16 (by as_aux_lemma => kernel_rfl) (by as_aux_lemma => kernel_rfl) (fun _ _ _ h => h) (Or.inl ⟨by rfl, ?_⟩) hh0 (fun inv17 => ?_)
      rotate_left
      · intro w hSw
        try dsimp only at hSw
        go_simp
        try with_reducible rfl
      clear inv16
      try simp only [Act.put, List.getElem_toArray, List.getElem_cons_succ, List.getElem_cons_zero, List.setIfInBounds_toArray, List.set_cons_zero, List.set_cons_succ]
      refine wpAnyZ_take (i := 17) (v := ?_) rfl (Lib.hid ⟨by as_aux_lemma => kernel_rfl, by as_aux_lemma => kernel_rfl, by as_aux_lemma => kernel_rfl, rfl⟩) (by decide) inv17 (by as_aux_lemma => kernel_rfl) (by as_aux_lemma => kernel_rfl) (fun _ _ _ h => h) (Or.inl ⟨by rfl, ?_⟩) hh0 (fun inv18 => ?_)
      rotate_left
      · intro w hSw
        try dsimp only at hSw
        go_simp
        try with_reducible rfl
      clear inv17
      try simp only [Act.put, List.getElem_toArray, List.getElem_cons_succ, List.getElem_cons_zero, List.setIfInBounds_toArray, List.set_cons_zero, List.set_cons_succ]
      refine wpAnyZ_all (rs := [18]) (by as_aux_lemma => kernel_rfl) (by simp) ?_
      intro i hi
      obtain rfl : i = 18 := by simpa using hi
      refine step_Z rfl (fun K hK => ?_)
      go_simp
      refine hK.out _ _ (fun h => absurd rfl h) ?_
      clear hK K
      try simp only [Act.put, List.getElem_toArray, List.getElem_cons_succ, List.getElem_cons_zero, List.setIfInBounds_toArray, List.set_cons_zero, List.set_cons_succ]
      refine wpAnyZ_done (by as_aux_lemma => kernel_rfl) ?_ _
      refine NoPanic.normal ?_
      go_wp2_with fail
      rw [show (Value.int IntKind.i64 (xb + up) : Value) = .int .i64 mn from congrArg _ (by omega)]
      rotate_left
      rw [show (Value.int IntKind.i64 xa : Value) = .int .i64 mn from congrArg _ (by omega)]
      rotate_left
      all_goals
        have HX2 : Hid (ChBlk ((wa.setCell ⟨w.heap.size + 1, an, none⟩ (.int .i64 mn)).drew) (w.heap.size + 1) (X.set an mn)) := HXa.out.set an mn
        have HK2 : Hid (LkBlk ((wa.setCell ⟨w.heap.size + 1, an, none⟩ (.int .i64 mn)).drew) w.heap.size tol (.slice sa n sc) (.slice (some ⟨eb, eo, none⟩) m ec) ws) := (heap_setCell_other wa (⟨w.heap.size + 1, an, none⟩ : Addr) w.heap.size _ (by show w.heap.size ≠ w.heap.size + 1; omega)).trans HKa.out
        have HZ2 : Hid (ChBlk ((wa.setCell ⟨w.heap.size + 1, an, none⟩ (.int .i64 mn)).drew) (w.heap.size + 1 + 1) z5) := (heap_setCell_other wa (⟨w.heap.size + 1, an, none⟩ : Addr) (w.heap.size + 1 + 1) _ (by show w.heap.size + 1 + 1 ≠ w.heap.size + 1; omega)).trans HZa.out
        have HE2 : Hid (((wa.setCell ⟨w.heap.size + 1, an, none⟩ (.int .i64 mn)).drew).heap[wr.heap.size]? = some (.cells #[.int .i64 (an : Int), .int .i64 (bn : Int), .slice pa np pc] 71 (0, 0))) := (heap_setCell_other wa (⟨w.heap.size + 1, an, none⟩ : Addr) wr.heap.size _ (by show wr.heap.size ≠ w.heap.size + 1; have := HXB.out; omega)).trans HEB.out
        have HB2 : Hid (Below w.heap.size w ((wa.setCell ⟨w.heap.size + 1, an, none⟩ (.int .i64 mn)).drew)) := (HBa.out.setCell (p := ⟨w.heap.size + 1, an, none⟩) (show w.heap.size ≤ w.heap.size + 1 by omega) _).trans ⟨rfl, rfl, rfl, Nat.le_refl _, fun _ _ => rfl⟩
        clear e0 e1 fz gl ya' yb' x0' x1' HKa HXa HZa HBa HEB
        generalize HWW : (wa.setCell ⟨w.heap.size + 1, an, none⟩ (.int .i64 mn)).drew = wb at *
        clear HWW
        have e0 := cellOf HE2.out 0 _ rfl
        have e1 := cellOf HE2.out 1 _ rfl
        have fz := frozen_of_row _ _ bn _ _ HX2.out
        have gl := HX2.out.lt
        have yb2 : wb.cell? ⟨w.heap.size + 1, bn, none⟩ = some (.int .i64 xb) := by have h := HX2.out.cell bn (by rw [List.length_set, HTL.out]; omega); rw [getD_set, if_neg (fun h => q5' h.1), HXB0.out] at h; exact h
        have ya2 : wb.cell? ⟨w.heap.size + 1, an, none⟩ = some (.int .i64 mn) := by have h := HX2.out.cell an (by rw [List.length_set, HTL.out]; omega); rw [getD_set, if_pos ⟨rfl, by rw [HTL.out]; omega⟩] at h; exact h
        obtain ⟨x0, _⟩ := HK2.out.span k (by omega) HW.out
        have x0' : wb.cell? ⟨w.heap.size, 3 + k * 2, none⟩ = some (.int .i64 lo) := by rw [x0, HLO.out]
        clear x0
        refine wp_region_noPanic ?_
        refine wp_region_last (S := (fun W' => W'.cell? ⟨wr.heap.size, 0, none⟩ = some (.int .i64 (an : Int)) ∧ W'.cell? ⟨wr.heap.size, 1, none⟩ = some (.int .i64 (bn : Int)) ∧ W'.cell? ⟨w.heap.size + 1, an, none⟩ = some (.int .i64 mn) ∧ W'.cell? ⟨w.heap.size + 1, bn, none⟩ = some (.int .i64 xb) ∧ W'.cell? ⟨w.heap.size, 3 + k * 2, none⟩ = some (.int .i64 lo))) 18 (by kernel_rfl) (by decide) (fun inv0 => ?_)
        have hh0 := (show _ ∧ _ ∧ _ ∧ _ ∧ _ from ⟨e0, e1, ya2, yb2, x0'⟩)
        refine wpAnyZ_take (i := 0) (v := ?_) rfl (Lib.hid ⟨by as_aux_lemma => kernel_rfl, by as_aux_lemma => kernel_rfl, by as_aux_lemma => kernel_rfl, rfl⟩) (by decide) inv0 (by as_aux_lemma => kernel_rfl) (by as_aux_lemma => kernel_rfl) (fun _ _ _ h => h) (Or.inl ⟨by rfl, ?_⟩) hh0 (fun inv1 => ?_)
        rotate_left
        · intro w hSw
          try dsimp only at hSw
          go_simp
          try with_reducible rfl
        clear inv0
        try simp only [Act.put, List.getElem_toArray, List.getElem_cons_succ, List.getElem_cons_zero, List.setIfInBounds_toArray, List.set_cons_zero, List.set_cons_succ]
        refine wpAnyZ_take (i := 1) (v := ?_) rfl (Lib.hid ⟨by as_aux_lemma => kernel_rfl, by as_aux_lemma => kernel_rfl, by as_aux_lemma => kernel_rfl, rfl⟩) (by decide) inv1 (by as_aux_lemma => kernel_rfl) (by as_aux_lemma => kernel_rfl) (fun _ _ _ h => h) (Or.inl ⟨by rfl, ?_⟩) hh0 (fun inv2 => ?_)
        rotate_left
        · intro w hSw
          try dsimp only at hSw
          go_simp
          try with_reducible rfl
        clear inv1
        try simp only [Act.put, List.getElem_toArray, List.getElem_cons_succ, List.getElem_cons_zero, List.setIfInBounds_toArray, List.set_cons_zero, List.set_cons_succ]
        refine wpAnyZ_take (i := 2) (v := ?_) rfl (Lib.hid ⟨by as_aux_lemma => kernel_rfl, by as_aux_lemma => kernel_rfl, by as_aux_lemma => kernel_rfl, rfl⟩) (by decide) inv2 (by as_aux_lemma => kernel_rfl) (by as_aux_lemma => kernel_rfl) (fun _ _ _ h => h) (Or.inl ⟨by rfl, ?_⟩) hh0 (fun inv3 => ?_)
        rotate_left
        · intro w hSw
          try dsimp only at hSw
          go_simp
          try with_reducible rfl
        clear inv2
        try simp only [Act.put, List.getElem_toArray, List.getElem_cons_succ, List.getElem_cons_zero, List.setIfInBounds_toArray, List.set_cons_zero, List.set_cons_succ]
        refine wpAnyZ_take (i := 3) (v := ?_) rfl (Lib.hid ⟨by as_aux_lemma => kernel_rfl, by as_aux_lemma => kernel_rfl, by as_aux_lemma => kernel_rfl, rfl⟩) (by decide) inv3 (by as_aux_lemma => kernel_rfl) (by as_aux_lemma => kernel_rfl) (fun _ _ _ h => h) (Or.inl ⟨by rfl, ?_⟩) hh0 (fun inv4 => ?_)
        rotate_left
        · intro w hSw
          try dsimp only at hSw
          go_simp
          try with_reducible rfl
        clear inv3
        try simp only [Act.put, List.getElem_toArray, List.getElem_cons_succ, List.getElem_cons_zero, List.setIfInBounds_toArray, List.set_cons_zero, List.set_cons_succ]
        refine wpAnyZ_take (i := 4) (v := ?_) rfl (Lib.hid ⟨by as_aux_lemma => kernel_rfl, by as_aux_lemma => kernel_rfl, by as_aux_lemma => kernel_rfl, rfl⟩) (by decide) inv4 (by as_aux_lemma => kernel_rfl) (by as_aux_lemma => kernel_rfl) (fun _ _ _ h => h) (Or.inl ⟨by rfl, ?_⟩) hh0 (fun inv5 => ?_)
        rotate_left
        · intro w hSw
          try dsimp only at hSw
          go_simp
          try with_reducible rfl
        clear inv4
        try simp only [Act.put, List.getElem_toArray, List.getElem_cons_succ, List.getElem_cons_zero, List.setIfInBounds_toArray, List.set_cons_zero, List.set_cons_succ]
        refine wpAnyZ_take (i := 5) (v := ?_) rfl (Lib.hid ⟨by as_aux_lemma => kernel_rfl, by as_aux_lemma => kernel_rfl, by as_aux_lemma => kernel_rfl, rfl⟩) (by decide) inv5 (by as_aux_lemma => kernel_rfl) (by as_aux_lemma => kernel_rfl) (fun _ _ _ h => h) (Or.inl ⟨by rfl, ?_⟩) hh0 (fun inv6 => ?_)
        rotate_left
        · intro w hSw
          try dsimp only at hSw
          go_simp
          try with_reducible rfl
        clear inv5
        try simp only [Act.put, List.getElem_toArray, List.getElem_cons_succ, List.getElem_cons_zero, List.setIfInBounds_toArray, List.set_cons_zero, List.set_cons_succ]
        refine wpAnyZ_take (i := 6) (v := ?_) rfl (Lib.hid ⟨by as_aux_lemma => kernel_rfl, by as_aux_lemma => kernel_rfl, by as_aux_lemma => kernel_rfl, rfl⟩) (by decide) inv6 (by as_aux_lemma => kernel_rfl) (by as_aux_lemma => kernel_rfl) (fun _ _ _ h => h) (Or.inl ⟨by rfl, ?_⟩) hh0 (fun inv7 => ?_)
        rotate_left
        · intro w hSw
          try dsimp only at hSw
          go_simp
          try with_reducible rfl
        clear inv6
        try simp only [Act.put, List.getElem_toArray, List.getElem_cons_succ, List.getElem_cons_zero, List.setIfInBounds_toArray, List.set_cons_zero, List.set_cons_succ]
        refine wpAnyZ_take (i := 7) (v := ?_) rfl (Lib.hid ⟨by as_aux_lemma => kernel_rfl, by as_aux_lemma => kernel_rfl, by as_aux_lemma => kernel_rfl, rfl⟩) (by decide) inv7 (by as_aux_lemma => kernel_rfl) (by as_aux_lemma => kernel_rfl) (fun _ _ _ h => h) (Or.inl ⟨by rfl, ?_⟩) hh0 (fun inv8 => ?_)
        rotate_left
        · intro w hSw
          try dsimp only at hSw
          go_simp
          try with_reducible rfl
        clear inv7
        try simp only [Act.put, List.getElem_toArray, List.getElem_cons_succ, List.getElem_cons_zero, List.setIfInBounds_toArray, List.set_cons_zero, List.set_cons_succ]
        refine wpAnyZ_take (i := 8) (v := ?_) rfl (Lib.hid ⟨by as_aux_lemma => kernel_rfl, by as_aux_lemma => kernel_rfl, by as_aux_lemma => kernel_rfl, rfl⟩) (by decide) inv8 (by as_aux_lemma => kernel_rfl) (by as_aux_lemma => kernel_rfl) (fun _ _ _ h => h) (Or.inl ⟨by rfl, ?_⟩) hh0 (fun inv9 => ?_)
        rotate_left
        · intro w hSw
          try dsimp only at hSw
          go_simp
          try with_reducible rfl
        clear inv8
        try simp only [Act.put, List.getElem_toArray, List.getElem_cons_succ, List.getElem_cons_zero, List.setIfInBounds_toArray, List.set_cons_zero, List.set_cons_succ]
        refine wpAnyZ_take (i := 9) (v := ?_) rfl (Lib.hid ⟨by as_aux_lemma => kernel_rfl, by as_aux_lemma => kernel_rfl, by as_aux_lemma => kernel_rfl, rfl⟩) (by decide) inv9 (by as_aux_lemma => kernel_rfl) (by as_aux_lemma => kernel_rfl) (fun _ _ _ h => h) (Or.inl ⟨by rfl, ?_⟩) hh0 (fun inv10 => ?_)
        rotate_left
        · intro w hSw
          try dsimp only at hSw
          go_simp
          try with_reducible rfl
        clear inv9
        try simp only [Act.put, List.getElem_toArray, List.getElem_cons_succ, List.getElem_cons_zero, List.setIfInBounds_toArray, List.set_cons_zero, List.set_cons_succ]
        refine wpAnyZ_take (i := 10) (v := ?_) rfl (Lib.hid ⟨by as_aux_lemma => kernel_rfl, by as_aux_lemma => kernel_rfl, by as_aux_lemma => kernel_rfl, rfl⟩) (by decide) inv10 (by as_aux_lemma => kernel_rfl) (by as_aux_lemma => kernel_rfl) (fun _ _ _ h => h) (Or.inl ⟨by rfl, ?_⟩) hh0 (fun inv11 => ?_)
        rotate_left
        · intro w hSw
          try dsimp only at hSw
          go_simp
          try with_reducible rfl
        clear inv10
        try simp only [Act.put, List.getElem_toArray, List.getElem_cons_succ, List.getElem_cons_zero, List.setIfInBounds_toArray, List.set_cons_zero, List.set_cons_succ]
        refine wpAnyZ_take (i := 11) (v := ?_) rfl (Lib.hid ⟨by as_aux_lemma => kernel_rfl, by as_aux_lemma => kernel_rfl, by as_aux_lemma => kernel_rfl, rfl⟩) (by decide) inv11 (by as_aux_lemma => kernel_rfl) (by as_aux_lemma => kernel_rfl) (fun _ _ _ h => h) (Or.inl ⟨by rfl, ?_⟩) hh0 (fun inv12 => ?_)
        rotate_left
        · intro w hSw
          try dsimp only at hSw
          go_simp
          try with_reducible rfl
        clear inv11
        try simp only [Act.put, List.getElem_toArray, List.getElem_cons_succ, List.getElem_cons_zero, List.setIfInBounds_toArray, List.set_cons_zero, List.set_cons_succ]
        refine wpAnyZ_take (i := 12) (v := ?_) rfl (Lib.hid ⟨by as_aux_lemma => kernel_rfl, by as_aux_lemma => kernel_rfl, by as_aux_lemma => kernel_rfl, rfl⟩) (by decide) inv12 (by as_aux_lemma => kernel_rfl) (by as_aux_lemma => kernel_rfl) (fun _ _ _ h => h) (Or.inl ⟨by rfl, ?_⟩) hh0 (fun inv13 => ?_)
        rotate_left
        · intro w hSw
          try dsimp only at hSw
          go_simp
          try with_reducible rfl
        clear inv12
        try simp only [Act.put, List.getElem_toArray, List.getElem_cons_succ, List.getElem_cons_zero, List.setIfInBounds_toArray, List.set_cons_zero, List.set_cons_succ]
        refine wpAnyZ_take (i := 13) (v := ?_) rfl (Lib.hid ⟨by as_aux_lemma => kernel_rfl, by as_aux_lemma => kernel_rfl, by as_aux_lemma => kernel_rfl, rfl⟩) (by decide) inv13 (by as_aux_lemma => kernel_rfl) (by as_aux_lemma => kernel_rfl) (fun _ _ _ h => h) (Or.inl ⟨by rfl, ?_⟩) hh0 (fun inv14 => ?_)
        rotate_left
        · intro w hSw
          try dsimp only at hSw
          go_simp
          try with_reducible rfl
        clear inv13
        try simp only [Act.put, List.getElem_toArray, List.getElem_cons_succ, List.getElem_cons_zero, List.setIfInBounds_toArray, List.set_cons_zero, List.set_cons_succ]
        refine wpAnyZ_take (i := 14) (v := ?_) rfl (Lib.hid ⟨by as_aux_lemma => kernel_rfl, by as_aux_lemma => kernel_rfl, by as_aux_lemma => kernel_rfl, rfl⟩) (by decide) inv14 (by as_aux_lemma => kernel_rfl) (by as_aux_lemma => kernel_rfl) (fun _ _ _ h => h) (Or.inl ⟨by rfl, ?_⟩) hh0 (fun inv15 => ?_)
        rotate_left
        · intro w hSw
          try dsimp only at hSw
          go_simp
          try with_reducible rfl
        clear inv14
        try simp only [Act.put, List.getElem_toArray, List.getElem_cons_succ, List.getElem_cons_zero, List.setIfInBounds_toArray, List.set_cons_zero, List.set_cons_succ]
        refine wpAnyZ_take (i := 15) (v := ?_) rfl (Lib.hid ⟨by as_aux_lemma => kernel_rfl, by as_aux_lemma => kernel_rfl, by as_aux_lemma => kernel_rfl, rfl⟩) (by decide) inv15 (by as_aux_lemma => kernel_rfl) (by as_aux_lemma => kernel_rfl) (fun _ _ _ h => h) (Or.inl ⟨by rfl, ?_⟩) hh0 (fun inv16 => ?_)
        rotate_left
        · intro w hSw
          try dsimp only at hSw
          go_simp
          try with_reducible rfl
        clear inv15
        try simp only [Act.put, List.getElem_toArray, List.getElem_cons_succ, List.getElem_cons_zero, List.setIfInBounds_toArray, List.set_cons_zero, List.set_cons_succ]
        refine wpAnyZ_take (i := 16) (v := ?_) rfl (Lib.hid ⟨by as_aux_lemma => kernel_rfl, by as_aux_lemma => kernel_rfl, by as_aux_lemma => kernel_rfl, rfl⟩) (by decide) inv16 (by as_aux_lemma => kernel_rfl) (by as_aux_lemma => kernel_rfl) (fun _ _ _ h => h) (Or.inl ⟨by rfl, ?_⟩) hh0 (fun inv17 => ?_)
        rotate_left
        · intro w hSw
          try dsimp only at hSw
          go_simp
          try with_reducible rfl
        clear inv16
        try simp only [Act.put, List.getElem_toArray, List.getElem_cons_succ, List.getElem_cons_zero, List.setIfInBounds_toArray, List.set_cons_zero, List.set_cons_succ]
        refine wpAnyZ_take (i := 17) (v := ?_) rfl (Lib.hid ⟨by as_aux_lemma => kernel_rfl, by as_aux_lemma => kernel_rfl, by as_aux_lemma => kernel_rfl, rfl⟩) (by decide) inv17 (by as_aux_lemma => kernel_rfl) (by as_aux_lemma => kernel_rfl) (fun _ _ _ h => h) (Or.inl ⟨by rfl, ?_⟩) hh0 (fun inv18 => ?_)
        rotate_left
        · intro w hSw
          try dsimp only at hSw
          go_simp
          try with_reducible rfl
        clear inv17
        try simp only [Act.put, List.getElem_toArray, List.getElem_cons_succ, List.getElem_cons_zero, List.setIfInBounds_toArray, List.set_cons_zero, List.set_cons_succ]
        refine wpAnyZ_all (rs := [18]) (by as_aux_lemma => kernel_rfl) (by simp) ?_
        intro i hi
        obtain rfl : i = 18 := by simpa using hi
        refine step_Z rfl (fun K hK => ?_)
        go_simp
        refine hK.out _ _ (fun h => absurd rfl h) ?_
        clear hK K
        try simp only [Act.put, List.getElem_toArray, List.getElem_cons_succ, List.getElem_cons_zero, List.setIfInBounds_toArray, List.set_cons_zero, List.set_cons_succ]
        refine wpAnyZ_done (by as_aux_lemma => kernel_rfl) ?_ _
        refine NoPanic.normal ?_
        go_wp2_with fail
        rw [show (Value.int IntKind.i64 (mn - lo) : Value) = .int .i64 mm from congrArg _ (by omega)]
        rotate_left
        rw [show (Value.int IntKind.i64 xb : Value) = .int .i64 mm from congrArg _ (by omega)]
        rotate_left
        all_goals
          have HX3 : Hid (ChBlk ((wb.setCell ⟨w.heap.size + 1, bn, none⟩ (.int .i64 mm)).drew) (w.heap.size + 1) (lowTo eds ws x (k + 1))) := by show ChBlk _ _ _; rw [HLS2.out]; exact HX2.out.set bn mm
          have HK3 : Hid (LkBlk ((wb.setCell ⟨w.heap.size + 1, bn, none⟩ (.int .i64 mm)).drew) w.heap.size tol (.slice sa n sc) (.slice (some ⟨eb, eo, none⟩) m ec) ws) := (heap_setCell_other wb (⟨w.heap.size + 1, bn, none⟩ : Addr) w.heap.size _ (by show w.heap.size ≠ w.heap.size + 1; omega)).trans HK2.out
          have HZ3 : Hid (ChBlk ((wb.setCell ⟨w.heap.size + 1, bn, none⟩ (.int .i64 mm)).drew) (w.heap.size + 1 + 1) z5) := (heap_setCell_other wb (⟨w.heap.size + 1, bn, none⟩ : Addr) (w.heap.size + 1 + 1) _ (by show w.heap.size + 1 + 1 ≠ w.heap.size + 1; omega)).trans HZ2.out
          have HB3 : Hid (Below w.heap.size w ((wb.setCell ⟨w.heap.size + 1, bn, none⟩ (.int .i64 mm)).drew)) := (HB2.out.setCell (p := ⟨w.heap.size + 1, bn, none⟩) (show w.heap.size ≤ w.heap.size + 1 by omega) _).trans ⟨rfl, rfl, rfl, Nat.le_refl _, fun _ _ => rfl⟩
          go_roundg (gk - 1)
          case measure => omega
          case rel => exact ⟨k + 1, by omega, by go_num, HK3, HX3, HZ3, HB3⟩
    · obtain rfl : k = m := by omega
      have kI : ¬ (k : Int) < (k : Int) := by omega
      clear hkm hk
      go_wp2_with (first
        | (refine ch_load rfl (.tmp 3) rfl (w.heap.size + 1) rfl (lowTo eds ws x k) HKX.out (by rw [lowTo_length]; exact HXL.out) ?_)
        | (refine ch_store rfl (.tmp 4) (.tmp 53) rfl (w.heap.size + 1 + 1) rfl (lowTo eds ws x k) z5 rfl HKZ.out (by rw [lowTo_length]; exact HXL.out) rfl rfl ?_))
      exact bodyPost_ret (ch_result rfl _ _ (w.heap.size + 1 + 1) (lowTo eds ws x k) rfl (HKZ.out.put _) (by rw [lowTo_length]; exact HXL.out)) rfl ⟨rfl, below_setRow HB.out (by omega) _⟩
end Go.Proofs.Ytojdocomkhihoaa
