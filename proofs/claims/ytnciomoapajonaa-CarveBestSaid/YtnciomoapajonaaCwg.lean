/- Package carve: Need. -/
import Derived.Test.YtnciomoapajonaaCwf
import Derived.Test.YtnciomoapajonaaLasti
set_option linter.unusedSimpArgs false
set_option linter.unusedVariables false
namespace Go.Proofs.Ytnciomoapajonaa
open Go Go.RowKit Go.Shelf Cv
attribute [local go_sem] Oper.semAt_some

theorem keepN {W w w' : World} {a b : Nat} {x y z : Value} (h : w.cell? ⟨a, 0, none⟩ = some x ∧ w.cell? ⟨b, 0, none⟩ = some y ∧ w.cell? ⟨b, 1, none⟩ = some z ∧ Below W.heap.size W w) (hb : Below w.heap.size w w') :
    w'.cell? ⟨a, 0, none⟩ = some x ∧ w'.cell? ⟨b, 0, none⟩ = some y ∧ w'.cell? ⟨b, 1, none⟩ = some z ∧ Below W.heap.size W w' := by
  obtain ⟨h0, h1, h2, h3⟩ := h
  exact ⟨(hb.cell (p := ⟨a, 0, none⟩) (World.block_lt_of_cell? w _ h0)).trans h0, (hb.cell (p := ⟨b, 0, none⟩) (World.block_lt_of_cell? w _ h1)).trans h1, (hb.cell (p := ⟨b, 1, none⟩) (World.block_lt_of_cell? w _ h2)).trans h2, h3.trans (hb.mono h3.size)⟩
/-- What two points need for each step. -/
def needP (l : List Pt) (p : Nat × Nat) : Int := (farL l p.1 p.2 + ((p.2 : Int) - p.1) - 1) / ((p.2 : Int) - p.1)
def maxN (l : List Pt) (ps : List (Nat × Nat)) : Int := ps.foldl (fun x p => max x (needP l p)) 0
theorem maxN_snoc (l : List Pt) (ps : List (Nat × Nat)) (p : Nat × Nat) : maxN l (ps ++ [p]) = max (maxN l ps) (needP l p) := by simp [maxN]
theorem farL_bd (l : List Pt) (hok : ∀ p, p ∈ l → PtOk p) (a b : Nat) (ha : a < l.length) (hb : b < l.length) : 0 ≤ farL l a b ∧ farL l a b ≤ 9000 := by
  have h1 := hok l[a] (List.getElem_mem _)
  have h2 := hok l[b] (List.getElem_mem _)
  have e1 : l.getD a default = l[a] := by simp [List.getD_eq_getElem?_getD, ha]
  have e2 : l.getD b default = l[b] := by simp [List.getD_eq_getElem?_getD, hb]
  unfold farL
  rw [e1, e2]
  have := h1.l0; have := h1.l9; have := h1.h0; have := h1.h9; have := h2.l0; have := h2.l9; have := h2.h0; have := h2.h9
  omega
theorem div_bd (f d : Int) (h0 : 0 ≤ f) (h9 : f ≤ 9000) (d1 : 1 ≤ d) (d9 : d ≤ 9) : 0 ≤ (f + d - 1) / d ∧ (f + d - 1) / d ≤ 9008 := by
  constructor
  · exact Int.ediv_nonneg (by omega) (by omega)
  · have := Int.ediv_le_self d (show 0 ≤ f + d - 1 by omega)
    apply Int.le_trans (Int.ediv_le_self d (show 0 ≤ f + d - 1 by omega))
    omega
theorem maxN_bd (l : List Pt) (hok : ∀ p, p ∈ l → PtOk p) (h10 : l.length ≤ 10) (pre : List (Pr l.length)) : 0 ≤ maxN l (pre.map (·.1)) ∧ maxN l (pre.map (·.1)) ≤ 9008 := by
  suffices h : ∀ (pre : List (Pr l.length)) (x : Int), 0 ≤ x → x ≤ 9008 → 0 ≤ (pre.map (·.1)).foldl (fun x p => max x (needP l p)) x ∧ (pre.map (·.1)).foldl (fun x p => max x (needP l p)) x ≤ 9008 from h pre 0 (by omega) (by omega)
  intro pre
  induction pre with
  | nil => intro x h1 h2; exact ⟨h1, h2⟩
  | cons p pre ih =>
    intro x h1 h2
    obtain ⟨⟨a, b⟩, h3, h4⟩ := p
    simp only at h3 h4
    rw [List.map_cons, List.foldl_cons]
    have := farL_bd l hok a b (by omega) h4
    have := div_bd (farL l a b) ((b : Int) - a) this.1 this.2 (by omega) (by omega)
    have e : needP l (a, b) = (farL l a b + ((b : Int) - a) - 1) / ((b : Int) - a) := rfl
    apply ih
    · omega
    · rw [e]; omega
/-- What Need answers. -/
def needR (r : Row) : Int × Int := if errR r = 0 then (maxN r.pts (pairsL r.pts.length), 0) else (0, errR r)
set_option maxRecDepth 100000 in
set_option maxHeartbeats 4000000 in
theorem need_any (r : Row) (pv : Value) (w : World) (hP : PtsAt w pv r.pts) :
    Calls Try.prog 23 #[.agg #[.int .i64 r.st, pv]] w fun e w' => e = .returned (.tuple #[.int .i64 (needR r).1, .int .i64 (needR r).2]) ∧ Below w.heap.size w w' := by
  obtain ⟨st, pts⟩ := r
  simp only at hP ⊢
  obtain ⟨lp, pa, pc, rfl, _, _⟩ := id hP
  refine (callsIn_wide (n := 4)).1 ?_
  refine callsIn_of_wp_marks Try.func23 rfl trivial ?_ rfl
  simp only [Try.ntmps23, List.size_toArray, List.length_cons, List.length_nil, Nat.reduceAdd, Nat.reduceSub, Array.replicate_succ, Array.replicate_zero, List.push_toArray, List.append_toArray, List.nil_append, List.cons_append]
  have HB0 : Hid (Below w.heap.size w (w.alloc (Obj.cells #[.int .i64 st, .slice pa pts.length pc] 24))) := by show Below _ _ _; go_grown
  have hs0 : (w.alloc (Obj.cells #[.int .i64 st, .slice pa pts.length pc] 24)).heap.size = w.heap.size + 1 := by simp
  gi_wp2_with fail
  have HP0 := Lib.hid (hP.below HB0.out)
  generalize w.alloc (Obj.cells #[.int .i64 st, .slice pa pts.length pc] 24) = W0 at *
  refine ⟨trivial, ?_⟩
  by_cases hz : errR ⟨st, pts⟩ = 0
  · refine (callsIn_wide.2 (look_ok ⟨st, pts⟩ (.slice pa pts.length pc) W0 HP0.out hz)).mono ?_
    rintro e w1 ⟨rfl, hb⟩
    have hs1 := hb.size
    have HB1 := Lib.hid (HB0.out.trans (hb.mono HB0.out.size))
    have HV := Lib.hid ((check_valid ⟨st, pts⟩).1 hz)
    have HZ := Lib.hid hz
    have HPW := Lib.hid hP
    clear hb hz hP HB0 HP0
    gi_wp2_with fail
    have HL2 := Lib.hid ((Below.heap_alloc (w1.alloc (Obj.cells #[.int .i64 st, .slice pa pts.length pc] 76)) (Obj.cells #[.int .i64 0] 3) _ (lt_of_block (heap_alloc_new w1 (Obj.cells #[.int .i64 st, .slice pa pts.length pc] 76)))).trans (heap_alloc_new w1 (Obj.cells #[.int .i64 st, .slice pa pts.length pc] 76)))
    have HN2 := Lib.hid (heap_alloc_new (w1.alloc (Obj.cells #[.int .i64 st, .slice pa pts.length pc] 76)) (Obj.cells #[.int .i64 0] 3))
    rw [show (w1.alloc (Obj.cells #[.int .i64 st, .slice pa pts.length pc] 76)).heap.size = w1.heap.size + 1 by simp] at HN2
    have HB2 := Lib.hid ((HB1.out.alloc HB1.out.size (Obj.cells #[.int .i64 st, .slice pa pts.length pc] 76)).alloc (by have := HB1.out.size; simp; omega) (Obj.cells #[.int .i64 0] 3))
    have hs2 : ((w1.alloc (Obj.cells #[.int .i64 st, .slice pa pts.length pc] 76)).alloc (Obj.cells #[.int .i64 0] 3)).heap.size = w1.heap.size + 2 := by simp
    generalize (w1.alloc (Obj.cells #[.int .i64 st, .slice pa pts.length pc] 76)).alloc (Obj.cells #[.int .i64 0] 3) = V at *
    obtain ⟨bl, hbl⟩ : ∃ bl, w1.heap.size = bl := ⟨_, rfl⟩
    have hbl1 : w.heap.size + 1 ≤ bl := by omega
    rw [hbl] at HL2 HN2 hs2 ⊢
    clear hs1 hbl HB1
    refine ⟨trivial, ?_⟩
    refine (pairs_in 3 st (.slice pa pts.length pc) _).mono ?_
    rintro e w3 ⟨rfl, rfl⟩
    have HL3 := Lib.hid ((Below.heap_alloc V (Obj.cells #[.int .i64 st, .slice pa pts.length pc] 76) _ (lt_of_block HL2.out)).trans HL2.out)
    have HN3 := Lib.hid ((Below.heap_alloc V (Obj.cells #[.int .i64 st, .slice pa pts.length pc] 76) _ (lt_of_block HN2.out)).trans HN2.out)
    have HQ3 := Lib.hid (heap_alloc_new V (Obj.cells #[.int .i64 st, .slice pa pts.length pc] 76))
    have HB3 := Lib.hid (HB2.out.alloc HB2.out.size (Obj.cells #[.int .i64 st, .slice pa pts.length pc] 76))
    have hs3 : (V.alloc (Obj.cells #[.int .i64 st, .slice pa pts.length pc] 76)).heap.size = bl + 3 := by simp [hs2]
    rw [hs2] at HQ3 ⊢
    generalize V.alloc (Obj.cells #[.int .i64 st, .slice pa pts.length pc] 76) = W3 at *
    clear HL2 HN2 HB2 hs2
    gi_wp2_with fail
    have hstop := prs_stops 3 (by omega) (bl + 2) st pa pts.length pc HV.out.n10 W3 HQ3.out
    refine wpIn_rangeFunc_ownH rfl (by omega) (gf := 76) (lb := #[.pointer (some ⟨bl + 2, 0, none⟩)]) rfl trivial (enters_of Try.func76 (by kernel_rfl) rfl)
      hstop (fun h k => KB.trans h k) (fun W l o o' hl _ _ _ => KB.putObj W l o' (by omega)) (Below.refl _ _) (fun _ => rfl)
      (fun pre W => W.heap[bl + 1]? = some (.cells #[.int .i64 (maxN pts (pre.map (·.1)))] 3 (0, 0)) ∧ W.heap[bl]? = some (.cells #[.int .i64 st, .slice pa pts.length pc] 76 (0, 0)) ∧ Below w.heap.size w W)
      (fun _ _ _ => False)
      (OwnFrom.and (Own.from (blk_own _ (fun pre : List (Pr pts.length) => #[.int .i64 (maxN pts (pre.map (·.1)))]) _ _) _) (OwnFrom.and (Own.from (blk_own _ (fun _ => #[.int .i64 st, .slice pa pts.length pc]) _ _) _) (ownFrom_below (Nat.le_refl _) (by omega))))
      (fun _ _ _ _ _ hs _ _ => hs)
      ⟨HN3.out, HL3.out, HB3.out⟩
      (fun x a' W => a' = { tmps := #[.agg #[.int .i64 st, .slice pa pts.length pc], .pointer (some ⟨w.heap.size, 0, none⟩), .int .i64 0, .int .i64 0, .pointer (some ⟨bl, 0, none⟩), .int .i64 0, .pointer (some ⟨bl + 1, 0, none⟩), .int .i64 (x.1.1 : Int), .int .i64 (x.1.2 : Int), undef, .tuple #[.agg #[.int .i64 st, .slice pa pts.length pc], .int .i64 0], .agg #[.int .i64 st, .slice pa pts.length pc], .tuple #[.agg #[.int .i64 st, .slice pa pts.length pc], .int .i64 0], .agg #[.int .i64 st, .slice pa pts.length pc], .int .i64 0, .int .i64 0, .bool false, undef, .agg #[.int .i64 st, .slice pa pts.length pc], .func (.func 76) #[] #[.pointer (some ⟨bl + 2, 0, none⟩)], .int .i64 (x.1.1 : Int), .int .i64 (x.1.2 : Int), undef, undef, undef, undef, undef, undef, undef, undef, undef, undef, undef, undef, undef, undef, undef], defers := [] })
      ?hAx ?assign ?body ?done ?stop
    case hAx => exact fun x a' _ X Y row h _ _ => h
    case assign =>
      rintro l pre ⟨⟨a, b⟩, hab⟩ W K hI hK
      unfold encP
      gi_wp2
      exact hK _ _ (KeepsFrom.refl _ _) (KB.refl _ _) hI rfl
    case body =>
      rintro l pre ⟨⟨a, b⟩, hab⟩ a' W hl ⟨r, hr⟩ ⟨iN, iL, iB⟩ rfl hlt
      have ha : a < pts.length := by have := hab.1; have := hab.2; simp only at *; omega
      have hb : b < pts.length := hab.2
      have hab1 : a < b := hab.1
      have n10 := HV.out.n10
      simp only at n10
      have HAP : Hid (∀ w', Below W.heap.size W w' → Calls Try.prog 57 #[.agg #[.int .i64 st, .slice pa pts.length pc], .int .i64 (a : Int), .int .i64 (b : Int)] w' fun e w'' => e = .returned (.int .i64 (farL pts a b)) ∧ Below w'.heap.size w' w'') := by
        intro w' hbw
        have h := apart_any st (.slice pa pts.length pc) pts a b w' ((HPW.out.below iB).below hbw) ha hb HV.out.ok
        have e : farL pts a b = max 0 (max (pts[a].lo - pts[b].hi) (pts[b].lo - pts[a].hi)) := by simp [farL, List.getD_eq_getElem?_getD, ha, hb]
        rw [e]
        exact h
      have l0 : W.cell? ⟨bl, 0, none⟩ = some (.int .i64 st) := cellOf iL 0 _ rfl
      have l1 : W.cell? ⟨bl, 1, none⟩ = some (.slice pa pts.length pc) := cellOf iL 1 _ rfl
      have n0 : W.cell? ⟨bl + 1, 0, none⟩ = some (.int .i64 (maxN pts (pre.map (·.1)))) := cellOf iN 0 _ rfl
      obtain ⟨dd, hdd⟩ : ∃ dd : Int, (b : Int) - a = dd := ⟨_, rfl⟩
      have d1 : 1 ≤ dd := by omega
      have d9 : dd ≤ 9 := by omega
      have wd : IntKind.i64.wrap ((b : Int) - a) = dd := by rw [IntKind.wrap_i64]; omega
      have fb := farL_bd pts HV.out.ok a b ha hb
      have mb := maxN_bd pts HV.out.ok n10 pre
      have HS : Hid (maxN pts ((pre ++ [(⟨(a, b), hab⟩ : Pr pts.length)]).map (·.1)) = max (maxN pts (pre.map (·.1))) ((farL pts a b + dd - 1) / dd)) := by
        show _ = _
        rw [List.map_append]
        have := maxN_snoc pts (pre.map (·.1)) (a, b)
        rw [show ([(⟨(a, b), hab⟩ : Pr pts.length)].map (·.1)) = [(a, b)] from rfl, this]
        unfold needP
        rw [hdd]
      generalize farL pts a b = ff at *
      generalize maxN pts (pre.map (·.1)) = nd at *
      have f0 : 0 ≤ ff := fb.1
      have f9 : ff ≤ 9000 := fb.2
      have m0 : 0 ≤ nd := mb.1
      have m9 : nd ≤ 9008 := mb.2
      have db := div_bd ff dd f0 f9 d1 d9
      have hq : Int.tdiv (ff + dd - 1) dd = (ff + dd - 1) / dd := Int.tdiv_eq_ediv_of_nonneg (by omega)
      have dn : ¬ dd = 0 := by omega
      obtain ⟨qq, hqq⟩ : ∃ qq, (ff + dd - 1) / dd = qq := ⟨_, rfl⟩
      rw [hqq] at hq db HS
      have q0 : 0 ≤ qq := db.1
      have q9 : qq ≤ 9008 := db.2
      have HDD := Lib.hid hdd
      have HQQ := Lib.hid hqq
      have HIN := Lib.hid iN
      have HIL := Lib.hid iL
      have HIB := Lib.hid iB
      clear hdd hqq iN iL iB hlt hstop ha hb n10 fb mb db
      simp only
      gi_wp2_with fail
      refine wpIn_region_last (S := (fun W' => W'.cell? ⟨bl + 1, 0, none⟩ = some (.int .i64 nd) ∧ W'.cell? ⟨bl, 0, none⟩ = some (.int .i64 st) ∧ W'.cell? ⟨bl, 1, none⟩ = some (.slice pa pts.length pc) ∧ Below W.heap.size W W')) 11 (by kernel_rfl) (by kernel_rfl) (by rintro ⟨_, _, h⟩; exact h) (by decide) (fun inv0 => ?_)
      have hh0 := keepN (W := W) ⟨n0, l0, l1, Below.refl _ _⟩ (Below.refl W.heap.size W).drew
      refine wpAnyZ_take (i := 0) (v := ?_) rfl (Lib.hid ⟨by as_aux_lemma => kernel_rfl, by as_aux_lemma => kernel_rfl, by as_aux_lemma => kernel_rfl, rfl⟩) (by decide) inv0 (by as_aux_lemma => kernel_rfl) (by as_aux_lemma => kernel_rfl) (fun _ _ _ h => h) (Or.inl ⟨by rfl, ?_⟩) hh0 (fun inv1 => ?_)
      rotate_left
      · intro w hSw
        try dsimp only at hSw
        go_simp
        try with_reducible rfl
      clear inv0
      try simp only [Act.put, List.getElem_toArray, List.getElem_cons_succ, List.getElem_cons_zero, List.setIfInBounds_toArray, List.set_cons_zero, List.set_cons_succ]
      refine wpAnyZ_take (i := 1) (v := ?_) rfl (Lib.hid ⟨by as_aux_lemma => kernel_rfl, by as_aux_lemma => kernel_rfl, by as_aux_lemma => kernel_rfl, rfl⟩) (by decide) inv1 (by as_aux_lemma => kernel_rfl) (by as_aux_lemma => kernel_rfl) (fun _ _ _ h => h) (Or.inl ⟨by rfl, ?_⟩) hh0 (fun inv2 => ?_)
      rotate_left
      · intro w hSw
        try dsimp only at hSw
        go_simp
        try with_reducible rfl
      clear inv1
      try simp only [Act.put, List.getElem_toArray, List.getElem_cons_succ, List.getElem_cons_zero, List.setIfInBounds_toArray, List.set_cons_zero, List.set_cons_succ]
      refine wpAnyZ_take (i := 2) (v := ?_) rfl (Lib.hid ⟨by as_aux_lemma => kernel_rfl, by as_aux_lemma => kernel_rfl, by as_aux_lemma => kernel_rfl, rfl⟩) (by decide) inv2 (by as_aux_lemma => kernel_rfl) (by as_aux_lemma => kernel_rfl) (fun _ _ _ h => h) (Or.inl ⟨by rfl, ?_⟩) hh0 (fun inv3 => ?_)
      rotate_left
      · intro w hSw
        try dsimp only at hSw
        go_simp
        try with_reducible rfl
      clear inv2
      try simp only [Act.put, List.getElem_toArray, List.getElem_cons_succ, List.getElem_cons_zero, List.setIfInBounds_toArray, List.set_cons_zero, List.set_cons_succ]
      refine wpAnyZ_take (i := 3) (v := ?_) rfl (Lib.hid ⟨by as_aux_lemma => kernel_rfl, by as_aux_lemma => kernel_rfl, by as_aux_lemma => kernel_rfl, rfl⟩) (by decide) inv3 (by as_aux_lemma => kernel_rfl) (by as_aux_lemma => kernel_rfl) (fun _ _ _ h => h) (Or.inl ⟨by rfl, ?_⟩) hh0 (fun inv4 => ?_)
      rotate_left
      · intro w hSw
        try dsimp only at hSw
        go_simp
        try with_reducible rfl
      clear inv3
      try simp only [Act.put, List.getElem_toArray, List.getElem_cons_succ, List.getElem_cons_zero, List.setIfInBounds_toArray, List.set_cons_zero, List.set_cons_succ]
      refine wpAnyZ_take (i := 5) (v := ?_) rfl (Lib.hid ⟨by as_aux_lemma => kernel_rfl, by as_aux_lemma => kernel_rfl, by as_aux_lemma => kernel_rfl, rfl⟩) (by decide) inv4 (by as_aux_lemma => kernel_rfl) (by as_aux_lemma => kernel_rfl) (fun _ _ _ h => h) (Or.inl ⟨by rfl, ?_⟩) hh0 (fun inv5 => ?_)
      rotate_left
      · intro w hSw
        try dsimp only at hSw
        go_simp
        try with_reducible rfl
      clear inv4
      try simp only [Act.put, List.getElem_toArray, List.getElem_cons_succ, List.getElem_cons_zero, List.setIfInBounds_toArray, List.set_cons_zero, List.set_cons_succ]
      refine wpAnyZ_take (i := 8) (v := ?_) rfl (Lib.hid ⟨by as_aux_lemma => kernel_rfl, by as_aux_lemma => kernel_rfl, by as_aux_lemma => kernel_rfl, rfl⟩) (by decide) inv5 (by as_aux_lemma => kernel_rfl) (by as_aux_lemma => kernel_rfl) (fun _ _ _ h => h) (Or.inl ⟨by rfl, ?_⟩) hh0 (fun inv6 => ?_)
      rotate_left
      · intro w hSw
        try dsimp only at hSw
        go_simp
        try with_reducible rfl
      clear inv5
      try simp only [Act.put, List.getElem_toArray, List.getElem_cons_succ, List.getElem_cons_zero, List.setIfInBounds_toArray, List.set_cons_zero, List.set_cons_succ]
      refine wpAnyZ_all (rs := [4]) (by as_aux_lemma => kernel_rfl) (by simp) ?_
      intro i hi
      obtain rfl : i = 4 := by simpa using hi
      refine step_Z rfl (fun K hK => ?_)
      go_simp
      refine (HAP.out _ hh0.2.2.2).mono ?_
      rintro e w' ⟨rfl, hb⟩
      have hh1 := keepN hh0 hb
      refine hK.out _ _ (fun _ => hh1) ?_
      have inv7 := hinv_set inv6 (by as_aux_lemma => kernel_rfl) (by decide : 4 < 11)
      clear hK K hh0 inv6
      try simp only [Act.put, List.getElem_toArray, List.getElem_cons_succ, List.getElem_cons_zero, List.setIfInBounds_toArray, List.set_cons_zero, List.set_cons_succ]
      refine wpAnyZ_take (i := 6) (v := ?_) rfl (Lib.hid ⟨by as_aux_lemma => kernel_rfl, by as_aux_lemma => kernel_rfl, by as_aux_lemma => kernel_rfl, rfl⟩) (by decide) inv7 (by as_aux_lemma => kernel_rfl) (by as_aux_lemma => kernel_rfl) (fun _ _ _ h => h) (Or.inl ⟨by rfl, ?_⟩) hh1 (fun inv8 => ?_)
      rotate_left
      · intro w hSw
        try dsimp only at hSw
        go_simp
        try with_reducible rfl
      clear inv7
      try simp only [Act.put, List.getElem_toArray, List.getElem_cons_succ, List.getElem_cons_zero, List.setIfInBounds_toArray, List.set_cons_zero, List.set_cons_succ]
      refine wpAnyZ_take (i := 7) (v := ?_) rfl (Lib.hid ⟨by as_aux_lemma => kernel_rfl, by as_aux_lemma => kernel_rfl, by as_aux_lemma => kernel_rfl, rfl⟩) (by decide) inv8 (by as_aux_lemma => kernel_rfl) (by as_aux_lemma => kernel_rfl) (fun _ _ _ h => h) (Or.inl ⟨by rfl, ?_⟩) hh1 (fun inv9 => ?_)
      rotate_left
      · intro w hSw
        try dsimp only at hSw
        go_simp
        try with_reducible rfl
      clear inv8
      try simp only [Act.put, List.getElem_toArray, List.getElem_cons_succ, List.getElem_cons_zero, List.setIfInBounds_toArray, List.set_cons_zero, List.set_cons_succ]
      refine wpAnyZ_take (i := 9) (v := ?_) rfl (Lib.hid ⟨by as_aux_lemma => kernel_rfl, by as_aux_lemma => kernel_rfl, by as_aux_lemma => kernel_rfl, rfl⟩) (by decide) inv9 (by as_aux_lemma => kernel_rfl) (by as_aux_lemma => kernel_rfl) (fun _ _ _ h => h) (Or.inl ⟨by rfl, ?_⟩) hh1 (fun inv10 => ?_)
      rotate_left
      · intro w hSw
        try dsimp only at hSw
        go_simp
        try with_reducible rfl
      clear inv9
      try simp only [Act.put, List.getElem_toArray, List.getElem_cons_succ, List.getElem_cons_zero, List.setIfInBounds_toArray, List.set_cons_zero, List.set_cons_succ]
      refine wpAnyZ_take (i := 10) (v := ?_) rfl (Lib.hid ⟨by as_aux_lemma => kernel_rfl, by as_aux_lemma => kernel_rfl, by as_aux_lemma => kernel_rfl, rfl⟩) (by decide) inv10 (by as_aux_lemma => kernel_rfl) (by as_aux_lemma => kernel_rfl) (fun _ _ _ h => h) (Or.inl ⟨by rfl, ?_⟩) hh1 (fun inv11 => ?_)
      rotate_left
      · intro w hSw
        try dsimp only at hSw
        go_simp
        try with_reducible rfl
      clear inv10
      try simp only [Act.put, List.getElem_toArray, List.getElem_cons_succ, List.getElem_cons_zero, List.setIfInBounds_toArray, List.set_cons_zero, List.set_cons_succ]
      refine wpAnyZ_all (rs := [11]) (by as_aux_lemma => kernel_rfl) (by simp) ?_
      intro i hi
      obtain rfl : i = 11 := by simpa using hi
      refine step_Z rfl (fun K hK => ?_)
      have B6 := hh1.2.2.2
      have jN := Lib.hid ((B6.block _ (lt_of_block HIN.out)).trans HIN.out)
      have f1 := frozen_of_row _ _ 0 _ _ jN.out
      have k1 := hh1.1
      have u1 := lt_of_block jN.out
      go_simp
      refine hK.out _ _ (fun h => absurd rfl h) ?_
      clear hK K
      try simp only [Act.put, List.getElem_toArray, List.getElem_cons_succ, List.getElem_cons_zero, List.setIfInBounds_toArray, List.set_cons_zero, List.set_cons_succ]
      refine wpAnyZ_done (by as_aux_lemma => kernel_rfl) ?_ _
      have B6 := hh1.2.2.2
      have jN := Lib.hid ((B6.block _ (lt_of_block HIN.out)).trans HIN.out)
      have jL := Lib.hid ((B6.block _ (lt_of_block HIL.out)).trans HIL.out)
      have ew : max nd (IntKind.i64.wrap ((IntKind.i64.wrap (IntKind.i64.wrap (ff + dd) - 1)).tdiv dd)) = max nd qq := by
        rw [show IntKind.i64.wrap (ff + dd) = ff + dd by rw [IntKind.wrap_i64]; omega, show IntKind.i64.wrap (ff + dd - 1) = ff + dd - 1 by rw [IntKind.wrap_i64]; omega, hq, show IntKind.i64.wrap qq = qq by rw [IntKind.wrap_i64]; omega]
      rw [ew]
      refine ⟨(keepsFrom_below B6).trans ((KeepsOthers.setCell _ _ _).from _), (KB.below B6).trans (KB.setCell _ _ _ (by simp)), ?_, ?_, ?_⟩
      · rw [HS.out]
        exact heap_setCell_same _ (bl + 1) 0 _ _ _ jN.out
      · exact (heap_setCell_other _ (⟨bl + 1, 0, none⟩ : Addr) bl _ (by simp)).trans jL.out
      · exact (HIB.out.trans (B6.mono HIB.out.size)).setCell (p := ⟨bl + 1, 0, none⟩) (show w.heap.size ≤ bl + 1 by omega) _
    case done =>
      rintro D ys W hD hys ⟨iN, iL, iB⟩ hK
      have HK := Lib.hid hK
      have HIB := Lib.hid iB
      have HPR : Hid (needR ⟨st, pts⟩ = (maxN pts (ys.map (·.1)), 0)) := by
        show _ = _
        unfold needR
        rw [if_pos HZ.out, hys]
      have n0 : W.cell? ⟨bl + 1, 0, none⟩ = some (.int .i64 (maxN pts (ys.map (·.1)))) := cellOf iN 0 _ rfl
      generalize maxN pts (ys.map (·.1)) = nd at *
      clear iN iL iB hK hys hstop
      gi_wp2_with fail
      refine ⟨by simp, .inl ⟨_, _, rfl, run_takeDeferred HK.out, ?_⟩⟩
      exact ⟨_, results_tmp2 rfl _ _ _, by rw [HPR.out]; rfl, HIB.out.trans (belowK_b (w := w) (Nat.le_refl _) _ D _ _ (by omega) HK.out rfl rfl)⟩
    case stop =>
      rintro D c pre W _ _ h _
      exact h.elim
  · refine (callsIn_wide.2 (look_no ⟨st, pts⟩ (.slice pa pts.length pc) W0 HP0.out hz)).mono ?_
    rintro e w1 ⟨rfl, hb⟩
    have HB1 := Lib.hid (HB0.out.trans (hb.mono HB0.out.size))
    have HPR : Hid (needR ⟨st, pts⟩ = (0, errR ⟨st, pts⟩)) := by
      show _ = _
      unfold needR
      rw [if_neg hz]
    generalize errR ⟨st, pts⟩ = er at *
    have tz : (er != 0) = true := by simp [hz]
    clear hb hz hP HB0 HP0
    gi_wp2_with fail
    exact ⟨_, results_tmp2 rfl _ _ _, by rw [HPR.out]; rfl, HB1.out.alloc HB1.out.size _⟩
end Go.Proofs.Ytnciomoapajonaa
