/- Package carve: narrow. -/
import Derived.Test.YtnciomoapajonaaCwh
import Derived.Test.YtnciomoapajonaaCvbd
set_option linter.unusedSimpArgs false
set_option linter.unusedVariables false
namespace Go.Proofs.Ytnciomoapajonaa
open Go Go.RowKit Go.Shelf Cv
attribute [local go_sem] Oper.semAt_some

theorem row_own {β : Type} (B e size : Nat) (v : Value) (n : Nat) (f : β → List Value) : Own (fun s W => W.ownsRow B e size v n (f s)) := by
  intro s X Y row h hg hr
  obtain ⟨h1, h2⟩ := h
  refine ⟨h1, ?_⟩
  rcases h2 with h2 | ⟨g, cap, cur, r1, r2, r3, r4⟩
  · exact .inl h2
  · refine .inr ⟨g, cap, cur, r1, r2, (hg.block g (lt_of_block r3) (fun e => ?_)).trans r3, r4⟩
    obtain ⟨o, ho, hc⟩ := hr g e.symm
    rw [r3] at ho; cases ho; cases hc
theorem sdrew {W : World} {a b c d : Addr} {x y z u : Value} (h : W.cell? a = some x ∧ W.cell? b = some y ∧ W.cell? c = some z ∧ W.cell? d = some u) : W.drew.cell? a = some x ∧ W.drew.cell? b = some y ∧ W.drew.cell? c = some z ∧ W.drew.cell? d = some u := h
/-- One band is narrowed by that on its left. -/
def narS (st : Int) (q : List Sp) (k : Nat) : List Sp := q.set (k + 1) (max (q.getD (k + 1) (0, 0)).1 ((q.getD k (0, 0)).1 - st), min (q.getD (k + 1) (0, 0)).2 ((q.getD k (0, 0)).2 + st))
def narP (st : Int) (q : List Sp) (ks : List Nat) : List Sp := ks.foldl (narS st) q
theorem narS_length (st : Int) (q : List Sp) (k : Nat) : (narS st q k).length = q.length := by simp [narS]
theorem narP_length (st : Int) (ks : List Nat) : ∀ q : List Sp, (narP st q ks).length = q.length := by
  induction ks with
  | nil => intro q; rfl
  | cons k ks ih => intro q; show (narP st (narS st q k) ks).length = _; rw [ih, narS_length]
theorem narP_snoc (st : Int) (q : List Sp) (ks : List Nat) (k : Nat) : narP st q (ks ++ [k]) = narS st (narP st q ks) k := by simp [narP]
theorem getD_ok (q : List Sp) (h : ∀ b, b ∈ q → SpOk b) (i : Nat) : SpOk (q.getD i (0, 0)) := by
  rcases Nat.lt_or_ge i q.length with hi | hi
  · rw [show q.getD i (0, 0) = q[i] by simp [List.getD_eq_getElem?_getD, hi]]
    exact h _ (List.getElem_mem hi)
  · rw [show q.getD i (0, 0) = (0, 0) by simp [List.getD_eq_getElem?_getD, hi]]
    unfold SpOk; simp
theorem narS_ok (st : Int) (hst : 0 ≤ st) (q : List Sp) (h : ∀ b, b ∈ q → SpOk b) (k : Nat) : ∀ b, b ∈ narS st q k → SpOk b := by
  intro b hb
  rcases List.mem_or_eq_of_mem_set hb with hb | rfl
  · exact h b hb
  · have a := getD_ok q h (k + 1)
    have c := getD_ok q h k
    unfold SpOk at *
    simp only
    omega
theorem narP_ok (st : Int) (hst : 0 ≤ st) (ks : List Nat) : ∀ q : List Sp, (∀ b, b ∈ q → SpOk b) → ∀ b, b ∈ narP st q ks → SpOk b := by
  induction ks with
  | nil => intro q h; exact h
  | cons k ks ih => intro q h; exact ih (narS st q k) (narS_ok st hst q h k)
theorem narP_range (st : Int) (q : List Sp) : ∀ k, k + 1 ≤ q.length → narP st q (List.range k) = narTo st q k := by
  intro k
  induction k with
  | zero => intro _; rw [narTo_zero]; rfl
  | succ k ih =>
    intro h
    rw [List.range_succ, narP_snoc, ih (by omega), narTo_succ st q k (by omega)]
    rfl
theorem passC_get (q : List Sp) : ∀ (i : Nat), i < q.length → (passC q)[i * 2]? = some (.int .i64 (q.getD i (0, 0)).1) ∧ (passC q)[i * 2 + 1]? = some (.int .i64 (q.getD i (0, 0)).2) := by
  induction q with
  | nil => intro i h; simp at h
  | cons p l ih =>
    intro i h
    cases i with
    | zero => simp [passC]
    | succ i =>
      have := ih i (by simpa using h)
      have e : passC (p :: l) = .int .i64 p.1 :: .int .i64 p.2 :: passC l := by simp [passC]
      rw [e, show (i + 1) * 2 = i * 2 + 1 + 1 by omega]
      simpa using this
theorem passC_set2 : ∀ (q : List Sp) (i : Nat) (x y : Int), i < q.length → ((passC q).set (i * 2) (.int .i64 x)).set (i * 2 + 1) (.int .i64 y) = passC (q.set i (x, y)) := by
  intro q
  induction q with
  | nil => intro i x y h; simp at h
  | cons p l ih =>
    intro i x y h
    cases i with
    | zero => simp [passC]
    | succ i =>
      have := ih i x y (by simpa using h)
      have e : passC (p :: l) = .int .i64 p.1 :: .int .i64 p.2 :: passC l := by simp [passC]
      have e2 : passC ((p :: l).set (i + 1) (x, y)) = .int .i64 p.1 :: .int .i64 p.2 :: passC (l.set i (x, y)) := by simp [passC]
      rw [e, e2, show (i + 1) * 2 + 1 = (i * 2 + 1) + 1 + 1 by omega, show (i + 1) * 2 = i * 2 + 1 + 1 by omega, List.set_cons_succ, List.set_cons_succ, List.set_cons_succ, List.set_cons_succ, this]
set_option maxRecDepth 100000 in
set_option maxHeartbeats 4000000 in
theorem narrow_any (st : Int) (pa : Option Addr) (pc g cap : Nat) (q : List Sp) (n : Nat) (w : World) (hO : w.ownsRow g 56 2 (.slice (some ⟨g, 0, none⟩) n cap) n (passC q)) (hn : q.length = n) (n1 : 1 ≤ n) (n10 : n ≤ 10) (s0 : 0 ≤ st) (s2 : st ≤ 200) (hok : ∀ b, b ∈ q → SpOk b) :
    Calls Try.prog 84 #[.agg #[.int .i64 st, .slice pa n pc], .slice (some ⟨g, 0, none⟩) n cap] w fun e w' => (∃ v, e = .returned v) ∧ w'.ownsRow g 56 2 (.slice (some ⟨g, 0, none⟩) n cap) n (passC (nar st q)) ∧ Below g w w' := by
  have hg : g < w.heap.size := by
    rcases hO.2 with ⟨h, _⟩ | ⟨g', _, _, h, _, h3, _⟩
    · simp at h
    · simp only [Value.slice.injEq, Option.some.injEq, Addr.mk.injEq, and_true] at h
      obtain ⟨rfl, _⟩ := h
      exact lt_of_block h3
  have HO := Lib.hid hO
  have HOK := Lib.hid hok
  have HN := Lib.hid hn
  refine (callsIn_wide (n := 4)).1 ?_
  refine callsIn_of_wp_marks Try.func84 rfl trivial ?_ rfl
  simp only [Try.ntmps84, List.size_toArray, List.length_cons, List.length_nil, Nat.reduceAdd, Nat.reduceSub, Array.replicate_succ, Array.replicate_zero, List.push_toArray, List.append_toArray, List.nil_append, List.cons_append]
  have HL0 := Lib.hid (heap_alloc2_old w (Obj.cells #[.int .i64 st, .slice pa n pc] 76) (Obj.cells #[.slice (some ⟨g, 0, none⟩) n cap] 28))
  have HE0 := Lib.hid (heap_alloc2_new w (Obj.cells #[.int .i64 st, .slice pa n pc] 76) (Obj.cells #[.slice (some ⟨g, 0, none⟩) n cap] 28))
  have HB0 : Hid (Below w.heap.size w ((w.alloc (Obj.cells #[.int .i64 st, .slice pa n pc] 76)).alloc (Obj.cells #[.slice (some ⟨g, 0, none⟩) n cap] 28))) := by show Below _ _ _; go_grown
  have hs0 : ((w.alloc (Obj.cells #[.int .i64 st, .slice pa n pc] 76)).alloc (Obj.cells #[.slice (some ⟨g, 0, none⟩) n cap] 28)).heap.size = w.heap.size + 2 := by simp
  have a0 := cellOf HL0.out 0 _ rfl
  have a1 := cellOf HL0.out 1 _ rfl
  clear hO hok hn
  gi_wp2_with fail
  have HO0 := Lib.hid (own_below HO.out HB0.out)
  generalize (w.alloc (Obj.cells #[.int .i64 st, .slice pa n pc] 76)).alloc (Obj.cells #[.slice (some ⟨g, 0, none⟩) n cap] 28) = W0 at *
  refine ⟨trivial, ?_⟩
  refine (neighbours_in 3 st (.slice pa n pc) _).mono ?_
  rintro e w3 ⟨rfl, rfl⟩
  have HL3 := Lib.hid ((Below.heap_alloc W0 (Obj.cells #[.int .i64 st, .slice pa n pc] 76) _ (lt_of_block HL0.out)).trans HL0.out)
  have HE3 := Lib.hid ((Below.heap_alloc W0 (Obj.cells #[.int .i64 st, .slice pa n pc] 76) _ (lt_of_block HE0.out)).trans HE0.out)
  have HN3 := Lib.hid (heap_alloc_new W0 (Obj.cells #[.int .i64 st, .slice pa n pc] 76))
  have HB3 := Lib.hid (HB0.out.alloc HB0.out.size (Obj.cells #[.int .i64 st, .slice pa n pc] 76))
  have HO3 := Lib.hid (own_below HO0.out ((Below.refl _ W0).alloc (Nat.le_refl _) (Obj.cells #[.int .i64 st, .slice pa n pc] 76)))
  have hs3 : (W0.alloc (Obj.cells #[.int .i64 st, .slice pa n pc] 76)).heap.size = w.heap.size + 3 := by simp [hs0]
  rw [hs0] at HN3 ⊢
  generalize W0.alloc (Obj.cells #[.int .i64 st, .slice pa n pc] 76) = W3 at *
  clear HL0 HE0 HB0 hs0 HO0 a0 a1
  gi_wp2_with fail
  have hstop := nbr_stops 3 (by omega) (w.heap.size + 2) st pa n pc n1 n10 W3 HN3.out
  refine wpIn_rangeFunc_ownH rfl (by omega) (gf := 88) (lb := #[.pointer (some ⟨w.heap.size + 2, 0, none⟩)]) rfl trivial (enters_of Try.func88 (by kernel_rfl) rfl)
    hstop (fun h k => KB.trans h k) (fun W l o o' hl _ _ _ => KB.putObj W l o' (by omega)) (Below.refl _ _) (fun _ => rfl)
    (fun pre W => W.ownsRow g 56 2 (.slice (some ⟨g, 0, none⟩) n cap) n (passC (narP st q (pre.map (·.1)))) ∧ W.heap[w.heap.size]? = some (.cells #[.int .i64 st, .slice pa n pc] 76 (0, 0)) ∧ W.heap[w.heap.size + 1]? = some (.cells #[.slice (some ⟨g, 0, none⟩) n cap] 28 (0, 0)) ∧ Below g w W)
    (fun _ _ _ => False)
    (OwnFrom.and (Own.from (row_own _ _ _ _ _ (fun pre : List (Nb n) => passC (narP st q (pre.map (·.1))))) _) (OwnFrom.and (Own.from (blk_own _ (fun _ => #[.int .i64 st, .slice pa n pc]) _ _) _) (OwnFrom.and (Own.from (blk_own _ (fun _ => #[.slice (some ⟨g, 0, none⟩) n cap]) _ _) _) (ownFrom_below (by omega) (by omega)))))
    (fun _ _ _ _ _ hs _ _ => hs)
    ⟨HO3.out, HL3.out, HE3.out, HB3.out.mono (by omega)⟩
    (fun x a' W => a' = { tmps := #[.agg #[.int .i64 st, .slice pa n pc], .slice (some ⟨g, 0, none⟩) n cap, .pointer (some ⟨w.heap.size, 0, none⟩), .pointer (some ⟨w.heap.size + 1, 0, none⟩), .int .i64 (x.1 : Int), .int .i64 ((x.1 : Int) + 1), .agg #[.int .i64 st, .slice pa n pc], .func (.func 88) #[] #[.pointer (some ⟨w.heap.size + 2, 0, none⟩)], .int .i64 (x.1 : Int), .int .i64 ((x.1 : Int) + 1), undef, undef, undef, undef, undef, undef, undef, undef, undef, undef, undef, undef, undef, undef, undef, undef, undef, undef, undef, undef, undef, undef, undef, undef, undef, undef, undef, undef, undef, undef, undef, undef, undef, undef, undef, undef, undef, undef], defers := [] })
    ?hAx ?assign ?body ?done ?stop
  case hAx => exact fun x a' _ X Y row h _ _ => h
  case assign =>
    rintro l pre ⟨k, hk⟩ W K hI hK
    unfold encN
    gi_wp2
    exact hK _ _ (KeepsFrom.refl _ _) (KB.refl _ _) hI rfl
  case body =>
      rintro l pre ⟨k, hk⟩ a' W hl ⟨r, hr⟩ ⟨iO, iL, iE, iB⟩ rfl hlt
      obtain ⟨j, hj⟩ : ∃ j : Nat, j = k + 1 := ⟨_, rfl⟩
      have hjI : (k : Int) + 1 = (j : Int) := by omega
      have jI : (j : Int) < (n : Int) := by omega
      have kI : (k : Int) < (n : Int) := by omega
      have hjn : j < n := by omega
      have hkn : k < n := by omega
      obtain ⟨p, HP⟩ : ∃ p, Hid (narP st q (pre.map (·.1)) = p) := ⟨_, rfl⟩
      rw [HP.out] at iO
      have hpl : p.length = n := by rw [← HP.out, narP_length]; exact HN.out
      have hpk : ∀ b, b ∈ p → SpOk b := by rw [← HP.out]; exact narP_ok st s0 _ q HOK.out
      have HS : Hid (narP st q ((pre ++ [(⟨k, hk⟩ : Nb n)]).map (·.1)) = p.set j (max (p.getD j (0, 0)).1 ((p.getD k (0, 0)).1 - st), min (p.getD j (0, 0)).2 ((p.getD k (0, 0)).2 + st))) := by
        show _ = _
        rw [List.map_append]
        have := narP_snoc st q (pre.map (·.1)) k
        rw [show ([(⟨k, hk⟩ : Nb n)].map (·.1)) = [k] from rfl, this, HP.out, hj]
        rfl
      have gj := passC_get p j (by omega)
      have gk := passC_get p k (by omega)
      have oj := getD_ok p hpk j
      have ok := getD_ok p hpk k
      have cj0 := (iO.cellAt (j * 2) (by omega)).trans gj.1
      have cj1 := (iO.cellAt (j * 2 + 1) (by omega)).trans gj.2
      have ck0 := (iO.cellAt (k * 2) (by omega)).trans gk.1
      have ck1 := (iO.cellAt (k * 2 + 1) (by omega)).trans gk.2
      have fz0 := iO.frozenAt (j * 2)
      have l0 : W.cell? ⟨w.heap.size, 0, none⟩ = some (.int .i64 st) := cellOf iL 0 _ rfl
      have e0 : W.cell? ⟨w.heap.size + 1, 0, none⟩ = some (.slice (some ⟨g, 0, none⟩) n cap) := cellOf iE 0 _ rfl
      unfold SpOk at oj ok
      obtain ⟨x1, hx1⟩ : ∃ x, (p.getD j (0, 0)).1 = x := ⟨_, rfl⟩
      obtain ⟨y1, hy1⟩ : ∃ x, (p.getD j (0, 0)).2 = x := ⟨_, rfl⟩
      obtain ⟨x0, hx0⟩ : ∃ x, (p.getD k (0, 0)).1 = x := ⟨_, rfl⟩
      obtain ⟨y0, hy0⟩ : ∃ x, (p.getD k (0, 0)).2 = x := ⟨_, rfl⟩
      rw [hx1] at oj cj0 HS
      rw [hy1] at oj cj1 HS
      rw [hx0] at ok ck0 HS
      rw [hy0] at ok ck1 HS
      obtain ⟨j1, j2, j3, j4⟩ := oj
      obtain ⟨k1, k2, k3, k4⟩ := ok
      have wx : IntKind.i64.wrap (x0 - st) = x0 - st := by rw [IntKind.wrap_i64]; omega
      have wy : IntKind.i64.wrap (y0 + st) = y0 + st := by rw [IntKind.wrap_i64]; omega
      have HIO := Lib.hid iO
      have HIL := Lib.hid iL
      have HIE := Lib.hid iE
      have HIB := Lib.hid iB
      have HPL := Lib.hid hpl
      have HJ := Lib.hid hj
      clear iO iL iE iB hpl hpk gj gk hx1 hy1 hx0 hy0 hlt hstop
      simp only
      rw [hjI]
      clear hj hjI
      have hne1 : g ≠ w.heap.size := by omega
      have hne2 : g ≠ w.heap.size + 1 := by omega
      refine wpIn_block ?_
      refine wpIn_seq_k (fun K0 hK0 => ?_)
      refine wpIn_region_last (S := (fun W' => W'.cell? ⟨w.heap.size + 1, 0, none⟩ = some (.slice (some ⟨g, 0, none⟩) n cap) ∧ W'.cell? ⟨w.heap.size, 0, none⟩ = some (.int .i64 st) ∧ W'.cell? ⟨g, j * 2, none⟩ = some (.int .i64 x1) ∧ W'.cell? ⟨g, k * 2, none⟩ = some (.int .i64 x0))) 19 (by kernel_rfl) (by kernel_rfl) (by rintro ⟨_, _, h⟩; exact h) (by decide) (fun inv0 => ?_)
      have hh0 := sdrew ⟨e0, l0, cj0, ck0⟩
      refine wpAnyZ_take (i := 0) (v := ?_) rfl (Lib.hid ⟨by as_aux_lemma => kernel_rfl, by as_aux_lemma => kernel_rfl, by as_aux_lemma => kernel_rfl, rfl⟩) (by decide) inv0 (by as_aux_lemma => kernel_rfl) (by as_aux_lemma => kernel_rfl) (fun _ _ _ h => h) (Or.inl ⟨by rfl, ?_⟩) hh0 (fun inv1 => ?_)
      rotate_left
      · intro w hSw
        try dsimp only at hSw
        go_simp
        try with_reducible rfl
      clear inv0
      try simp only [Act.put, List.getElem_toArray, List.getElem_cons_succ, List.getElem_cons_zero, List.setIfInBounds_toArray, List.set_cons_zero, List.set_cons_succ]
      refine wpAnyZ_take (i := 1) (v := ?_) rfl (Lib.hid ⟨by as_aux_lemma => kernel_rfl, by as_aux_lemma => kernel_rfl, by as_aux_lemma => kernel_rfl, rfl⟩) (by decide) inv1 (by as_aux_lemma => kernel_rfl) (by as_aux_lemma => kernel_rfl) (fun _ _ _ h => h) (Or.inl ⟨by rfl, ?_⟩) hh0 (fun inv2 => ?_)
      rotate_left
      · intro w hSw
        try dsimp only at hSw
        go_simp
        try with_reducible rfl
      clear inv1
      try simp only [Act.put, List.getElem_toArray, List.getElem_cons_succ, List.getElem_cons_zero, List.setIfInBounds_toArray, List.set_cons_zero, List.set_cons_succ]
      refine wpAnyZ_take (i := 2) (v := ?_) rfl (Lib.hid ⟨by as_aux_lemma => kernel_rfl, by as_aux_lemma => kernel_rfl, by as_aux_lemma => kernel_rfl, rfl⟩) (by decide) inv2 (by as_aux_lemma => kernel_rfl) (by as_aux_lemma => kernel_rfl) (fun _ _ _ h => h) (Or.inl ⟨by rfl, ?_⟩) hh0 (fun inv3 => ?_)
      rotate_left
      · intro w hSw
        try dsimp only at hSw
        go_simp
        try with_reducible rfl
      clear inv2
      try simp only [Act.put, List.getElem_toArray, List.getElem_cons_succ, List.getElem_cons_zero, List.setIfInBounds_toArray, List.set_cons_zero, List.set_cons_succ]
      refine wpAnyZ_take (i := 3) (v := ?_) rfl (Lib.hid ⟨by as_aux_lemma => kernel_rfl, by as_aux_lemma => kernel_rfl, by as_aux_lemma => kernel_rfl, rfl⟩) (by decide) inv3 (by as_aux_lemma => kernel_rfl) (by as_aux_lemma => kernel_rfl) (fun _ _ _ h => h) (Or.inl ⟨by rfl, ?_⟩) hh0 (fun inv4 => ?_)
      rotate_left
      · intro w hSw
        try dsimp only at hSw
        go_simp
        try with_reducible rfl
      clear inv3
      try simp only [Act.put, List.getElem_toArray, List.getElem_cons_succ, List.getElem_cons_zero, List.setIfInBounds_toArray, List.set_cons_zero, List.set_cons_succ]
      refine wpAnyZ_take (i := 4) (v := ?_) rfl (Lib.hid ⟨by as_aux_lemma => kernel_rfl, by as_aux_lemma => kernel_rfl, by as_aux_lemma => kernel_rfl, rfl⟩) (by decide) inv4 (by as_aux_lemma => kernel_rfl) (by as_aux_lemma => kernel_rfl) (fun _ _ _ h => h) (Or.inl ⟨by rfl, ?_⟩) hh0 (fun inv5 => ?_)
      rotate_left
      · intro w hSw
        try dsimp only at hSw
        go_simp
        try with_reducible rfl
      clear inv4
      try simp only [Act.put, List.getElem_toArray, List.getElem_cons_succ, List.getElem_cons_zero, List.setIfInBounds_toArray, List.set_cons_zero, List.set_cons_succ]
      refine wpAnyZ_take (i := 5) (v := ?_) rfl (Lib.hid ⟨by as_aux_lemma => kernel_rfl, by as_aux_lemma => kernel_rfl, by as_aux_lemma => kernel_rfl, rfl⟩) (by decide) inv5 (by as_aux_lemma => kernel_rfl) (by as_aux_lemma => kernel_rfl) (fun _ _ _ h => h) (Or.inl ⟨by rfl, ?_⟩) hh0 (fun inv6 => ?_)
      rotate_left
      · intro w hSw
        try dsimp only at hSw
        go_simp
        try with_reducible rfl
      clear inv5
      try simp only [Act.put, List.getElem_toArray, List.getElem_cons_succ, List.getElem_cons_zero, List.setIfInBounds_toArray, List.set_cons_zero, List.set_cons_succ]
      refine wpAnyZ_take (i := 6) (v := ?_) rfl (Lib.hid ⟨by as_aux_lemma => kernel_rfl, by as_aux_lemma => kernel_rfl, by as_aux_lemma => kernel_rfl, rfl⟩) (by decide) inv6 (by as_aux_lemma => kernel_rfl) (by as_aux_lemma => kernel_rfl) (fun _ _ _ h => h) (Or.inl ⟨by rfl, ?_⟩) hh0 (fun inv7 => ?_)
      rotate_left
      · intro w hSw
        try dsimp only at hSw
        go_simp
        try with_reducible rfl
      clear inv6
      try simp only [Act.put, List.getElem_toArray, List.getElem_cons_succ, List.getElem_cons_zero, List.setIfInBounds_toArray, List.set_cons_zero, List.set_cons_succ]
      refine wpAnyZ_take (i := 7) (v := ?_) rfl (Lib.hid ⟨by as_aux_lemma => kernel_rfl, by as_aux_lemma => kernel_rfl, by as_aux_lemma => kernel_rfl, rfl⟩) (by decide) inv7 (by as_aux_lemma => kernel_rfl) (by as_aux_lemma => kernel_rfl) (fun _ _ _ h => h) (Or.inl ⟨by rfl, ?_⟩) hh0 (fun inv8 => ?_)
      rotate_left
      · intro w hSw
        try dsimp only at hSw
        go_simp
        try with_reducible rfl
      clear inv7
      try simp only [Act.put, List.getElem_toArray, List.getElem_cons_succ, List.getElem_cons_zero, List.setIfInBounds_toArray, List.set_cons_zero, List.set_cons_succ]
      refine wpAnyZ_take (i := 8) (v := ?_) rfl (Lib.hid ⟨by as_aux_lemma => kernel_rfl, by as_aux_lemma => kernel_rfl, by as_aux_lemma => kernel_rfl, rfl⟩) (by decide) inv8 (by as_aux_lemma => kernel_rfl) (by as_aux_lemma => kernel_rfl) (fun _ _ _ h => h) (Or.inl ⟨by rfl, ?_⟩) hh0 (fun inv9 => ?_)
      rotate_left
      · intro w hSw
        try dsimp only at hSw
        go_simp
        try with_reducible rfl
      clear inv8
      try simp only [Act.put, List.getElem_toArray, List.getElem_cons_succ, List.getElem_cons_zero, List.setIfInBounds_toArray, List.set_cons_zero, List.set_cons_succ]
      refine wpAnyZ_take (i := 9) (v := ?_) rfl (Lib.hid ⟨by as_aux_lemma => kernel_rfl, by as_aux_lemma => kernel_rfl, by as_aux_lemma => kernel_rfl, rfl⟩) (by decide) inv9 (by as_aux_lemma => kernel_rfl) (by as_aux_lemma => kernel_rfl) (fun _ _ _ h => h) (Or.inl ⟨by rfl, ?_⟩) hh0 (fun inv10 => ?_)
      rotate_left
      · intro w hSw
        try dsimp only at hSw
        go_simp
        try with_reducible rfl
      clear inv9
      try simp only [Act.put, List.getElem_toArray, List.getElem_cons_succ, List.getElem_cons_zero, List.setIfInBounds_toArray, List.set_cons_zero, List.set_cons_succ]
      refine wpAnyZ_take (i := 10) (v := ?_) rfl (Lib.hid ⟨by as_aux_lemma => kernel_rfl, by as_aux_lemma => kernel_rfl, by as_aux_lemma => kernel_rfl, rfl⟩) (by decide) inv10 (by as_aux_lemma => kernel_rfl) (by as_aux_lemma => kernel_rfl) (fun _ _ _ h => h) (Or.inl ⟨by rfl, ?_⟩) hh0 (fun inv11 => ?_)
      rotate_left
      · intro w hSw
        try dsimp only at hSw
        go_simp
        try with_reducible rfl
      clear inv10
      try simp only [Act.put, List.getElem_toArray, List.getElem_cons_succ, List.getElem_cons_zero, List.setIfInBounds_toArray, List.set_cons_zero, List.set_cons_succ]
      refine wpAnyZ_take (i := 11) (v := ?_) rfl (Lib.hid ⟨by as_aux_lemma => kernel_rfl, by as_aux_lemma => kernel_rfl, by as_aux_lemma => kernel_rfl, rfl⟩) (by decide) inv11 (by as_aux_lemma => kernel_rfl) (by as_aux_lemma => kernel_rfl) (fun _ _ _ h => h) (Or.inl ⟨by rfl, ?_⟩) hh0 (fun inv12 => ?_)
      rotate_left
      · intro w hSw
        try dsimp only at hSw
        go_simp
        try with_reducible rfl
      clear inv11
      try simp only [Act.put, List.getElem_toArray, List.getElem_cons_succ, List.getElem_cons_zero, List.setIfInBounds_toArray, List.set_cons_zero, List.set_cons_succ]
      refine wpAnyZ_take (i := 12) (v := ?_) rfl (Lib.hid ⟨by as_aux_lemma => kernel_rfl, by as_aux_lemma => kernel_rfl, by as_aux_lemma => kernel_rfl, rfl⟩) (by decide) inv12 (by as_aux_lemma => kernel_rfl) (by as_aux_lemma => kernel_rfl) (fun _ _ _ h => h) (Or.inl ⟨by rfl, ?_⟩) hh0 (fun inv13 => ?_)
      rotate_left
      · intro w hSw
        try dsimp only at hSw
        go_simp
        try with_reducible rfl
      clear inv12
      try simp only [Act.put, List.getElem_toArray, List.getElem_cons_succ, List.getElem_cons_zero, List.setIfInBounds_toArray, List.set_cons_zero, List.set_cons_succ]
      refine wpAnyZ_take (i := 13) (v := ?_) rfl (Lib.hid ⟨by as_aux_lemma => kernel_rfl, by as_aux_lemma => kernel_rfl, by as_aux_lemma => kernel_rfl, rfl⟩) (by decide) inv13 (by as_aux_lemma => kernel_rfl) (by as_aux_lemma => kernel_rfl) (fun _ _ _ h => h) (Or.inl ⟨by rfl, ?_⟩) hh0 (fun inv14 => ?_)
      rotate_left
      · intro w hSw
        try dsimp only at hSw
        go_simp
        try with_reducible rfl
      clear inv13
      try simp only [Act.put, List.getElem_toArray, List.getElem_cons_succ, List.getElem_cons_zero, List.setIfInBounds_toArray, List.set_cons_zero, List.set_cons_succ]
      refine wpAnyZ_take (i := 14) (v := ?_) rfl (Lib.hid ⟨by as_aux_lemma => kernel_rfl, by as_aux_lemma => kernel_rfl, by as_aux_lemma => kernel_rfl, rfl⟩) (by decide) inv14 (by as_aux_lemma => kernel_rfl) (by as_aux_lemma => kernel_rfl) (fun _ _ _ h => h) (Or.inl ⟨by rfl, ?_⟩) hh0 (fun inv15 => ?_)
      rotate_left
      · intro w hSw
        try dsimp only at hSw
        go_simp
        try with_reducible rfl
      clear inv14
      try simp only [Act.put, List.getElem_toArray, List.getElem_cons_succ, List.getElem_cons_zero, List.setIfInBounds_toArray, List.set_cons_zero, List.set_cons_succ]
      refine wpAnyZ_take (i := 15) (v := ?_) rfl (Lib.hid ⟨by as_aux_lemma => kernel_rfl, by as_aux_lemma => kernel_rfl, by as_aux_lemma => kernel_rfl, rfl⟩) (by decide) inv15 (by as_aux_lemma => kernel_rfl) (by as_aux_lemma => kernel_rfl) (fun _ _ _ h => h) (Or.inl ⟨by rfl, ?_⟩) hh0 (fun inv16 => ?_)
      rotate_left
      · intro w hSw
        try dsimp only at hSw
        go_simp
        try with_reducible rfl
      clear inv15
      try simp only [Act.put, List.getElem_toArray, List.getElem_cons_succ, List.getElem_cons_zero, List.setIfInBounds_toArray, List.set_cons_zero, List.set_cons_succ]
      refine wpAnyZ_take (i := 16) (v := ?_) rfl (Lib.hid ⟨by as_aux_lemma => kernel_rfl, by as_aux_lemma => kernel_rfl, by as_aux_lemma => kernel_rfl, rfl⟩) (by decide) inv16 (by as_aux_lemma => kernel_rfl) (by as_aux_lemma => kernel_rfl) (fun _ _ _ h => h) (Or.inl ⟨by rfl, ?_⟩) hh0 (fun inv17 => ?_)
      rotate_left
      · intro w hSw
        try dsimp only at hSw
        go_simp
        try with_reducible rfl
      clear inv16
      try simp only [Act.put, List.getElem_toArray, List.getElem_cons_succ, List.getElem_cons_zero, List.setIfInBounds_toArray, List.set_cons_zero, List.set_cons_succ]
      refine wpAnyZ_take (i := 17) (v := ?_) rfl (Lib.hid ⟨by as_aux_lemma => kernel_rfl, by as_aux_lemma => kernel_rfl, by as_aux_lemma => kernel_rfl, rfl⟩) (by decide) inv17 (by as_aux_lemma => kernel_rfl) (by as_aux_lemma => kernel_rfl) (fun _ _ _ h => h) (Or.inl ⟨by rfl, ?_⟩) hh0 (fun inv18 => ?_)
      rotate_left
      · intro w hSw
        try dsimp only at hSw
        go_simp
        try with_reducible rfl
      clear inv17
      try simp only [Act.put, List.getElem_toArray, List.getElem_cons_succ, List.getElem_cons_zero, List.setIfInBounds_toArray, List.set_cons_zero, List.set_cons_succ]
      refine wpAnyZ_take (i := 18) (v := ?_) rfl (Lib.hid ⟨by as_aux_lemma => kernel_rfl, by as_aux_lemma => kernel_rfl, by as_aux_lemma => kernel_rfl, rfl⟩) (by decide) inv18 (by as_aux_lemma => kernel_rfl) (by as_aux_lemma => kernel_rfl) (fun _ _ _ h => h) (Or.inl ⟨by rfl, ?_⟩) hh0 (fun inv19 => ?_)
      rotate_left
      · intro w hSw
        try dsimp only at hSw
        go_simp
        try with_reducible rfl
      clear inv18
      try simp only [Act.put, List.getElem_toArray, List.getElem_cons_succ, List.getElem_cons_zero, List.setIfInBounds_toArray, List.set_cons_zero, List.set_cons_succ]
      refine wpAnyZ_all (rs := [19]) (by as_aux_lemma => kernel_rfl) (by simp) ?_
      intro i hi
      obtain rfl : i = 19 := by simpa using hi
      refine step_Z rfl (fun K hK => ?_)
      have fz := fz0
      have cx := hh0.2.2.1
      go_simp
      refine hK.out _ _ (fun h => absurd rfl h) ?_
      clear hK K
      try simp only [Act.put, List.getElem_toArray, List.getElem_cons_succ, List.getElem_cons_zero, List.setIfInBounds_toArray, List.set_cons_zero, List.set_cons_succ]
      refine wpAnyZ_done (by as_aux_lemma => kernel_rfl) ?_ _
      refine hK0 _ _ ?_
      clear hK0 K0
      obtain ⟨U, HU0, dO, HUL, HUE, HUB⟩ : ∃ U, Hid ((W.setCell ⟨g, j * 2, none⟩ (.int .i64 (max x1 (x0 - st)))).drew = U) ∧ U.ownsRow g 56 2 (.slice (some ⟨g, 0, none⟩) n cap) n ((passC p).set (j * 2) (.int .i64 (max x1 (x0 - st)))) ∧ Hid (U.heap[w.heap.size]? = some (.cells #[.int .i64 st, .slice pa n pc] 76 (0, 0))) ∧ Hid (U.heap[w.heap.size + 1]? = some (.cells #[.slice (some ⟨g, 0, none⟩) n cap] 28 (0, 0))) ∧ Hid (Below g w U ∧ KeepsOthers W U ∧ KB (w.heap.size + 2) W U) := by
        refine ⟨_, rfl, (HIO.out.stored (j * 2) _).1, ?_, ?_, ?_, ?_, ?_⟩
        · exact (Below.heap_setCell W ⟨g, j * 2, none⟩ _ _ (by simp; omega)).trans HIL.out
        · exact (Below.heap_setCell W ⟨g, j * 2, none⟩ _ _ (by simp; omega)).trans HIE.out
        · exact (HIB.out.setCell (p := ⟨g, j * 2, none⟩) (Nat.le_refl _) _).drew
        · exact (KeepsOthers.setCell _ _ _).trans (KeepsOthers.drew _)
        · exact (KB.setCell W _ _ (by simp; omega)).trans (KB.drew _)
      rw [HU0.out]
      have hcl : (passC p).length = n * 2 := HIO.out.1
      have dj1 := (dO.cellAt (j * 2 + 1) (by omega)).trans ((List.getElem?_set_ne (by omega)).trans ((HIO.out.cellAt (j * 2 + 1) (by omega)).symm.trans cj1))
      have dk1 := (dO.cellAt (k * 2 + 1) (by omega)).trans ((List.getElem?_set_ne (by omega)).trans ((HIO.out.cellAt (k * 2 + 1) (by omega)).symm.trans ck1))
      have fz1 := dO.frozenAt (j * 2 + 1)
      have d2 : U.cell? ⟨w.heap.size, 0, none⟩ = some (.int .i64 st) := cellOf HUL.out 0 _ rfl
      have d3 : U.cell? ⟨w.heap.size + 1, 0, none⟩ = some (.slice (some ⟨g, 0, none⟩) n cap) := cellOf HUE.out 0 _ rfl
      have HDO := Lib.hid dO
      clear hh0 cj0 ck0 cj1 ck1 fz0 l0 e0 HU0 dO wx
      refine wpIn_region_last (S := (fun W' => W'.cell? ⟨w.heap.size + 1, 0, none⟩ = some (.slice (some ⟨g, 0, none⟩) n cap) ∧ W'.cell? ⟨w.heap.size, 0, none⟩ = some (.int .i64 st) ∧ W'.cell? ⟨g, j * 2 + 1, none⟩ = some (.int .i64 y1) ∧ W'.cell? ⟨g, k * 2 + 1, none⟩ = some (.int .i64 y0))) 19 (by kernel_rfl) (by kernel_rfl) (by rintro ⟨_, _, h⟩; exact h) (by decide) (fun inv0 => ?_)
      have hh0 := sdrew ⟨d3, d2, dj1, dk1⟩
      refine wpAnyZ_take (i := 0) (v := ?_) rfl (Lib.hid ⟨by as_aux_lemma => kernel_rfl, by as_aux_lemma => kernel_rfl, by as_aux_lemma => kernel_rfl, rfl⟩) (by decide) inv0 (by as_aux_lemma => kernel_rfl) (by as_aux_lemma => kernel_rfl) (fun _ _ _ h => h) (Or.inl ⟨by rfl, ?_⟩) hh0 (fun inv1 => ?_)
      rotate_left
      · intro w hSw
        try dsimp only at hSw
        go_simp
        try with_reducible rfl
      clear inv0
      try simp only [Act.put, List.getElem_toArray, List.getElem_cons_succ, List.getElem_cons_zero, List.setIfInBounds_toArray, List.set_cons_zero, List.set_cons_succ]
      refine wpAnyZ_take (i := 1) (v := ?_) rfl (Lib.hid ⟨by as_aux_lemma => kernel_rfl, by as_aux_lemma => kernel_rfl, by as_aux_lemma => kernel_rfl, rfl⟩) (by decide) inv1 (by as_aux_lemma => kernel_rfl) (by as_aux_lemma => kernel_rfl) (fun _ _ _ h => h) (Or.inl ⟨by rfl, ?_⟩) hh0 (fun inv2 => ?_)
      rotate_left
      · intro w hSw
        try dsimp only at hSw
        go_simp
        try with_reducible rfl
      clear inv1
      try simp only [Act.put, List.getElem_toArray, List.getElem_cons_succ, List.getElem_cons_zero, List.setIfInBounds_toArray, List.set_cons_zero, List.set_cons_succ]
      refine wpAnyZ_take (i := 2) (v := ?_) rfl (Lib.hid ⟨by as_aux_lemma => kernel_rfl, by as_aux_lemma => kernel_rfl, by as_aux_lemma => kernel_rfl, rfl⟩) (by decide) inv2 (by as_aux_lemma => kernel_rfl) (by as_aux_lemma => kernel_rfl) (fun _ _ _ h => h) (Or.inl ⟨by rfl, ?_⟩) hh0 (fun inv3 => ?_)
      rotate_left
      · intro w hSw
        try dsimp only at hSw
        go_simp
        try with_reducible rfl
      clear inv2
      try simp only [Act.put, List.getElem_toArray, List.getElem_cons_succ, List.getElem_cons_zero, List.setIfInBounds_toArray, List.set_cons_zero, List.set_cons_succ]
      refine wpAnyZ_take (i := 3) (v := ?_) rfl (Lib.hid ⟨by as_aux_lemma => kernel_rfl, by as_aux_lemma => kernel_rfl, by as_aux_lemma => kernel_rfl, rfl⟩) (by decide) inv3 (by as_aux_lemma => kernel_rfl) (by as_aux_lemma => kernel_rfl) (fun _ _ _ h => h) (Or.inl ⟨by rfl, ?_⟩) hh0 (fun inv4 => ?_)
      rotate_left
      · intro w hSw
        try dsimp only at hSw
        go_simp
        try with_reducible rfl
      clear inv3
      try simp only [Act.put, List.getElem_toArray, List.getElem_cons_succ, List.getElem_cons_zero, List.setIfInBounds_toArray, List.set_cons_zero, List.set_cons_succ]
      refine wpAnyZ_take (i := 4) (v := ?_) rfl (Lib.hid ⟨by as_aux_lemma => kernel_rfl, by as_aux_lemma => kernel_rfl, by as_aux_lemma => kernel_rfl, rfl⟩) (by decide) inv4 (by as_aux_lemma => kernel_rfl) (by as_aux_lemma => kernel_rfl) (fun _ _ _ h => h) (Or.inl ⟨by rfl, ?_⟩) hh0 (fun inv5 => ?_)
      rotate_left
      · intro w hSw
        try dsimp only at hSw
        go_simp
        try with_reducible rfl
      clear inv4
      try simp only [Act.put, List.getElem_toArray, List.getElem_cons_succ, List.getElem_cons_zero, List.setIfInBounds_toArray, List.set_cons_zero, List.set_cons_succ]
      refine wpAnyZ_take (i := 5) (v := ?_) rfl (Lib.hid ⟨by as_aux_lemma => kernel_rfl, by as_aux_lemma => kernel_rfl, by as_aux_lemma => kernel_rfl, rfl⟩) (by decide) inv5 (by as_aux_lemma => kernel_rfl) (by as_aux_lemma => kernel_rfl) (fun _ _ _ h => h) (Or.inl ⟨by rfl, ?_⟩) hh0 (fun inv6 => ?_)
      rotate_left
      · intro w hSw
        try dsimp only at hSw
        go_simp
        try with_reducible rfl
      clear inv5
      try simp only [Act.put, List.getElem_toArray, List.getElem_cons_succ, List.getElem_cons_zero, List.setIfInBounds_toArray, List.set_cons_zero, List.set_cons_succ]
      refine wpAnyZ_take (i := 6) (v := ?_) rfl (Lib.hid ⟨by as_aux_lemma => kernel_rfl, by as_aux_lemma => kernel_rfl, by as_aux_lemma => kernel_rfl, rfl⟩) (by decide) inv6 (by as_aux_lemma => kernel_rfl) (by as_aux_lemma => kernel_rfl) (fun _ _ _ h => h) (Or.inl ⟨by rfl, ?_⟩) hh0 (fun inv7 => ?_)
      rotate_left
      · intro w hSw
        try dsimp only at hSw
        go_simp
        try with_reducible rfl
      clear inv6
      try simp only [Act.put, List.getElem_toArray, List.getElem_cons_succ, List.getElem_cons_zero, List.setIfInBounds_toArray, List.set_cons_zero, List.set_cons_succ]
      refine wpAnyZ_take (i := 7) (v := ?_) rfl (Lib.hid ⟨by as_aux_lemma => kernel_rfl, by as_aux_lemma => kernel_rfl, by as_aux_lemma => kernel_rfl, rfl⟩) (by decide) inv7 (by as_aux_lemma => kernel_rfl) (by as_aux_lemma => kernel_rfl) (fun _ _ _ h => h) (Or.inl ⟨by rfl, ?_⟩) hh0 (fun inv8 => ?_)
      rotate_left
      · intro w hSw
        try dsimp only at hSw
        go_simp
        try with_reducible rfl
      clear inv7
      try simp only [Act.put, List.getElem_toArray, List.getElem_cons_succ, List.getElem_cons_zero, List.setIfInBounds_toArray, List.set_cons_zero, List.set_cons_succ]
      refine wpAnyZ_take (i := 8) (v := ?_) rfl (Lib.hid ⟨by as_aux_lemma => kernel_rfl, by as_aux_lemma => kernel_rfl, by as_aux_lemma => kernel_rfl, rfl⟩) (by decide) inv8 (by as_aux_lemma => kernel_rfl) (by as_aux_lemma => kernel_rfl) (fun _ _ _ h => h) (Or.inl ⟨by rfl, ?_⟩) hh0 (fun inv9 => ?_)
      rotate_left
      · intro w hSw
        try dsimp only at hSw
        go_simp
        try with_reducible rfl
      clear inv8
      try simp only [Act.put, List.getElem_toArray, List.getElem_cons_succ, List.getElem_cons_zero, List.setIfInBounds_toArray, List.set_cons_zero, List.set_cons_succ]
      refine wpAnyZ_take (i := 9) (v := ?_) rfl (Lib.hid ⟨by as_aux_lemma => kernel_rfl, by as_aux_lemma => kernel_rfl, by as_aux_lemma => kernel_rfl, rfl⟩) (by decide) inv9 (by as_aux_lemma => kernel_rfl) (by as_aux_lemma => kernel_rfl) (fun _ _ _ h => h) (Or.inl ⟨by rfl, ?_⟩) hh0 (fun inv10 => ?_)
      rotate_left
      · intro w hSw
        try dsimp only at hSw
        go_simp
        try with_reducible rfl
      clear inv9
      try simp only [Act.put, List.getElem_toArray, List.getElem_cons_succ, List.getElem_cons_zero, List.setIfInBounds_toArray, List.set_cons_zero, List.set_cons_succ]
      refine wpAnyZ_take (i := 10) (v := ?_) rfl (Lib.hid ⟨by as_aux_lemma => kernel_rfl, by as_aux_lemma => kernel_rfl, by as_aux_lemma => kernel_rfl, rfl⟩) (by decide) inv10 (by as_aux_lemma => kernel_rfl) (by as_aux_lemma => kernel_rfl) (fun _ _ _ h => h) (Or.inl ⟨by rfl, ?_⟩) hh0 (fun inv11 => ?_)
      rotate_left
      · intro w hSw
        try dsimp only at hSw
        go_simp
        try with_reducible rfl
      clear inv10
      try simp only [Act.put, List.getElem_toArray, List.getElem_cons_succ, List.getElem_cons_zero, List.setIfInBounds_toArray, List.set_cons_zero, List.set_cons_succ]
      refine wpAnyZ_take (i := 11) (v := ?_) rfl (Lib.hid ⟨by as_aux_lemma => kernel_rfl, by as_aux_lemma => kernel_rfl, by as_aux_lemma => kernel_rfl, rfl⟩) (by decide) inv11 (by as_aux_lemma => kernel_rfl) (by as_aux_lemma => kernel_rfl) (fun _ _ _ h => h) (Or.inl ⟨by rfl, ?_⟩) hh0 (fun inv12 => ?_)
      rotate_left
      · intro w hSw
        try dsimp only at hSw
        go_simp
        try with_reducible rfl
      clear inv11
      try simp only [Act.put, List.getElem_toArray, List.getElem_cons_succ, List.getElem_cons_zero, List.setIfInBounds_toArray, List.set_cons_zero, List.set_cons_succ]
      refine wpAnyZ_take (i := 12) (v := ?_) rfl (Lib.hid ⟨by as_aux_lemma => kernel_rfl, by as_aux_lemma => kernel_rfl, by as_aux_lemma => kernel_rfl, rfl⟩) (by decide) inv12 (by as_aux_lemma => kernel_rfl) (by as_aux_lemma => kernel_rfl) (fun _ _ _ h => h) (Or.inl ⟨by rfl, ?_⟩) hh0 (fun inv13 => ?_)
      rotate_left
      · intro w hSw
        try dsimp only at hSw
        go_simp
        try with_reducible rfl
      clear inv12
      try simp only [Act.put, List.getElem_toArray, List.getElem_cons_succ, List.getElem_cons_zero, List.setIfInBounds_toArray, List.set_cons_zero, List.set_cons_succ]
      refine wpAnyZ_take (i := 13) (v := ?_) rfl (Lib.hid ⟨by as_aux_lemma => kernel_rfl, by as_aux_lemma => kernel_rfl, by as_aux_lemma => kernel_rfl, rfl⟩) (by decide) inv13 (by as_aux_lemma => kernel_rfl) (by as_aux_lemma => kernel_rfl) (fun _ _ _ h => h) (Or.inl ⟨by rfl, ?_⟩) hh0 (fun inv14 => ?_)
      rotate_left
      · intro w hSw
        try dsimp only at hSw
        go_simp
        try with_reducible rfl
      clear inv13
      try simp only [Act.put, List.getElem_toArray, List.getElem_cons_succ, List.getElem_cons_zero, List.setIfInBounds_toArray, List.set_cons_zero, List.set_cons_succ]
      refine wpAnyZ_take (i := 14) (v := ?_) rfl (Lib.hid ⟨by as_aux_lemma => kernel_rfl, by as_aux_lemma => kernel_rfl, by as_aux_lemma => kernel_rfl, rfl⟩) (by decide) inv14 (by as_aux_lemma => kernel_rfl) (by as_aux_lemma => kernel_rfl) (fun _ _ _ h => h) (Or.inl ⟨by rfl, ?_⟩) hh0 (fun inv15 => ?_)
      rotate_left
      · intro w hSw
        try dsimp only at hSw
        go_simp
        try with_reducible rfl
      clear inv14
      try simp only [Act.put, List.getElem_toArray, List.getElem_cons_succ, List.getElem_cons_zero, List.setIfInBounds_toArray, List.set_cons_zero, List.set_cons_succ]
      refine wpAnyZ_take (i := 15) (v := ?_) rfl (Lib.hid ⟨by as_aux_lemma => kernel_rfl, by as_aux_lemma => kernel_rfl, by as_aux_lemma => kernel_rfl, rfl⟩) (by decide) inv15 (by as_aux_lemma => kernel_rfl) (by as_aux_lemma => kernel_rfl) (fun _ _ _ h => h) (Or.inl ⟨by rfl, ?_⟩) hh0 (fun inv16 => ?_)
      rotate_left
      · intro w hSw
        try dsimp only at hSw
        go_simp
        try with_reducible rfl
      clear inv15
      try simp only [Act.put, List.getElem_toArray, List.getElem_cons_succ, List.getElem_cons_zero, List.setIfInBounds_toArray, List.set_cons_zero, List.set_cons_succ]
      refine wpAnyZ_take (i := 16) (v := ?_) rfl (Lib.hid ⟨by as_aux_lemma => kernel_rfl, by as_aux_lemma => kernel_rfl, by as_aux_lemma => kernel_rfl, rfl⟩) (by decide) inv16 (by as_aux_lemma => kernel_rfl) (by as_aux_lemma => kernel_rfl) (fun _ _ _ h => h) (Or.inl ⟨by rfl, ?_⟩) hh0 (fun inv17 => ?_)
      rotate_left
      · intro w hSw
        try dsimp only at hSw
        go_simp
        try with_reducible rfl
      clear inv16
      try simp only [Act.put, List.getElem_toArray, List.getElem_cons_succ, List.getElem_cons_zero, List.setIfInBounds_toArray, List.set_cons_zero, List.set_cons_succ]
      refine wpAnyZ_take (i := 17) (v := ?_) rfl (Lib.hid ⟨by as_aux_lemma => kernel_rfl, by as_aux_lemma => kernel_rfl, by as_aux_lemma => kernel_rfl, rfl⟩) (by decide) inv17 (by as_aux_lemma => kernel_rfl) (by as_aux_lemma => kernel_rfl) (fun _ _ _ h => h) (Or.inl ⟨by rfl, ?_⟩) hh0 (fun inv18 => ?_)
      rotate_left
      · intro w hSw
        try dsimp only at hSw
        go_simp
        try with_reducible rfl
      clear inv17
      try simp only [Act.put, List.getElem_toArray, List.getElem_cons_succ, List.getElem_cons_zero, List.setIfInBounds_toArray, List.set_cons_zero, List.set_cons_succ]
      refine wpAnyZ_take (i := 18) (v := ?_) rfl (Lib.hid ⟨by as_aux_lemma => kernel_rfl, by as_aux_lemma => kernel_rfl, by as_aux_lemma => kernel_rfl, rfl⟩) (by decide) inv18 (by as_aux_lemma => kernel_rfl) (by as_aux_lemma => kernel_rfl) (fun _ _ _ h => h) (Or.inl ⟨by rfl, ?_⟩) hh0 (fun inv19 => ?_)
      rotate_left
      · intro w hSw
        try dsimp only at hSw
        go_simp
        try with_reducible rfl
      clear inv18
      try simp only [Act.put, List.getElem_toArray, List.getElem_cons_succ, List.getElem_cons_zero, List.setIfInBounds_toArray, List.set_cons_zero, List.set_cons_succ]
      refine wpAnyZ_all (rs := [19]) (by as_aux_lemma => kernel_rfl) (by simp) ?_
      intro i hi
      obtain rfl : i = 19 := by simpa using hi
      refine step_Z rfl (fun K hK => ?_)
      have fz := fz1
      have cx := hh0.2.2.1
      go_simp
      refine hK.out _ _ (fun h => absurd rfl h) ?_
      clear hK K
      try simp only [Act.put, List.getElem_toArray, List.getElem_cons_succ, List.getElem_cons_zero, List.setIfInBounds_toArray, List.set_cons_zero, List.set_cons_succ]
      refine wpAnyZ_done (by as_aux_lemma => kernel_rfl) ?_ _
      refine ⟨(HUB.out.2.1.trans ((KeepsOthers.setCell _ _ _).trans (KeepsOthers.drew _))).from _, HUB.out.2.2.trans ((KB.setCell U _ _ (by simp; omega)).trans (KB.drew _)), ?_, ?_, ?_, ?_⟩
      · have h := (HDO.out.stored (j * 2 + 1) (.int .i64 (min y1 (y0 + st)))).1
        rw [passC_set2 p j _ _ (by rw [HPL.out]; exact hjn), ← HS.out] at h
        exact h
      · exact (Below.heap_setCell U ⟨g, j * 2 + 1, none⟩ _ _ (by simp; omega)).trans HUL.out
      · exact (Below.heap_setCell U ⟨g, j * 2 + 1, none⟩ _ _ (by simp; omega)).trans HUE.out
      · exact (HUB.out.1.setCell (p := ⟨g, j * 2 + 1, none⟩) (Nat.le_refl _) _).drew
  case done =>
    rintro D ys W hD hys ⟨iO, iL, iE, iB⟩ hK
    have HK := Lib.hid hK
    have HIB := Lib.hid iB
    have HIO : Hid (W.ownsRow g 56 2 (.slice (some ⟨g, 0, none⟩) n cap) n (passC (nar st q))) := by
      show World.ownsRow _ _ _ _ _ _ _
      rw [← narTo_all st q (n - 1) (by have := HN.out; omega), ← narP_range st q (n - 1) (by have := HN.out; omega), ← hys]
      exact iO
    clear iO iL iE iB hK hys hstop
    gi_wp2_with fail
    refine ⟨by simp, .inl ⟨_, _, rfl, run_takeDeferred HK.out, ?_⟩⟩
    exact ⟨_, results_none rfl _ _ _, ⟨_, rfl⟩, (row_own g _ 2 _ n (fun _ : Unit => passC (nar st q))) () W _ (some D) HIO.out (grownBy_putObj' W D (.deferred none)) (fun r e => by cases e; exact ⟨_, HK.out, rfl⟩), HIB.out.trans (belowK_b (n₀ := g) (w := w) (by omega) W D _ _ (by omega) HK.out rfl rfl)⟩
  case stop =>
    rintro D c pre W _ _ h _
    exact h.elim
end Go.Proofs.Ytnciomoapajonaa
