/- Contracts of models alike and of the lists of points that tell. No law is proved here. -/
import Derived.Test.YthflbbjilebhlaaVc
import Derived.Test.YthflbbjilebhlaaVa
import Derived.Laws.StructEq
import Derived.Maps.OwnSet
import Derived.Carry
import Derived.Test.YthflbbjilebhlaaRgx
import Derived.Test.YthflbbjilebhlaaShelf
import Derived.Maps.AppendAt
import Derived.Laws.OwnMore
set_option linter.unusedSimpArgs false
set_option linter.unusedVariables false
namespace Go.Proofs.Ythflbbjilebhlaa
open Go Go.RowKit Go.Shelf Sc

set_option maxRecDepth 100000 in
set_option maxHeartbeats 4000000 in
theorem eqCuts (x0 x1 x2 x3 x4 x5 x6 x7 y0 y1 y2 y3 y4 y5 y6 y7 : Int) (w : World) : (Op.equalIn 10000 97 (.agg #[.int .i64 x0, .int .i64 x1, .int .i64 x2, .int .i64 x3, .int .i64 x4, .int .i64 x5, .int .i64 x6, .int .i64 x7]) (.agg #[.int .i64 y0, .int .i64 y1, .int .i64 y2, .int .i64 y3, .int .i64 y4, .int .i64 y5, .int .i64 y6, .int .i64 y7])).run Try.prog w = .ok ([x0, x1, x2, x3, x4, x5, x6, x7] == [y0, y1, y2, y3, y4, y5, y6, y7]) w := by
  have u3 := Try.underlying3
  have a3 := Try.isAgg3
  have z3 := Try.sizeOf3
  rw [show (10000 : Nat) = 9999 + 1 from rfl, Op.equalIn]
  simp only [Sem.run_bind, run_underlying Try.underlying97, Result.andThen_ok]
  simp only [Std.Legacy.Range.forIn_eq_forIn_range', Std.Legacy.Range.size, Nat.sub_zero, Nat.add_sub_cancel, Nat.div_one, List.range'_succ, List.range'_zero, List.forIn_cons, List.forIn_nil]
  go_simp
  by_cases h0 : x0 = y0
  case neg => simp [h0]
  subst h0
  by_cases h1 : x1 = y1
  case neg => simp [h1]
  subst h1
  by_cases h2 : x2 = y2
  case neg => simp [h2]
  subst h2
  by_cases h3 : x3 = y3
  case neg => simp [h3]
  subst h3
  by_cases h4 : x4 = y4
  case neg => simp [h4]
  subst h4
  by_cases h5 : x5 = y5
  case neg => simp [h5]
  subst h5
  by_cases h6 : x6 = y6
  case neg => simp [h6]
  subst h6
  by_cases h7 : x7 = y7
  case neg => simp [h7]
  subst h7
  simp
set_option maxRecDepth 100000 in
set_option maxHeartbeats 4000000 in
theorem alike_any (p p' : List Value) (cs cs' : List Int) (w : World) (hp : p.length = 9) (hp' : p'.length = 9) (hcs : cs.length = 8) (hcs' : cs'.length = 8) :
    Calls Try.prog 107 #[.agg (mdC p cs), .agg (mdC p' cs')] w fun e w' => e = .returned (.bool (cs == cs')) ∧ Below w.heap.size w w' := by
  obtain ⟨W, hW, q1, q2, hb, hsz⟩ := al2 w (Obj.cells (mdC p cs) 99) (Obj.cells (mdC p' cs') 99)
  have M1 : MdBlk W w.heap.size p cs := q1
  have M2 : MdBlk W (w.heap.size + 1) p' cs' := q2
  have c0 := M1.cw hp 0 (by omega)
  have d0 := M2.cw hp' 0 (by omega)
  have c1 := M1.cw hp 1 (by omega)
  have d1 := M2.cw hp' 1 (by omega)
  have c2 := M1.cw hp 2 (by omega)
  have d2 := M2.cw hp' 2 (by omega)
  have c3 := M1.cw hp 3 (by omega)
  have d3 := M2.cw hp' 3 (by omega)
  have c4 := M1.cw hp 4 (by omega)
  have d4 := M2.cw hp' 4 (by omega)
  have c5 := M1.cw hp 5 (by omega)
  have d5 := M2.cw hp' 5 (by omega)
  have c6 := M1.cw hp 6 (by omega)
  have d6 := M2.cw hp' 6 (by omega)
  have c7 := M1.cw hp 7 (by omega)
  have d7 := M2.cw hp' 7 (by omega)
  obtain ⟨x0, x1, x2, x3, x4, x5, x6, x7, hx⟩ := list8 cs hcs
  obtain ⟨y0, y1, y2, y3, y4, y5, y6, y7, hy⟩ := list8 cs' hcs'
  have ml1 := M1.lt
  have ml2 := M2.lt
  have HW := Lib.hid hW
  have HB := Lib.hid hb
  simp only [hx, List.getD_cons_zero, List.getD_cons_succ] at c0 c1 c2 c3 c4 c5 c6 c7
  simp only [hy, List.getD_cons_zero, List.getD_cons_succ] at d0 d1 d2 d3 d4 d5 d6 d7
  obtain ⟨R, hR⟩ : ∃ R, (cs == cs') = R := ⟨_, rfl⟩
  rw [hR]
  rw [hx, hy] at hR
  clear hW q1 q2 hb hsz M1 M2 hp hp' hcs hcs' hx hy
  have hq := eqCuts x0 x1 x2 x3 x4 x5 x6 x7 y0 y1 y2 y3 y4 y5 y6 y7 W
  rw [hR] at hq
  go_enter Try.func107, Try.ntmps107
  go_upto_region 1 with fail
  rw [HW.out]
  go_wp2_with fail
  go_ret
  exact ⟨rfl, HB.out⟩
end Go.Proofs.Ythflbbjilebhlaa
namespace Go.Proofs.Ythflbbjilebhlaa
open Go Go.RowKit Go.Shelf Sc

set_option maxRecDepth 100000 in
set_option maxHeartbeats 2000000 in
theorem aindex_any (c : Cse) (hv rv v : Value) (s : Scl) (l : List Scl) (w : World) (hl : MdsAt w v c hv rv l) (h8 : l.length ≤ 6) :
    Calls Try.prog 120 #[v, .func (.func 107) #[.agg (mdC (mdP c hv rv s) (cut8 c s))] #[]] w fun e w' => (∃ k : Int, e = .returned (.int .i64 k) ∧ Hid (decide (0 ≤ k) = l.any (fun t => cut8 c s == cut8 c t))) ∧ Below w.heap.size w w' := by
  obtain ⟨a, cap, rfl, lsc, _⟩ := id hl
  obtain ⟨f, hf⟩ : ∃ f : Scl → Bool, (fun t => cut8 c s == cut8 c t) = f := ⟨_, rfl⟩
  have H1 : Hid (∀ r W1, Calls Try.prog 107 #[.agg (mdC (mdP c hv rv s) (cut8 c s)), .agg (mdC (mdP c hv rv r) (cut8 c r))] W1 fun e w' => e = .returned (.bool (f r)) ∧ Below W1.heap.size W1 w') := fun r W1 => by
    have h := alike_any (mdP c hv rv s) (mdP c hv rv r) (cut8 c s) (cut8 c r) W1 rfl rfl (cut8_len c s) (cut8_len c r)
    rw [← hf]
    exact h
  have HS17 : Hid (∀ r, (mdC (mdP c hv rv r) (cut8 c r)).size = 17) := fun r => mdW_size c hv rv r
  generalize mdC (mdP c hv rv s) (cut8 c s) = M at *
  obtain ⟨n, hn⟩ : ∃ n, l.length = n := ⟨_, rfl⟩
  rw [hf]
  rw [hn] at hl lsc h8 ⊢
  have HL := Lib.hid hl
  have HN := Lib.hid hn
  have nI : (n : Int) ≤ 6 := by omega
  clear hl hn hf
  go_enter Try.func120, Try.ntmps120
  go_wp2
  go_loopg [8] n (fun gh i wr => ∃ (k : Nat), gh + k = n ∧ i = .int .i64 (k : Int) ∧ Hid ((l.take k).any f = false) ∧ Hid (Below w.heap.size w wr))
  case atStart => exact ⟨0, by omega, rfl, rfl, Below.refl _ _⟩
  case round =>
    obtain ⟨k, hkn, rfl, HA, HB⟩ := hrel
    by_cases hlt : k < n
    · have kI : (k : Int) < (n : Int) := by omega
      have kz : (0 : Int) ≤ (k : Int) := by omega
      have hk' : k < l.length := by rw [HN.out]; exact hlt
      obtain ⟨b, o, rfl, hcc⟩ := (HL.out.below HB.out).get hk'
      have hcall := H1.out l[k] wr
      have HMO := Lib.hid (any_more f l k hk' HA.out)
      have HAT := Lib.hid (any_at f l k hk')
      obtain ⟨X, hX⟩ : ∃ X, f l[k] = X := ⟨_, rfl⟩
      rw [hX] at hcall HMO HAT
      have HS := Lib.hid (HS17.out l[k])
      generalize mdC (mdP c hv rv l[k]) (cut8 c l[k]) = M2 at *
      have HCL := Lib.hid hcall
      have HCC := Lib.hid hcc
      clear hcall hX hk' hcc
      go_wp2_with (refine wpList_load_at rfl 99 (.tmp 14) rfl b (o + k * 17) rfl M2 _ HCC.out Try.underlying99 rfl (by rw [mdSize, HS.out]) ?_)
      refine HCL.out.mono ?_
      rintro e w2 ⟨rfl, hb⟩
      have HB2 := Lib.hid (HB.out.trans (hb.mono HB.out.size))
      clear hb HCL
      cases X
      · have HQ := Lib.hid (HMO.out rfl)
        go_wp2_with fail
        go_roundg (gk - 1)
        case measure => omega
        case rel => exact ⟨k + 1, by omega, by go_num, HQ, HB2⟩
      · have HQ := Lib.hid (HAT.out rfl)
        go_wp2_with fail
        go_ret
        exact ⟨⟨k, rfl, by rw [HQ.out]; show decide _ = true; simp⟩, HB2.out⟩
    · have e : l.take k = l := List.take_of_length_le (by have := HN.out; omega)
      rw [e] at HA
      have kI : ¬ (k : Int) < (n : Int) := by omega
      clear hlt e hkn
      go_wp2_with fail
      go_ret
      exact ⟨⟨-1, rfl, by rw [HA.out]; show decide _ = false; simp⟩, HB.out⟩
set_option maxRecDepth 100000 in
set_option maxHeartbeats 2000000 in
theorem acontains_any (c : Cse) (hv rv v : Value) (s : Scl) (l : List Scl) (w : World) (hl : MdsAt w v c hv rv l) (h8 : l.length ≤ 6) :
    Calls Try.prog 106 #[v, .func (.func 107) #[.agg (mdC (mdP c hv rv s) (cut8 c s))] #[]] w fun e w' => e = .returned (.bool (l.any (fun t => cut8 c s == cut8 c t))) ∧ Below w.heap.size w w' := by
  have HI := Lib.hid (aindex_any c hv rv v s l w hl h8)
  generalize mdC (mdP c hv rv s) (cut8 c s) = M at *
  generalize l.any (fun t => cut8 c s == cut8 c t) = R at *
  clear hl h8
  go_enter Try.func106, Try.ntmps106
  go_wp2_with fail
  refine HI.out.mono ?_
  rintro e w2 ⟨⟨k, rfl, HK⟩, hb⟩
  have HB := Lib.hid hb
  clear hb
  go_wp2_with fail
  go_ret
  exact ⟨by rw [← HK.out]; rfl, HB.out⟩
theorem MdsAt.take {w : World} {a : Option Addr} {n cap : Nat} {hv rv : Value} {c : Cse} {l : List Scl} (h : MdsAt w (.slice a n cap) c hv rv l) (k : Nat) (hk : k ≤ l.length) : MdsAt w (.slice a k cap) c hv rv (l.take k) := by
  obtain ⟨a', cap', e, hc, h2⟩ := h
  simp only [Value.slice.injEq] at e
  obtain ⟨rfl, rfl, rfl⟩ := e
  have hl : (l.take k).length = k := by rw [List.length_take]; omega
  refine ⟨a, cap, by rw [hl], by omega, fun hne => ?_⟩
  obtain ⟨b, o, rfl, hcc⟩ := h2 (by rintro rfl; simp at hne)
  refine ⟨b, o, rfl, fun j hj u x hu => ?_⟩
  rw [List.getElem_take] at hu
  exact hcc j (by omega) u x hu
/-- Is any of the scales cut as one of those ahead of it? -/
def twB (c : Cse) (l : List Scl) (k : Nat) : Bool := (List.range k).any fun i => (l.take i).any fun t => cut8 c (l.getD i default) == cut8 c t
theorem twB_no {c : Cse} {l : List Scl} {k : Nat} (h : twB c l k = false) (h2 : ((l.take k).any fun t => cut8 c (l.getD k default) == cut8 c t) = false) : twB c l (k + 1) = false := by
  unfold twB at h ⊢
  rw [List.range_succ, List.any_append, h]
  simp only [List.any_cons, List.any_nil, Bool.or_false, Bool.false_or]
  exact h2
theorem twB_at {c : Cse} {l : List Scl} {k n : Nat} (hk : k < n) (h2 : ((l.take k).any fun t => cut8 c (l.getD k default) == cut8 c t) = true) : twB c l n = true := by
  unfold twB
  rw [List.any_eq_true]
  exact ⟨k, List.mem_range.2 hk, h2⟩
set_option maxRecDepth 100000 in
set_option maxHeartbeats 4000000 in
theorem anyAlike_any (c : Cse) (hv rv v : Value) (l : List Scl) (w : World) (hC : CseAt w c hv rv) (hl : MdsAt w v c hv rv l) (h8 : l.length ≤ 6) :
    Calls Try.prog 79 #[v] w fun e w' => e = .returned (.bool (twB c l l.length)) ∧ Below w.heap.size w w' := by
  obtain ⟨ha, hn0, hc, rfl⟩ : ∃ a n c, hv = .slice a n c := by obtain ⟨_, a, cap, h, _⟩ := hC.hs; exact ⟨_, _, _, h⟩
  obtain ⟨ra, rn0, rc, rfl⟩ : ∃ a n c, rv = .slice a n c := by obtain ⟨_, a, cap, h, _⟩ := hC.rd; exact ⟨_, _, _, h⟩
  clear hC
  obtain ⟨a, cap, rfl, lsc, _⟩ := id hl
  obtain ⟨n, hn⟩ : ∃ n, l.length = n := ⟨_, rfl⟩
  obtain ⟨R, hR⟩ : ∃ R, twB c l n = R := ⟨_, rfl⟩
  rw [hn] at hl lsc h8 ⊢
  rw [hR]
  have HR := Lib.hid hR
  have HL := Lib.hid hl
  have HN := Lib.hid hn
  have H1 : Hid (∀ s k W1, k ≤ n → Below w.heap.size w W1 → Calls Try.prog 106 #[.slice a k cap, .func (.func 107) #[.agg (mdC (mdP c (.slice ha hn0 hc) (.slice ra rn0 rc) s) (cut8 c s))] #[]] W1 fun e w' => e = .returned (.bool ((l.take k).any (fun t => cut8 c s == cut8 c t))) ∧ Below W1.heap.size W1 w') := fun s k W1 hk hb => acontains_any c _ _ _ s (l.take k) W1 ((hl.below hb).take k (by omega)) (by rw [List.length_take]; omega)
  have nI : (n : Int) ≤ 6 := by omega
  have capI : (n : Int) ≤ (cap : Int) := by omega
  have hz := (zero_of_info mdZero).1
  clear hl hn hR
  go_enter Try.func79, Try.ntmps79
  go_wp2
  go_loopg [3, 4, 7] n (fun gh _ _ i wr => ∃ (k : Nat), gh + k = n ∧ i = .int .i64 (k : Int) ∧ Hid (twB c l k = false) ∧ Hid (Below w.heap.size w wr))
  case atStart => exact ⟨0, by omega, rfl, rfl, Below.refl _ _⟩
  case round =>
    obtain ⟨k, hkn, rfl, HA, HB⟩ := hrel
    by_cases hlt : k < n
    · have kI : (k : Int) < (n : Int) := by omega
      have kc : (k : Int) ≤ (cap : Int) := by omega
      have kz : (0 : Int) ≤ (k : Int) := by omega
      have hk' : k < l.length := by rw [HN.out]; exact hlt
      have hgd : l.getD k default = l[k] := by simp [List.getD_eq_getElem?_getD, hk']
      have h1 := fun W1 => H1.out l[k] k W1 (by omega)
      obtain ⟨X, hX⟩ : ∃ X, ((l.take k).any fun t => cut8 c l[k] == cut8 c t) = X := ⟨_, rfl⟩
      have HMO : Hid (X = false → twB c l (k + 1) = false) := fun h => twB_no HA.out (by rw [hgd, hX]; exact h)
      have HAT : Hid (X = true → twB c l n = true) := fun h => twB_at hlt (by rw [hgd, hX]; exact h)
      obtain ⟨b, o, rfl, hcc⟩ := (HL.out.below HB.out).get hk'
      rw [hX] at h1
      obtain ⟨p, hp⟩ : ∃ p, mdP c (.slice ha hn0 hc) (.slice ra rn0 rc) l[k] = p := ⟨_, rfl⟩
      obtain ⟨cs, hcs⟩ : ∃ cs, cut8 c l[k] = cs := ⟨_, rfl⟩
      have HPL : Hid (p.length = 9) := by show _ = _; rw [← hp]; rfl
      have HC8 : Hid (cs.length = 8) := by show _ = _; rw [← hcs]; exact cut8_len _ _
      rw [hp, hcs] at h1 hcc
      have HS : Hid ((mdC p cs).size = 17) := by show _ = _; rw [md_size, HPL.out, HC8.out]
      have HONE : Hid ((mdC p cs).all (·.oneCell') = true) := by
        show _ = true
        rw [← hp]
        exact md_one _ _ rfl
      obtain ⟨w3, hw3, M3, b3⟩ : ∃ X, (wr.alloc (Obj.cells (mdC pf0 z8) 99)).setRow wr.heap.size (mdC p cs) = X ∧ MdBlk X wr.heap.size p cs ∧ Below wr.heap.size wr X := ⟨_, rfl, setRow_heap _ _ _ _ _ _ (heap_alloc_new wr _), below_setRow (by go_grown) (Nat.le_refl _) _⟩
      have HCL : Hid (∀ W1, Below w3.heap.size w3 W1 → _) := fun W1 hb1 => h1 W1 ((HB.out.trans (b3.mono HB.out.size)).trans (hb1.mono (HB.out.trans (b3.mono HB.out.size)).size))
      have HW3 := Lib.hid hw3
      have HM3 := Lib.hid M3
      have B3 := Lib.hid (HB.out.trans (b3.mono HB.out.size))
      have HN2 : Hid (MdBlk (wr.alloc (Obj.cells (mdC pf0 z8) 99)) wr.heap.size pf0 z8) := heap_alloc_new wr _
      have HCC := Lib.hid hcc
      have HPO : Hid (p.all (·.oneCell') = true) := by show _ = true; rw [← hp]; rfl
      clear hk' hgd h1 hX hp hcs hw3 M3 b3 hcc HA
      go_wp2_with (first
        | (refine wpList_load_at rfl 99 (.tmp 10) rfl b (o + k * 17) rfl (mdC p cs) _ HCC.out Try.underlying99 rfl (by rw [mdSize, HS.out]) ?_)
        | (refine md_store rfl (.tmp 4) (.tmp 11) rfl wr.heap.size rfl p cs pf0 z8 rfl HN2.out HPL.out HC8.out rfl rfl HPO.out rfl ?_; rw [HW3.out]))
      go_upto_region 4 with fail
      have KA : ∀ W' : World, Below w3.heap.size w3 W' → Below w3.heap.size w3 W' := fun W' hb => hb
      refine wp_region_noPanic ?_
      refine wp_region_held_drew (S := (fun W' => Below w3.heap.size w3 W')) (by kernel_rfl) ?_ (fun hh0 => ?_)
      · exact KA _ (Below.refl _ _).drew
      refine wpAnyH_take (i := 0) (v := ?_) rfl (by as_aux_lemma => kernel_rfl) (by as_aux_lemma => kernel_rfl) (by as_aux_lemma => kernel_rfl) (fun _ _ _ h => h) (Or.inl ⟨by rfl, ?_⟩) (by assumption) ?_
      rotate_left
      · intro w hSw
        try dsimp only at hSw
        go_simp
        try with_reducible rfl
      try simp only [Act.put, List.getElem_toArray, List.getElem_cons_succ, List.getElem_cons_zero, List.setIfInBounds_toArray, List.set_cons_zero, List.set_cons_succ]
      refine wpAnyH_take (i := 1) (v := ?_) rfl (by as_aux_lemma => kernel_rfl) (by as_aux_lemma => kernel_rfl) (by as_aux_lemma => kernel_rfl) (fun _ _ _ h => h) (Or.inl ⟨by rfl, ?_⟩) (by assumption) ?_
      rotate_left
      · intro w hSw
        try dsimp only at hSw
        go_simp
        try with_reducible rfl
      try simp only [Act.put, List.getElem_toArray, List.getElem_cons_succ, List.getElem_cons_zero, List.setIfInBounds_toArray, List.set_cons_zero, List.set_cons_succ]
      refine wpAnyH_take (i := 2) (v := ?_) rfl (by as_aux_lemma => kernel_rfl) (by as_aux_lemma => kernel_rfl) (by as_aux_lemma => kernel_rfl) (fun _ _ _ h => h) (Or.inl ⟨by rfl, ?_⟩) (by assumption) ?_
      rotate_left
      · intro w hSw
        try dsimp only at hSw
        go_simp
        try with_reducible rfl
      try simp only [Act.put, List.getElem_toArray, List.getElem_cons_succ, List.getElem_cons_zero, List.setIfInBounds_toArray, List.set_cons_zero, List.set_cons_succ]
      refine wpAnyH_take (i := 3) (v := .agg (mdC p cs)) rfl (by as_aux_lemma => kernel_rfl) (by as_aux_lemma => kernel_rfl) (by as_aux_lemma => kernel_rfl) (fun _ _ _ h => h) (Or.inl ⟨by rfl, ?_⟩) (by assumption) ?_
      · intro w hSw; exact exec_md (by rfl) (by rfl) _ (HM3.out.below hSw HM3.out.lt) HPL.out HC8.out
      try simp only [Act.put, List.getElem_toArray, List.getElem_cons_succ, List.getElem_cons_zero, List.setIfInBounds_toArray, List.set_cons_zero, List.set_cons_succ]
      refine wpAnyH_take (i := 4) (v := ?_) rfl (by as_aux_lemma => kernel_rfl) (by as_aux_lemma => kernel_rfl) (by as_aux_lemma => kernel_rfl) (fun _ _ _ h => h) (Or.inl ⟨by rfl, ?_⟩) (by assumption) ?_
      rotate_left
      · intro w hSw
        try dsimp only at hSw
        go_simp
        try with_reducible rfl
      try simp only [Act.put, List.getElem_toArray, List.getElem_cons_succ, List.getElem_cons_zero, List.setIfInBounds_toArray, List.set_cons_zero, List.set_cons_succ]
      refine wpAnyH_ready (rs := [5]) (by as_aux_lemma => kernel_rfl) (by simp) ?_
      refine AllReadyH.cons rfl (fun K hK => ?_) AllReadyH.nil
      go_simp
      refine (HCL.out _ hh0).mono ?_
      rintro e w4 ⟨rfl, hbv⟩
      refine hK.out _ _ (KA _ (Below.trans hh0 (Below.mono hbv (hh0).size))) (fun hh1 => ?_)
      clear hK K
      try simp only [Act.put, List.getElem_toArray, List.getElem_cons_succ, List.getElem_cons_zero, List.setIfInBounds_toArray, List.set_cons_zero, List.set_cons_succ]
      refine wpAnyH_done (by as_aux_lemma => kernel_rfl) ?_ _
      refine NoPanic.normal ?_
      have HBZ := Lib.hid (hh1)
      have B4 := Lib.hid (B3.out.trans (HBZ.out.mono B3.out.size))
      clear KA
      cases X
      · have HQ := Lib.hid (HMO.out rfl)
        go_wp2_with fail
        go_roundg (gk - 1)
        case measure => omega
        case rel => exact ⟨k + 1, by omega, by go_num, HQ, B4⟩
      · have hq := HAT.out rfl
        rw [HR.out] at hq
        have HQ := Lib.hid hq
        go_wp2_with fail
        go_ret
        first | exact ⟨rfl, B4.out⟩ | exact ⟨congrArg (fun x => Ending.returned (.bool x)) HQ.out.symm, B4.out⟩
    · obtain rfl : k = n := by omega
      have kI : ¬ (k : Int) < (k : Int) := by omega
      have hq := HA.out
      rw [HR.out] at hq
      have HQ := Lib.hid hq
      clear hlt hkn hq
      go_wp2_with fail
      go_ret
      exact ⟨congrArg (fun x => Ending.returned (.bool x)) HQ.out.symm, HB.out⟩
end Go.Proofs.Ythflbbjilebhlaa
namespace Go.Proofs.Ythflbbjilebhlaa
open Go Go.RowKit Go.Shelf Sc

def arC (l : List Int) : Array Value := (l.map (Value.int .i64)).toArray
theorem arC_size (l : List Int) : (arC l).size = l.length := by simp [arC]
theorem arC_one (l : List Int) : (arC l).all (·.oneCell') = true := by
  rw [Array.all_eq_true_iff_forall_mem]
  intro x hx
  simp only [arC, List.mem_toArray, List.mem_map] at hx
  obtain ⟨y, _, rfl⟩ := hx
  rfl
theorem arC_get (l : List Int) (i : Nat) (h : i < l.length) : (arC l)[i]? = some (.int .i64 (l.getD i 0)) := by simp [arC, List.getD_eq_getElem?_getD, h]
theorem arC_set (l : List Int) (i : Nat) (x : Int) : (arC l).setIfInBounds i (.int .i64 x) = arC (l.set i x) := by
  apply Array.ext'
  simp [arC, List.map_set]
theorem arSize : (Try.prog.info? 97).map (·.size) = some 8 := by kernel_rfl
theorem arZero : (Try.prog.info? 97).map (fun i => (i.zero, i.size)) = some (some (.agg (arC z8)), 8) := by kernel_rfl
/-- The cuts of some points; 0 where there is none of them. -/
def onlyL (cs pts : List Int) : List Int := (List.range 8).map fun (i : Nat) => if (i : Int) ∈ pts then cs.getD i 0 else 0
theorem onlyL_length (cs pts : List Int) : (onlyL cs pts).length = 8 := by simp [onlyL]
theorem onlyL_nil (cs : List Int) : onlyL cs [] = z8 := by
  apply List.ext_getElem?
  intro j
  rcases Nat.lt_or_ge j 8 with hj | hj
  · simp only [onlyL, z8, List.getElem?_map, List.getElem?_range hj, Option.map_some, List.not_mem_nil, if_false]
    rw [List.getElem?_replicate, if_pos hj]
  · rw [List.getElem?_eq_none (by rw [onlyL_length]; exact hj), List.getElem?_eq_none (by simp [z8]; exact hj)]
theorem onlyL_snoc (cs pts : List Int) (p : Nat) (hp : p < 8) : (onlyL cs pts).set p (cs.getD p 0) = onlyL cs (pts ++ [(p : Int)]) := by
  apply List.ext_getElem?
  intro j
  rcases Nat.lt_or_ge j 8 with hj | hj
  · rw [List.getElem?_set]
    by_cases e1 : p = j
    · subst e1
      rw [if_pos rfl, if_pos (by rw [onlyL_length]; omega)]
      simp [onlyL, hj]
    · rw [if_neg e1]
      have e2 : ¬ ((j : Int) = (p : Int)) := by omega
      simp [onlyL, hj, e2]
  · rw [List.getElem?_eq_none (by rw [List.length_set, onlyL_length]; exact hj), List.getElem?_eq_none (by rw [onlyL_length]; exact hj)]
set_option maxRecDepth 100000 in
set_option maxHeartbeats 4000000 in
theorem only_any (cs pts : List Int) (v : Value) (w : World) (hcs : cs.length = 8) (hP : IntsAt w v pts) (h8 : pts.length ≤ 8) (hin : ∀ p, p ∈ pts → 0 ≤ p ∧ p < 8) :
    Calls Try.prog 110 #[.agg (arC cs), v] w fun e w' => e = .returned (.agg (arC (onlyL cs pts))) ∧ Below w.heap.size w w' := by
  obtain ⟨lp, pa, pc, rfl, lpc, _⟩ := id hP
  obtain ⟨n, hn⟩ : ∃ n, pts.length = n := ⟨_, rfl⟩
  rw [hn] at lp lpc hP h8 ⊢
  obtain ⟨W, hW, q1, q2, hb, hsz⟩ := al2 w (Obj.cells (arC cs) 97) (Obj.cells (arC z8) 97)
  have HW := Lib.hid hW
  have HP := Lib.hid hP
  have HN := Lib.hid hn
  have HIN := Lib.hid hin
  have HCS := Lib.hid hcs
  have HQ1 := Lib.hid q1
  have HQ2 : Hid (W.heap[w.heap.size + 1]? = some (.cells (arC (onlyL cs (pts.take 0))) 97 (0, 0))) := by show _ = _; rw [List.take_zero, onlyL_nil]; exact q2
  have HB := Lib.hid hb
  have hz := (zero_of_info arZero).1
  have nI : (n : Int) ≤ 8 := by omega
  clear hW q1 q2 hb hsz hcs hP hn hin
  go_enter Try.func110, Try.ntmps110
  go_upto_region 1 with fail
  rw [HW.out]
  go_wp2
  go_loopg [6, 9] n (fun gh _ i wr => ∃ (k : Nat), gh + k = n ∧ i = .int .i64 (k : Int) ∧ Hid (wr.heap[w.heap.size]? = some (.cells (arC cs) 97 (0, 0))) ∧ Hid (wr.heap[w.heap.size + 1]? = some (.cells (arC (onlyL cs (pts.take k))) 97 (0, 0))) ∧ Hid (Below w.heap.size w wr))
  case atStart => exact ⟨0, by omega, rfl, HQ1, HQ2, HB⟩
  case round =>
    obtain ⟨k, hkn, rfl, H1, H2, HL⟩ := hrel
    by_cases hlt : k < n
    · have kI : (k : Int) < (n : Int) := by omega
      have hk' : k < pts.length := by rw [HN.out]; exact hlt
      obtain ⟨b, o, rfl, d0⟩ := (HP.out.below HL.out).get hk'
      have hp := HIN.out _ (List.getElem_mem hk')
      have htk : pts.take (k + 1) = pts.take k ++ [pts[k]] := List.take_succ_eq_append_getElem hk'
      obtain ⟨x, hx⟩ : ∃ x, pts[k] = x := ⟨_, rfl⟩
      rw [hx] at d0 hp htk
      obtain ⟨p, rfl⟩ : ∃ p : Nat, x = (p : Int) := ⟨x.toNat, by omega⟩
      have p8 : p < 8 := by omega
      have pI : (p : Int) < 8 := by omega
      have pz : (0 : Int) ≤ (p : Int) := by omega
      have e0 := cellOf H1.out p _ (arC_get cs p (by rw [HCS.out]; exact p8))
      have e1 := cellOf H2.out p _ (arC_get _ p (by rw [onlyL_length]; exact p8))
      have f1 := frozen_of_row _ _ p _ _ H2.out
      have el := lt_of_block H2.out
      have el0 := lt_of_block H1.out
      have dl := World.block_lt_of_cell? wr ⟨b, o + k, none⟩ d0
      have G1 : Hid ((wr.setCell ⟨w.heap.size + 1, p, none⟩ (.int .i64 (cs.getD p 0))).heap[w.heap.size]? = some (.cells (arC cs) 97 (0, 0))) := (heap_setCell_other _ _ _ _ (by show w.heap.size ≠ w.heap.size + 1; omega)).trans H1.out
      have G2 : Hid ((wr.setCell ⟨w.heap.size + 1, p, none⟩ (.int .i64 (cs.getD p 0))).heap[w.heap.size + 1]? = some (.cells (arC (onlyL cs (pts.take (k + 1)))) 97 (0, 0))) := by
        show _ = _
        rw [heap_setCell_same wr (w.heap.size + 1) p _ _ _ H2.out, arC_set, onlyL_snoc cs _ p p8, ← htk]
      have L2 : Hid (Below w.heap.size w (wr.setCell ⟨w.heap.size + 1, p, none⟩ (.int .i64 (cs.getD p 0)))) := HL.out.setCell (p := ⟨w.heap.size + 1, p, none⟩) (by show w.heap.size ≤ w.heap.size + 1; omega) _
      generalize cs.getD p 0 = y at *
      generalize (onlyL cs (pts.take k)).getD p 0 = z at *
      clear hk' hx htk hp H1 H2 HL
      go_wp2_with fail
      go_roundg (gk - 1)
      case measure => omega
      case rel => exact ⟨k + 1, by omega, by go_num, G1, G2, L2⟩
    · obtain rfl : k = n := by omega
      have e : pts.take k = pts := List.take_of_length_le (by have := HN.out; omega)
      rw [e] at H2
      have kI : ¬ (k : Int) < (k : Int) := by omega
      obtain ⟨V, hV, MV⟩ : ∃ V, wr.setRow (w.heap.size + 1) (arC (onlyL cs pts)) = V ∧ V.heap[w.heap.size + 1]? = some (.cells (arC (onlyL cs pts)) 97 (0, 0)) := ⟨_, rfl, setRow_heap _ _ _ _ _ _ H2.out⟩
      have BV : Hid (Below w.heap.size w V) := by show Below _ _ _; rw [← hV]; exact below_setRow HL.out (by omega) _
      have HV := Lib.hid hV
      have HMV := Lib.hid MV
      have HLN := Lib.hid (onlyL_length cs pts)
      have HSZ : Hid ((arC (onlyL cs pts)).size = 8) := by show _ = _; rw [arC_size, HLN.out]
      have HO1 := Lib.hid (arC_one (onlyL cs pts))
      clear hlt hkn e hV MV
      go_wp2_with (first
        | (refine wpList_load_row rfl 97 (.tmp 4) rfl (w.heap.size + 1) rfl 97 (arC (onlyL cs pts)) (0, 0) _ H2.out Try.underlying97 rfl (by rw [arSize, HSZ.out]) ?_)
        | (refine wpList_store_row rfl 97 (.tmp 4) (.tmp 19) rfl (w.heap.size + 1) (arC (onlyL cs pts)) rfl rfl 97 (arC (onlyL cs pts)) H2.out (by rw [arSize, HSZ.out]) rfl HO1.out ?_; rw [HV.out]))
      refine bodyPost_ret (results_cell_row rfl _ _ (w.heap.size + 1) 97 (arC (onlyL cs pts)) (0, 0) _ rfl HMV.out Try.underlying97 rfl (by rw [arSize, HSZ.out])) rfl ?_
      exact ⟨rfl, BV.out⟩
end Go.Proofs.Ythflbbjilebhlaa
namespace Go.Proofs.Ythflbbjilebhlaa
open Go Go.RowKit Go.Shelf Sc

theorem arC_inj {x y : List Int} (h : arC x = arC y) : x = y := by
  have h1 := congrArg Array.toList h
  simp only [arC] at h1
  exact (List.map_inj_right (fun a b h => by simpa using h)).1 h1
theorem beq_dec (x y : List Int) : (x == y) = decide (x = y) := by by_cases h : x = y <;> simp [h]
theorem eq_ar (x y : List Int) (hx : x.length = 8) (hy : y.length = 8) (w : World) : (Op.equal 97 (.agg (arC x)) (.agg (arC y))).run Try.prog w = .ok (decide (x = y)) w := by
  obtain ⟨x0, x1, x2, x3, x4, x5, x6, x7, rfl⟩ := list8 x hx
  obtain ⟨y0, y1, y2, y3, y4, y5, y6, y7, rfl⟩ := list8 y hy
  have h := eqCuts x0 x1 x2 x3 x4 x5 x6 x7 y0 y1 y2 y3 y4 y5 y6 y7 w
  rw [beq_dec] at h
  exact h
theorem check_ar (em : Bool) (x : List Int) (hx : x.length = 8) (w : World) : (Instr.checkKey em 10000 97 (.agg (arC x))).run Try.prog w = .ok () w := by
  obtain ⟨a, b, c, d, e, f, g, h, rfl⟩ := list8 x hx
  kernel_rfl
/-- What was seen: the keys, in their order. -/
def KeysA (ks : List (List Int)) (es : List MapEntry) : Prop := es.map (·.key) = ks.map fun x => .agg (arC x)
theorem find_ar (x : List Int) (hx : x.length = 8) (w : World) : ∀ (ks : List (List Int)) (es : List MapEntry) (i : Nat), (∀ k, k ∈ ks → k.length = 8) → KeysA ks es → ∃ o, (Instr.findAsking 97 (.agg (arC x)) es i).run Try.prog w = .ok o w ∧
    ((o = none ∧ x ∉ ks) ∨ ∃ j e, o = some (j, e.val) ∧ i ≤ j ∧ es[j - i]? = some e ∧ e.key = .agg (arC x) ∧ x ∈ ks) := by
  intro ks es
  induction es generalizing ks with
  | nil =>
    intro i hl h
    cases ks with
    | nil => exact ⟨none, rfl, .inl ⟨rfl, by simp⟩⟩
    | cons k ks => simp [KeysA] at h
  | cons e es ih =>
    intro i hl h
    cases ks with
    | nil => simp [KeysA] at h
    | cons y ks =>
      simp only [KeysA, List.map_cons, List.cons.injEq] at h
      obtain ⟨hk, ht⟩ := h
      obtain ⟨o, h1, h2⟩ := ih ks (i + 1) (fun k hk => hl k (List.mem_cons_of_mem _ hk)) ht
      have hy := hl y (by simp)
      by_cases hc : x = y
      · subst hc
        refine ⟨some (i, e.val), ?_, .inr ⟨i, e, rfl, Nat.le_refl _, by simp, hk, by simp⟩⟩
        simp only [Instr.findAsking, Sem.run_bind, hk, eq_ar x x hx hx, Result.andThen_ok, decide_true, if_true, Sem.run_pure]
      · refine ⟨o, ?_, ?_⟩
        · simp only [Instr.findAsking, Sem.run_bind, hk, eq_ar x y hx hy, Result.andThen_ok, hc, decide_false]
          exact h1
        · rcases h2 with ⟨h2, h3⟩ | ⟨j, z, e1, e2, e3, e5, e6⟩
          · exact .inl ⟨h2, by simp [hc, h3]⟩
          · refine .inr ⟨j, z, e1, by omega, ?_, e5, List.mem_cons_of_mem _ e6⟩
            rw [show j - i = (j - (i + 1)) + 1 by omega]
            simpa using e3
theorem findk_ar (x : List Int) (hx : x.length = 8) (w : World) (ks : List (List Int)) (es : List MapEntry) (hl : ∀ k, k ∈ ks → k.length = 8) (h : KeysA ks es) : ∃ o, (Instr.findKey 97 (.agg (arC x)) es).run Try.prog w = .ok o w ∧
    ((o = none ∧ x ∉ ks) ∨ ∃ (j : Nat) (e : MapEntry), o = some (j, e.val) ∧ es[j]? = some e ∧ e.key = .agg (arC x) ∧ x ∈ ks) := by
  obtain ⟨o, h1, h2⟩ := find_ar x hx w ks es 0 hl h
  have hu := Try.underlying97
  have h2' : (o = none ∧ x ∉ ks) ∨ ∃ (j : Nat) (e : MapEntry), o = some (j, e.val) ∧ es[j]? = some e ∧ e.key = .agg (arC x) ∧ x ∈ ks := by
    rcases h2 with h2 | ⟨j, e, e1, _, e3, e4, e5⟩
    · exact .inl h2
    · exact .inr ⟨j, e, e1, by simpa using e3, e4, e5⟩
  cases es with
  | nil =>
    refine ⟨none, ?_, ?_⟩
    · simp [Instr.findKey, run_underlying hu, Instr.findNow]
    · rcases h2' with h2 | ⟨j, e, _, e3, _⟩
      · exact .inl ⟨rfl, h2.2⟩
      · simp at e3
  | cons e es =>
    refine ⟨o, ?_, h2'⟩
    cases ks with
    | nil => simp [KeysA] at h
    | cons y ks =>
      simp only [KeysA, List.map_cons, List.cons.injEq] at h
      have : Instr.findNow (.array 8 3) (.agg (arC x)) (e :: es) 0 = none := by
        simp only [Instr.findNow, h.1, Instr.sameNow]
      simp only [Instr.findKey, Sem.run_bind, run_underlying hu, Result.andThen_ok, this]
      exact h1
/-- One more is seen. -/
def seenI (ks : List (List Int)) (x : List Int) : List (List Int) := if x ∈ ks then ks else ks ++ [x]
def seenK (l : List (List Int)) : List (List Int) := l.foldl seenI []
theorem seenK_snoc (l : List (List Int)) (x : List Int) : seenK (l ++ [x]) = seenI (seenK l) x := by simp [seenK]
theorem seenF_le (l : List (List Int)) : ∀ acc, (l.foldl seenI acc).length ≤ acc.length + l.length := by
  induction l with
  | nil => intro acc; simp
  | cons x l ih =>
    intro acc
    have h := ih (seenI acc x)
    have h2 : (seenI acc x).length ≤ acc.length + 1 := by unfold seenI; split <;> simp
    simp only [List.foldl_cons, List.length_cons]
    omega
theorem seenK_le (l : List (List Int)) : (seenK l).length ≤ l.length := by have := seenF_le l []; simpa [seenK] using this
theorem seenI_len {ks : List (List Int)} {x : List Int} (h : ∀ k, k ∈ ks → k.length = 8) (hx : x.length = 8) : ∀ k, k ∈ seenI ks x → k.length = 8 := by
  intro k hk
  unfold seenI at hk
  split at hk
  · exact h k hk
  · rcases List.mem_append.1 hk with hk | hk
    · exact h k hk
    · simp at hk; subst hk; exact hx
/-- A block holds the map of what was seen. -/
def SeenSt (ks : List (List Int)) (b : Nat) (w : World) : Prop := ∃ es clock, w.heap[b]? = some (.map es clock) ∧ KeysA ks es.toList ∧ (∀ k, k ∈ ks → k.length = 8)
theorem SeenSt.below {ks : List (List Int)} {b : Nat} {w w' : World} (h : SeenSt ks b w) (hb : Below w.heap.size w w') : SeenSt ks b w' := by
  obtain ⟨es, k, h1, h2⟩ := h
  exact ⟨es, k, (hb.block b (lt_of_block h1)).trans h1, h2⟩
theorem map_set {n b : Nat} {w0 w : World} {es es' : Array MapEntry} {c c' : Nat} (h : w.heap[b]? = some (.map es c)) (hb : Below n w0 w) (hn : n ≤ b) : Below n w0 { w with heap := w.heap.setIfInBounds b (.map es' c') } ∧ ({ w with heap := w.heap.setIfInBounds b (.map es' c') } : World).heap[b]? = some (.map es' c') := by
  have hlt : b < w.heap.size := (Array.getElem?_eq_some_iff.1 h).1
  refine ⟨⟨hb.os, hb.tape, hb.output, by simpa using hb.size, fun k hk => ?_⟩, ?_⟩
  · show (w.heap.setIfInBounds b _)[k]? = _
    rw [Array.getElem?_setIfInBounds_ne (by omega)]
    exact hb.block k hk
  · show (w.heap.setIfInBounds b _)[b]? = _
    rw [Array.getElem?_setIfInBounds_self, if_pos hlt]
theorem stay_ar (x : List Int) (hx : x.length = 8) (w : World) : (Instr.keyThatStays (.agg (arC x)) (.agg (arC x))).run Try.prog w = .ok (.agg (arC x)) w := by
  have : Instr.sameBits (9999 + 1) (.agg (arC x)) (.agg (arC x)) = true := by
    obtain ⟨a, b, c, d, e, f, g, h, rfl⟩ := list8 x hx
    simp [arC, Instr.sameBits]
  unfold Instr.keyThatStays
  rw [show (10000 : Nat) = 9999 + 1 from rfl, this]
  rfl
theorem store_ar (ks : List (List Int)) (b n : Nat) (x : List Int) (hx : x.length = 8) (w0 w : World) (h : SeenSt ks b w) (hb0 : Below n w0 w) (hn : n ≤ b) :
    ∃ w', (Instr.mapUpdate 160 (.map (some b)) (.agg (arC x)) (.bool true)).run Try.prog w = .ok () w' ∧ SeenSt (seenI ks x) b w' ∧ Below n w0 w' := by
  obtain ⟨es, clock, hb, hE, h8⟩ := h
  have hu := Try.underlying160
  obtain ⟨o, h1, h2⟩ := findk_ar x hx w ks es.toList h8 hE
  rcases h2 with ⟨rfl, hnot⟩ | ⟨j, e, rfl, hj, hk, hin⟩
  · refine ⟨{ w with heap := w.heap.setIfInBounds b (.map (es.push { key := .agg (arC x), val := .bool true, born := clock }) (clock + 1)) }, ?_, ⟨_, _, (map_set hb hb0 hn).2, ?_, seenI_len h8 hx⟩, (map_set hb hb0 hn).1⟩
    · simp only [Instr.mapUpdate, Sem.run_bind, run_underlying hu, Result.andThen_ok, MapKept.run_getObj_map hb, Sem.run_pure, check_ar _ x hx, h1]
      exact MapKept.run_setObj_map _ hb
    · unfold KeysA seenI at *
      rw [if_neg hnot]
      simp [hE]
  · refine ⟨{ w with heap := w.heap.setIfInBounds b (.map (es.modify j fun e => { e with key := .agg (arC x), val := .bool true }) clock) }, ?_, ⟨_, _, (map_set hb hb0 hn).2, ?_, seenI_len h8 hx⟩, (map_set hb hb0 hn).1⟩
    · have hj' : (es[j]?).map (·.key) = some (.agg (arC x)) := by
        rw [Array.getElem?_toList] at hj
        rw [hj]
        simp [hk]
      simp only [Instr.mapUpdate, Sem.run_bind, run_underlying hu, Result.andThen_ok, MapKept.run_getObj_map hb, Sem.run_pure, check_ar _ x hx, h1, hj', Option.getD_some, stay_ar x hx]
      exact MapKept.run_setObj_map _ hb
    · unfold KeysA seenI at *
      rw [if_pos hin, ← hE]
      rw [Array.toList_modify]
      apply List.ext_getElem?
      intro i
      rw [List.getElem?_map, List.getElem?_map, List.getElem?_modify]
      by_cases hij : j = i
      · subst hij
        rw [hj]
        simp [hk]
      · simp [hij]
/-- Do the points tell each two of the models apart? -/
def tellB (c : Cse) (l : List Scl) (pts : List Int) : Bool := decide ((seenK (l.map fun s => onlyL (cut8 c s) pts)).length = l.length)
theorem SeenSt.len {ks : List (List Int)} {b : Nat} {w : World} (h : SeenSt ks b w) : ∃ es clock, w.heap[b]? = some (.map es clock) ∧ es.size = ks.length := by
  obtain ⟨es, k, h1, h2, _⟩ := h
  refine ⟨es, k, h1, ?_⟩
  have := congrArg List.length h2
  simpa using this
set_option maxRecDepth 100000 in
set_option maxHeartbeats 8000000 in
theorem tell_any (c : Cse) (hv rv v pv : Value) (l : List Scl) (pts : List Int) (w : World) (hC : CseAt w c hv rv) (hl : MdsAt w v c hv rv l) (h6 : l.length ≤ 6) (hP : IntsAt w pv pts) (h8 : pts.length ≤ 8) (hin : ∀ p, p ∈ pts → 0 ≤ p ∧ p < 8) :
    Calls Try.prog 83 #[v, pv] w fun e w' => e = .returned (.bool (tellB c l pts)) ∧ Below w.heap.size w w' := by
  obtain ⟨ha, hn0, hc, rfl⟩ : ∃ a n c, hv = .slice a n c := by obtain ⟨_, a, cap, h, _⟩ := hC.hs; exact ⟨_, _, _, h⟩
  obtain ⟨ra, rn0, rc, rfl⟩ : ∃ a n c, rv = .slice a n c := by obtain ⟨_, a, cap, h, _⟩ := hC.rd; exact ⟨_, _, _, h⟩
  obtain ⟨pa, pn, pc, rfl⟩ : ∃ a n c, pv = .slice a n c := by obtain ⟨_, a, cap, h, _⟩ := hP; exact ⟨_, _, _, h⟩
  clear hC
  obtain ⟨a, cap, rfl, lsc, _⟩ := id hl
  obtain ⟨n, hn⟩ : ∃ n, l.length = n := ⟨_, rfl⟩
  obtain ⟨R, hR⟩ : ∃ R, tellB c l pts = R := ⟨_, rfl⟩
  rw [hn] at hl lsc h6 ⊢
  rw [hR]
  have HR := Lib.hid hR
  have HL := Lib.hid hl
  have HN := Lib.hid hn
  have HOL : Hid (∀ cs W1, cs.length = 8 → Below w.heap.size w W1 → Calls Try.prog 110 #[.agg (arC cs), .slice pa pn pc] W1 fun e w' => e = .returned (.agg (arC (onlyL cs pts))) ∧ Below W1.heap.size W1 w') := fun cs W1 h1 hb => only_any cs pts _ W1 h1 (hP.below hb) h8 hin
  obtain ⟨f, hf⟩ : ∃ f : Scl → List Int, (fun s => onlyL (cut8 c s) pts) = f := ⟨_, rfl⟩
  have HF : Hid (∀ s, onlyL (cut8 c s) pts = f s) := fun s => by rw [← hf]
  have HF8 : Hid (∀ s, (f s).length = 8) := fun s => by rw [← hf]; exact onlyL_length _ _
  have HRR : Hid (R = decide ((seenK (l.map f)).length = l.length)) := by show _ = _; rw [← hR, ← hf]; rfl
  have nI : (n : Int) ≤ 6 := by omega
  have hz := (zero_of_info mdZero).1
  have hmm := @run_makeMap Try.prog
  obtain ⟨W1, hW1, z1, hb1⟩ : ∃ V, w.alloc (Obj.map #[] 0) = V ∧ V.heap[w.heap.size]? = some (.map #[] 0) ∧ Below w.heap.size w V := ⟨_, rfl, heap_alloc_new _ _, by go_grown⟩
  have HW1 := Lib.hid hW1
  have HS1 : Hid (SeenSt (seenK ((l.take 0).map f)) w.heap.size W1) := ⟨_, _, z1, by simp [KeysA, seenK], by simp [seenK]⟩
  have HB1 := Lib.hid hb1
  clear hl hn hP hf hW1 z1 hb1 hR
  go_enter Try.func83, Try.ntmps83
  go_wp2_with fail
  rw [HW1.out]
  go_loopg [7, 11] n (fun gh _ i wr => ∃ (k : Nat), gh + k = n ∧ i = .int .i64 (k : Int) ∧ Hid (SeenSt (seenK ((l.take k).map f)) w.heap.size wr) ∧ Hid (Below w.heap.size w wr))
  case atStart => exact ⟨0, by omega, rfl, HS1, HB1⟩
  case round =>
    obtain ⟨k, hkn, rfl, HA, HB⟩ := hrel
    by_cases hlt : k < n
    · have kI : (k : Int) < (n : Int) := by omega
      have kz : (0 : Int) ≤ (k : Int) := by omega
      have hk' : k < l.length := by rw [HN.out]; exact hlt
      obtain ⟨b, o, rfl, hcc⟩ := (HL.out.below HB.out).get hk'
      have hsn : seenK ((l.take (k + 1)).map f) = seenI (seenK ((l.take k).map f)) (f l[k]) := by
        rw [List.take_succ_eq_append_getElem hk', List.map_append, List.map_cons, List.map_nil, seenK_snoc]
      obtain ⟨p, hp⟩ : ∃ p, mdP c (.slice ha hn0 hc) (.slice ra rn0 rc) l[k] = p := ⟨_, rfl⟩
      obtain ⟨cs, hcs⟩ : ∃ cs, cut8 c l[k] = cs := ⟨_, rfl⟩
      have HPL : Hid (p.length = 9) := by show _ = _; rw [← hp]; rfl
      have HC8 : Hid (cs.length = 8) := by show _ = _; rw [← hcs]; exact cut8_len _ _
      have hfk := HF.out l[k]
      have hf8 := HF8.out l[k]
      rw [hp, hcs] at hcc
      rw [hcs] at hfk
      obtain ⟨y, hy⟩ : ∃ y, f l[k] = y := ⟨_, rfl⟩
      rw [hy] at hsn hfk hf8
      have HSN := Lib.hid hsn
      have HY8 := Lib.hid hf8
      have HS : Hid ((mdC p cs).size = 17) := by show _ = _; rw [md_size, HPL.out, HC8.out]
      have HPO : Hid (p.all (·.oneCell') = true) := by show _ = true; rw [← hp]; rfl
      obtain ⟨w3, hw3, M3, b3⟩ : ∃ X, (wr.alloc (Obj.cells (mdC pf0 z8) 99)).setRow wr.heap.size (mdC p cs) = X ∧ MdBlk X wr.heap.size p cs ∧ Below wr.heap.size wr X := ⟨_, rfl, setRow_heap _ _ _ _ _ _ (heap_alloc_new wr _), below_setRow (by go_grown) (Nat.le_refl _) _⟩
      have hbw3 := HB.out.trans (b3.mono HB.out.size)
      have hcall := HOL.out cs w3 HC8.out hbw3
      rw [hfk] at hcall
      have HCL := Lib.hid hcall
      have HA3 := Lib.hid (HA.out.below b3)
      have HW3 := Lib.hid hw3
      have HM3 := Lib.hid M3
      have B3 := Lib.hid hbw3
      have HN2 : Hid (MdBlk (wr.alloc (Obj.cells (mdC pf0 z8) 99)) wr.heap.size pf0 z8) := heap_alloc_new wr _
      have HCC := Lib.hid hcc
      have HSZ8 : Hid ((arC cs).size = 8) := by show _ = _; rw [arC_size, HC8.out]
      have HAT : Hid (∀ j v, (arC cs)[j]? = some v → w3.cell? ⟨wr.heap.size, 9 + j, none⟩ = some v) := fun j v hj => by
        have hjl : j < cs.length := by
          have := (Array.getElem?_eq_some_iff.1 hj).1
          rwa [arC_size] at this
        rw [arC_get cs j hjl] at hj
        cases hj
        exact HM3.out.cw HPL.out j hjl
      clear hk' hp hcs hw3 M3 b3 hcc HA hsn hfk hf8 hy hcall hbw3
      go_wp2_with (first
        | (refine wpList_load_at rfl 99 (.tmp 13) rfl b (o + k * 17) rfl (mdC p cs) _ HCC.out Try.underlying99 rfl (by rw [mdSize, HS.out]) ?_)
        | (refine md_store rfl (.tmp 7) (.tmp 14) rfl wr.heap.size rfl p cs pf0 z8 rfl HN2.out HPL.out HC8.out rfl rfl HPO.out rfl ?_; rw [HW3.out])
        | (refine wpList_load_at rfl 97 (.tmp 16) rfl wr.heap.size 9 rfl (arC cs) _ HAT.out Try.underlying97 rfl (by rw [arSize, HSZ8.out]) ?_))
      refine HCL.out.mono ?_
      rintro e w4 ⟨rfl, hb4⟩
      obtain ⟨w5, hst, hs5, hb5⟩ := store_ar _ w.heap.size w.heap.size y HY8.out w w4 (HA3.out.below hb4) (B3.out.trans (hb4.mono B3.out.size)) (Nat.le_refl _)
      rw [← HSN.out] at hs5
      have HS5 := Lib.hid hs5
      have HB5 := Lib.hid hb5
      clear hb4 hs5 hb5 HCL HA3
      go_wp2_with fail
      go_roundg (gk - 1)
      case measure => omega
      case rel => exact ⟨k + 1, by omega, by go_num, HS5, HB5⟩
    · obtain rfl : k = n := by omega
      have kI : ¬ (k : Int) < (k : Int) := by omega
      have e : l.take k = l := List.take_of_length_le (by have := HN.out; omega)
      rw [e] at HA
      obtain ⟨es, clock, hmb, hsz⟩ := HA.out.len
      have hRr := HRR.out
      rw [← hsz, HN.out] at hRr
      have HRR2 := Lib.hid hRr
      have hu := Try.underlying160
      have hes : es.size ≤ 6 := by
        rw [hsz]
        have := seenK_le (l.map f)
        rw [List.length_map, HN.out] at this
        omega
      have hlen : (Builtin.len_ #[160] 3 #[.map (some w.heap.size)]).run Try.prog wr = .ok (.int .i64 (es.size : Int)) wr := run_len_map _ _ _ _ es clock (by kernel_rfl) hmb
      have eqI : (((es.size : Nat) : Int) == ((k : Nat) : Int)) = R := by
        rw [hRr]
        by_cases h : es.size = k
        · simp [h]
        · simp [h]
          omega
      obtain ⟨z, hz2⟩ : ∃ z : Int, (es.size : Int) = z := ⟨_, rfl⟩
      rw [hz2] at hlen eqI
      clear hlt hkn e hsz hRr HA hes hz2 hmb HRR2 HR
      go_wp2_with fail
      go_ret
      first | exact ⟨rfl, HB.out⟩ | (rw [eqI]; exact ⟨rfl, HB.out⟩) | trace_state
end Go.Proofs.Ythflbbjilebhlaa
namespace Go
open Go.RowKit

/-- What an iterator does (see SeqX) that turns cells of its own. -/
def SeqP {α : Type} (P : Program) (g : Nat) (lb : Array Value) (encs : α → Array Value) (kept : Nat → Prop) (V : List α → α → World → Prop) (S Sp : List α → Prop) (N : Nat) (w : World) : Prop :=
  ∀ (m l : Nat) (J Jx : List α → World → Prop) (W : World), Below w.heap.size w W → (∀ s A B, J s A → Below W.heap.size A B → J s B) →
    (∀ (m' : Nat) pre x W1, J pre W1 → V pre x W1 → pre.length < N → W.heap.size ≤ W1.heap.size → YieldAt Fence.wide m' P l (encs x) W1 fun e W' =>
      (e = .returned (.bool true) ∧ J (pre ++ [x]) W' ∧ KeptO W.heap.size kept W1 W') ∨ (e = .returned (.bool false) ∧ Jx (pre ++ [x]) W' ∧ KeptO W.heap.size kept W1 W')) →
    J [] W →
    CallsIn Fence.wide m P g (#[.func (.yield l) #[] #[]] ++ lb) W fun e W' => (∃ v, e = .returned v) ∧ ((∃ xs, S xs ∧ J xs W') ∨ (∃ pre, Sp pre ∧ Jx pre W'))
variable {P : Program}
theorem wpIn_rangeFunc_P {α : Type} {g : Operand} {ps : Array Tmp} {assign body : Code} {Q : Exit → Act → World → Prop} {a : Act} {w : World} {n : Nat}
    {gf : Nat} {lb : Array Value} (hg : a.eval g = .func (.func gf) #[] lb) (eg : ∀ args w, (callFunc gf args).run P w = .ok (.enter gf args) w)
    {encs : α → Array Value} {kept : Nat → Prop} {Vx : List α → α → World → Prop} {S Sp : List α → Prop} {N : Nat} {w0 : World} (hseq : SeqP P gf lb encs kept Vx S Sp N w0) (hb0 : Below w0.heap.size w0 w) (hps : ∀ x, (encs x).size = ps.size)
    (hkept : ∀ k, kept k → k < w.heap.size) (I : List α → World → Prop) (Ix : Code → List α → World → Prop) (hI : OwnFrom w.heap.size I) (hIb : ∀ s A B, I s A → Below w.heap.size A B → I s B) (hIx : ∀ c, OwnFrom w.heap.size (Ix c)) (h0 : I [] w) (Ax : List α → α → Act → World → Prop) (hAx : ∀ pre x a', OwnFrom w.heap.size (fun (_ : Unit) W => Ax pre x a' W))
    (hassign : ∀ (l m : Nat) (pre : List α) (x : α) (W : World) (K : Act → World → Prop), I pre W → Vx pre x W → (∀ a' W', KeptO 0 kept W W' → I pre W' → Ax pre x a' W' → K a' W') →
      assign.wpIn (Fence.wide.inRound l) m P (Exit.then K (fun _ _ _ => False)) { tmps := (ps.zip (encs x)).foldl (fun t (p, v) => t.setIfInBounds p v) a.tmps, defers := [] } W)
    (hbody : ∀ (l m : Nat) (pre : List α) (x : α) (a' : Act) (W : World), w.heap.size ≤ l → I pre W → Ax pre x a' W → pre.length < N → body.wpIn (Fence.wide.inRound l) m P (PostX w.heap.size kept I Ix (pre ++ [x]) W) a' W)
    (hdone : ∀ (D : Nat) (xs : List α) (W : World), w.heap.size ≤ D → S xs → I xs W → W.heap[D]? = some (.deferred (some [])) → Q .normal { a with defers := { target := .collected D, args := #[] } :: a.defers } W)
    (hstop : ∀ (D : Nat) (c : Code) (pre : List α) (W : World), w.heap.size ≤ D → Sp pre → Ix c pre W → W.heap[D]? = some (.deferred (some [])) → c.wpIn Fence.wide n P Q { a with defers := { target := .collected D, args := #[] } :: a.defers } W) :
    (Code.rangeFunc g ps assign body).wpIn Fence.wide n P Q a w := by
  refine wpIn_rangeFunc ?_
  intro fn hfn
  obtain ⟨rec, hrec⟩ : ∃ rec : LoopState → Option Code → Loop, rec = fun st pe => { state := st, pending := pe, fn, tmps := a.tmps, params := ps, assign, body, defers := w.heap.size } := ⟨_, rfl⟩
  -- the two blocks that the loop lays
  obtain ⟨V, hV⟩ : ∃ V, (w.alloc (.deferred (some []))).alloc (.loop (rec .ready none)) = V := ⟨_, rfl⟩
  have hsz : V.heap.size = w.heap.size + 2 := by rw [← hV]; simp
  have hg1 : Below w.heap.size w V := by rw [← hV]; exact ((Below.refl _ w).alloc (Nat.le_refl _) _).alloc (by simp) _
  have hR : V.heap[w.heap.size + 1]? = some (.loop (rec .ready none)) := by
    have h := World.alloc_heap_new (w.alloc (.deferred (some []))) (.loop (rec .ready none))
    rw [World.size_alloc, hV] at h
    exact h
  have hD : V.heap[w.heap.size]? = some (.deferred (some [])) := by
    rw [← hV]
    exact (Below.heap_alloc _ _ _ (by simp)).trans (World.alloc_heap_new w _)
  have hIV : I [] V := by rw [← hV]; exact hI.alloc _ (hI.alloc _ h0)
  refine ⟨w.heap.size + 1, [{ target := .collected w.heap.size, args := #[] }], V, { target := .fn (.func gf) lb, args := #[.func (.yield (w.heap.size + 1)) #[] #[]] }, V, gf, #[.func (.yield (w.heap.size + 1)) #[] #[]] ++ lb, V, ?_, ?_, ?_, ?_, fun h => (by cases h), ?_⟩
  · rw [← hV, hrec]
    exact run_enterLoop_outer _ _ _ _ _
  · simp only [resolve, hg]
    simp [go_sem]
  · intro f _; exact trivial
  · simp [invoke, go_sem, eg]
  · have hturn : ∀ {A : World} {row : Option Nat} {k : Nat} {o : Obj}, (∀ r, row = some r → V.heap.size ≤ r ∧ ∃ o : Obj, A.heap[r]? = some o ∧ o.isCells = false) → ∀ {B : World}, A.grownBy B row → k < V.heap.size → A.heap[k]? = some o → B.heap[k]? = some o := by
      intro A row k o hr B hgr hk ho
      exact (hgr.block k (Array.getElem?_eq_some_iff.1 ho).1 (fun e => by have := (hr k e.symm).1; omega)).trans ho
    refine (hseq (n - 1) (w.heap.size + 1) (fun pre W => I pre W ∧ W.heap[w.heap.size + 1]? = some (.loop (rec .ready none)) ∧ W.heap[w.heap.size]? = some (.deferred (some [])))
      (fun pre W => ∃ c, Ix c pre W ∧ W.heap[w.heap.size + 1]? = some (.loop (rec .done (some c))) ∧ W.heap[w.heap.size]? = some (.deferred (some []))) V (hb0.trans (hg1.mono hb0.size))
      (fun s A B hs hb => ⟨hIb s A B hs.1 (hb.mono (by omega)), (hb.block _ (by omega)).trans hs.2.1, (hb.block _ (by omega)).trans hs.2.2⟩)
      ?_ ⟨hIV, hR, hD⟩).mono ?_
    · rintro m' pre x W ⟨hi, hl, hk⟩ hvx hlen hW
      have hy := run_yield (P := P) (args := encs x) hl (by rw [hrec]; exact hps x)
      rw [hrec] at hy
      refine ⟨fn, _, assign, body, hy, roundIn_of_wpIn hfn (hassign _ _ pre x W _ hi hvx ?_)⟩
      clear hy
      intro a' X hkX hiX hax
      have hlX := (hkX.same _ (Array.getElem?_eq_some_iff.1 hl).1 (.inl (Nat.zero_le _))).trans hl
      have hdX := (hkX.same _ (Array.getElem?_eq_some_iff.1 hk).1 (.inl (Nat.zero_le _))).trans hk
      have hltX : w.heap.size + 1 < X.heap.size := (Array.getElem?_eq_some_iff.1 hlX).1
      refine ⟨_, run_beginRound hlX (by rw [hrec]), ?_⟩
      obtain ⟨Y, hY⟩ : ∃ Y, X.putObj (w.heap.size + 1) (.loop { rec .ready none with state := .busy }) = Y := ⟨_, rfl⟩
      have hnk : ¬ kept (w.heap.size + 1) := fun h => by have := hkept _ h; omega
      have hXY : KeptO (w.heap.size + 2) kept X Y := by rw [← hY]; exact KeptO.putObj _ (by omega) hnk
      have hlY : Y.heap[w.heap.size + 1]? = some (.loop { rec .ready none with state := .busy }) := by rw [← hY]; exact World.putObj_heap_same hltX
      have hdY : Y.heap[w.heap.size]? = some (.deferred (some [])) := by rw [← hY]; exact (World.putObj_heap_other (by omega)).trans hdX
      have hiY : I pre Y := by rw [← hY]; exact hI.putObj _ hiX (by omega) hlX rfl
      have haY : Ax pre x a' Y := by rw [← hY]; exact (hAx pre x a').putObj (s := ()) _ hax (by omega) hlX rfl
      rw [hY]
      refine wpIn_mono (hbody _ _ pre x a' Y (by omega) hiY haY hlen) ?_
      have fin : ∀ (jump : Option Code) (Z : World), KeptO w.heap.size kept Y Z →
          (Instr.endRound (w.heap.size + 1) jump).run P Z = .ok (.bool jump.isNone) (Z.putObj (w.heap.size + 1) (.loop (rec (if jump.isNone then .ready else .done) jump))) ∧
          Z.heap[w.heap.size + 1]? = some (.loop { rec .ready none with state := .busy }) ∧
          (Z.putObj (w.heap.size + 1) (.loop (rec (if jump.isNone then .ready else .done) jump))).heap[w.heap.size + 1]? = some (.loop (rec (if jump.isNone then .ready else .done) jump)) ∧
          (Z.putObj (w.heap.size + 1) (.loop (rec (if jump.isNone then .ready else .done) jump))).heap[w.heap.size]? = some (.deferred (some [])) ∧
          KeptO V.heap.size kept W (Z.putObj (w.heap.size + 1) (.loop (rec (if jump.isNone then .ready else .done) jump))) := fun jump Z hkZ => by
        have hlZ := (hkZ.same _ (Array.getElem?_eq_some_iff.1 hlY).1 (.inl (by omega))).trans hlY
        have hdZ := (hkZ.same _ (Array.getElem?_eq_some_iff.1 hdY).1 (.inl (by omega))).trans hdY
        have hlt : w.heap.size + 1 < Z.heap.size := (Array.getElem?_eq_some_iff.1 hlZ).1
        have hE := run_endRound (P := P) jump hlZ
        rw [hrec] at hE ⊢
        refine ⟨hE, by rw [hrec] at hlZ; exact hlZ, World.putObj_heap_same hlt, (World.putObj_heap_other (by omega)).trans hdZ, ?_⟩
        rw [hsz]
        exact (hkX.mono (Nat.zero_le _)).trans (hXY.trans ((hkZ.mono (by omega)).trans (KeptO.putObj _ (by omega) hnk)))
      rintro e a3 Z hp
      cases e with
      | normal =>
        obtain ⟨hkZ, hiZ⟩ := hp
        obtain ⟨hE, hlZ, hl4, hk4, hkk⟩ := fin none Z hkZ
        exact ⟨_, _, hE, .inl ⟨rfl, ⟨hI.putObj _ hiZ (by omega) hlZ rfl, hl4, hk4⟩, hkk⟩⟩
      | ret =>
        obtain ⟨hkZ, hiZ⟩ := hp
        obtain ⟨hE, hlZ, hl4, hk4, hkk⟩ := fin (some .ret) Z hkZ
        exact ⟨_, _, hE, .inr ⟨rfl, ⟨.ret, (hIx _).putObj _ hiZ (by omega) hlZ rfl, hl4, hk4⟩, hkk⟩⟩
      | exit id =>
        obtain ⟨hkZ, hiZ⟩ := hp
        obtain ⟨hE, hlZ, hl4, hk4, hkk⟩ := fin (some (.exit id)) Z hkZ
        exact ⟨_, _, hE, .inr ⟨rfl, ⟨.exit id, (hIx _).putObj _ hiZ (by omega) hlZ rfl, hl4, hk4⟩, hkk⟩⟩
      | goto t =>
        obtain ⟨hkZ, hiZ⟩ := hp
        obtain ⟨hE, hlZ, hl4, hk4, hkk⟩ := fin (some (.goto t)) Z hkZ
        exact ⟨_, _, hE, .inr ⟨rfl, ⟨.goto t, (hIx _).putObj _ hiZ (by omega) hlZ rfl, hl4, hk4⟩, hkk⟩⟩
      | panic ch => exact hp.elim
      | outgrown => exact hp.elim
    · rintro e W2 ⟨⟨v, rfl⟩, (⟨xs, hS, hi, hl, hk⟩ | ⟨pre, hSp, c, hi, hl, hk⟩)⟩
      · refine ⟨none, _, by have := run_endLoop (P := P) hl (by rw [hrec]; simp); rw [hrec] at this; exact this, hdone _ xs _ (Nat.le_refl _) hS (hI.putObj _ hi (by omega) hl rfl) ((World.putObj_heap_other (by omega)).trans hk)⟩
      · exact ⟨some c, _, by have := run_endLoop (P := P) hl (by rw [hrec]; simp); rw [hrec] at this; exact this, hstop _ c pre _ (Nat.le_refl _) hSp ((hIx c).putObj _ hi (by omega) hl rfl) ((World.putObj_heap_other (by omega)).trans hk)⟩
end Go
namespace Go.Proofs.Ythflbbjilebhlaa
open Go Go.RowKit Go.Shelf Sc
attribute [local go_sem] Oper.semAt_some

/-- The lists that begin so, and have so many more numbers below n, from some number on. -/
def lsF (n : Nat) : Nat → List Int → Nat → List (List Int)
  | 0, xs, _ => [xs]
  | m + 1, xs, fr => (List.range' fr (n - fr)).flatMap fun (p : Nat) => lsF n m (xs ++ [(p : Int)]) (p + 1)
def intsV (xs : List Int) : List Value := xs.map (Value.int .i64)
theorem intsV_snoc (xs : List Int) (x : Int) : intsV (xs ++ [x]) = intsV xs ++ [.int .i64 x] := by simp [intsV]
set_option maxRecDepth 100000 in
/-- A number is appended to an own row: where it goes, and that what was there is there still when the longer one is. -/
theorem run_app1L (w : World) (ty : TypeId) (base n : Nat) (v : Value) (xs : List Value) (g : Nat) (x : Int) (hown : w.ownsRow base 3 1 v n xs) (hc : w.cell? ⟨g, 0, none⟩ = some (.int .i64 x)) (hn : n ≤ 1000) (hb : base ≤ w.heap.size) :
    ∃ v' w', (Builtin.append_ #[22, 22] ty #[v, .slice (some ⟨g, 0, none⟩) 1 1]).run Try.prog w = .ok v' w' ∧ w'.ownsRow base 3 1 v' (n + 1) (xs ++ [.int .i64 x]) ∧ w.grownBy w' v.ownBlock ∧
      ((v'.ownBlock = v.ownBlock ∧ ∀ W : World, W.ownsRow base 3 1 v' (n + 1) (xs ++ [.int .i64 x]) → W.ownsRow base 3 1 v n xs) ∨ (v'.ownBlock = some w.heap.size ∧ w.grownBy w' none)) := by
  obtain ⟨i0, hi⟩ := info_of_underlying Try.underlying3
  have HI : i0.zero = some (.int .i64 0) ∧ i0.size = 1 ∧ i0.bytes = 8 := by
    have h := intInfo
    rw [hi] at h
    simp at h
    exact h
  have hnews : ∀ j u, [Value.int .i64 x][j]? = some u → w.cell? ((⟨g, 0, none⟩ : Addr).add j) = some u := by
    intro j u hj
    match j, hj with
    | 0, hj => simp at hj; subst hj; exact hc
    | j + 1, hj => simp at hj
  obtain ⟨v', w', h1, h2, h3, _, h5⟩ := run_append_own_at (P := Try.prog) w base 22 ty 3 i0 _ 1 8 Try.underlying22 hi HI.1 HI.2.1 HI.2.2 rfl (by decide) v n xs hown ⟨g, 0, none⟩ 1 1 [.int .i64 x] rfl
    hnews (by intro u hu; simp at hu; subst hu; rfl) (by unfold maxLen; omega) (by omega) hb
  rcases id hown.2 with ⟨hv, h0⟩ | ⟨g1, cap, cur, hv, hbg, hg, hnc, hcm, hcs, htake⟩
  · refine ⟨v', w', h1, h2, h3, .inr ?_⟩
    subst hv
    rcases h5 with h | h
    · rcases h2.2 with ⟨e, hz⟩ | ⟨g2, cap2, cur2, e, _⟩
      · omega
      · rw [e] at h; simp [Value.ownBlock] at h
    · exact ⟨h, h3⟩
  · by_cases hroom : n + 1 ≤ cap
    · subst hv
      obtain ⟨w2, r1, r2, r3⟩ := run_append_fits (P := Try.prog) w base 22 ty 3 i0 1 Try.underlying22 hi HI.2.1 g1 n cap xs hown ⟨g, 0, none⟩ 1 1 [.int .i64 x] rfl hnews (by intro u hu; simp at hu; subst hu; rfl) hroom
      refine ⟨_, w2, r1, r2, r3, .inl ⟨rfl, fun W hW => ⟨hown.1, .inr ?_⟩⟩⟩
      rcases hW.2 with ⟨e, _⟩ | ⟨g2, cap2, cur2, e, hb2, hg2, hnc2, hcm2, hcs2, ht2⟩
      · simp at e
      · simp only [Value.slice.injEq, Option.some.injEq, Addr.mk.injEq, and_true, true_and] at e
        obtain ⟨rfl, rfl⟩ := e
        refine ⟨g1, cap, cur2, rfl, hb2, hg2, hnc, hcm, hcs2, ?_⟩
        have hlx := hown.1
        have e1 : cur2.toList.take (n * 1) = (cur2.toList.take ((n + 1) * 1)).take (n * 1) := by rw [List.take_take]; congr 1; omega
        rw [e1, ht2, ← hlx]
        exact List.take_left
    · refine ⟨v', w', h1, h2, h3, .inr ?_⟩
      subst hv
      have holds : ∀ j u, xs[j]? = some u → w.cell? ((⟨g1, 0, none⟩ : Addr).add j) = some u := hown.cells (g := g1) rfl
      have hr := run_append_grow (P := Try.prog) w 22 ty 3 i0 _ Try.underlying22 hi HI.1 ⟨g1, 0, none⟩ n cap xs (by rw [hown.1, HI.2.1]) holds ⟨g, 0, none⟩ 1 1 [.int .i64 x] (by rw [HI.2.1]; rfl) hnews (by omega) (by omega) (growslice_fits (by omega) (by rw [HI.2.2]; omega))
      rw [h1] at hr
      cases hr
      exact ⟨rfl, ⟨rfl, rfl, rfl, by simp, fun k hk _ => Below.heap_alloc w.drew _ k hk⟩⟩
/-- What lay from B on, and what is to be kept, lies as it lay, but for a row, whose first cells stay. -/
structure KeptL (B : Nat) (kept : Nat → Prop) (R : Nat) (v : Value) (xs : List Int) (W W' : World) : Prop where
  size : W.heap.size ≤ W'.heap.size
  same : ∀ k, k < W.heap.size → (B ≤ k ∨ kept k) → v.ownBlock ≠ some k → W'.heap[k]? = W.heap[k]?
  row : W'.ownsRow R 3 1 v xs.length (intsV xs)
theorem KeptL.keep {B R : Nat} {kept : Nat → Prop} {v : Value} {xs : List Int} {W W' : World} {k : Nat} {o : Obj} (h : KeptL B kept R v xs W W') (hr : W.ownsRow R 3 1 v xs.length (intsV xs)) (hk : W.heap[k]? = some o) (hb : B ≤ k ∨ kept k) (hR : k < R) : W'.heap[k]? = some o :=
  (h.same k (Array.getElem?_eq_some_iff.1 hk).1 hb (fun e => by have := (hr.lt k e).1; omega)).trans hk
theorem KeptL.step {B R : Nat} (hBR : B ≤ R) {kept : Nat → Prop} {v v' : Value} {xs : List Int} {x : Int} {W W1 W2 W3 : World} (hr : W.ownsRow R 3 1 v xs.length (intsV xs)) (hb : Below W.heap.size W W1) (hg : W1.grownBy W2 v.ownBlock)
    (h5 : (v'.ownBlock = v.ownBlock ∧ ∀ W : World, W.ownsRow R 3 1 v' (xs.length + 1) (intsV xs ++ [.int .i64 x]) → W.ownsRow R 3 1 v xs.length (intsV xs)) ∨ (v'.ownBlock = some W1.heap.size ∧ W1.grownBy W2 none))
    (hk : KeptL B kept R v' (xs ++ [x]) W2 W3) : KeptL B kept R v xs W W3 := by
  have hrow := hk.row
  rw [intsV_snoc, List.length_append] at hrow
  refine ⟨Nat.le_trans hb.size (Nat.le_trans hg.size hk.size), fun k hkl hor hne => ?_, ?_⟩
  · have h1 : k < W1.heap.size := Nat.lt_of_lt_of_le hkl hb.size
    refine (hk.same k (Nat.lt_of_lt_of_le h1 hg.size) hor ?_).trans ((hg.block k h1 (fun e => hne e.symm)).trans (hb.block k hkl))
    rcases h5 with h | h
    · rw [h.1]; exact hne
    · rw [h.1]; simp; omega
  · rcases h5 with h | h
    · exact h.2 _ hrow
    · rcases hr.2 with ⟨e, h0⟩ | ⟨g, cap, cur, e, hbg, hgc, r⟩
      · exact ⟨hr.1, .inl ⟨e, h0⟩⟩
      · have hgl := (Array.getElem?_eq_some_iff.1 hgc).1
        have h1 : g < W1.heap.size := Nat.lt_of_lt_of_le hgl hb.size
        have a1 : W1.heap[g]? = some _ := (hb.block g hgl).trans hgc
        have a2 : W2.heap[g]? = some _ := (h.2.block g h1 (by simp)).trans a1
        exact ⟨hr.1, .inr ⟨g, cap, cur, e, hbg, (hk.same g (Nat.lt_of_lt_of_le h1 hg.size) (.inl (Nat.le_trans hBR hbg)) (by rw [h.1]; simp; omega)).trans a2, r⟩⟩
theorem KeptL.of_kept {B R : Nat} {kept : Nat → Prop} {v : Value} {xs : List Int} {W V W' : World} (hb : Below W.heap.size W V) (hk : KeptO B kept V W') (hBR : B ≤ R ∧ R ≤ W.heap.size) (hr : W.ownsRow R 3 1 v xs.length (intsV xs)) : KeptL B kept R v xs W W' := by
  refine ⟨Nat.le_trans hb.size hk.size, fun k hkl hor _ => (hk.same k (Nat.lt_of_lt_of_le hkl hb.size) hor).trans (hb.block k hkl), hr.1, ?_⟩
  rcases hr.2 with h | ⟨g, cap, cur, e, hbg, hgc, r⟩
  · exact .inl h
  · have hgl := (Array.getElem?_eq_some_iff.1 hgc).1
    exact .inr ⟨g, cap, cur, e, hbg, (hk.same g (Nat.lt_of_lt_of_le hgl hb.size) (.inl (by omega))).trans ((hb.block g hgl).trans hgc), r⟩
set_option maxRecDepth 100000 in
theorem clone_own {w : World} {R : Nat} {v : Value} {xs : List Int} (h : w.ownsRow R 3 1 v xs.length (intsV xs)) (hl : xs.length ≤ 8) :
    Calls Try.prog 57 #[v] w fun e w' => ∃ v', e = .returned v' ∧ IntsAt w' v' xs ∧ Below w.heap.size w w' := by
  rcases id h.2 with ⟨rfl, h0⟩ | ⟨g, cap, cur, rfl, hbg, hgc, r⟩
  · obtain rfl : xs = [] := List.length_eq_zero_iff.1 h0
    refine (Try.slices_Clone_int_nil 0 0 w).mono ?_
    rintro e w' ⟨rfl, rfl⟩
    exact ⟨_, rfl, ⟨by simp, none, 0, rfl, by simp, fun hne => absurd rfl hne⟩, Below.refl _ _⟩
  · refine (Try.slices_Clone_int g 0 xs.length cap xs w (Nat.le_refl _) (by omega) (fun j hj => ?_)).mono ?_
    · have hc := h.cellAt j (by omega)
      rw [Nat.zero_add, hc]
      simp [intsV, List.getD_eq_getElem?_getD, hj]
    · rintro e w' ⟨v', rfl, ho, _, hb⟩
      rw [List.take_length] at ho
      exact ⟨v', rfl, intsAt_own ho (by omega), hb⟩
theorem KeptL.trans {B R : Nat} {kept : Nat → Prop} {v : Value} {xs : List Int} {X Y Z : World} (h : KeptL B kept R v xs X Y) (k : KeptL B kept R v xs Y Z) : KeptL B kept R v xs X Z :=
  ⟨Nat.le_trans h.size k.size, fun i hi hb hn => (k.same i (Nat.lt_of_lt_of_le hi h.size) hb hn).trans (h.same i hi hb hn), k.row⟩
theorem step_app1L {ops : Array Oper} {o : Oper} {a : Act} {K : Act → World → Prop} {Q : Exit → Act → World → Prop} {E : Prop} {w : World} (hgd : o.guard = none) (s x : Operand)
    (ho : o.op = .call { callee := .builtin .append, args := #[s, x], argTypes := #[22, 22] })
    (base n : Nat) (v : Value) (xs : List Value) (g : Nat) (y : Int) (hs : a.eval s = v) (hx : a.eval x = .slice (some ⟨g, 0, none⟩) 1 1) (hown : w.ownsRow base 3 1 v n xs) (hc : w.cell? ⟨g, 0, none⟩ = some (.int .i64 y)) (hn : n ≤ 1000) (hb : base ≤ w.heap.size)
    (h : ∀ v' w', w'.ownsRow base 3 1 v' (n + 1) (xs ++ [.int .i64 y]) → w.grownBy w' v.ownBlock → ((v'.ownBlock = v.ownBlock ∧ ∀ W : World, W.ownsRow base 3 1 v' (n + 1) (xs ++ [.int .i64 y]) → W.ownsRow base 3 1 v n xs) ∨ (v'.ownBlock = some w.heap.size ∧ w.grownBy w' none)) → K (a.put o.dst v') w') :
    if Region.wanted o (yielded ops a.tmps) = true then Oper.wp Try.prog o a w K Q else E := by
  rw [if_pos (by simp [Region.wanted, hgd])]
  obtain ⟨v', w', hr, h2, h3, h4⟩ := run_app1L w o.type base n v xs g y hown hc hn hb
  unfold Oper.wp execOp
  simp only [ho, resolve, invoke, builtin, Sem.run_bind, Sem.run_pure, Result.andThen_ok, List.map_toArray, List.map_cons, List.map_nil, hs, hx, hr]
  exact h v' w' h2 h3 h4
theorem lsF_zero (n : Nat) (xs : List Int) (fr : Nat) : lsF n 0 xs fr = [xs] := rfl
/-- What has been told before some number. -/
def lsTo (n m : Nat) (xs : List Int) (fr k : Nat) : List (List Int) := (List.range' fr (k - fr)).flatMap fun (p : Nat) => lsF n m (xs ++ [(p : Int)]) (p + 1)
theorem lsTo_start (n m : Nat) (xs : List Int) (fr : Nat) : lsTo n m xs fr fr = [] := by simp [lsTo]
theorem lsTo_end (n m : Nat) (xs : List Int) (fr : Nat) : lsF n (m + 1) xs fr = lsTo n m xs fr n := rfl
theorem lsTo_next (n m : Nat) (xs : List Int) (fr k : Nat) (h : fr ≤ k) : lsTo n m xs fr (k + 1) = lsTo n m xs fr k ++ lsF n m (xs ++ [(k : Int)]) (k + 1) := by
  unfold lsTo
  rw [show k + 1 - fr = (k - fr) + 1 by omega, List.range'_concat, List.flatMap_append]
  simp [show fr + (k - fr) = k by omega]
theorem lsTo_pre (n m : Nat) (xs : List Int) (fr k : Nat) (h : fr ≤ k) (hk : k ≤ n) : lsTo n m xs fr k <+: lsTo n m xs fr n := by
  unfold lsTo
  rw [show n - fr = (k - fr) + (n - k) by omega, ← List.range'_append, List.flatMap_append]
  exact List.prefix_append _ _
abbrev VL := Value × List Int
def encL (x : VL) : Array Value := #[x.1]
theorem intsAt_rowL {w : World} {base : Nat} {v : Value} {l : List Int} (h : w.ownsRow base 3 1 v l.length (intsV l)) (hl : l.length ≤ 8) : IntsAt w v l := intsAt_own h (by omega)
set_option maxRecDepth 100000 in
set_option maxHeartbeats 8000000 in
theorem each_L (l B bE bY bP R n : Nat) (LL : List (List Int)) (kept : Nat → Prop) (J Jx : List VL → World → Prop) (hJ : ∀ s A A', J s A → Below B A A' → J s A')
    (hY : ∀ m' pre (x : VL) W1, J pre W1 → (IntsAt W1 x.1 x.2 ∧ pre.map (·.2) ++ [x.2] <+: LL) → B ≤ W1.heap.size → YieldAt Fence.wide m' Try.prog l (encL x) W1 fun e W' =>
      (e = .returned (.bool true) ∧ J (pre ++ [x]) W' ∧ KeptO B kept W1 W') ∨ (e = .returned (.bool false) ∧ Jx (pre ++ [x]) W' ∧ KeptO B kept W1 W'))
    (hE : B ≤ bE ∧ bE < R) (hYb : B ≤ bY ∧ bY < R) (hP : kept bP ∧ bP < R) (n8 : n ≤ 8) :
    ∀ (more fr : Nat) (xs : List Int) (v : Value) (m : Nat) (pre : List VL) (W : World), fr ≤ n → xs.length + more ≤ 8 →
      W.heap[bE]? = some (.cells #[.func (.func 109) #[] #[.pointer (some ⟨bY, 0, none⟩), .pointer (some ⟨bP, 0, none⟩), .pointer (some ⟨bE, 0, none⟩)]] 159 (0, 0)) →
      W.heap[bY]? = some (.cells #[.func (.yield l) #[] #[]] 137 (0, 0)) → W.heap[bP]? = some (.cells #[.int .i64 (n : Int)] 3 (0, 0)) →
      W.ownsRow R 3 1 v xs.length (intsV xs) → R ≤ W.heap.size → J pre W → pre.map (·.2) ++ lsF n more xs fr <+: LL →
      CallsIn Fence.wide m Try.prog 109 #[v, .int .i64 (fr : Int), .int .i64 (more : Int), .pointer (some ⟨bY, 0, none⟩), .pointer (some ⟨bP, 0, none⟩), .pointer (some ⟨bE, 0, none⟩)] W fun e W' =>
        (e = .returned (.bool true) ∧ ∃ q : List VL, q.map (·.2) = lsF n more xs fr ∧ J (pre ++ q) W' ∧ KeptL B kept R v xs W W') ∨ (e = .returned (.bool false) ∧ ∃ q : List VL, q.map (·.2) <+: lsF n more xs fr ∧ Jx (pre ++ q) W' ∧ KeptL B kept R v xs W W') := by
  intro more
  have HYY := Lib.hid hY
  have HJO := Lib.hid hJ
  clear hY hJ
  induction more with
  | zero =>
    intro fr xs v m pre W hfr hlen h1 h2 h3 h4 h5 h6 h7
    obtain ⟨va, vc, rfl⟩ := own_slice h4
    obtain ⟨k, hk⟩ : ∃ k, xs.length = k := ⟨_, rfl⟩
    have HK := Lib.hid hk
    have HIA := Lib.hid (intsAt_rowL h4 (by omega))
    have HROW : Hid (W.ownsRow R 3 1 (.slice va k vc) xs.length (intsV xs)) := by show World.ownsRow ..; rw [← hk]; exact h4
    have hcln := clone_own (own_below h4 (show Below W.heap.size W W.drew from (Below.refl _ _).drew)) (by omega)
    rw [hk] at hcln
    have HCLN := Lib.hid hcln
    have H2 := Lib.hid h2
    have HBND : Hid (bY < W.heap.size) := lt_of_block h2
    have HBR : Hid (B ≤ R ∧ R ≤ W.heap.size) := ⟨by omega, h5⟩
    rw [hk] at hlen ⊢
    have c2 := cellOf h2 0 _ rfl
    have cl := lt_of_block h2
    have fI : (fr : Int) ≤ 8 := by omega
    clear h1 h2 h3 h4 h5 hcln
    refine callsIn_of_wp Try.func109 rfl trivial ?_ rfl
    simp only [Try.ntmps109, List.size_toArray, List.length_cons, List.length_nil, Nat.reduceAdd, Nat.reduceSub, Array.replicate_succ, Array.replicate_zero, List.push_toArray, List.append_toArray, List.nil_append, List.cons_append]
    gi_wp2_with fail
    have HYC : Hid (∀ (vv : Value) (V : World), IntsAt V vv xs → Below W.heap.size W V → ∀ m', YieldAt Fence.wide m' Try.prog l #[vv] V fun e W' => (e = .returned (.bool true) ∧ J (pre ++ [(vv, xs)]) W' ∧ KeptO B kept V W') ∨ (e = .returned (.bool false) ∧ Jx (pre ++ [(vv, xs)]) W' ∧ KeptO B kept V W')) := fun vv V hi hb m' => HYY.out m' pre (vv, xs) V (HJO.out _ _ _ h6 (hb.mono (by have := HBR.out; omega))) ⟨hi, h7⟩ (by have := hb.size; have := HBR.out; omega)
    refine wpIn_region_any (by kernel_rfl) ?_
    try (change wpAnyIn _ _ _ _ _ _ _ _ _ (World.drew _))
    refine wpAnyIn_take (i := 1) (v := ?_) rfl rfl (by kernel_rfl) (by kernel_rfl) (by kernel_rfl) (fun _ _ _ h => h) ⟨Or.inl ⟨by rfl, ?_⟩, fun _ => rfl⟩ ?_
    rotate_left
    · intro w
      go_simp
      try with_reducible rfl
    refine wpAnyIn_ready (rs := [0, 2]) (by kernel_rfl) (by simp) ?_
    refine AllReadyIn.cons rfl (fun K hK => ?_) (AllReadyIn.cons rfl (fun K hK => ?_) AllReadyIn.nil)
    · go_simp
      refine hK _ _ ?_
      clear hK K
      refine wpAnyIn_ready (rs := [2]) (by kernel_rfl) (by simp) ?_
      refine AllReadyIn.cons rfl (fun K hK => ?_) AllReadyIn.nil
      go_simp
      refine ⟨trivial, fun h => (by cases h), ?_⟩
      refine (callsIn_wide.2 HCLN.out).mono ?_
      rintro e V ⟨vv, rfl, hi, hb0⟩
      have hb : Below W.heap.size W V := (Below.refl _ _).drew.trans hb0
      have HBV : Hid (Below W.heap.size W V) := hb
      have HYV := Lib.hid (HYC.out vv V hi hb)
      clear hi hb hb0
      refine hK _ _ ?_
      clear hK K
      refine wpAnyIn_ready (rs := [3]) (by kernel_rfl) (by simp) ?_
      refine AllReadyIn.cons rfl (fun K hK => ?_) AllReadyIn.nil
      obtain ⟨fn, tmps, assign, body, hy, hR⟩ := HYV.out 99
      have HR := Lib.hid hR
      clear hR
      go_simp
      refine ⟨fun h => (by cases h), ?_⟩
      refine (roundIn_free HR.out).mono ?_
      rintro e W5 (⟨rfl, hJ5, hk5⟩ | ⟨rfl, hx5, hk5⟩)
      · have HK5 := Lib.hid hk5
        have HJ5 := Lib.hid hJ5
        clear hk5 hJ5 hy HR HYV
        refine hK _ _ ?_
        clear hK K
        refine wpAnyIn_ready (rs := [4]) (by kernel_rfl) (by simp) ?_
        refine AllReadyIn.cons rfl (fun K hK => ?_) AllReadyIn.nil
        go_simp
        refine hK _ _ ?_
        clear hK K
        refine wpAnyIn_done (by kernel_rfl) ?_ _
        gi_wp2_with fail
        go_ret
        exact .inl ⟨rfl, [(vv, xs)], rfl, HJ5.out, KeptL.of_kept HBV.out HK5.out HBR.out HROW.out⟩
      · have HX5 := Lib.hid hx5
        have HK5 := Lib.hid hk5
        clear hk5 hx5 hy HR HYV
        refine hK _ _ ?_
        clear hK K
        refine wpAnyIn_ready (rs := [4]) (by kernel_rfl) (by simp) ?_
        refine AllReadyIn.cons rfl (fun K hK => ?_) AllReadyIn.nil
        go_simp
        refine hK _ _ ?_
        clear hK K
        refine wpAnyIn_done (by kernel_rfl) ?_ _
        gi_wp2_with fail
        go_ret
        exact .inr ⟨rfl, [(vv, xs)], List.prefix_refl _, HX5.out, KeptL.of_kept HBV.out HK5.out HBR.out HROW.out⟩
    · go_simp
      refine ⟨trivial, fun h => (by cases h), ?_⟩
      refine (callsIn_wide.2 HCLN.out).mono ?_
      rintro e V ⟨vv, rfl, hi, hb0⟩
      have hb : Below W.heap.size W V := (Below.refl _ _).drew.trans hb0
      have HBV : Hid (Below W.heap.size W V) := hb
      have HYV := Lib.hid (HYC.out vv V hi hb)
      clear hi hb hb0
      refine hK _ _ ?_
      clear hK K
      have c2 := cellOf ((HBV.out.block _ (by have := HBND.out; omega)).trans H2.out) 0 _ rfl
      refine wpAnyIn_ready (rs := [0]) (by kernel_rfl) (by simp) ?_
      refine AllReadyIn.cons rfl (fun K hK => ?_) AllReadyIn.nil
      go_simp
      refine hK _ _ ?_
      clear hK K
      refine wpAnyIn_ready (rs := [3]) (by kernel_rfl) (by simp) ?_
      refine AllReadyIn.cons rfl (fun K hK => ?_) AllReadyIn.nil
      obtain ⟨fn, tmps, assign, body, hy, hR⟩ := HYV.out 99
      have HR := Lib.hid hR
      clear hR
      go_simp
      refine ⟨fun h => (by cases h), ?_⟩
      refine (roundIn_free HR.out).mono ?_
      rintro e W5 (⟨rfl, hJ5, hk5⟩ | ⟨rfl, hx5, hk5⟩)
      · have HK5 := Lib.hid hk5
        have HJ5 := Lib.hid hJ5
        clear hk5 hJ5 hy HR HYV
        refine hK _ _ ?_
        clear hK K
        refine wpAnyIn_ready (rs := [4]) (by kernel_rfl) (by simp) ?_
        refine AllReadyIn.cons rfl (fun K hK => ?_) AllReadyIn.nil
        go_simp
        refine hK _ _ ?_
        clear hK K
        refine wpAnyIn_done (by kernel_rfl) ?_ _
        gi_wp2_with fail
        go_ret
        exact .inl ⟨rfl, [(vv, xs)], rfl, HJ5.out, KeptL.of_kept HBV.out HK5.out HBR.out HROW.out⟩
      · have HX5 := Lib.hid hx5
        have HK5 := Lib.hid hk5
        clear hk5 hx5 hy HR HYV
        refine hK _ _ ?_
        clear hK K
        refine wpAnyIn_ready (rs := [4]) (by kernel_rfl) (by simp) ?_
        refine AllReadyIn.cons rfl (fun K hK => ?_) AllReadyIn.nil
        go_simp
        refine hK _ _ ?_
        clear hK K
        refine wpAnyIn_done (by kernel_rfl) ?_ _
        gi_wp2_with fail
        go_ret
        exact .inr ⟨rfl, [(vv, xs)], List.prefix_refl _, HX5.out, KeptL.of_kept HBV.out HK5.out HBR.out HROW.out⟩
  | succ more ih =>
    intro fr xs v m pre W hfr hlen h1 h2 h3 h4 h5 h6 h7
    obtain ⟨va, vc, rfl⟩ := own_slice h4
    obtain ⟨k, hk⟩ : ∃ k, xs.length = k := ⟨_, rfl⟩
    have HK := Lib.hid hk
    have HROW : Hid (W.ownsRow R 3 1 (.slice va k vc) xs.length (intsV xs)) := by show World.ownsRow ..; rw [← hk]; exact h4
    have HBR : Hid (B ≤ R ∧ R ≤ W.heap.size) := ⟨by omega, h5⟩
    have H1 := Lib.hid h1
    have H2 := Lib.hid h2
    have H3 := Lib.hid h3
    rw [lsTo_end] at h7
    have H7 := Lib.hid h7
    have H6 : Hid (J (pre ++ []) W) := by show J _ _; rw [List.append_nil]; exact h6
    have HIH := Lib.hid ih
    have HKP := Lib.hid hP
    have HEB := Lib.hid hE
    have HYB := Lib.hid hYb
    have HK0 : Hid (KeptL B kept R (.slice va k vc) xs W W) := ⟨Nat.le_refl _, fun _ _ _ _ => rfl, HROW.out⟩
    have HLN : Hid (k + (more + 1) ≤ 8) := by show _ ≤ _; rw [← hk]; exact hlen
    obtain ⟨M, hM⟩ : ∃ M : Int, ((more + 1 : Nat) : Int) = M := ⟨_, rfl⟩
    have HMI : Hid (M - 1 = (more : Int)) := by show _ = _; omega
    rw [hk, hM]
    rw [lsTo_end]
    have M1 : 1 ≤ M := by omega
    have M8 : M ≤ 8 := by omega
    have mz : (M == 0) = false := by simp; omega
    have wm : IntKind.i64.wrap (M - 1) = M - 1 := by rw [IntKind.wrap_i64] <;> omega
    clear h1 h2 h3 h4 h5 h6 h7 ih hM hlen hk hE hYb hP
    refine callsIn_of_wp Try.func109 rfl trivial ?_ rfl
    simp only [Try.ntmps109, List.size_toArray, List.length_cons, List.length_nil, Nat.reduceAdd, Nat.reduceSub, Array.replicate_succ, Array.replicate_zero, List.push_toArray, List.append_toArray, List.nil_append, List.cons_append]
    gi_wp2_with fail
    gi_loopw [10] (fun i wr => ∃ (p : Nat) (q : List VL), fr ≤ p ∧ p ≤ n ∧ i = .int .i64 (p : Int) ∧ Hid (q.map (·.2) = lsTo n more xs fr p) ∧ Hid (J (pre ++ q) wr) ∧ Hid (KeptL B kept R (.slice va k vc) xs W wr)) (fun i _ => n - (intOf i).toNat)
    case atStart => exact ⟨fr, [], Nat.le_refl _, hfr, rfl, (lsTo_start n more xs fr).symm, H6, HK0⟩
    case round =>
      obtain ⟨p, q, hfp, hpn, rfl, HQ, HJ, HL⟩ := hrel
      have E3 := Lib.hid (HL.out.keep HROW.out H1.out (.inl HEB.out.1) HEB.out.2)
      have Y3 := Lib.hid (HL.out.keep HROW.out H2.out (.inl HYB.out.1) HYB.out.2)
      have P3 := Lib.hid (HL.out.keep HROW.out H3.out (.inr HKP.out.1) HKP.out.2)
      have RW3 := Lib.hid HL.out.row
      have SZ3 : Hid (R ≤ wr.heap.size) := by show _ ≤ _; have := HL.out.size; have := HBR.out; omega
      have p0 := cellOf P3.out 0 (.int .i64 (n : Int)) rfl
      have pl := lt_of_block P3.out
      have nI : (n : Int) ≤ 8 := by omega
      have pI8 : (p : Int) ≤ 8 := by omega
      by_cases hlt : p < n
      · have kI : (p : Int) < (n : Int) := by omega
        have e0 := cellOf E3.out 0 (.func (.func 109) #[] #[.pointer (some ⟨bY, 0, none⟩), .pointer (some ⟨bP, 0, none⟩), .pointer (some ⟨bE, 0, none⟩)]) rfl
        have el := lt_of_block E3.out
        have wp1 : IntKind.i64.wrap ((p : Int) + 1) = (p : Int) + 1 := by rw [IntKind.wrap_i64] <;> omega
        gi_wp2_with fail
        refine wpIn_wide.2 ?_
        refine wp_region_noPanic ?_
        refine wp_region_held_drew (S := (fun W' => W'.cell? ⟨bE, 0, none⟩ = some (.func (.func 109) #[] #[.pointer (some ⟨bY, 0, none⟩), .pointer (some ⟨bP, 0, none⟩), .pointer (some ⟨bE, 0, none⟩)]))) (by kernel_rfl) ?_ (fun hh0 => ?_)
        · exact e0
        refine wpAnyH_take (i := 0) (v := ?_) rfl (by as_aux_lemma => kernel_rfl) (by as_aux_lemma => kernel_rfl) (by as_aux_lemma => kernel_rfl) (fun _ _ _ h => h) (Or.inl ⟨by rfl, ?_⟩) (by assumption) ?_
        rotate_left
        · intro w hSw
          try dsimp only at hSw
          go_simp
          try with_reducible rfl
        try simp only [Act.put, List.getElem_toArray, List.getElem_cons_succ, List.getElem_cons_zero, List.setIfInBounds_toArray, List.set_cons_zero, List.set_cons_succ]
        refine wpAnyH_take (i := 1) (v := ?_) rfl (by as_aux_lemma => kernel_rfl) (by as_aux_lemma => kernel_rfl) (by as_aux_lemma => kernel_rfl) (fun _ _ _ h => h) (Or.inl ⟨by rfl, ?_⟩) (by assumption) ?_
        rotate_left
        · intro w hSw
          try dsimp only at hSw
          go_simp
          try with_reducible rfl
        try simp only [Act.put, List.getElem_toArray, List.getElem_cons_succ, List.getElem_cons_zero, List.setIfInBounds_toArray, List.set_cons_zero, List.set_cons_succ]
        refine wpAnyH_take (i := 2) (v := ?_) rfl (by as_aux_lemma => kernel_rfl) (by as_aux_lemma => kernel_rfl) (by as_aux_lemma => kernel_rfl) (fun _ _ _ h => h) (Or.inl ⟨by rfl, ?_⟩) (by assumption) ?_
        rotate_left
        · intro w hSw
          try dsimp only at hSw
          go_simp
          try with_reducible rfl
        try simp only [Act.put, List.getElem_toArray, List.getElem_cons_succ, List.getElem_cons_zero, List.setIfInBounds_toArray, List.set_cons_zero, List.set_cons_succ]
        refine wpAnyH_take (i := 5) (v := ?_) rfl (by as_aux_lemma => kernel_rfl) (by as_aux_lemma => kernel_rfl) (by as_aux_lemma => kernel_rfl) (fun _ _ _ h => h) (Or.inl ⟨by rfl, ?_⟩) (by assumption) ?_
        rotate_left
        · intro w hSw
          try dsimp only at hSw
          go_simp
          try with_reducible rfl
        try simp only [Act.put, List.getElem_toArray, List.getElem_cons_succ, List.getElem_cons_zero, List.setIfInBounds_toArray, List.set_cons_zero, List.set_cons_succ]
        refine wpAnyH_take (i := 6) (v := ?_) rfl (by as_aux_lemma => kernel_rfl) (by as_aux_lemma => kernel_rfl) (by as_aux_lemma => kernel_rfl) (fun _ _ _ h => h) (Or.inl ⟨by rfl, ?_⟩) (by assumption) ?_
        rotate_left
        · intro w hSw
          try dsimp only at hSw
          go_simp
          try with_reducible rfl
        try simp only [Act.put, List.getElem_toArray, List.getElem_cons_succ, List.getElem_cons_zero, List.setIfInBounds_toArray, List.set_cons_zero, List.set_cons_succ]
        refine wpAnyH_take (i := 7) (v := ?_) rfl (by as_aux_lemma => kernel_rfl) (by as_aux_lemma => kernel_rfl) (by as_aux_lemma => kernel_rfl) (fun _ _ _ h => h) (Or.inl ⟨by rfl, ?_⟩) (by assumption) ?_
        rotate_left
        · intro w hSw
          try dsimp only at hSw
          go_simp
          try with_reducible rfl
        try simp only [Act.put, List.getElem_toArray, List.getElem_cons_succ, List.getElem_cons_zero, List.setIfInBounds_toArray, List.set_cons_zero, List.set_cons_succ]
        refine wpAnyH_take (i := 8) (v := ?_) rfl (by as_aux_lemma => kernel_rfl) (by as_aux_lemma => kernel_rfl) (by as_aux_lemma => kernel_rfl) (fun _ _ _ h => h) (Or.inl ⟨by rfl, ?_⟩) (by assumption) ?_
        rotate_left
        · intro w hSw
          try dsimp only at hSw
          go_simp
          try with_reducible rfl
        try simp only [Act.put, List.getElem_toArray, List.getElem_cons_succ, List.getElem_cons_zero, List.setIfInBounds_toArray, List.set_cons_zero, List.set_cons_succ]
        refine wpAnyH_ready (rs := [3]) (by as_aux_lemma => kernel_rfl) (by simp) ?_
        refine AllReadyH.cons rfl (fun K hK => ?_) AllReadyH.nil
        go_simp
        obtain ⟨V1, hV1, b1⟩ : ∃ V, (wr.alloc (Obj.cells #[.int .i64 (p : Int)] 3)).drew = V ∧ Below wr.heap.size wr V := ⟨_, rfl, ((Below.refl _ wr).alloc (Nat.le_refl _) _).drew⟩
        have z1 : (wr.alloc (Obj.cells #[.int .i64 (p : Int)] 3)).drew.heap[wr.heap.size]? = some (.cells #[.int .i64 (p : Int)] 3 (0, 0)) := heap_alloc_new wr (Obj.cells #[.int .i64 (p : Int)] 3)
        rw [hV1] at z1 ⊢
        have HB1 := Lib.hid b1
        have E4 := Lib.hid ((b1.block _ (lt_of_block E3.out)).trans E3.out)
        have RW4 := Lib.hid (own_below RW3.out b1)
        have Z1 := Lib.hid z1
        clear hV1 b1 z1
        refine hK.out _ _ (cellOf E4.out 0 (.func (.func 109) #[] #[.pointer (some ⟨bY, 0, none⟩), .pointer (some ⟨bP, 0, none⟩), .pointer (some ⟨bE, 0, none⟩)]) rfl) (fun hh1 => ?_)
        clear hK K hh0
        try simp only [Act.put, List.getElem_toArray, List.getElem_cons_succ, List.getElem_cons_zero, List.setIfInBounds_toArray, List.set_cons_zero, List.set_cons_succ]
        refine wpAnyH_ready (rs := [4]) (by as_aux_lemma => kernel_rfl) (by simp) ?_
        refine AllReadyH.cons rfl (fun K hK => ?_) AllReadyH.nil
        refine step_app1L (by rfl) _ _ (by rfl) R xs.length _ _ wr.heap.size (p : Int) (by rfl) (by rfl) RW4.out (cellOf Z1.out 0 _ rfl) (by have := HLN.out; have := HK.out; omega) (by have := SZ3.out; have := HB1.out.size; omega) ?_
        intro v' w8 hown8 hg8 h58
        obtain ⟨va8, vc8, rfl⟩ := own_slice hown8
        have G8 := Lib.hid hg8
        have H58 := Lib.hid h58
        have hrl : ∀ g, (Value.slice va k vc).ownBlock = some g → R ≤ g := fun g e => (RW4.out.lt g e).1
        have E8 := Lib.hid ((hg8.block _ (lt_of_block E4.out) (fun e => by have := hrl _ e.symm; have := HEB.out; omega)).trans E4.out)
        have y4 := (HB1.out.block _ (lt_of_block Y3.out)).trans Y3.out
        have Y8 := Lib.hid ((hg8.block _ (lt_of_block y4) (fun e => by have := hrl _ e.symm; have := HYB.out; omega)).trans y4)
        have p4 := (HB1.out.block _ (lt_of_block P3.out)).trans P3.out
        have P8 := Lib.hid ((hg8.block _ (lt_of_block p4) (fun e => by have := hrl _ e.symm; have := HKP.out; omega)).trans p4)
        have hB8 : Below B wr w8 := (HB1.out.mono (by have := SZ3.out; have := HBR.out; omega)).grown hg8 (by have := SZ3.out; have := HBR.out; have := HB1.out.size; omega) (fun g e => by have := hrl g e; have := HBR.out; omega)
        have J8 := Lib.hid (HJO.out _ _ _ HJ.out hB8)
        have hrow8 : w8.ownsRow R 3 1 (.slice va8 (xs.length + 1) vc8) (xs ++ [(p : Int)]).length (intsV (xs ++ [(p : Int)])) := by
          rw [intsV_snoc, List.length_append]
          exact hown8
        have hnx := lsTo_next n more xs fr p hfp
        have hpre : (pre ++ q).map (·.2) ++ lsF n more (xs ++ [(p : Int)]) (p + 1) <+: LL := by
          rw [List.map_append, HQ.out, List.append_assoc, ← hnx]
          refine List.IsPrefix.trans ?_ H7.out
          exact (List.prefix_append_right_inj _).2 (lsTo_pre n more xs fr (p + 1) (by omega) (by omega))
        have hcall := HIH.out (p + 1) (xs ++ [(p : Int)]) (.slice va8 (xs.length + 1) vc8) 9 (pre ++ q) w8 (by omega) (by have := HLN.out; have := HK.out; simp; omega) E8.out Y8.out P8.out hrow8 (by have := SZ3.out; have := HB1.out.size; have := hg8.size; omega) J8.out hpre
        have hpc : ((p + 1 : Nat) : Int) = (p : Int) + 1 := by omega
        rw [hpc, ← HMI.out] at hcall
        have HCL := Lib.hid hcall
        have HNX := Lib.hid hnx
        have e8 := cellOf E8.out 0 (.func (.func 109) #[] #[.pointer (some ⟨bY, 0, none⟩), .pointer (some ⟨bP, 0, none⟩), .pointer (some ⟨bE, 0, none⟩)]) rfl
        clear hown8 hg8 h58 y4 p4 hB8 hrow8 hpre hcall hpc hnx hrl
        refine hK.out _ _ e8 (fun hh2 => ?_)
        clear hK K hh1
        try simp only [Act.put, List.getElem_toArray, List.getElem_cons_succ, List.getElem_cons_zero, List.setIfInBounds_toArray, List.set_cons_zero, List.set_cons_succ]
        refine wpAnyH_ready (rs := [9]) (by as_aux_lemma => kernel_rfl) (by simp) ?_
        refine AllReadyH.cons rfl (fun K hK => ?_) AllReadyH.nil
        go_simp
        refine (callsIn_wide.1 HCL.out).mono ?_
        rintro e W4 (⟨rfl, q2, hq2, hJ4, hk4⟩ | ⟨rfl, q2, hq2, hx4, hk4⟩)
        · have HQ4 : Hid ((q ++ q2).map (·.2) = lsTo n more xs fr (p + 1)) := by show _ = _; rw [List.map_append, HQ.out, hq2, HNX.out]
          have HJ4 : Hid (J (pre ++ (q ++ q2)) W4) := by show J _ _; rw [← List.append_assoc]; exact hJ4
          have HL4 : Hid (KeptL B kept R (.slice va k vc) xs W W4) := HL.out.trans (KeptL.step (by have := HBR.out; omega) RW3.out HB1.out G8.out H58.out hk4)
          have E9 := (HL4.out.keep HROW.out H1.out (.inl HEB.out.1) HEB.out.2)
          have e9 := cellOf E9 0 (.func (.func 109) #[] #[.pointer (some ⟨bY, 0, none⟩), .pointer (some ⟨bP, 0, none⟩), .pointer (some ⟨bE, 0, none⟩)]) rfl
          clear hq2 hJ4 hk4 E9
          refine hK.out _ _ e9 (fun hh3 => ?_)
          clear hK K hh2
          try simp only [Act.put, List.getElem_toArray, List.getElem_cons_succ, List.getElem_cons_zero, List.setIfInBounds_toArray, List.set_cons_zero, List.set_cons_succ]
          refine wpAnyH_ready (rs := [10]) (by as_aux_lemma => kernel_rfl) (by simp) ?_
          refine AllReadyH.cons rfl (fun K hK => ?_) AllReadyH.nil
          go_simp
          refine hK.out _ _ hh3 (fun hh4 => ?_)
          clear hK K hh3
          try simp only [Act.put, List.getElem_toArray, List.getElem_cons_succ, List.getElem_cons_zero, List.setIfInBounds_toArray, List.set_cons_zero, List.set_cons_succ]
          refine wpAnyH_done (by as_aux_lemma => kernel_rfl) ?_ _
          refine NoPanic.normal ?_
          clear HCL e8 e0 el p0 pl E4 RW4 Z1 J8 E8 Y8 P8 G8 H58 HQ HJ HL E3 Y3 P3 RW3 hh4 e9
          gi_wp2_with fail
          go_roundw
          case rel => exact ⟨p + 1, q ++ q2, by omega, by omega, by go_num, HQ4, HJ4, HL4⟩
          case measure => simp [intOf]; omega
        · have HQ4 : Hid ((q ++ q2).map (·.2) <+: lsTo n more xs fr n) := by
            show _ <+: _
            rw [List.map_append, HQ.out]
            refine List.IsPrefix.trans ?_ (lsTo_pre n more xs fr (p + 1) (by omega) (by omega))
            rw [HNX.out]
            exact (List.prefix_append_right_inj _).2 hq2
          have HJ4 : Hid (Jx (pre ++ (q ++ q2)) W4) := by show Jx _ _; rw [← List.append_assoc]; exact hx4
          have HL4 : Hid (KeptL B kept R (.slice va k vc) xs W W4) := HL.out.trans (KeptL.step (by have := HBR.out; omega) RW3.out HB1.out G8.out H58.out hk4)
          have E9 := (HL4.out.keep HROW.out H1.out (.inl HEB.out.1) HEB.out.2)
          have e9 := cellOf E9 0 (.func (.func 109) #[] #[.pointer (some ⟨bY, 0, none⟩), .pointer (some ⟨bP, 0, none⟩), .pointer (some ⟨bE, 0, none⟩)]) rfl
          clear hq2 hx4 hk4 E9
          refine hK.out _ _ e9 (fun hh3 => ?_)
          clear hK K hh2
          try simp only [Act.put, List.getElem_toArray, List.getElem_cons_succ, List.getElem_cons_zero, List.setIfInBounds_toArray, List.set_cons_zero, List.set_cons_succ]
          refine wpAnyH_ready (rs := [10]) (by as_aux_lemma => kernel_rfl) (by simp) ?_
          refine AllReadyH.cons rfl (fun K hK => ?_) AllReadyH.nil
          go_simp
          refine hK.out _ _ hh3 (fun hh4 => ?_)
          clear hK K hh3
          try simp only [Act.put, List.getElem_toArray, List.getElem_cons_succ, List.getElem_cons_zero, List.setIfInBounds_toArray, List.set_cons_zero, List.set_cons_succ]
          refine wpAnyH_done (by as_aux_lemma => kernel_rfl) ?_ _
          refine NoPanic.normal ?_
          clear HCL e8 e0 el p0 pl E4 RW4 Z1 J8 E8 Y8 P8 G8 H58 HQ HJ HL E3 Y3 P3 RW3 hh4 e9
          gi_wp2_with fail
          go_ret
          exact .inr ⟨rfl, q ++ q2, HQ4.out, HJ4.out, HL4.out⟩
      · obtain rfl : p = n := by omega
        have kI : ¬ (p : Int) < (p : Int) := by omega
        gi_wp2_with fail
        go_ret
        exact .inl ⟨rfl, q, HQ.out, HJ.out, HL.out⟩
end Go.Proofs.Ythflbbjilebhlaa
