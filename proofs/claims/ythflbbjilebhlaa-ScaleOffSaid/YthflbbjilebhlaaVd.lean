/- Package scale: the first model with which no road is flat. -/
import Derived.Test.YthflbbjilebhlaaVc
set_option linter.unusedSimpArgs false
set_option linter.unusedVariables false
namespace Go.Proofs.Ythflbbjilebhlaa
open Go Go.RowKit Go.Shelf Sc
attribute [local go_sem] Oper.semAt_some

theorem find_at {α : Type} {P : α → Bool} {l q : List α} {x : α} (h : q ++ [x] <+: l) (hq : ∀ y, y ∈ q → P y = false) (hx : P x = true) : l.find? P = some x := by
  obtain ⟨r, rfl⟩ := h
  rw [List.append_assoc, List.find?_append, List.find?_eq_none.2 (fun y hy => by simp [hq y hy])]
  simp [hx]
theorem md_putIn {w : World} {g : Nat} {C old : Array Value} (h : w.heap[g]? = some (.cells old 99 (0, 0))) : (w.setRow g C).heap[g]? = some (.cells C 99 (0, 0)) := setRow_heap _ _ _ _ _ _ h
set_option maxRecDepth 100000 in
set_option maxHeartbeats 8000000 in
theorem mfirst_any (c : Cse) (hv rv : Value) (f t : Scl) (bS bL bf bt bC : Nat) (w : World) (hC : CseAt w c hv rv) (hV : Valid c)
    (hf : 0 ≤ f.1 ∧ f.1 ≤ 30 ∧ 0 ≤ f.2 ∧ f.2 ≤ 30 ∧ 1 ≤ f.1 + f.2) (ht : 0 ≤ t.1 ∧ t.1 ≤ 30 ∧ 0 ≤ t.2 ∧ t.2 ≤ 30 ∧ 1 ≤ t.1 + t.2) (hok : ∀ s, s ∈ sbL 61 f t → 1 ≤ s.1 ∧ s.1 ≤ 30 ∧ 1 ≤ s.2 ∧ s.2 ≤ 30)
    (h1 : w.heap[bS]? = some (.cells #[.func (.func 117) #[] #[.pointer (some ⟨bf, 0, none⟩), .pointer (some ⟨bt, 0, none⟩)]] 118 (0, 0)))
    (h2 : w.heap[bL]? = some (.cells (lkV c hv rv) 95 (0, 0)))
    (h3 : w.heap[bf]? = some (.cells #[.int .i64 f.1, .int .i64 f.2] 27 (0, 0))) (h4 : w.heap[bt]? = some (.cells #[.int .i64 t.1, .int .i64 t.2] 27 (0, 0)))
    (h5 : w.heap[bC]? = some (.cells #[.int .i64 c.kind, .int .i64 c.base, .int .i64 c.most, hv, rv] 25 (0, 0))) :
    Calls Try.prog 71 #[.func (.func 99) #[] #[.pointer (some ⟨bS, 0, none⟩), .pointer (some ⟨bL, 0, none⟩)], .func (.func 73) #[] #[.pointer (some ⟨bC, 0, none⟩)]] w fun e w' =>
      (∀ s, (fitL c (sbL 61 f t)).find? (seenB c) = some s → e = .returned (.tuple #[.agg (mdC (mdP c hv rv s) (cut8 c s)), .bool true])) ∧ ((fitL c (sbL 61 f t)).find? (seenB c) = none → e = .returned (.tuple #[.agg (mdC pf0 z8), .bool false])) ∧ Below w.heap.size w w' := by
  obtain ⟨LL, hLL⟩ : ∃ LL, sbL 61 f t = LL := ⟨_, rfl⟩
  obtain ⟨W3, hW3, z1, z2, z3, hb3, hs3⟩ := al3 w (Obj.cells #[.func (.func 73) #[] #[.pointer (some ⟨bC, 0, none⟩)]] 125) (Obj.cells (mdC pf0 z8) 99) (Obj.cells #[.bool false] 4)
  have hMX := models_X c hv rv f t (fun k => k < w.heap.size) bS bL bf bt w W3 hb3 hC hV (fun k hk => hk) (lt_of_block h2) (fun k hk => by omega) hf ht hok ((hb3.block _ (lt_of_block h1)).trans h1) ((hb3.block _ (lt_of_block h2)).trans h2) ((hb3.block _ (lt_of_block h3)).trans h3) ((hb3.block _ (lt_of_block h4)).trans h4)
  rw [hLL] at hMX hok ⊢
  obtain ⟨FL, hFL⟩ : ∃ FL, fitL c LL = FL := ⟨_, rfl⟩
  rw [hFL] at hMX ⊢
  have HFO : Hid (∀ s, s ∈ FL → 1 ≤ s.1 ∧ s.1 ≤ 30 ∧ 1 ≤ s.2) := fun s hs => by
    rw [← hFL] at hs
    have h := hok s (List.mem_filter.1 hs).1
    exact ⟨h.1, h.2.1, h.2.2.1⟩
  have HMX := Lib.hid hMX
  have HW3 := Lib.hid hW3
  have Z1 := Lib.hid z1
  have Z2 : Hid (MdBlk W3 (w.heap.size + 1) pf0 z8) := z2
  have Z3 := Lib.hid z3
  have HB3 := Lib.hid hb3
  have HS3 := Lib.hid hs3
  have HT : Hid (∀ s V, s ∈ FL → Below w.heap.size w V → Calls Try.prog 73 #[.agg (mdC (mdP c hv rv s) (cut8 c s)), .pointer (some ⟨bC, 0, none⟩)] V fun e w' => e = .returned (.bool (seenB c s)) ∧ Below V.heap.size V w') := fun s V hs hb => least1_any c hv rv s bC V (hC.below hb) hV (HFO.out s hs) ((hb.block _ (lt_of_block h5)).trans h5)
  have HPL : Hid (∀ s, (mdP c hv rv s).length = 9) := fun _ => rfl
  have HONE : Hid (∀ s, (mdC (mdP c hv rv s) (cut8 c s)).all (·.oneCell') = true) := fun s => md_one _ _ (by
    obtain ⟨ha, hn, hc, rfl⟩ : ∃ a n c, hv = .slice a n c := by obtain ⟨_, a, cap, h, _⟩ := hC.hs; exact ⟨_, _, _, h⟩
    obtain ⟨ra, rn, rc, rfl⟩ : ∃ a n c, rv = .slice a n c := by obtain ⟨_, a, cap, h, _⟩ := hC.rd; exact ⟨_, _, _, h⟩
    rfl)
  have HC8 : Hid (∀ s, (cut8 c s).length = 8) := fun s => cut8_len c s
  have hz := (zero_of_info mdZero).1
  obtain ⟨mp, hmp⟩ : ∃ mp : Scl → List Value, (fun s => mdP c hv rv s) = mp := ⟨_, rfl⟩
  obtain ⟨mc, hmc⟩ : ∃ mc : Scl → List Int, (fun s => cut8 c s) = mc := ⟨_, rfl⟩
  have emp : ∀ s, mdP c hv rv s = mp s := fun s => by rw [← hmp]
  have emc : ∀ s, cut8 c s = mc s := fun s => by rw [← hmc]
  have eenc : encM c hv rv = fun s => #[.agg (mdC (mp s) (mc s))] := by funext s; unfold encM; rw [emp, emc]
  simp only [emp, emc] at HPL HONE HC8 HT ⊢
  rw [eenc] at HMX
  have HSIZ : Hid (∀ s, (mdC (mp s) (mc s)).size = 17) := fun s => by rw [md_size, HPL.out, HC8.out]
  have HZ17 : Hid ((mdC pf0 z8).size = 17) := by show _ = _; rw [md_size]; rfl
  clear hW3 z1 z2 z3 hb3 hs3 h1 h2 h3 h4 h5 hC hV hf ht hok hMX hFL hLL hmp hmc emp emc eenc HFO
  refine (callsIn_wide (n := 9)).1 ?_
  refine callsIn_of_wp_marks Try.func71 rfl trivial ?_ rfl
  simp only [Try.ntmps71, List.size_toArray, List.length_cons, List.length_nil, Nat.reduceAdd, Nat.reduceSub, Array.replicate_succ, Array.replicate_zero, List.push_toArray, List.append_toArray, List.nil_append, List.cons_append]
  gi_wp2_with fail
  rw [HW3.out]
  refine wpIn_rangeFunc_X rfl (enters_of Try.func99 (by kernel_rfl) rfl) HMX.out (Below.refl _ _) (fun _ => rfl) (fun k hk => by have := HS3.out; omega)
    (fun pre V => pre <+: FL ∧ (∀ x, x ∈ pre → seenB c x = false) ∧ V.heap[w.heap.size]? = some (.cells #[.func (.func 73) #[] #[.pointer (some ⟨bC, 0, none⟩)]] 125 (0, 0)) ∧ V.heap[w.heap.size + 1]? = some (.cells (mdC pf0 z8) 99 (0, 0)) ∧ V.heap[w.heap.size + 1 + 1]? = some (.cells #[.bool false] 4 (0, 0)) ∧ Below w.heap.size w V)
    (fun cd pre V => cd = .ret ∧ (∃ q x, pre = q ++ [x] ∧ pre <+: FL ∧ (∀ y, y ∈ q → seenB c y = false) ∧ seenB c x = true ∧ V.heap[w.heap.size + 1]? = some (.cells (mdC (mp x) (mc x)) 99 (0, 0))) ∧ V.heap[w.heap.size + 1 + 1]? = some (.cells #[.bool true] 4 (0, 0)) ∧ Below w.heap.size w V)
    (OwnFrom.and (fun _ _ _ _ h _ _ => h) (OwnFrom.and (fun _ _ _ _ h _ _ => h) (OwnFrom.and (Own.from (blk_own _ (fun _ => _) _ _) _) (OwnFrom.and (Own.from (blk_own _ (fun _ => _) _ _) _) (OwnFrom.and (Own.from (blk_own _ (fun _ => _) _ _) _) (ownFrom_below (Nat.le_refl _) (by have := HS3.out; omega)))))))
    (fun cd => OwnFrom.and (fun _ _ _ _ h _ _ => h) (OwnFrom.and (fun s X Y row h hg hr => by
      obtain ⟨q, x, h1, h2, h3, h4, h5⟩ := h
      exact ⟨q, x, h1, h2, h3, h4, (Own.from (blk_own (β := Unit) _ (fun _ => _) _ _) W3.heap.size) () X Y row h5 hg hr⟩) (OwnFrom.and (Own.from (blk_own _ (fun _ => _) _ _) _) (ownFrom_below (Nat.le_refl _) (by have := HS3.out; omega)))))
    ⟨List.nil_prefix, fun x hx => (by cases hx), Z1.out, Z2.out, Z3.out, HB3.out⟩
    (fun pre x a' V => pre ++ [x] <+: FL ∧ ∃ Bx, W3.heap.size ≤ Bx ∧ V.heap[Bx]? = some (.cells (mdC (mp x) (mc x)) 99 (0, 0)) ∧ a' = { tmps := #[.func (.func 99) #[] #[.pointer (some ⟨bS, 0, none⟩), .pointer (some ⟨bL, 0, none⟩)], .func (.func 73) #[] #[.pointer (some ⟨bC, 0, none⟩)], undef, .pointer (some ⟨w.heap.size, 0, none⟩), .pointer (some ⟨w.heap.size + 1, 0, none⟩), .pointer (some ⟨w.heap.size + 1 + 1, 0, none⟩), .pointer (some ⟨Bx, 0, none⟩), .func (.func 99) #[] #[.pointer (some ⟨bS, 0, none⟩), .pointer (some ⟨bL, 0, none⟩)], .agg (mdC (mp x) (mc x)), undef, undef, undef, undef, undef], defers := [] })
    ?hAx ?assign ?body ?done ?stop
  case hAx =>
    rintro pre x a' _ X Y row ⟨h0, Bx, h1, h2, h3⟩ hg hr
    exact ⟨h0, Bx, h1, (Own.from (blk_own (β := Unit) _ (fun _ => _) _ _) W3.heap.size) () X Y row h2 hg hr, h3⟩
  case assign =>
    rintro l' m' pre x V K ⟨i0, i1, i2, i3, i4, i5⟩ hvx hK
    have hn2 := heap_alloc_new V (Obj.cells (mdC pf0 z8) 99)
    have hz2 := md_putIn (C := mdC (mp x) (mc x)) hn2
    have hb : Below V.heap.size V ((V.alloc (Obj.cells (mdC pf0 z8) 99)).setRow V.heap.size (mdC (mp x) (mc x))) := below_setRow (by go_grown) (Nat.le_refl _) _
    have hszV : W3.heap.size ≤ V.heap.size := by have := HS3.out; have := lt_of_block i4; omega
    have HN2 := Lib.hid hn2
    clear hn2
    gi_wp2_with (refine md_storeIn rfl (.tmp 6) (.tmp 8) rfl V.heap.size rfl (mdC (mp x) (mc x)) (mdC pf0 z8) rfl HN2.out (HSIZ.out x) HZ17.out (HONE.out x) rfl ?_)
    exact hK _ _ (keptO_of_below hb) ⟨i0, i1, (hb.block _ (lt_of_block i2)).trans i2, (hb.block _ (lt_of_block i3)).trans i3, (hb.block _ (lt_of_block i4)).trans i4, i5.trans (hb.mono i5.size)⟩ ⟨hvx, _, hszV, hz2, rfl⟩
  case body =>
    rintro l' m' pre x a' V hl ⟨i0, i1, i2, i3, i4, i5⟩ ⟨hvx, Bx, hBx, iX, rfl⟩ hlt
    have I1 := Lib.hid i1
    have I2 := Lib.hid i2
    have I3 := Lib.hid i3
    have I4 := Lib.hid i4
    have I5 := Lib.hid i5
    have IX : Hid (MdBlk V Bx (mp x) (mc x)) := iX
    have HVX := Lib.hid hvx
    have HC := Lib.hid (HT.out x V (hvx.subset (by simp)) i5)
    obtain ⟨R, hR⟩ : ∃ R, seenB c x = R := ⟨_, rfl⟩
    have HR := Lib.hid hR
    rw [hR] at HC
    have c0 := cellOf i2 0 (.func (.func 73) #[] #[.pointer (some ⟨bC, 0, none⟩)]) rfl
    have cl := lt_of_block i2
    clear i0 i1 i2 i3 i4 i5 iX hvx hlt hR
    gi_wp2_with (refine md_loadIn rfl (.tmp 6) rfl Bx rfl (mp x) (mc x) IX.out (HPL.out x) (HC8.out x) ?_)
    refine ⟨trivial, fun h => (by cases h), ?_⟩
    refine (callsIn_wide.2 HC.out).mono ?_
    rintro e V2 ⟨rfl, hb⟩
    have J2 := Lib.hid ((hb.block _ (lt_of_block I2.out)).trans I2.out)
    have J3 := Lib.hid ((hb.block _ (lt_of_block I3.out)).trans I3.out)
    have J4 := Lib.hid ((hb.block _ (lt_of_block I4.out)).trans I4.out)
    have JX := Lib.hid (IX.out.below hb IX.out.lt)
    have J5 := Lib.hid (I5.out.trans (hb.mono I5.out.size))
    have K2 : Hid (KeptO W3.heap.size (fun k => k < w.heap.size) V V2) := keptO_of_below hb
    clear hb c0 cl HC I2 I3 I4 I5 IX
    cases R
    · gi_wp2_with fail
      refine ⟨K2.out, HVX.out, fun y hy => ?_, J2.out, J3.out, J4.out, J5.out⟩
      rcases List.mem_append.1 hy with h | h
      · exact I1.out y h
      · simp at h; subst h; exact HR.out
    · have hsz := HS3.out
      have y0 := cellOf J4.out 0 _ rfl
      have g0 := frozen_of_row _ _ 0 _ _ J4.out
      have yl := lt_of_block J4.out
      obtain ⟨V3, hV3, M3, b3⟩ : ∃ V3, V2.setRow (w.heap.size + 1) (mdC (mp x) (mc x)) = V3 ∧ V3.heap[w.heap.size + 1]? = some (.cells (mdC (mp x) (mc x)) 99 (0, 0)) ∧ Below w.heap.size w V3 := ⟨_, rfl, md_putIn J3.out, below_setRow J5.out (by omega) _⟩
      have j4 : V3.heap[w.heap.size + 1 + 1]? = some (.cells #[.bool false] 4 (0, 0)) := by rw [← hV3]; exact (setRow_other _ _ _ _ (by omega)).trans J4.out
      have K3 : Hid (KeptO W3.heap.size (fun k => k < w.heap.size) V V3) := K2.out.trans (by
        rw [← hV3]
        exact ⟨by simp [World.setRow], fun k hk hor => setRow_other _ _ _ _ (by rcases hor with h | h <;> omega)⟩)
      have M3' := Lib.hid M3
      have B3' := Lib.hid b3
      have JJ := Lib.hid j4
      have HV3 := Lib.hid hV3
      have y0 := cellOf j4 0 _ rfl
      have g0 := frozen_of_row _ _ 0 _ _ j4
      have yl := lt_of_block j4
      clear M3 b3 j4 hV3
      gi_wp2_with (first
        | (refine md_loadIn rfl (.tmp 6) rfl Bx rfl (mp x) (mc x) JX.out (HPL.out x) (HC8.out x) ?_)
        | (refine md_storeIn rfl (.tmp 4) (.tmp 12) rfl (w.heap.size + 1) rfl (mdC (mp x) (mc x)) (mdC pf0 z8) rfl J3.out (HSIZ.out x) HZ17.out (HONE.out x) rfl ?_; rw [HV3.out]))
      refine ⟨K3.out.setCell _ _ (by show w.heap.size + 1 + 1 < _; omega) (by show ¬ w.heap.size + 1 + 1 < _; omega), rfl, ⟨pre, x, rfl, HVX.out, I1.out, HR.out, (heap_setCell_other _ _ _ _ (by show w.heap.size + 1 ≠ w.heap.size + 1 + 1; omega)).trans M3'.out⟩, heap_setCell_same _ (w.heap.size + 1 + 1) 0 _ _ (.bool true) JJ.out, B3'.out.setCell (p := ⟨w.heap.size + 1 + 1, 0, none⟩) (by show w.heap.size ≤ w.heap.size + 1 + 1; omega) _⟩
  case done =>
    rintro D ys V hD rfl ⟨i0, i1, i2, i3, i4, i5⟩ hK
    have I3 : Hid (MdBlk V (w.heap.size + 1) pf0 z8) := i3
    have I4 := Lib.hid i4
    have I5 := Lib.hid i5
    have HK := Lib.hid hK
    have hno : ys.find? (seenB c) = none := List.find?_eq_none.2 (fun y hy => by simp [i1 y hy])
    have HNO := Lib.hid hno
    have hsz := HS3.out
    obtain ⟨V3, hV3, M3, b3⟩ : ∃ V3, V.setRow (w.heap.size + 1) (mdC pf0 z8) = V3 ∧ MdBlk V3 (w.heap.size + 1) pf0 z8 ∧ Below w.heap.size w V3 := ⟨_, rfl, md_putIn i3, below_setRow i5 (by omega) _⟩
    have j4 : V3.heap[w.heap.size + 1 + 1]? = some (.cells #[.bool false] 4 (0, 0)) := by rw [← hV3]; exact (setRow_other _ _ _ _ (by omega)).trans i4
    have k3 : V3.heap[D]? = some (.deferred (some [])) := by rw [← hV3]; exact (setRow_other _ _ _ _ (by omega)).trans hK
    have M3' := Lib.hid M3
    have B3' := Lib.hid b3
    have JJ := Lib.hid j4
    have HK3 := Lib.hid k3
    have HV3 := Lib.hid hV3
    have HONE0 : Hid ((mdC pf0 z8).all (·.oneCell') = true) := md_one _ _ rfl
    have y0 := cellOf j4 0 _ rfl
    have g0 := frozen_of_row _ _ 0 _ _ j4
    have yl := lt_of_block j4
    clear i0 i1 i2 i3 i4 i5 hK hno M3 b3 j4 k3 hV3
    gi_wp2_with (first
      | (refine md_loadIn rfl (.tmp 4) rfl (w.heap.size + 1) rfl pf0 z8 I3.out rfl rfl ?_)
      | (refine md_storeIn rfl (.tmp 4) (.tmp 13) rfl (w.heap.size + 1) rfl (mdC pf0 z8) (mdC pf0 z8) rfl I3.out HZ17.out HZ17.out HONE0.out rfl ?_; rw [HV3.out]))
    have hk5 : (V3.setCell ⟨w.heap.size + 1 + 1, 0, none⟩ (.bool false)).heap[D]? = some (.deferred (some [])) := (heap_setCell_other _ _ _ _ (by show D ≠ w.heap.size + 1 + 1; omega)).trans HK3.out
    have h6 : (V3.setCell ⟨w.heap.size + 1 + 1, 0, none⟩ (.bool false)).heap[w.heap.size + 1 + 1]? = some (.cells #[.bool false] 4 (0, 0)) := heap_setCell_same _ (w.heap.size + 1 + 1) 0 _ _ (.bool false) JJ.out
    have h7 : MdBlk (V3.setCell ⟨w.heap.size + 1 + 1, 0, none⟩ (.bool false)) (w.heap.size + 1) pf0 z8 := (heap_setCell_other _ _ _ _ (by show w.heap.size + 1 ≠ w.heap.size + 1 + 1; omega)).trans M3'.out
    refine ⟨by simp, .inl ⟨_, _, rfl, run_takeDeferred hk5, ?_⟩⟩
    refine ⟨_, md_results rfl _ _ (w.heap.size + 1) (w.heap.size + 1 + 1) pf0 z8 false rfl rfl ((World.putObj_heap_other (by omega)).trans h7) rfl rfl ((World.putObj_heap_other (by omega)).trans h6), fun s h => ?_, fun _ => rfl, ?_⟩
    · rw [HNO.out] at h; cases h
    · exact below_put _ (B3'.out.setCell (p := ⟨w.heap.size + 1 + 1, 0, none⟩) (by show w.heap.size ≤ w.heap.size + 1 + 1; omega) _) (Nat.le_refl _) (by omega) hk5 rfl
  case stop =>
    rintro D cd pre V hD hpre ⟨rfl, ⟨q, x, rfl, j1, j2, j3, j4⟩, i3, i4⟩ hK
    have hyes : FL.find? (seenB c) = some x := find_at j1 j2 j3
    have HYES := Lib.hid hyes
    have I2 : Hid (MdBlk V (w.heap.size + 1) (mp x) (mc x)) := j4
    have I3 := Lib.hid i3
    have I4 := Lib.hid i4
    have HK := Lib.hid hK
    have hsz := HS3.out
    clear j1 j2 j3 j4 i3 i4 hK hyes
    gi_wp2_with fail
    refine ⟨by simp, .inl ⟨_, _, rfl, run_takeDeferred HK.out, ?_⟩⟩
    refine ⟨_, md_results rfl _ _ (w.heap.size + 1) (w.heap.size + 1 + 1) (mp x) (mc x) true rfl rfl ((World.putObj_heap_other (by omega)).trans I2.out) (HPL.out x) (HC8.out x) ((World.putObj_heap_other (by omega)).trans I3.out), fun s h => ?_, fun h => ?_, ?_⟩
    · rw [HYES.out] at h; cases h; rfl
    · rw [HYES.out] at h; cases h
    · exact below_put _ I4.out (Nat.le_refl _) (by omega) HK.out rfl
end Go.Proofs.Ythflbbjilebhlaa
