/- Package carve: the best way from a place. -/
import Derived.Test.YtnciomoapajonaaCxa
set_option linter.unusedSimpArgs false
set_option linter.unusedVariables false
namespace Go.Proofs.Ytnciomoapajonaa
open Go Go.RowKit Go.Shelf Cv
attribute [local go_sem] Oper.semAt_some

theorem al2 (w : World) (A B : Obj) : ∃ W, (w.alloc A).alloc B = W ∧ W.heap[w.heap.size]? = some A ∧ W.heap[w.heap.size + 1]? = some B ∧ Below w.heap.size w W ∧ W.heap.size = w.heap.size + 2 := by
  refine ⟨_, rfl, ?_, ?_, ?_, ?_⟩
  · have h := heap_alloc_new w A
    exact (Below.heap_alloc _ B _ (lt_of_block h)).trans h
  · have h := heap_alloc_new (w.alloc A) B
    rw [show (w.alloc A).heap.size = w.heap.size + 1 by simp] at h
    exact h
  · go_grown
  · simp
theorem keepW {U w w' : World} {a b c d e f g h i j k : Addr} {x1 x2 x3 x4 x5 x6 x7 x8 x9 x10 x11 : Value}
    (H : w.cell? a = some x1 ∧ w.cell? b = some x2 ∧ w.cell? c = some x3 ∧ w.cell? d = some x4 ∧ w.cell? e = some x5 ∧ w.cell? f = some x6 ∧ w.cell? g = some x7 ∧ w.cell? h = some x8 ∧ w.cell? i = some x9 ∧ w.cell? j = some x10 ∧ w.cell? k = some x11 ∧ Below U.heap.size U w) (hb : Below w.heap.size w w') :
    w'.cell? a = some x1 ∧ w'.cell? b = some x2 ∧ w'.cell? c = some x3 ∧ w'.cell? d = some x4 ∧ w'.cell? e = some x5 ∧ w'.cell? f = some x6 ∧ w'.cell? g = some x7 ∧ w'.cell? h = some x8 ∧ w'.cell? i = some x9 ∧ w'.cell? j = some x10 ∧ w'.cell? k = some x11 ∧ Below U.heap.size U w' := by
  have P : ∀ (p : Addr) (x : Value), w.cell? p = some x → w'.cell? p = some x := fun p x hp => (hb.cell (p := p) (World.block_lt_of_cell? w _ hp)).trans hp
  obtain ⟨h1, h2, h3, h4, h5, h6, h7, h8, h9, h10, h11, h12⟩ := H
  exact ⟨P _ _ h1, P _ _ h2, P _ _ h3, P _ _ h4, P _ _ h5, P _ _ h6, P _ _ h7, P _ _ h8, P _ _ h9, P _ _ h10, P _ _ h11, h12.trans (hb.mono h12.size)⟩
theorem set3_other {V : World} {g b : Nat} {o : Obj} {x y z : Value} (hne : b ≠ g) (h : V.heap[b]? = some o) : (((V.setCell ⟨g, 0, none⟩ x).setCell ⟨g, 1, none⟩ y).setCell ⟨g, 2, none⟩ z).heap[b]? = some o :=
  (Below.heap_setCell _ ⟨g, 2, none⟩ z b hne).trans ((Below.heap_setCell _ ⟨g, 1, none⟩ y b hne).trans ((Below.heap_setCell _ ⟨g, 0, none⟩ x b hne).trans h))
theorem bm_set3 {mb : Nat} {w V : World} {g : Nat} {x y z : Value} (h : Bm mb w V) (hg : w.heap.size ≤ g) : Bm mb w (((V.setCell ⟨g, 0, none⟩ x).setCell ⟨g, 1, none⟩ y).setCell ⟨g, 2, none⟩ z) := by
  refine ⟨h.os, h.tape, h.output, by simpa using h.size, fun k hk hne => ?_⟩
  rw [Below.heap_setCell _ ⟨g, 2, none⟩ z k (by simp; omega), Below.heap_setCell _ ⟨g, 1, none⟩ y k (by simp; omega), Below.heap_setCell _ ⟨g, 0, none⟩ x k (by simp; omega)]
  exact h.block k hk hne
theorem keepsFrom_bm {b B : Nat} {W W' : World} (h : Bm b W W') (hb : b < B) : KeepsFrom B W W' := ⟨h.size, fun k _ hk ho _ => (h.block k (lt_of_block ho) (by omega)).trans ho⟩
theorem kb_bm {b k : Nat} {W W' : World} (h : Bm b W W') (hk : k ≠ b) : KB k W W' := fun _ ho => (h.block k (lt_of_block ho) hk).trans ho
set_option maxRecDepth 100000 in
set_option maxHeartbeats 8000000 in
theorem ways1_any (r : Row) (hv : Valid r) (hc : crossB r = false) (q : Bool) (pa : Option Addr) (pc gb cap mb kb bb fb rb : Nat) : ∀ (m k : Nat) (z g : Int) (f : From) (w : World), z + 1 = k → k + m = r.pts.length → FromZ r k g f → WSt r q (.slice pa r.pts.length pc) gb cap mb kb bb fb rb w →
    Calls Try.prog 89 #[.agg #[.int .i64 z, .int .i64 g], .pointer (some ⟨kb, 0, none⟩), .pointer (some ⟨bb, 0, none⟩), .pointer (some ⟨fb, 0, none⟩), .pointer (some ⟨rb, 0, none⟩)] w fun e w' => e = .returned (wayV (wayK r q k f)) ∧ Bm mb w w' ∧ MapSt r q mb w' := by
  intro m
  induction m with
  | zero =>
    intro k z g f w hz hkm hf hW
    have HF := Lib.hid hf
    have HW := Lib.hid hW
    have n10 := hv.n10
    have HKM := Lib.hid hkm
    have HKZ := Lib.hid hz
    have zI : z = (r.pts.length : Int) - 1 := by omega
    have nI : (r.pts.length : Int) ≤ 10 := by omega
    have n1 : 1 ≤ (r.pts.length : Int) := by have := hv.n1; omega
    have z0 : -1 ≤ z := by omega
    have z9 : z ≤ 9 := by omega
    have g0 := hf.1.1
    have g9 := hf.1.2
    obtain ⟨n, hn⟩ : ∃ n, r.pts.length = n := ⟨_, rfl⟩
    have HN := Lib.hid hn
    have HWE : Hid (wayK r q k f = (0, (0, 0))) := by show _ = _; rw [show k = r.pts.length by omega]; exact wayK_end r q f
    obtain ⟨W0, hW0, hA1, hA2, hB, hs⟩ := al2 w (Obj.cells #[.int .i64 z, .int .i64 g] 123) (Obj.cells #[.int .i64 0, .int .i64 0, .int .i64 0] 119)
    have HW2 := hW.below hB
    obtain ⟨v, t, hl, ht1, ht2⟩ := look_place r q mb k z g f W0 HW2.map hz hf
    rw [← hW0] at hl
    have c0 : w.cell? ⟨kb, 0, none⟩ = some (.map (some mb)) := cellOf hW.ck 0 _ rfl
    have b0 : w.cell? ⟨bb, 0, none⟩ = some (.int .i64 r.st) := cellOf hW.cb 0 _ rfl
    have b1 : w.cell? ⟨bb, 1, none⟩ = some (.slice pa r.pts.length pc) := cellOf hW.cb 1 _ rfl
    have b2 : w.cell? ⟨bb, 2, none⟩ = some (.slice (some ⟨gb, 0, none⟩) r.pts.length cap) := cellOf hW.cb 2 _ rfl
    have hkb := lt_of_block hW.ck
    have hbb := lt_of_block hW.cb
    have hbb1 : bb < w.heap.size + 1 := by omega
    have hbb2 : bb < w.heap.size + 1 + 1 := by omega
    have hbb3 : bb < w.heap.size + 1 + 1 + 1 := by omega
    have HT1 := Lib.hid ht1
    have HT2 := Lib.hid ht2
    rw [hn] at b1 b2 zI nI n1
    obtain ⟨vh, vp, vm⟩ := v
    have tz : (z == (n : Int) - 1) = true := by simp; exact zI
    unfold wayV at hl
    simp only at hl
    clear hW0 hA1 hA2 hB hf hW hkm hz ht1 ht2 n10 hn zI HW2 hs
    refine (callsIn_wide (n := 5)).1 ?_
    refine callsIn_of_wp_marks Try.func89 rfl trivial ?_ rfl
    simp only [Try.ntmps89, List.size_toArray, List.length_cons, List.length_nil, Nat.reduceAdd, Nat.reduceSub, Array.replicate_succ, Array.replicate_zero, List.push_toArray, List.append_toArray, List.nil_append, List.cons_append]
    have HVV : Hid ((vh, (vp, vm)) = wayK r q k f) := by
      show _ = _
      cases t
      · rw [HWE.out]; exact HT2.out rfl
      · exact HT1.out rfl
    cases t
    · skip
      have HW0 := HW.out
      gi_wp2_with fail
      obtain ⟨V, hV, _, hR, _, hB, _⟩ := al3 w (Obj.cells #[.int .i64 z, .int .i64 g] 123) (Obj.cells #[.int .i64 vh, .int .i64 vp, .int .i64 vm] 119) (Obj.cells #[.int .i64 vh, .int .i64 vp, .int .i64 vm] 119)
      rw [hV]
      exact ⟨_, way_result rfl _ _ (w.heap.size + 1) _ _ _ rfl hR, by rw [← HVV.out]; rfl, Bm.of_below hB, HW0.map.below hB⟩
    · skip
      have HW0 := HW.out
      gi_wp2_with fail
      obtain ⟨V, hV, _, hR, _, hB, _⟩ := al3 w (Obj.cells #[.int .i64 z, .int .i64 g] 123) (Obj.cells #[.int .i64 vh, .int .i64 vp, .int .i64 vm] 119) (Obj.cells #[.int .i64 vh, .int .i64 vp, .int .i64 vm] 119)
      rw [hV]
      exact ⟨_, way_result rfl _ _ (w.heap.size + 1) _ _ _ rfl hR, by rw [← HVV.out]; rfl, Bm.of_below hB, HW0.map.below hB⟩
  | succ m ih =>
    intro k z g f w hz hkm hf hW
    have IH := Lib.hid ih
    have HF := Lib.hid hf
    have HW := Lib.hid hW
    have n10 := hv.n10
    have hkn : k < r.pts.length := by omega
    have HKM := Lib.hid hkm
    have HKN := Lib.hid hkn
    have HKZ := Lib.hid hz
    have zI : ¬ z = (r.pts.length : Int) - 1 := by omega
    have nI : (r.pts.length : Int) ≤ 10 := by omega
    have n1 : 1 ≤ (r.pts.length : Int) := by omega
    have z0 : -1 ≤ z := by omega
    have z9 : z ≤ 9 := by omega
    have g0 := hf.1.1
    have g9 := hf.1.2
    obtain ⟨n, hn⟩ : ∃ n, r.pts.length = n := ⟨_, rfl⟩
    have HN := Lib.hid hn
    obtain ⟨W0, hW0, hA1, hA2, hB, hs⟩ := al2 w (Obj.cells #[.int .i64 z, .int .i64 g] 123) (Obj.cells #[.int .i64 0, .int .i64 0, .int .i64 0] 119)
    have HW2 := hW.below hB
    obtain ⟨v, t, hl, ht1, ht2⟩ := look_place r q mb k z g f W0 HW2.map hz hf
    rw [← hW0] at hl
    have c0 : w.cell? ⟨kb, 0, none⟩ = some (.map (some mb)) := cellOf hW.ck 0 _ rfl
    have b0 : w.cell? ⟨bb, 0, none⟩ = some (.int .i64 r.st) := cellOf hW.cb 0 _ rfl
    have b1 : w.cell? ⟨bb, 1, none⟩ = some (.slice pa r.pts.length pc) := cellOf hW.cb 1 _ rfl
    have b2 : w.cell? ⟨bb, 2, none⟩ = some (.slice (some ⟨gb, 0, none⟩) r.pts.length cap) := cellOf hW.cb 2 _ rfl
    have hkb := lt_of_block hW.ck
    have hbb := lt_of_block hW.cb
    have hbb1 : bb < w.heap.size + 1 := by omega
    have hbb2 : bb < w.heap.size + 1 + 1 := by omega
    have hbb3 : bb < w.heap.size + 1 + 1 + 1 := by omega
    have HT1 := Lib.hid ht1
    have HT2 := Lib.hid ht2
    rw [hn] at b1 b2 zI nI n1
    obtain ⟨vh, vp, vm⟩ := v
    have tz : (z == (n : Int) - 1) = false := by simp; exact zI
    unfold wayV at hl
    simp only at hl
    clear hW0 hA1 hA2 hB hf hW hkm hkn hz ih ht1 ht2 n10 hn zI HW2 hs
    refine (callsIn_wide (n := 5)).1 ?_
    refine callsIn_of_wp_marks Try.func89 rfl trivial ?_ rfl
    simp only [Try.ntmps89, List.size_toArray, List.length_cons, List.length_nil, Nat.reduceAdd, Nat.reduceSub, Array.replicate_succ, Array.replicate_zero, List.push_toArray, List.append_toArray, List.nil_append, List.cons_append]
    cases t
    · have HVV := Lib.hid (HT2.out rfl)
      gi_wp2_with fail
      obtain ⟨W0, hW0, hA1, hA2, hA3, hB, hs⟩ := al4 w (Obj.cells #[.int .i64 z, .int .i64 g] 123) (Obj.cells #[.int .i64 0, .int .i64 0, .int .i64 0] 119) (Obj.cells #[.int .i64 vh, .int .i64 vp, .int .i64 vm] 119) (Obj.cells #[.int .i64 0, .int .i64 9223372036854775807, .int .i64 9223372036854775807] 119)
      rw [hW0]
      have hA0 : W0.heap[w.heap.size]? = some (Obj.cells #[.int .i64 z, .int .i64 g] 123) := by
        rw [← hW0]
        have h1 := heap_alloc_new w (Obj.cells #[.int .i64 z, .int .i64 g] 123)
        have h2 := (Below.heap_alloc _ (Obj.cells #[.int .i64 0, .int .i64 0, .int .i64 0] 119) _ (lt_of_block h1)).trans h1
        have h3 := (Below.heap_alloc _ (Obj.cells #[.int .i64 vh, .int .i64 vp, .int .i64 vm] 119) _ (lt_of_block h2)).trans h2
        exact (Below.heap_alloc _ (Obj.cells #[.int .i64 0, .int .i64 9223372036854775807, .int .i64 9223372036854775807] 119) _ (lt_of_block h3)).trans h3
      have HP0 := Lib.hid hA0
      have HR0 := Lib.hid hA1
      have H90 := Lib.hid hA3
      have HB0 := Lib.hid hB
      have HW0 := Lib.hid (HW.out.below hB)
      have hkl : k < (bandsR r).length := by rw [bandsR_length]; exact HKN.out
      have hbd := HW0.out.bands
      rw [HN.out] at hbd
      refine ⟨trivial, ?_⟩
      refine (heights_in 4 r.st (.slice pa n pc) gb cap n (bandsR r) z g k W0 hbd (by rw [bandsR_length]; exact HN.out) (by omega) HKZ.out hkl z0).mono ?_
      rintro e w3 ⟨rfl, rfl⟩
      obtain ⟨lo, hlo⟩ : ∃ lo, lowF r k = lo := ⟨_, rfl⟩
      obtain ⟨hi, hhi⟩ : ∃ hi, highF r k = hi := ⟨_, rfl⟩
      have hbk : (bandsR r)[k]'hkl = (lo, hi) := by rw [← hlo, ← hhi]; simp [bandsR]
      rw [hbk]
      have hlb := low_bd r hv k HKN.out hc
      rw [hlo, hhi] at hlb
      have HLO := Lib.hid hlo
      have HHI := Lib.hid hhi
      clear hA0 hA1 hA2 hA3 hB hW0 hbd hbk hlo hhi hl c0 b0 b1 b2 hkb hbb hbb1 hbb2 hbb3 tz HT1 HT2 hkl
      obtain ⟨W3, hW3, hX, hPp, hSs, hB3, hs3⟩ := al3 W0 (Obj.cells #[.int .i64 r.st, .slice pa n pc, .slice (some ⟨gb, 0, none⟩) n cap] 78) (Obj.cells #[.int .i64 z, .int .i64 g] 123) (Obj.cells #[.int .i64 lo, .int .i64 hi] 56)
      rw [hW3]
      rw [hs] at hX hPp hSs hs3 ⊢
      have HX := Lib.hid hX
      have HPp := Lib.hid hPp
      have HSs := Lib.hid hSs
      have HP3 := Lib.hid ((hB3.block _ (lt_of_block HP0.out)).trans HP0.out)
      have HR3 := Lib.hid ((hB3.block _ (lt_of_block HR0.out)).trans HR0.out)
      have H93 := Lib.hid ((hB3.block _ (lt_of_block H90.out)).trans H90.out)
      have HW3 := Lib.hid (HW0.out.below hB3)
      have HB3 := Lib.hid (HB0.out.trans (hB3.mono HB0.out.size))
      clear hX hPp hSs hB3 hW3 HP0 HR0 H90 HW0 HB0 hs W0
      gi_wp2_with fail
      have hstop := hts_stops 4 (by omega) (w.heap.size + 6) (w.heap.size + 5) (w.heap.size + 4) r.st z g lo hi (.slice pa n pc) (.slice (some ⟨gb, 0, none⟩) n cap) hv.s0 hv.s200 g0 g9 hlb.1 hlb.2.2 (by omega) W3 HSs.out HPp.out HX.out
      have hmb : mb < w.heap.size := by
        obtain ⟨es, c, h1, _⟩ := HW.out.map
        exact (Array.getElem?_eq_some_iff.1 h1).1
      refine wpIn_rangeFunc_ownH rfl (by omega) (gf := 96) (lb := #[.pointer (some ⟨w.heap.size + 6, 0, none⟩), .pointer (some ⟨w.heap.size + 5, 0, none⟩), .pointer (some ⟨w.heap.size + 4, 0, none⟩)]) rfl trivial (enters_of Try.func96 (by kernel_rfl) rfl)
        hstop (fun h k => ⟨h.1.trans k.1, h.2.1.trans k.2.1, h.2.2.trans k.2.2⟩) (fun W l o o' hl _ _ _ => ⟨KB.putObj W l o' (by omega), KB.putObj W l o' (by omega), KB.putObj W l o' (by omega)⟩) (Below.refl _ _) (fun _ => rfl)
        (fun pre W => W.heap[w.heap.size + 3]? = some (.cells #[.int .i64 (accL r q k f (pre.map (·.1))).1, .int .i64 (accL r q k f (pre.map (·.1))).2.1, .int .i64 (accL r q k f (pre.map (·.1))).2.2] 119 (0, 0)) ∧ W.heap[w.heap.size]? = some (.cells #[.int .i64 z, .int .i64 g] 123 (0, 0)) ∧ W.heap[w.heap.size + 1]? = some (.cells #[.int .i64 0, .int .i64 0, .int .i64 0] 119 (0, 0)) ∧ Bm mb w W ∧ MapSt r q mb W)
        (fun _ _ _ => False)
        (OwnFrom.and (Own.from (blk_own _ (fun pre : List (Ht lo hi) => #[.int .i64 (accL r q k f (pre.map (·.1))).1, .int .i64 (accL r q k f (pre.map (·.1))).2.1, .int .i64 (accL r q k f (pre.map (·.1))).2.2]) _ _) _) (OwnFrom.and (Own.from (blk_own _ (fun _ => #[.int .i64 z, .int .i64 g]) _ _) _) (OwnFrom.and (Own.from (blk_own _ (fun _ => #[.int .i64 0, .int .i64 0, .int .i64 0]) _ _) _) (OwnFrom.and (ownFrom_bm (by omega)) (ownFrom_map (by omega))))))
        (fun _ _ _ _ _ hs _ _ => hs)
        ⟨H93.out, HP3.out, HR3.out, Bm.of_below HB3.out, HW3.out.map⟩
        (fun x a' W => a' = { tmps := #[.agg #[.int .i64 z, .int .i64 g], .pointer (some ⟨kb, 0, none⟩), .pointer (some ⟨bb, 0, none⟩), .pointer (some ⟨fb, 0, none⟩), .pointer (some ⟨rb, 0, none⟩), .pointer (some ⟨w.heap.size, 0, none⟩), .pointer (some ⟨w.heap.size + 1, 0, none⟩), .pointer (some ⟨w.heap.size + 1 + 1, 0, none⟩), .bool false, .pointer (some ⟨w.heap.size + 1 + 1 + 1, 0, none⟩), .int .i64 x.1, undef, .tuple #[.agg #[.int .i64 vh, .int .i64 vp, .int .i64 vm], .bool false], .map (some mb), .agg #[.int .i64 z, .int .i64 g], .tuple #[.agg #[.int .i64 vh, .int .i64 vp, .int .i64 vm], .bool false], .agg #[.int .i64 vh, .int .i64 vp, .int .i64 vm], .bool false, .bool false, .bool false, .pointer (some ⟨w.heap.size, 0, none⟩), .int .i64 z, .pointer (some ⟨bb, 0, none⟩), .pointer (some ⟨bb, 0, none⟩), .pointer (some ⟨bb, 1, none⟩), .slice pa n pc, .int .i64 (n : Int), .int .i64 ((n : Int) - 1), .bool false, .bool false, undef, .agg #[.int .i64 9223372036854775807, .int .i64 9223372036854775807], .agg #[.int .i64 0, .int .i64 9223372036854775807, .int .i64 9223372036854775807], .agg #[.int .i64 r.st, .slice pa n pc, .slice (some ⟨gb, 0, none⟩) n cap], .agg #[.int .i64 z, .int .i64 g], .func (.func 96) #[] #[.pointer (some ⟨w.heap.size + 6, 0, none⟩), .pointer (some ⟨w.heap.size + 5, 0, none⟩), .pointer (some ⟨w.heap.size + 4, 0, none⟩)], .int .i64 x.1, undef, undef, undef, undef, undef, undef, undef, undef, undef, undef, undef, undef, undef, undef, undef, undef, undef, undef, undef, undef, undef, undef, undef], defers := [] })
        ?hAx ?assign ?body ?done ?stop
      case hAx => exact fun x a' _ X Y row h _ _ => h
      case assign =>
        rintro l pre ⟨x, hx⟩ W K hI hK
        unfold encH
        gi_wp2
        exact hK _ _ (KeepsFrom.refl _ _) ⟨KB.refl _ _, KB.refl _ _, KB.refl _ _⟩ hI rfl
      case body =>
        rintro l pre ⟨x, hx⟩ a' W hl ⟨rr, hr⟩ ⟨i9, iP, iR, iB, iM⟩ rfl hlt
        have HWW := Lib.hid (HW.out.keep iB iM)
        have hkn := HKN.out
        have hx1 : lowF r k ≤ x := by rw [HLO.out]; exact hx.1
        have hx2 : x ≤ highF r k := by rw [HHI.out]; exact hx.2
        have hF' := FromZ.next hv hc hkn hx1 hx2
        have x0 : 0 ≤ x := by have := hx.1; omega
        have x9 : x ≤ 9000 := by have := hx.2; omega
        have hz1 : z + 1 + 1 = ((k + 1 : Nat) : Int) := by have := HKZ.out; push_cast; omega
        have HCL := Lib.hid (IH.out (k + 1) (z + 1) x (some (r.pts.getD k default, x)) W hz1 (by have := HKM.out; omega) hF' HWW.out)
        have v0 := wayK_bd r hv hc q (k + 1) _ hF'.2.1 (by omega)
        obtain ⟨⟨wh, wp, wm⟩, hw⟩ : ∃ v, wayK r q (k + 1) (some (r.pts.getD k default, x)) = v := ⟨_, rfl⟩
        rw [hw] at HCL v0
        simp only at v0
        have HWK := Lib.hid hw
        obtain ⟨⟨bh, bp, bm⟩, hacc⟩ : ∃ v, accL r q k f (pre.map (·.1)) = v := ⟨_, rfl⟩
        have HACC := Lib.hid hacc
        rw [hacc] at i9
        simp only at i9
        have s0 := stepN_bd f (r.pts.getD k default) x x0 x9 (by rw [show r.pts.getD k default = r.pts[k] by simp [List.getD_eq_getElem?_getD, hkn]]; exact hv.ok _ (List.getElem_mem _))
        obtain ⟨⟨sp, sm⟩, hsn⟩ : ∃ v, stepN f (r.pts.getD k default) x = v := ⟨_, rfl⟩
        have HSN := Lib.hid hsn
        rw [hsn] at s0
        simp only at s0
        obtain ⟨⟨nh, np, nm⟩, hnew⟩ : ∃ v, bet q (bh, (bp, bm)) (x, (sp + wp, sm + wm)) = v := ⟨_, rfl⟩
        have HBB : Hid (wayV (bet q (bh, (bp, bm)) (x, (sp + wp, sm + wm))) = .agg #[.int .i64 nh, .int .i64 np, .int .i64 nm]) := by show _ = _; rw [hnew]; rfl
        have HNEW : Hid (accL r q k f ((pre ++ [(⟨x, hx⟩ : Ht lo hi)]).map (·.1)) = (nh, (np, nm))) := by
          show _ = _
          rw [List.map_append]
          have := accL_snoc r q k f (pre.map (·.1)) x
          rw [show ([(⟨x, hx⟩ : Ht lo hi)].map (·.1)) = [x] from rfl, this, hacc, hsn, hw]
          exact hnew
        have ff0 : W.cell? ⟨fb, 0, none⟩ = some (.func (.func 89) #[] #[.pointer (some ⟨kb, 0, none⟩), .pointer (some ⟨bb, 0, none⟩), .pointer (some ⟨fb, 0, none⟩), .pointer (some ⟨rb, 0, none⟩)]) := cellOf HWW.out.cf 0 _ rfl
        have e0 : W.cell? ⟨w.heap.size, 0, none⟩ = some (.int .i64 z) := cellOf iP 0 _ rfl
        have wz : IntKind.i64.wrap (z + 1) = z + 1 := by rw [IntKind.wrap_i64]; omega
        have HI9 := Lib.hid i9
        have HIP := Lib.hid iP
        have HIR := Lib.hid iR
        have HIB := Lib.hid iB
        have HIM := Lib.hid iM
        have HXX := Lib.hid hx
        clear i9 iP iR iB iM hw hacc hsn hnew hF' hx1 hx2 hz1 hlt hstop hkn
        simp only
        gi_wp2_with fail
        refine ⟨trivial, ?_⟩
        refine (callsIn_wide.2 HCL.out).mono ?_
        rintro e w2 ⟨rfl, hb2, hm2⟩
        have hwv : wayV (wh, (wp, wm)) = .agg #[.int .i64 wh, .int .i64 wp, .int .i64 wm] := rfl
        rw [hwv]
        clear hwv ff0 e0
        have HB2 := Lib.hid hb2
        have J9 := Lib.hid (blk_bm hb2 HIM.out HI9.out)
        have JP := Lib.hid (blk_bm hb2 HIM.out HIP.out)
        have JR := Lib.hid (blk_bm hb2 HIM.out HIR.out)
        have JW := Lib.hid (HWW.out.keep hb2 hm2)
        clear hb2 hm2
        gi_wp2_with fail
        obtain ⟨U, hU⟩ : ∃ U, w2.alloc (.cells #[.int .i64 wh, .int .i64 wp, .int .i64 wm] 119) = U := ⟨_, rfl⟩
        rw [hU]
        have hUb : Below w2.heap.size w2 U := by rw [← hU]; exact (Below.refl _ _).alloc (Nat.le_refl _) _
        have hUn : U.heap[w2.heap.size]? = some (.cells #[.int .i64 wh, .int .i64 wp, .int .i64 wm] 119 (0, 0)) := by rw [← hU]; exact heap_alloc_new w2 _
        have HUB := Lib.hid hUb
        have H9 := Lib.hid ((hUb.block _ (lt_of_block J9.out)).trans J9.out)
        have HP := Lib.hid ((hUb.block _ (lt_of_block JP.out)).trans JP.out)
        have HR := Lib.hid ((hUb.block _ (lt_of_block JR.out)).trans JR.out)
        have HWU := Lib.hid (JW.out.below hUb)
        obtain ⟨u, hu⟩ : ∃ u, w2.heap.size = u := ⟨_, rfl⟩
        rw [hu] at hUn ⊢
        have a0 : U.cell? ⟨w.heap.size + 3, 0, none⟩ = some (.int .i64 bh) := cellOf H9.out 0 _ rfl
        have a1 : U.cell? ⟨w.heap.size + 3, 1, none⟩ = some (.int .i64 bp) := cellOf H9.out 1 _ rfl
        have a2 : U.cell? ⟨w.heap.size + 3, 2, none⟩ = some (.int .i64 bm) := cellOf H9.out 2 _ rfl
        have q0 : U.cell? ⟨bb, 0, none⟩ = some (.int .i64 r.st) := cellOf HWU.out.cb 0 _ rfl
        have q1 : U.cell? ⟨bb, 1, none⟩ = some (.slice pa n pc) := by rw [← HN.out]; exact cellOf HWU.out.cb 1 _ rfl
        have q2 : U.cell? ⟨bb, 2, none⟩ = some (.slice (some ⟨gb, 0, none⟩) n cap) := by rw [← HN.out]; exact cellOf HWU.out.cb 2 _ rfl
        have e0 : U.cell? ⟨w.heap.size, 0, none⟩ = some (.int .i64 z) := cellOf HP.out 0 _ rfl
        have e1 : U.cell? ⟨w.heap.size, 1, none⟩ = some (.int .i64 g) := cellOf HP.out 1 _ rfl
        have d1 : U.cell? ⟨u, 1, none⟩ = some (.int .i64 wp) := cellOf hUn 1 _ rfl
        have d2 : U.cell? ⟨u, 2, none⟩ = some (.int .i64 wm) := cellOf hUn 2 _ rfl
        have r0 : U.cell? ⟨rb, 0, none⟩ = some (rkV q) := cellOf HWU.out.cr 0 _ rfl
        have HST : Hid (∀ w', Below U.heap.size U w' → Calls Try.prog 92 #[.agg #[.int .i64 r.st, .slice pa n pc, .slice (some ⟨gb, 0, none⟩) n cap], .agg #[.int .i64 z, .int .i64 g], .int .i64 x] w' fun e w'' => e = .returned (.agg #[.int .i64 sp, .int .i64 sm]) ∧ Below w'.heap.size w' w'') := by
          intro w' hbw
          have h := step_z r hv (.slice pa r.pts.length pc) (.slice (some ⟨gb, 0, none⟩) r.pts.length cap) k z g x f w' (HWU.out.pts.below hbw) HKN.out HKZ.out HF.out x0 x9
          rw [HSN.out, HN.out] at h
          exact h
        clear hU hUb hUn hu
        refine wpIn_region_last (S := (fun W' => W'.cell? ⟨w.heap.size + 3, 0, none⟩ = some (.int .i64 bh) ∧ W'.cell? ⟨w.heap.size + 3, 1, none⟩ = some (.int .i64 bp) ∧ W'.cell? ⟨w.heap.size + 3, 2, none⟩ = some (.int .i64 bm) ∧ W'.cell? ⟨bb, 0, none⟩ = some (.int .i64 r.st) ∧ W'.cell? ⟨bb, 1, none⟩ = some (.slice pa n pc) ∧ W'.cell? ⟨bb, 2, none⟩ = some (.slice (some ⟨gb, 0, none⟩) n cap) ∧ W'.cell? ⟨w.heap.size, 0, none⟩ = some (.int .i64 z) ∧ W'.cell? ⟨w.heap.size, 1, none⟩ = some (.int .i64 g) ∧ W'.cell? ⟨u, 1, none⟩ = some (.int .i64 wp) ∧ W'.cell? ⟨u, 2, none⟩ = some (.int .i64 wm) ∧ W'.cell? ⟨rb, 0, none⟩ = some (rkV q) ∧ Below U.heap.size U W')) 12 (by kernel_rfl) (by kernel_rfl) (by rintro ⟨_, _, h⟩; exact h) (by decide) (fun inv0 => ?_)
        have hh0 := keepW (U := U) ⟨a0, a1, a2, q0, q1, q2, e0, e1, d1, d2, r0, Below.refl _ _⟩ (Below.refl U.heap.size U).drew
        refine wpAnyZ_take (i := 0) (v := ?_) rfl (Lib.hid ⟨by as_aux_lemma => kernel_rfl, by as_aux_lemma => kernel_rfl, by as_aux_lemma => kernel_rfl, rfl⟩) (by decide) inv0 (by as_aux_lemma => kernel_rfl) (by as_aux_lemma => kernel_rfl) (fun _ _ _ h => h) (Or.inl ⟨by rfl, ?_⟩) hh0 (fun inv1 => ?_)
        rotate_left
        · intro w hSw
          try dsimp only at hSw
          go_simp
          try with_reducible rfl
        clear inv0
        try simp only [Act.put, List.getElem_toArray, List.getElem_cons_succ, List.getElem_cons_zero, List.setIfInBounds_toArray, List.set_cons_zero, List.set_cons_succ]
        refine wpAnyZ_take (i := 1) (v := ?_) rfl (Lib.hid ⟨by as_aux_lemma => kernel_rfl, by as_aux_lemma => kernel_rfl, by as_aux_lemma => kernel_rfl, rfl⟩) (by decide) inv1 (by as_aux_lemma => kernel_rfl) (by as_aux_lemma => kernel_rfl) (fun _ _ _ h => h) (Or.inl ⟨by rfl, ?_⟩) hh0 (fun inv2 => ?_)
        rotate_left
        · intro w hSw
          try dsimp only at hSw
          go_simp
          try with_reducible rfl
        clear inv1
        try simp only [Act.put, List.getElem_toArray, List.getElem_cons_succ, List.getElem_cons_zero, List.setIfInBounds_toArray, List.set_cons_zero, List.set_cons_succ]
        refine wpAnyZ_take (i := 2) (v := ?_) rfl (Lib.hid ⟨by as_aux_lemma => kernel_rfl, by as_aux_lemma => kernel_rfl, by as_aux_lemma => kernel_rfl, rfl⟩) (by decide) inv2 (by as_aux_lemma => kernel_rfl) (by as_aux_lemma => kernel_rfl) (fun _ _ _ h => h) (Or.inl ⟨by rfl, ?_⟩) hh0 (fun inv3 => ?_)
        rotate_left
        · intro w hSw
          try dsimp only at hSw
          go_simp
          try with_reducible rfl
        clear inv2
        try simp only [Act.put, List.getElem_toArray, List.getElem_cons_succ, List.getElem_cons_zero, List.setIfInBounds_toArray, List.set_cons_zero, List.set_cons_succ]
        refine wpAnyZ_take (i := 3) (v := ?_) rfl (Lib.hid ⟨by as_aux_lemma => kernel_rfl, by as_aux_lemma => kernel_rfl, by as_aux_lemma => kernel_rfl, rfl⟩) (by decide) inv3 (by as_aux_lemma => kernel_rfl) (by as_aux_lemma => kernel_rfl) (fun _ _ _ h => h) (Or.inl ⟨by rfl, ?_⟩) hh0 (fun inv4 => ?_)
        rotate_left
        · intro w hSw
          try dsimp only at hSw
          go_simp
          try with_reducible rfl
        clear inv3
        try simp only [Act.put, List.getElem_toArray, List.getElem_cons_succ, List.getElem_cons_zero, List.setIfInBounds_toArray, List.set_cons_zero, List.set_cons_succ]
        refine wpAnyZ_take (i := 4) (v := ?_) rfl (Lib.hid ⟨by as_aux_lemma => kernel_rfl, by as_aux_lemma => kernel_rfl, by as_aux_lemma => kernel_rfl, rfl⟩) (by decide) inv4 (by as_aux_lemma => kernel_rfl) (by as_aux_lemma => kernel_rfl) (fun _ _ _ h => h) (Or.inl ⟨by rfl, ?_⟩) hh0 (fun inv5 => ?_)
        rotate_left
        · intro w hSw
          try dsimp only at hSw
          go_simp
          try with_reducible rfl
        clear inv4
        try simp only [Act.put, List.getElem_toArray, List.getElem_cons_succ, List.getElem_cons_zero, List.setIfInBounds_toArray, List.set_cons_zero, List.set_cons_succ]
        refine wpAnyZ_take (i := 6) (v := ?_) rfl (Lib.hid ⟨by as_aux_lemma => kernel_rfl, by as_aux_lemma => kernel_rfl, by as_aux_lemma => kernel_rfl, rfl⟩) (by decide) inv5 (by as_aux_lemma => kernel_rfl) (by as_aux_lemma => kernel_rfl) (fun _ _ _ h => h) (Or.inl ⟨by rfl, ?_⟩) hh0 (fun inv6 => ?_)
        rotate_left
        · intro w hSw
          try dsimp only at hSw
          go_simp
          try with_reducible rfl
        clear inv5
        try simp only [Act.put, List.getElem_toArray, List.getElem_cons_succ, List.getElem_cons_zero, List.setIfInBounds_toArray, List.set_cons_zero, List.set_cons_succ]
        refine wpAnyZ_take (i := 7) (v := ?_) rfl (Lib.hid ⟨by as_aux_lemma => kernel_rfl, by as_aux_lemma => kernel_rfl, by as_aux_lemma => kernel_rfl, rfl⟩) (by decide) inv6 (by as_aux_lemma => kernel_rfl) (by as_aux_lemma => kernel_rfl) (fun _ _ _ h => h) (Or.inl ⟨by rfl, ?_⟩) hh0 (fun inv7 => ?_)
        rotate_left
        · intro w hSw
          try dsimp only at hSw
          go_simp
          try with_reducible rfl
        clear inv6
        try simp only [Act.put, List.getElem_toArray, List.getElem_cons_succ, List.getElem_cons_zero, List.setIfInBounds_toArray, List.set_cons_zero, List.set_cons_succ]
        refine wpAnyZ_take (i := 10) (v := ?_) rfl (Lib.hid ⟨by as_aux_lemma => kernel_rfl, by as_aux_lemma => kernel_rfl, by as_aux_lemma => kernel_rfl, rfl⟩) (by decide) inv7 (by as_aux_lemma => kernel_rfl) (by as_aux_lemma => kernel_rfl) (fun _ _ _ h => h) (Or.inl ⟨by rfl, ?_⟩) hh0 (fun inv8 => ?_)
        rotate_left
        · intro w hSw
          try dsimp only at hSw
          go_simp
          try with_reducible rfl
        clear inv7
        try simp only [Act.put, List.getElem_toArray, List.getElem_cons_succ, List.getElem_cons_zero, List.setIfInBounds_toArray, List.set_cons_zero, List.set_cons_succ]
        refine wpAnyZ_all (rs := [5]) (by as_aux_lemma => kernel_rfl) (by simp) ?_
        intro i hi
        obtain rfl : i = 5 := by simpa using hi
        refine step_Z rfl (fun K hK => ?_)
        go_simp
        refine (HST.out _ hh0.2.2.2.2.2.2.2.2.2.2.2).mono ?_
        rintro e w4 ⟨rfl, hb⟩
        have hh1 := keepW hh0 hb
        refine hK.out _ _ (fun _ => hh1) ?_
        have inv9 := hinv_set inv8 (by as_aux_lemma => kernel_rfl) (by decide : 5 < 12)
        clear hK K hh0 inv8
        try simp only [Act.put, List.getElem_toArray, List.getElem_cons_succ, List.getElem_cons_zero, List.setIfInBounds_toArray, List.set_cons_zero, List.set_cons_succ]
        refine wpAnyZ_all (rs := [8]) (by as_aux_lemma => kernel_rfl) (by simp) ?_
        intro i hi
        obtain rfl : i = 8 := by simpa using hi
        refine step_Z rfl (fun K hK => ?_)
        go_simp
        refine (and_any sp sm wp wm _ s0.1 (by omega) s0.2.2.1 (by omega) v0.1 (by omega) v0.2.2.1 (by omega)).mono ?_
        rintro e w5 ⟨rfl, hb⟩
        have hh2 := keepW hh1 hb
        refine hK.out _ _ (fun _ => hh2) ?_
        have inv10 := hinv_set inv9 (by as_aux_lemma => kernel_rfl) (by decide : 8 < 12)
        clear hK K hh1 inv9
        try simp only [Act.put, List.getElem_toArray, List.getElem_cons_succ, List.getElem_cons_zero, List.setIfInBounds_toArray, List.set_cons_zero, List.set_cons_succ]
        refine wpAnyZ_take (i := 9) (v := ?_) rfl (Lib.hid ⟨by as_aux_lemma => kernel_rfl, by as_aux_lemma => kernel_rfl, by as_aux_lemma => kernel_rfl, rfl⟩) (by decide) inv10 (by as_aux_lemma => kernel_rfl) (by as_aux_lemma => kernel_rfl) (fun _ _ _ h => h) (Or.inl ⟨by rfl, ?_⟩) hh2 (fun inv11 => ?_)
        rotate_left
        · intro w hSw
          try dsimp only at hSw
          go_simp
          try with_reducible rfl
        clear inv10
        try simp only [Act.put, List.getElem_toArray, List.getElem_cons_succ, List.getElem_cons_zero, List.setIfInBounds_toArray, List.set_cons_zero, List.set_cons_succ]
        refine wpAnyZ_all (rs := [11]) (by as_aux_lemma => kernel_rfl) (by simp) ?_
        intro i hi
        obtain rfl : i = 11 := by simpa using hi
        refine step_Z rfl (fun K hK => ?_)
        go_simp
        show Calls _ _ #[wayV (bh, (bp, bm)), wayV (x, (sp + wp, sm + wm)), rkV q] _ _
        refine (better_any q (bh, (bp, bm)) (x, (sp + wp, sm + wm)) _).mono ?_
        rintro e w6 ⟨rfl, hb⟩
        rw [HBB.out]
        have hh3 := keepW hh2 hb
        refine hK.out _ _ (fun _ => hh3) ?_
        have inv12 := hinv_set inv11 (by as_aux_lemma => kernel_rfl) (by decide : 11 < 12)
        clear hK K hh2 inv11
        try simp only [Act.put, List.getElem_toArray, List.getElem_cons_succ, List.getElem_cons_zero, List.setIfInBounds_toArray, List.set_cons_zero, List.set_cons_succ]
        refine wpAnyZ_all (rs := [12]) (by as_aux_lemma => kernel_rfl) (by simp) ?_
        intro i hi
        obtain rfl : i = 12 := by simpa using hi
        refine step_Z rfl (fun K hK => ?_)
        have B6 := hh3.2.2.2.2.2.2.2.2.2.2.2
        have j9 := Lib.hid ((B6.block _ (lt_of_block H9.out)).trans H9.out)
        have f0 := frozen_of_row _ _ 0 _ _ j9.out
        have f1 := frozen_of_row _ _ 1 _ _ j9.out
        have f2 := frozen_of_row _ _ 2 _ _ j9.out
        have k0 := hh3.1
        have k1 := hh3.2.1
        have k2 := hh3.2.2.1
        go_simp
        skip
        refine hK.out _ _ (fun h => absurd rfl h) ?_
        clear hK K
        try simp only [Act.put, List.getElem_toArray, List.getElem_cons_succ, List.getElem_cons_zero, List.setIfInBounds_toArray, List.set_cons_zero, List.set_cons_succ]
        refine wpAnyZ_done (by as_aux_lemma => kernel_rfl) ?_ _
        have B6 := hh3.2.2.2.2.2.2.2.2.2.2.2
        have j9 := (B6.block _ (lt_of_block H9.out)).trans H9.out
        have t9 := three_set (x := .int .i64 nh) (y := .int .i64 np) (z := .int .i64 nm) j9
        have hB2u : Bm mb W U := HB2.out.then (HUB.out.mono HB2.out.size)
        have hB26 : Bm mb W _ := hB2u.then (B6.mono hB2u.size)
        refine ⟨(keepsFrom_bm hB26 (by omega)).trans (((KeepsOthers.setCell _ _ _).trans ((KeepsOthers.setCell _ _ _).trans (KeepsOthers.setCell _ _ _))).from _), ⟨?_, ?_, ?_⟩, ?_, ?_, ?_, ?_, ?_⟩
        · exact (kb_bm hB26 (by omega)).trans ((KB.setCell _ _ _ (by simp)).trans ((KB.setCell _ _ _ (by simp)).trans (KB.setCell _ _ _ (by simp))))
        · exact (kb_bm hB26 (by omega)).trans ((KB.setCell _ _ _ (by simp)).trans ((KB.setCell _ _ _ (by simp)).trans (KB.setCell _ _ _ (by simp))))
        · exact (kb_bm hB26 (by omega)).trans ((KB.setCell _ _ _ (by simp)).trans ((KB.setCell _ _ _ (by simp)).trans (KB.setCell _ _ _ (by simp))))
        · rw [HNEW.out]
          exact t9
        · exact set3_other (by omega) ((B6.block _ (lt_of_block HP.out)).trans HP.out)
        · exact set3_other (by omega) ((B6.block _ (lt_of_block HR.out)).trans HR.out)
        · exact bm_set3 (HIB.out.trans hB26) (by omega)
        · have hm := (HWU.out.map.below B6)
          obtain ⟨es, c, h1, h2⟩ := hm
          exact ⟨es, c, set3_other (by omega) h1, h2⟩
      case done =>
        rintro D ys W hD hys ⟨i9, iP, iR, iB, iM⟩ hK
        have HFIN : Hid (accL r q k f (ys.map (·.1)) = wayK r q k f) := by
          show _ = _
          rw [hys, wayK_step r q k f HKN.out, HLO.out, HHI.out]
          have : (spanL lo hi).filter (nearZ r.st z g) = (spanL lo hi).filter (nearF r.st f) := by
            apply List.filter_congr
            intro h _
            obtain ⟨_, ho, hh⟩ := HF.out
            cases k with
            | zero =>
              have e : f = none := ho
              subst e
              exact near_eq _ _ _ _ _ default (.inl ⟨by have := HKZ.out; omega, rfl⟩)
            | succ i =>
              obtain ⟨g', rfl, _, _⟩ := ho
              obtain rfl : g' = g := hh _ _ rfl
              exact near_eq _ _ _ _ _ _ (.inr ⟨by have := HKZ.out; omega, rfl⟩)
          rw [this]
          rfl
        rw [HFIN.out] at i9
        obtain ⟨w', hst, hm', hb'⟩ := store_place r q mb k z g f W iM HKZ.out HF.out
        obtain ⟨⟨nh, np, nm⟩, hnew⟩ : ∃ v, wayK r q k f = v := ⟨_, rfl⟩
        have HNEW := Lib.hid hnew
        rw [hnew] at i9 hst
        unfold wayV at hst
        simp only at i9 hst
        have HWW := HW.out.keep iB iM
        have c0 : W.cell? ⟨kb, 0, none⟩ = some (.map (some mb)) := cellOf HWW.ck 0 _ rfl
        have p0 : W.cell? ⟨w.heap.size, 0, none⟩ = some (.int .i64 z) := cellOf iP 0 _ rfl
        have p1 : W.cell? ⟨w.heap.size, 1, none⟩ = some (.int .i64 g) := cellOf iP 1 _ rfl
        have a0 : W.cell? ⟨w.heap.size + 3, 0, none⟩ = some (.int .i64 nh) := cellOf i9 0 _ rfl
        have a1 : W.cell? ⟨w.heap.size + 3, 1, none⟩ = some (.int .i64 np) := cellOf i9 1 _ rfl
        have a2 : W.cell? ⟨w.heap.size + 3, 2, none⟩ = some (.int .i64 nm) := cellOf i9 2 _ rfl
        have j9 := blk_bm hb' iM i9
        have jR := blk_bm hb' iM iR
        have HK := Lib.hid ((hb'.block D (lt_of_block hK) (by omega)).trans hK)
        have g0' : w'.cell? ⟨w.heap.size + 3, 0, none⟩ = some (.int .i64 nh) := cellOf j9 0 _ rfl
        have g1' : w'.cell? ⟨w.heap.size + 3, 1, none⟩ = some (.int .i64 np) := cellOf j9 1 _ rfl
        have g2' : w'.cell? ⟨w.heap.size + 3, 2, none⟩ = some (.int .i64 nm) := cellOf j9 2 _ rfl
        have r0 : w'.cell? ⟨w.heap.size + 1, 0, none⟩ = some (.int .i64 0) := cellOf jR 0 _ rfl
        have r1 : w'.cell? ⟨w.heap.size + 1, 1, none⟩ = some (.int .i64 0) := cellOf jR 1 _ rfl
        have r2 : w'.cell? ⟨w.heap.size + 1, 2, none⟩ = some (.int .i64 0) := cellOf jR 2 _ rfl
        have f0 := frozen_of_row _ _ 0 _ _ jR
        have f1 := frozen_of_row _ _ 1 _ _ jR
        have f2 := frozen_of_row _ _ 2 _ _ jR
        have HJR := Lib.hid jR
        have HBB := Lib.hid (iB.trans hb')
        have HMM := Lib.hid hm'
        have hszR := lt_of_block jR
        clear i9 iP iR iB iM hK hys hstop j9 jR hnew HWW hb' hm'
        gi_wp2_with fail
        have t9 := three_set (x := .int .i64 nh) (y := .int .i64 np) (z := .int .i64 nm) HJR.out
        have HK2 := ((KeepsOthers.setCell _ _ _).trans ((KeepsOthers.setCell _ _ _).trans (KeepsOthers.setCell _ _ _)) : KeepsOthers w' (((w'.setCell ⟨w.heap.size + 1, 0, none⟩ (.int .i64 nh)).setCell ⟨w.heap.size + 1, 1, none⟩ (.int .i64 np)).setCell ⟨w.heap.size + 1, 2, none⟩ (.int .i64 nm))).same D _ HK.out rfl
        have hB3s := bm_set3 (g := w.heap.size + 1) (x := .int .i64 nh) (y := .int .i64 np) (z := .int .i64 nm) HBB.out (by omega)
        refine ⟨by simp, .inl ⟨_, _, rfl, run_takeDeferred HK2, ?_⟩⟩
        refine ⟨_, way_result rfl _ _ (w.heap.size + 1) _ _ _ rfl (KB.putObj _ _ _ (by omega) _ t9), by rw [HNEW.out]; rfl, hB3s.then (belowK_b (w := w) (Nat.le_refl _) _ D _ _ (by omega) HK2 rfl rfl), ?_⟩
        obtain ⟨es, c, h1, h2⟩ := HMM.out
        exact ⟨es, c, KB.putObj _ _ _ (by omega) _ (set3_other (by omega) h1), h2⟩
      case stop =>
        rintro D c pre W _ _ h _
        exact h.elim
    · have HVV := Lib.hid (HT1.out (by trivial))
      have HW0 := HW.out
      gi_wp2_with fail
      obtain ⟨V, hV, _, hR, _, hB, _⟩ := al3 w (Obj.cells #[.int .i64 z, .int .i64 g] 123) (Obj.cells #[.int .i64 vh, .int .i64 vp, .int .i64 vm] 119) (Obj.cells #[.int .i64 vh, .int .i64 vp, .int .i64 vm] 119)
      rw [hV]
      exact ⟨_, way_result rfl _ _ (w.heap.size + 1) _ _ _ rfl hR, by rw [← HVV.out]; rfl, Bm.of_below hB, HW0.map.below hB⟩
end Go.Proofs.Ytnciomoapajonaa
