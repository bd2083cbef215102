/- Package carve: the best surface. -/
import Derived.Test.YtnciomoapajonaaCxc
set_option linter.unusedSimpArgs false
set_option linter.unusedVariables false
namespace Go.Proofs.Ytnciomoapajonaa
open Go Go.RowKit Go.Shelf Cv

theorem bestDrew {r : Row} {q : Bool} {mb : Nat} {W : World} {a b : Addr} {x y : Value} (h : W.cell? a = some x ∧ W.cell? b = some y ∧ Bm mb W W ∧ MapSt r q mb W) : W.drew.cell? a = some x ∧ W.drew.cell? b = some y ∧ Bm mb W W.drew ∧ MapSt r q mb W.drew :=
  ⟨h.1, h.2.1, ⟨rfl, rfl, rfl, Nat.le_refl _, fun _ _ _ => rfl⟩, h.2.2.2⟩
theorem bestKeep {r : Row} {q : Bool} {mb : Nat} {U w w' : World} {b i j : Nat} {x y : Value} (h : w.cell? ⟨b, i, none⟩ = some x ∧ w.cell? ⟨b, j, none⟩ = some y ∧ Bm mb U w ∧ MapSt r q mb w) (hb : Bm mb w w') (hm : MapSt r q mb w') :
    w'.cell? ⟨b, i, none⟩ = some x ∧ w'.cell? ⟨b, j, none⟩ = some y ∧ Bm mb U w' ∧ MapSt r q mb w' := ⟨cell_bm hb h.2.2.2 h.1, cell_bm hb h.2.2.2 h.2.1, h.2.2.1.trans hb, hm⟩
theorem below_bm {B mb : Nat} {w x y : World} (h : Below B w x) (hb : Bm mb x y) (h1 : B ≤ mb) (h2 : B ≤ x.heap.size) : Below B w y :=
  ⟨hb.os.trans h.os, hb.tape.trans h.tape, hb.output.trans h.output, Nat.le_trans h.size hb.size, fun k hk => (hb.block k (by omega) (by omega)).trans (h.block k hk)⟩
theorem own_bm {r : Row} {q : Bool} {mb : Nat} {w w' : World} {B e size n : Nat} {v : Value} {xs : List Value} (h : w.ownsRow B e size v n xs) (hb : Bm mb w w') (hm : MapSt r q mb w) : w'.ownsRow B e size v n xs := by
  obtain ⟨h0, h⟩ := h
  refine ⟨h0, ?_⟩
  rcases h with h | ⟨g, cap, cur, r1, r2, r3, r4⟩
  · exact .inl h
  · exact .inr ⟨g, cap, cur, r1, r2, blk_bm hb hm r3, r4⟩
theorem best_result {fn : Func} {p u : Tmp} (h : fn.results = #[.tmp p, .cell u 104]) (tmps : Array Value) (w : World) (g : Nat) (v x y : Value)
    (hp : tmps.getD p undef = v) (hu : tmps.getD u undef = .pointer (some ⟨g, 0, none⟩)) (hg : w.heap[g]? = some (.cells #[x, y] 104 (0, 0))) :
    (results fn tmps).run Try.prog w = .ok (.tuple #[v, .agg #[x, y]]) w := by
  have c0 : w.cell? ⟨g, 0, none⟩ = some x := cellOf hg 0 _ rfl
  have c1 : w.cell? ⟨g, 1, none⟩ = some y := cellOf hg 1 _ rfl
  have hp' : tmps[p]?.getD undef = v := by simpa using hp
  have hu' : tmps[u]?.getD undef = .pointer (some ⟨g, 0, none⟩) := by simpa using hu
  simp only [results, h]
  simp [Sem.run_bind, Result.andThen, hp', hu', asAddr, go_sem, c0, c1]
theorem wst_set2 {r : Row} {q : Bool} {pv : Value} {gb cap mb kb bb fb rb : Nat} {w0 w : World} {c : Nat} {x y : Value} (h : WSt r q pv gb cap mb kb bb fb rb w) (n1 : kb ≠ c) (n2 : bb ≠ c) (n3 : fb ≠ c) (n4 : rb ≠ c) (n5 : mb ≠ c)
    (hP : PtsAt w0 pv r.pts) (hB : PassAt w0 (.slice (some ⟨gb, 0, none⟩) r.pts.length cap) (bandsR r)) (hb : Below w0.heap.size w0 ((w.setCell ⟨c, 0, none⟩ x).setCell ⟨c, 1, none⟩ y)) : WSt r q pv gb cap mb kb bb fb rb ((w.setCell ⟨c, 0, none⟩ x).setCell ⟨c, 1, none⟩ y) := by
  have S : ∀ (k : Nat) (o : Obj), k ≠ c → w.heap[k]? = some o → ((w.setCell ⟨c, 0, none⟩ x).setCell ⟨c, 1, none⟩ y).heap[k]? = some o := fun k o hk ho =>
    (Below.heap_setCell _ ⟨c, 1, none⟩ y k hk).trans ((Below.heap_setCell _ ⟨c, 0, none⟩ x k hk).trans ho)
  obtain ⟨es, cl, m1, m2⟩ := h.map
  exact ⟨S _ _ n1 h.ck, S _ _ n2 h.cb, S _ _ n3 h.cf, S _ _ n4 h.cr, hP.below hb, hB.below hb, ⟨es, cl, S _ _ n5 m1, m2⟩⟩
theorem wst_at {r : Row} {q : Bool} {pv : Value} {gb cap mb kb bb fb rb B : Nat} {w0 x y : World} (h : WSt r q pv gb cap mb kb bb fb rb x) (hb : Below B x y) (n1 : kb < B) (n2 : bb < B) (n3 : fb < B) (n4 : rb < B) (n5 : mb < B)
    (hP : PtsAt w0 pv r.pts) (hB : PassAt w0 (.slice (some ⟨gb, 0, none⟩) r.pts.length cap) (bandsR r)) (h0 : Below w0.heap.size w0 y) : WSt r q pv gb cap mb kb bb fb rb y := by
  obtain ⟨es, cl, m1, m2⟩ := h.map
  exact ⟨(hb.block _ n1).trans h.ck, (hb.block _ n2).trans h.cb, (hb.block _ n3).trans h.cf, (hb.block _ n4).trans h.cr, hP.below h0, hB.below h0, ⟨es, cl, (hb.block _ n5).trans m1, m2⟩⟩
theorem fld1 (h p m : Int) (w : World) : (Instr.field 119 (.agg #[.int .i64 h, .int .i64 p, .int .i64 m]) 1).run Try.prog w = .ok (.agg #[.int .i64 p, .int .i64 m]) w := by kernel_rfl
theorem fld0 (h p m : Int) (w : World) : (Instr.field 119 (.agg #[.int .i64 h, .int .i64 p, .int .i64 m]) 0).run Try.prog w = .ok (.int .i64 h) w := by kernel_rfl
set_option maxRecDepth 100000 in
set_option maxHeartbeats 4000000 in
theorem best_any (r : Row) (hv : Valid r) (hc : crossB r = false) (q : Bool) (pa : Option Addr) (pc gb cap : Nat) (w : World) (hP : PtsAt w (.slice pa r.pts.length pc) r.pts) (hB : PassAt w (.slice (some ⟨gb, 0, none⟩) r.pts.length cap) (bandsR r)) :
    Calls Try.prog 71 #[.agg #[.int .i64 r.st, .slice pa r.pts.length pc, .slice (some ⟨gb, 0, none⟩) r.pts.length cap], rkV q] w fun e w' => ∃ v, e = .returned (.tuple #[v, .agg #[.int .i64 (wayK r q 0 none).2.1, .int .i64 (wayK r q 0 none).2.2]]) ∧
      w'.ownsRow w.heap.size 3 1 v r.pts.length ((surfL r.st q (bndR r) none).map (Value.int .i64)) ∧ Below w.heap.size w w' := by
  obtain ⟨i0, hi0⟩ := info_of_underlying Try.underlying3
  have HI : Hid (i0.zero = some (.int .i64 0) ∧ i0.size = 1 ∧ i0.bytes = 8) := by
    have h := intInfo
    rw [hi0] at h
    simp at h
    exact h
  obtain ⟨W0, hW0, hA, hN, hb0, hs0⟩ := al2 w (Obj.cells #[.int .i64 r.st, .slice pa r.pts.length pc, .slice (some ⟨gb, 0, none⟩) r.pts.length cap] 78) (Obj.cells #[.int .i64 0, .int .i64 0] 104)
  have HW0 := Lib.hid hW0
  have HA := Lib.hid hA
  have HN := Lib.hid hN
  have HB0 := Lib.hid hb0
  have HP := Lib.hid (hP.below hb0)
  have HBD := Lib.hid (hB.below hb0)
  have HPw := Lib.hid hP
  have HBw := Lib.hid hB
  have n1 := hv.n1
  have n10 := hv.n10
  have nI : (r.pts.length : Int) ≤ 10 := by omega
  clear hW0 hA hN hb0 hP hB
  go_enter Try.func71, Try.ntmps71
  go_wp2_with fail
  rw [HW0.out]
  clear HW0
  refine (ways_any r q pa pc gb cap W0 HP.out HBD.out).mono ?_
  rintro e w1 ⟨rfl, hWS, hb1⟩
  rw [hs0] at hWS ⊢
  have HWS := Lib.hid hWS
  have HA1 := Lib.hid ((hb1.block _ (lt_of_block HA.out)).trans HA.out)
  have HN1 := Lib.hid ((hb1.block _ (lt_of_block HN.out)).trans HN.out)
  have HB1 := Lib.hid (HB0.out.trans (hb1.mono HB0.out.size))
  clear hWS hb1 HA HN HB0 HP HBD hs0
  go_wp2_with fail
  have HA2 := Lib.hid ((Below.heap_alloc w1 (Obj.cells #[.int .i64 (-1), .int .i64 0] 123) _ (lt_of_block HA1.out)).trans HA1.out)
  have HN2 := Lib.hid ((Below.heap_alloc w1 (Obj.cells #[.int .i64 (-1), .int .i64 0] 123) _ (lt_of_block HN1.out)).trans HN1.out)
  have H72 := Lib.hid (heap_alloc_new w1 (Obj.cells #[.int .i64 (-1), .int .i64 0] 123))
  have HB2 := Lib.hid (HB1.out.alloc HB1.out.size (Obj.cells #[.int .i64 (-1), .int .i64 0] 123))
  have HW2 := Lib.hid (HWS.out.below ((Below.refl _ w1).alloc (Nat.le_refl _) (Obj.cells #[.int .i64 (-1), .int .i64 0] 123)))
  have hsz := HB1.out.size
  obtain ⟨p7, hp7⟩ : ∃ p7, w1.heap.size = p7 := ⟨_, rfl⟩
  have hmb : w.heap.size + 2 + 2 < p7 := by
    obtain ⟨es, c, h1, _⟩ := HWS.out.map
    have := (Array.getElem?_eq_some_iff.1 h1).1
    omega
  have hfb : w.heap.size + 2 + 4 < p7 := by
    have := lt_of_block HWS.out.cf
    omega
  rw [hp7] at H72 ⊢
  generalize w1.alloc (Obj.cells #[.int .i64 (-1), .int .i64 0] 123) = W2 at *
  clear hp7 hsz HWS HA1 HN1 HB1
  have hF0 : FromZ r 0 0 none := ⟨by omega, rfl, fun p h e => by cases e⟩
  refine (ways1_any r hv hc q pa pc gb cap (w.heap.size + 2 + 2) (w.heap.size + 2 + 3) (w.heap.size + 2) (w.heap.size + 2 + 4) (w.heap.size + 2 + 1) r.pts.length 0 (-1) 0 none W2 rfl (by omega) hF0 HW2.out).mono ?_
  rintro e w3 ⟨rfl, hbm, hm3⟩
  obtain ⟨⟨wh, wp, wm⟩, hw⟩ : ∃ v, wayK r q 0 none = v := ⟨_, rfl⟩
  have HWV0 := Lib.hid hw
  rw [hw]
  have hwv : wayV (wh, (wp, wm)) = .agg #[.int .i64 wh, .int .i64 wp, .int .i64 wm] := rfl
  rw [hwv]
  have HA3 := Lib.hid (blk_bm hbm HW2.out.map HA2.out)
  have HN3 := Lib.hid (blk_bm hbm HW2.out.map HN2.out)
  have H73 := Lib.hid (blk_bm hbm HW2.out.map H72.out)
  have HB3 := Lib.hid (below_bm HB2.out hbm (by omega) HB2.out.size)
  have HW3 := Lib.hid (HW2.out.keep hbm hm3)
  clear hwv hbm hm3 HA2 HN2 H72 HB2 HW2 hw
  have f0 := frozen_of_row _ _ 0 _ _ HN3.out
  have f1 := frozen_of_row _ _ 1 _ _ HN3.out
  have x0 := cellOf HN3.out 0 _ rfl
  have x1 := cellOf HN3.out 1 _ rfl
  have b1 := cellOf HA3.out 1 _ rfl
  have hsN := lt_of_block HN3.out
  have hsA := lt_of_block HA3.out
  have fl1 := fld1
  go_wp2
  have hN4 := two_set (x := .int .i64 wp) (y := .int .i64 wm) HN3.out
  have hB4 := two_below (x := .int .i64 wp) (y := .int .i64 wm) (g := w.heap.size + 1) HB3.out (by omega)
  have hW4 := wst_set2 (x := .int .i64 wp) (y := .int .i64 wm) HW3.out (by omega) (by omega) (by omega) (by omega) (by omega) HPw.out HBw.out hB4
  have h74 := (heap_setCell_other (w3.setCell ⟨w.heap.size + 1, 0, none⟩ (.int .i64 wp)) (⟨w.heap.size + 1, 1, none⟩ : Addr) p7 (.int .i64 wm) (by simp; omega)).trans ((heap_setCell_other w3 (⟨w.heap.size + 1, 0, none⟩ : Addr) p7 (.int .i64 wp) (by simp; omega)).trans H73.out)
  have hp7W := lt_of_block h74
  have HN4 := Lib.hid hN4
  have HB4 := Lib.hid hB4
  have HW4 := Lib.hid hW4
  have H74 := Lib.hid h74
  clear hN4 hB4 hW4 h74 x0 x1 b1 f0 f1 hsN hsA HA3 HN3 H73 HB3 HW3
  generalize (w3.setCell ⟨w.heap.size + 1, 0, none⟩ (.int .i64 wp)).setCell ⟨w.heap.size + 1, 1, none⟩ (.int .i64 wm) = W4 at *
  go_loopg [4, 21] r.pts.length (fun gh s i wr => ∃ (k : Nat) (z g : Int) (f : From) (sur : List Int) (sa : Option Addr) (sc : Nat), gh + k = r.pts.length ∧ i = .int .i64 (k : Int) ∧ s = .slice sa k sc ∧ wr.ownsRow W4.heap.size 3 1 (.slice sa k sc) k (sur.map (Value.int .i64)) ∧ Hid (z + 1 = (k : Int)) ∧ Hid (FromZ r k g f) ∧
    Hid (sur ++ surfL r.st q ((bndR r).drop k) f = surfL r.st q (bndR r) none) ∧ Hid (wr.heap[p7]? = some (.cells #[.int .i64 z, .int .i64 g] 123 (0, 0))) ∧ Hid (wr.heap[w.heap.size + 1]? = some (.cells #[.int .i64 wp, .int .i64 wm] 104 (0, 0))) ∧
    Hid (WSt r q (.slice pa r.pts.length pc) gb cap (w.heap.size + 2 + 2) (w.heap.size + 2 + 3) (w.heap.size + 2) (w.heap.size + 2 + 4) (w.heap.size + 2 + 1) wr) ∧ Hid (Below w.heap.size w wr) ∧ Hid (W4.heap.size ≤ wr.heap.size))
  case atStart => exact ⟨0, -1, 0, none, [], none, 0, by omega, rfl, rfl, World.ownsRow_nil _ _ _ _, (by show (-1 : Int) + 1 = ((0 : Nat) : Int); omega), hF0, (by show _ = _; simp), H74, HN4, HW4, HB4, Nat.le_refl _⟩
  case round =>
    obtain ⟨k, z, g, f, sur, sa, sc, hgk, rfl, rfl, hown, HZK, HFZ, HSU, H7, HN, HWW, HBB, HSZ⟩ := hrel
    by_cases hlt : k < r.pts.length
    · have kI : (k : Int) < (r.pts.length : Int) := by omega
      have k10 : (k : Int) ≤ 10 := by omega
      have HKL : Hid (k + (r.pts.length - k) = r.pts.length) := by show _ = _; omega
      have hin := way_in r hv hc q k f HFZ.out.2.1 hlt
      have hlb := low_bd r hv k hlt hc
      have HNX := Lib.hid (FromZ.next hv hc hlt hin.1 hin.2)
      have HSS := Lib.hid (surf_step r q k f hlt)
      obtain ⟨⟨vh, vp, vm⟩, hw⟩ : ∃ v, wayK r q k f = v := ⟨_, rfl⟩
      rw [hw] at hin HNX HSS
      simp only at hin
      have v0 : 0 ≤ vh := by omega
      have v9 : vh ≤ 9000 := by omega
      have HWV : Hid (wayV (wayK r q k f) = .agg #[.int .i64 vh, .int .i64 vp, .int .i64 vm]) := by show _ = _; rw [hw]; rfl
      have HLT := Lib.hid hlt
      have e0 : wr.cell? ⟨p7, 0, none⟩ = some (.int .i64 z) := cellOf H7.out 0 _ rfl
      have e1 : wr.cell? ⟨p7, 1, none⟩ = some (.int .i64 g) := cellOf H7.out 1 _ rfl
      have hzb : z ≤ 9 := by have := HZK.out; omega
      have hza : -1 ≤ z := by have := HZK.out; omega
      have HGK := Lib.hid hgk
      have fl0 := fld0
      clear hin hlb hw hlt hgk
      go_wp2_with fail
      refine wp_region_noPanic ?_
      refine wp_region_last (S := (fun W' => W'.cell? ⟨p7, 0, none⟩ = some (.int .i64 z) ∧ W'.cell? ⟨p7, 1, none⟩ = some (.int .i64 g) ∧ Bm (w.heap.size + 2 + 2) wr W' ∧ MapSt r q (w.heap.size + 2 + 2) W')) 8 (by kernel_rfl) (by decide) (fun inv0 => ?_)
      have hh0 := bestDrew ⟨e0, e1, Bm.refl _ _, HWW.out.map⟩
      refine wpAnyZ_take (i := 0) (v := ?_) rfl (Lib.hid ⟨by as_aux_lemma => kernel_rfl, by as_aux_lemma => kernel_rfl, by as_aux_lemma => kernel_rfl, rfl⟩) (by decide) inv0 (by as_aux_lemma => kernel_rfl) (by as_aux_lemma => kernel_rfl) (fun _ _ _ h => h) (Or.inl ⟨by rfl, ?_⟩) hh0 (fun inv1 => ?_)
      rotate_left
      · intro w hSw
        try dsimp only at hSw
        go_simp
        try with_reducible rfl
      clear inv0
      try simp only [Act.put, List.getElem_toArray, List.getElem_cons_succ, List.getElem_cons_zero, List.setIfInBounds_toArray, List.set_cons_zero, List.set_cons_succ]
      refine wpAnyZ_take (i := 1) (v := ?_) rfl (Lib.hid ⟨by as_aux_lemma => kernel_rfl, by as_aux_lemma => kernel_rfl, by as_aux_lemma => kernel_rfl, rfl⟩) (by decide) inv1 (by as_aux_lemma => kernel_rfl) (by as_aux_lemma => kernel_rfl) (fun _ _ _ h => h) (Or.inl ⟨by rfl, ?_⟩) hh0 (fun inv2 => ?_)
      rotate_left
      · intro w hSw
        try dsimp only at hSw
        go_simp
        try with_reducible rfl
      clear inv1
      try simp only [Act.put, List.getElem_toArray, List.getElem_cons_succ, List.getElem_cons_zero, List.setIfInBounds_toArray, List.set_cons_zero, List.set_cons_succ]
      refine wpAnyZ_take (i := 2) (v := ?_) rfl (Lib.hid ⟨by as_aux_lemma => kernel_rfl, by as_aux_lemma => kernel_rfl, by as_aux_lemma => kernel_rfl, rfl⟩) (by decide) inv2 (by as_aux_lemma => kernel_rfl) (by as_aux_lemma => kernel_rfl) (fun _ _ _ h => h) (Or.inl ⟨by rfl, ?_⟩) hh0 (fun inv3 => ?_)
      rotate_left
      · intro w hSw
        try dsimp only at hSw
        go_simp
        try with_reducible rfl
      clear inv2
      try simp only [Act.put, List.getElem_toArray, List.getElem_cons_succ, List.getElem_cons_zero, List.setIfInBounds_toArray, List.set_cons_zero, List.set_cons_succ]
      refine wpAnyZ_take (i := 3) (v := ?_) rfl (Lib.hid ⟨by as_aux_lemma => kernel_rfl, by as_aux_lemma => kernel_rfl, by as_aux_lemma => kernel_rfl, rfl⟩) (by decide) inv3 (by as_aux_lemma => kernel_rfl) (by as_aux_lemma => kernel_rfl) (fun _ _ _ h => h) (Or.inl ⟨by rfl, ?_⟩) hh0 (fun inv4 => ?_)
      rotate_left
      · intro w hSw
        try dsimp only at hSw
        go_simp
        try with_reducible rfl
      clear inv3
      try simp only [Act.put, List.getElem_toArray, List.getElem_cons_succ, List.getElem_cons_zero, List.setIfInBounds_toArray, List.set_cons_zero, List.set_cons_succ]
      refine wpAnyZ_take (i := 4) (v := ?_) rfl (Lib.hid ⟨by as_aux_lemma => kernel_rfl, by as_aux_lemma => kernel_rfl, by as_aux_lemma => kernel_rfl, rfl⟩) (by decide) inv4 (by as_aux_lemma => kernel_rfl) (by as_aux_lemma => kernel_rfl) (fun _ _ _ h => h) (Or.inl ⟨by rfl, ?_⟩) hh0 (fun inv5 => ?_)
      rotate_left
      · intro w hSw
        try dsimp only at hSw
        go_simp
        try with_reducible rfl
      clear inv4
      try simp only [Act.put, List.getElem_toArray, List.getElem_cons_succ, List.getElem_cons_zero, List.setIfInBounds_toArray, List.set_cons_zero, List.set_cons_succ]
      refine wpAnyZ_all (rs := [5]) (by as_aux_lemma => kernel_rfl) (by simp) ?_
      intro i hi
      obtain rfl : i = 5 := by simpa using hi
      refine step_Z rfl (fun K hK => ?_)
      go_simp
      refine (ways1_any r hv hc q pa pc gb cap (w.heap.size + 2 + 2) (w.heap.size + 2 + 3) (w.heap.size + 2) (w.heap.size + 2 + 4) (w.heap.size + 2 + 1) (r.pts.length - k) k z g f _ HZK.out HKL.out HFZ.out (HWW.out.keep hh0.2.2.1 hh0.2.2.2)).mono ?_
      rintro e w4 ⟨rfl, hb4, hm4⟩
      rw [HWV.out]
      have hh1 := bestKeep hh0 hb4 hm4
      refine hK.out _ _ (fun _ => hh1) ?_
      have inv6 := hinv_set inv5 (by as_aux_lemma => kernel_rfl) (by decide : 5 < 8)
      clear hK K hh0 inv5
      try simp only [Act.put, List.getElem_toArray, List.getElem_cons_succ, List.getElem_cons_zero, List.setIfInBounds_toArray, List.set_cons_zero, List.set_cons_succ]
      refine wpAnyZ_take (i := 6) (v := ?_) rfl (Lib.hid ⟨by as_aux_lemma => kernel_rfl, by as_aux_lemma => kernel_rfl, by as_aux_lemma => kernel_rfl, rfl⟩) (by decide) inv6 (by as_aux_lemma => kernel_rfl) (by as_aux_lemma => kernel_rfl) (fun _ _ _ h => h) (Or.inl ⟨by rfl, ?_⟩) hh1 (fun inv7 => ?_)
      rotate_left
      · intro w hSw
        try dsimp only at hSw
        go_simp
        try with_reducible rfl
      clear inv6
      try simp only [Act.put, List.getElem_toArray, List.getElem_cons_succ, List.getElem_cons_zero, List.setIfInBounds_toArray, List.set_cons_zero, List.set_cons_succ]
      refine wpAnyZ_take (i := 7) (v := ?_) rfl (Lib.hid ⟨by as_aux_lemma => kernel_rfl, by as_aux_lemma => kernel_rfl, by as_aux_lemma => kernel_rfl, rfl⟩) (by decide) inv7 (by as_aux_lemma => kernel_rfl) (by as_aux_lemma => kernel_rfl) (fun _ _ _ h => h) (Or.inl ⟨by rfl, ?_⟩) hh1 (fun inv8 => ?_)
      rotate_left
      · intro w hSw
        try dsimp only at hSw
        go_simp
        try with_reducible rfl
      clear inv7
      try simp only [Act.put, List.getElem_toArray, List.getElem_cons_succ, List.getElem_cons_zero, List.setIfInBounds_toArray, List.set_cons_zero, List.set_cons_succ]
      refine wpAnyZ_all (rs := [8]) (by as_aux_lemma => kernel_rfl) (by simp) ?_
      intro i hi
      obtain rfl : i = 8 := by simpa using hi
      refine step_Z rfl (fun K hK => ?_)
      have j7 := Lib.hid (blk_bm hh1.2.2.1 HWW.out.map H7.out)
      have f0 := frozen_of_row _ _ 0 _ _ j7.out
      have f1 := frozen_of_row _ _ 1 _ _ j7.out
      have k0 := hh1.1
      have k1 := hh1.2.1
      go_simp
      refine hK.out _ _ (fun h => absurd rfl h) ?_
      clear hK K
      try simp only [Act.put, List.getElem_toArray, List.getElem_cons_succ, List.getElem_cons_zero, List.setIfInBounds_toArray, List.set_cons_zero, List.set_cons_succ]
      refine wpAnyZ_done (by as_aux_lemma => kernel_rfl) ?_ _
      refine NoPanic.normal ?_
      have wz : IntKind.i64.wrap (z + 1) = (k : Int) := by rw [IntKind.wrap_i64]; have := HZK.out; omega
      rw [wz]
      have hB6 := hh1.2.2.1
      have hM6 := hh1.2.2.2
      have j7 := blk_bm hB6 HWW.out.map H7.out
      have jN := blk_bm hB6 HWW.out.map HN.out
      have i7 := two_set (x := .int .i64 (k : Int)) (y := .int .i64 vh) j7
      have hBx := two_below (x := .int .i64 (k : Int)) (y := .int .i64 vh) (g := p7) (below_bm HBB.out hB6 (by omega) HBB.out.size) (by omega)
      have hWx := wst_set2 (x := .int .i64 (k : Int)) (y := .int .i64 vh) (c := p7) (HWW.out.keep hB6 hM6) (by omega) (by omega) (by omega) (by omega) (by omega) HPw.out HBw.out hBx
      have iN := (Below.heap_setCell (w4.setCell ⟨p7, 0, none⟩ (.int .i64 (k : Int))) ⟨p7, 1, none⟩ (.int .i64 vh) (w.heap.size + 1) (by simp; omega)).trans ((Below.heap_setCell w4 ⟨p7, 0, none⟩ (.int .i64 (k : Int)) (w.heap.size + 1) (by simp; omega)).trans jN)
      have hox := ownsRow_setCell_below (ownsRow_setCell_below (own_bm hown hB6 HWW.out.map) (a := ⟨p7, 0, none⟩) hp7W (.int .i64 (k : Int))) (a := ⟨p7, 1, none⟩) hp7W (.int .i64 vh)
      have hsx : W4.heap.size ≤ ((w4.setCell ⟨p7, 0, none⟩ (.int .i64 (k : Int))).setCell ⟨p7, 1, none⟩ (.int .i64 vh)).heap.size := by have := hB6.size; have := HSZ.out; simp; omega
      have HX7 := Lib.hid i7
      have HXB := Lib.hid hBx
      have HXW := Lib.hid hWx
      have HXN := Lib.hid iN
      have HXO := Lib.hid hox
      clear wz hB6 hM6 hh1 j7 jN i7 hBx hWx iN hox e0 e1 hown H7 HN HWW HBB HSZ HWV fl0 fl1
      generalize (w4.setCell ⟨p7, 0, none⟩ (.int .i64 (k : Int))).setCell ⟨p7, 1, none⟩ (.int .i64 vh) = X at *
      have x1 : X.cell? ⟨p7, 1, none⟩ = some (.int .i64 vh) := cellOf HX7.out 1 _ rfl
      have hp7x := lt_of_block HX7.out
      have hownA := HXO.out.alloc (Obj.cells #[.int .i64 vh] 3)
      have hHb : Hid (Below W4.heap.size X (X.alloc (Obj.cells #[.int .i64 vh] 3))) := (Below.refl _ X).alloc hsx _
      go_wp2_with (at_builtin; refine wpList_append_own _ rfl _ _ 36 rfl W4.heap.size 3 i0 (.int .i64 0) 1 8 Try.underlying36 hi0 HI.out.1 HI.out.2.1 HI.out.2.2 rfl (by decide) _ _ _ rfl hownA ⟨X.heap.size, 0, none⟩ 1 1 [.int .i64 vh] rfl rfl ?pa1 ?pa2 ?pa3 ?pa4 ?pa5 ?_)
      case pa1 =>
        have hc := heap_alloc_new X (Obj.cells #[.int .i64 vh] 3)
        intro j u hj
        match j, hj with
        | 0, hj => cases hj; exact cellOf hc 0 _ rfl
      case pa2 =>
        intro u hu
        simp at hu
        subst hu
        rfl
      case pa3 => unfold maxLen; omega
      case pa4 => omega
      case pa5 => simp; omega
      · intro v' w3 hown3 hgrow _
        have hB3 : Below W4.heap.size X w3 := hHb.out.grown hgrow (by simp; omega) (fun g hg => (hownA.lt g hg).1)
        obtain ⟨sa', sc', rfl⟩ := own_slice hown3
        have y7 := Lib.hid ((hB3.block p7 hp7W).trans HX7.out)
        have hNW : w.heap.size + 1 < W4.heap.size := by omega
        have yN := Lib.hid ((hB3.block _ hNW).trans HXN.out)
        have yB := Lib.hid (HXB.out.trans (hB3.mono (by omega)))
        have yW := Lib.hid (wst_at HXW.out hB3 (by omega) (by omega) (by omega) (by omega) (by omega) HPw.out HBw.out yB.out)
        have yS : Hid (W4.heap.size ≤ w3.heap.size) := Nat.le_trans hsx hB3.size
        have ySU : Hid ((sur ++ [vh]) ++ surfL r.st q ((bndR r).drop (k + 1)) (some (r.pts.getD k default, vh)) = surfL r.st q (bndR r) none) := by
          show _ = _
          rw [← HSU.out, HSS.out, List.append_assoc]
          rfl
        clear hB3 hgrow hownA hHb x1 hp7x
        go_wp2
        go_roundg (gk - 1)
        case measure => have := HGK.out; have := HLT.out; omega
        case rel => exact ⟨k + 1, (k : Int), vh, some (r.pts.getD k default, vh), sur ++ [vh], sa', sc', by have := HGK.out; have := HLT.out; omega, by go_num, rfl, by rw [List.map_append]; exact hown3, (by show (k : Int) + 1 = ((k + 1 : Nat) : Int); omega), HNX.out, ySU, y7, yN, yW, yB, yS⟩
    · obtain rfl : k = r.pts.length := by omega
      have kI : ¬ (r.pts.length : Int) < (r.pts.length : Int) := by omega
      have HSF : Hid (sur = surfL r.st q (bndR r) none) := by
        show _ = _
        have := HSU.out
        rw [List.drop_of_length_le (by rw [bndR_length]; omega)] at this
        simpa [surfL] using this
      have f0 := frozen_of_row _ _ 0 _ _ HN.out
      have f1 := frozen_of_row _ _ 1 _ _ HN.out
      have x0 : wr.cell? ⟨w.heap.size + 1, 0, none⟩ = some (.int .i64 wp) := cellOf HN.out 0 _ rfl
      have x1 : wr.cell? ⟨w.heap.size + 1, 1, none⟩ = some (.int .i64 wm) := cellOf HN.out 1 _ rfl
      have hsN := lt_of_block HN.out
      have HOW := Lib.hid hown
      clear hgk hlt hown kI
      go_wp2_with fail
      go_region
      have hNW : w.heap.size + 1 < W4.heap.size := by omega
      have ho := ownsRow_setCell_below (ownsRow_setCell_below HOW.out (a := ⟨w.heap.size + 1, 0, none⟩) hNW (.int .i64 wp)) (a := ⟨w.heap.size + 1, 1, none⟩) hNW (.int .i64 wm)
      rw [HSF.out] at ho
      have HO2 := Lib.hid ho
      have HB2 := Lib.hid (two_below (x := .int .i64 wp) (y := .int .i64 wm) (g := w.heap.size + 1) HBB.out (by omega)).drew
      have HN2 := Lib.hid (two_set (x := .int .i64 wp) (y := .int .i64 wm) HN.out)
      clear ho HOW f0 f1 x0 x1 fl1
      go_wp2_with fail
      exact bodyPost_ret (best_result rfl _ _ (w.heap.size + 1) _ _ _ rfl rfl HN2.out) rfl ⟨_, by rw [HWV0.out]; rfl, own_base HO2.out (by omega), HB2.out⟩
end Go.Proofs.Ytnciomoapajonaa
