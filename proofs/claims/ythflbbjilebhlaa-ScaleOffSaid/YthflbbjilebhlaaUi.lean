/- Package scale: the rounding of a kind. -/
import Derived.Test.YthflbbjilebhlaaUh
set_option linter.unusedSimpArgs false
set_option linter.unusedVariables false
namespace Go.Proofs.Ythflbbjilebhlaa
open Go Go.RowKit Go.Shelf Sc
attribute [local go_sem] Oper.semAt_some

def encR (k : Int) : Array Value := #[.agg #[.int .i64 k, .func (.func (rnF k)) #[] #[]]]
def kinds : List Int := [1, 2, 3]
theorem rn_cells (W : World) (r : Nat) (h : W.heap[r]? = some (.cells rnC 88 (0, 0))) (k : Nat) (hk : k < 3) :
    W.cell? ⟨r, k * 2, none⟩ = some (.int .i64 (k + 1 : Int)) ∧ W.cell? ⟨r, k * 2 + 1, none⟩ = some (.func (.func (rnF (k + 1 : Int))) #[] #[]) := by
  have : k = 0 ∨ k = 1 ∨ k = 2 := by omega
  rcases this with rfl | rfl | rfl
  · exact ⟨cellOf h 0 _ rfl, cellOf h 1 _ rfl⟩
  · exact ⟨cellOf h 2 _ rfl, cellOf h 3 _ rfl⟩
  · exact ⟨cellOf h 4 _ rfl, cellOf h 5 _ rfl⟩
theorem kinds_take (k : Nat) (hk : k < 3) : kinds.take k ++ [(k : Int) + 1] = kinds.take (k + 1) := by
  have : k = 0 ∨ k = 1 ∨ k = 2 := by omega
  rcases this with rfl | rfl | rfl <;> rfl
set_option maxRecDepth 100000 in
set_option maxHeartbeats 4000000 in
theorem rvalues_X (bs r n0 : Nat) (w : World) (hn : n0 ≤ w.heap.size) (hr : r < n0) (h1 : w.heap[bs]? = some (.cells #[.slice (some ⟨r, 0, none⟩) 3 3] 148 (0, 0))) (h2 : w.heap[r]? = some (.cells rnC 88 (0, 0))) :
    SeqX Try.prog 111 #[.pointer (some ⟨bs, 0, none⟩)] encR (fun k => k < n0) (fun _ _ _ => True) (fun xs => xs = kinds) (fun pre => pre <+: kinds) 3 w := by
  intro m l J Jx W hW hJ hJx hY h0
  have g1 := (hW.block _ (lt_of_block h1)).trans h1
  have g2 := (hW.block _ (lt_of_block h2)).trans h2
  have HYY := Lib.hid hY
  have HJ := Lib.hid hJ
  have H0 := Lib.hid h0
  have G2 := Lib.hid g2
  have HR := Lib.hid hr
  have HW := Lib.hid hW
  have HN := Lib.hid hn
  have c1 := cellOf g1 0 _ rfl
  have b1 := lt_of_block g1
  clear hY hJ hJx h0 g1 g2 h1 h2 hr hW hn
  refine callsIn_wide.2 ((callsIn_wide (n := 9)).1 ?_)
  refine callsIn_of_wp Try.func111 rfl trivial ?_ rfl
  simp only [Try.ntmps111, List.size_toArray, List.length_cons, List.length_nil, Nat.reduceAdd, Nat.reduceSub, Array.replicate_succ, Array.replicate_zero, List.push_toArray, List.append_toArray, List.nil_append, List.cons_append]
  gi_wp2_with fail
  clear c1 b1
  gi_loopw [7] (fun i wr => ∃ k : Nat, k ≤ 3 ∧ i = .int .i64 (k : Int) ∧ Hid (J (kinds.take k) wr) ∧ Hid (KeptO W.heap.size (fun k => k < n0) W wr)) (fun i _ => 3 - (intOf i).toNat)
  case atStart => exact ⟨0, by omega, rfl, H0.out, KeptO.refl _ _ _⟩
  case round =>
    obtain ⟨k, hk, rfl, hJk, hKk⟩ := hrel
    by_cases hlt : k < 3
    · have kI : (k : Int) < 3 := by omega
      have gr := (hKk.out.same _ (lt_of_block G2.out) (.inr HR.out)).trans G2.out
      obtain ⟨d0, d1⟩ := rn_cells wr r gr k hlt
      have dl := lt_of_block gr
      obtain ⟨q, hq⟩ : ∃ q : Int, (k : Int) + 1 = q := ⟨_, rfl⟩
      rw [hq] at d0 d1
      obtain ⟨V, hV, z1, hb⟩ : ∃ V, wr.alloc (Obj.cells #[.int .i64 q, .func (.func (rnF q)) #[] #[]] 88) = V ∧ V.heap[wr.heap.size]? = some (Obj.cells #[.int .i64 q, .func (.func (rnF q)) #[] #[]] 88) ∧ Below wr.heap.size wr V := ⟨_, rfl, heap_alloc_new _ _, by go_grown⟩
      have hJV : J (kinds.take k) V := own_kept HJ.out hJk.out hb
      obtain ⟨fn, tmps, assign, body, hy, hR⟩ := HYY.out 99 (kinds.take k) q V hJV trivial (by have := List.length_take_le k kinds; omega) (by have := hKk.out.size; have := hb.size; omega)
      rw [← hq, kinds_take k hlt] at hR
      unfold encR at hy
      try dsimp only at hy
      have HRR := Lib.hid hR
      have HV := Lib.hid hV
      have KV : Hid (KeptO W.heap.size (fun k => k < n0) W V) := hKk.out.trans (keptO_of_below hb)
      have HQ := Lib.hid hq
      rw [← hV] at hy
      clear gr z1 hb hJV hR hq hV
      gi_wp2_with fail
      rw [HV.out]
      refine (roundIn_free HRR.out).mono ?_
      rintro e W5 (⟨rfl, hJ5, hk5⟩ | ⟨rfl, hx5, hk5⟩)
      · have K5 : Hid (KeptO W.heap.size (fun k => k < n0) W W5) := KV.out.trans hk5
        have J5 := Lib.hid hJ5
        clear hJ5 hk5 hy HRR d0 d1 dl
        gi_wp2_with fail
        go_roundw
        case rel => exact ⟨k + 1, by omega, by go_num, J5, K5⟩
        case measure => simp [intOf]; omega
      · have X5 : Hid (∃ pre, pre <+: kinds ∧ Jx pre W5) := ⟨_, List.take_prefix (k + 1) kinds, hx5⟩
        clear hx5 hk5 hy HRR d0 d1 dl
        gi_wp2_with fail
        exact bodyPost_ret (results_none rfl _ _ _) rfl ⟨⟨_, rfl⟩, .inr X5.out⟩
    · obtain rfl : k = 3 := by omega
      have J3 : Hid (J kinds wr) := hJk.out
      clear hlt hk hJk
      gi_wp2_with fail
      go_end0
      exact ⟨⟨_, rfl⟩, .inl ⟨_, rfl, J3.out⟩⟩
theorem kindIs_any (q kind : Int) (F : Nat) (bk : Nat) (w : World) (h : w.heap[bk]? = some (.cells #[.int .i64 kind] 3 (0, 0))) :
    Calls Try.prog 92 #[.agg #[.int .i64 q, .func (.func F) #[] #[]], .pointer (some ⟨bk, 0, none⟩)] w fun e w' => e = .returned (.bool (q == kind)) ∧ Below w.heap.size w w' := by
  have c0 := cellOf h 0 _ rfl
  have cl := lt_of_block h
  go_enter Try.func92, Try.ntmps92
  go_wp2_with fail
  go_ret
  exact ⟨rfl, by go_grown⟩
/-- A rounding in its cell. -/
theorem rn_results {fn : Func} {p q : Tmp} (h : fn.results = #[.cell p 88, .cell q 4]) (tmps : Array Value) (w : World) (g g2 : Nat) (x y : Value) (b : Bool)
    (hp : tmps.getD p undef = .pointer (some ⟨g, 0, none⟩)) (hq : tmps.getD q undef = .pointer (some ⟨g2, 0, none⟩)) (hg : w.heap[g]? = some (.cells #[x, y] 88 (0, 0))) (hg2 : w.heap[g2]? = some (.cells #[.bool b] 4 (0, 0))) :
    (results fn tmps).run Try.prog w = .ok (.tuple #[.agg #[x, y], .bool b]) w := by
  have c0 : w.cell? ⟨g, 0, none⟩ = some x := cellOf hg 0 _ rfl
  have c1 : w.cell? ⟨g, 1, none⟩ = some y := cellOf hg 1 _ rfl
  have c2 : w.cell? ⟨g2, 0, none⟩ = some (.bool b) := cellOf hg2 0 _ rfl
  have hp' : tmps[p]?.getD undef = .pointer (some ⟨g, 0, none⟩) := by simpa using hp
  have hq' : tmps[q]?.getD undef = .pointer (some ⟨g2, 0, none⟩) := by simpa using hq
  simp only [results, h]
  simp [Sem.run_bind, Result.andThen, hp', hq', asAddr, go_sem, c0, c1, c2]
set_option maxRecDepth 100000 in
set_option maxHeartbeats 4000000 in
theorem rfirst_any (bs r bk : Nat) (kind : Int) (w : World) (hr : r < w.heap.size) (h1 : w.heap[bs]? = some (.cells #[.slice (some ⟨r, 0, none⟩) 3 3] 148 (0, 0))) (h2 : w.heap[r]? = some (.cells rnC 88 (0, 0)))
    (h3 : w.heap[bk]? = some (.cells #[.int .i64 kind] 3 (0, 0))) :
    Calls Try.prog 89 #[.func (.func 111) #[] #[.pointer (some ⟨bs, 0, none⟩)], .func (.func 92) #[] #[.pointer (some ⟨bk, 0, none⟩)]] w fun e w' =>
      (kindB kind = true → e = .returned (.tuple #[.agg #[.int .i64 kind, .func (.func (rnF kind)) #[] #[]], .bool true])) ∧ (kindB kind = false → e = .returned (.tuple #[.agg #[.int .i64 0, .nilFunc], .bool false])) ∧ Below w.heap.size w w' := by
  obtain ⟨W3, hW3, z1, z2, z3, hb3, hs3⟩ := al3 w (Obj.cells #[.func (.func 92) #[] #[.pointer (some ⟨bk, 0, none⟩)]] 150) (Obj.cells #[.int .i64 0, .nilFunc] 88) (Obj.cells #[.bool false] 4)
  have HW3 := Lib.hid hW3
  have Z1 := Lib.hid z1
  have Z2 := Lib.hid z2
  have Z3 := Lib.hid z3
  have HB3 := Lib.hid hb3
  have HS3 := Lib.hid hs3
  have H1 := Lib.hid ((hb3.block _ (lt_of_block h1)).trans h1)
  have H2 := Lib.hid ((hb3.block _ (lt_of_block h2)).trans h2)
  have H3 := Lib.hid ((hb3.block _ (lt_of_block h3)).trans h3)
  have BK := Lib.hid (lt_of_block h3)
  have HR := Lib.hid hr
  clear hW3 z1 z2 z3 hb3 hs3 h1 h2 h3 hr
  refine (callsIn_wide (n := 9)).1 ?_
  refine callsIn_of_wp_marks Try.func89 rfl trivial ?_ rfl
  simp only [Try.ntmps89, List.size_toArray, List.length_cons, List.length_nil, Nat.reduceAdd, Nat.reduceSub, Array.replicate_succ, Array.replicate_zero, List.push_toArray, List.append_toArray, List.nil_append, List.cons_append]
  gi_wp2_with fail
  rw [HW3.out]
  refine wpIn_rangeFunc_X rfl (enters_of Try.func111 (by kernel_rfl) rfl)
    (rvalues_X bs r w.heap.size W3 (by have := HS3.out; omega) HR.out H1.out H2.out) (Below.refl _ _) (fun _ => rfl) (fun k hk => by have := HS3.out; omega)
    (fun pre V => (∀ x, x ∈ pre → x ≠ kind) ∧ V.heap[w.heap.size]? = some (.cells #[.func (.func 92) #[] #[.pointer (some ⟨bk, 0, none⟩)]] 150 (0, 0)) ∧ V.heap[w.heap.size + 1]? = some (.cells #[.int .i64 0, .nilFunc] 88 (0, 0)) ∧ V.heap[w.heap.size + 1 + 1]? = some (.cells #[.bool false] 4 (0, 0)) ∧ Below w.heap.size w V)
    (fun c pre V => c = .ret ∧ pre.getLast? = some kind ∧ V.heap[w.heap.size + 1]? = some (.cells #[.int .i64 kind, .func (.func (rnF kind)) #[] #[]] 88 (0, 0)) ∧ V.heap[w.heap.size + 1 + 1]? = some (.cells #[.bool true] 4 (0, 0)) ∧ Below w.heap.size w V)
    (OwnFrom.and (fun _ _ _ _ h _ _ => h) (OwnFrom.and (Own.from (blk_own _ (fun _ => _) _ _) _) (OwnFrom.and (Own.from (blk_own _ (fun _ => _) _ _) _) (OwnFrom.and (Own.from (blk_own _ (fun _ => _) _ _) _) (ownFrom_below (Nat.le_refl _) (by have := HS3.out; omega))))))
    (fun c => OwnFrom.and (fun _ _ _ _ h _ _ => h) (OwnFrom.and (fun _ _ _ _ h _ _ => h) (OwnFrom.and (Own.from (blk_own _ (fun _ => _) _ _) _) (OwnFrom.and (Own.from (blk_own _ (fun _ => _) _ _) _) (ownFrom_below (Nat.le_refl _) (by have := HS3.out; omega))))))
    ⟨fun x hx => (by cases hx), Z1.out, Z2.out, Z3.out, HB3.out⟩
    (fun _ x a' V => ∃ Bx, W3.heap.size ≤ Bx ∧ V.heap[Bx]? = some (.cells #[.int .i64 x, .func (.func (rnF x)) #[] #[]] 88 (0, 0)) ∧ a' = { tmps := #[.func (.func 111) #[] #[.pointer (some ⟨bs, 0, none⟩)], .func (.func 92) #[] #[.pointer (some ⟨bk, 0, none⟩)], undef, .pointer (some ⟨w.heap.size, 0, none⟩), .pointer (some ⟨w.heap.size + 1, 0, none⟩), .pointer (some ⟨w.heap.size + 1 + 1, 0, none⟩), .pointer (some ⟨Bx, 0, none⟩), .func (.func 111) #[] #[.pointer (some ⟨bs, 0, none⟩)], .agg #[.int .i64 x, .func (.func (rnF x)) #[] #[]], undef, undef, undef, undef, undef], defers := [] })
    ?hAx ?assign ?body ?done ?stop
  case hAx =>
    rintro _ x a' _ X Y row ⟨Bx, h1, h2, h3⟩ hg hr
    exact ⟨Bx, h1, (Own.from (blk_own (β := Unit) _ (fun _ => _) _ _) W3.heap.size) () X Y row h2 hg hr, h3⟩
  case assign =>
    rintro l' m' pre x V K ⟨i1, i2, i3, i4, i5⟩ _ hK
    unfold encR
    have hb : Below V.heap.size V (V.alloc (Obj.cells #[.int .i64 x, .func (.func (rnF x)) #[] #[]] 88)) := by go_grown
    have hz := heap_alloc_new V (Obj.cells #[.int .i64 x, .func (.func (rnF x)) #[] #[]] 88)
    have hszV : W3.heap.size ≤ V.heap.size := by have := HS3.out; have := lt_of_block i4; omega
    gi_wp2_with fail
    exact hK _ _ (keptO_of_below hb) ⟨i1, (hb.block _ (lt_of_block i2)).trans i2, (hb.block _ (lt_of_block i3)).trans i3, (hb.block _ (lt_of_block i4)).trans i4, i5.trans (hb.mono i5.size)⟩ ⟨_, hszV, hz, rfl⟩
  case body =>
    rintro l' m' pre x a' V hl ⟨i1, i2, i3, i4, i5⟩ ⟨Bx, hBx, iX, rfl⟩ hlt
    have I1 := Lib.hid i1
    have I2 := Lib.hid i2
    have I3 := Lib.hid i3
    have I4 := Lib.hid i4
    have I5 := Lib.hid i5
    have IX := Lib.hid iX
    have HC := Lib.hid (kindIs_any x kind (rnF x) bk V ((i5.block _ BK.out).trans (by have h := H3.out; rwa [HB3.out.block _ BK.out] at h)))
    have c0 := cellOf i2 0 _ rfl
    have d0 := cellOf iX 0 _ rfl
    have d1 := cellOf iX 1 _ rfl
    clear i1 i2 i3 i4 i5 iX hlt
    gi_wp2_with fail
    refine ⟨trivial, fun h => (by cases h), ?_⟩
    refine (callsIn_wide.2 HC.out).mono ?_
    rintro e V2 ⟨rfl, hb⟩
    have J2 := Lib.hid ((hb.block _ (lt_of_block I2.out)).trans I2.out)
    have J3 := Lib.hid ((hb.block _ (lt_of_block I3.out)).trans I3.out)
    have J4 := Lib.hid ((hb.block _ (lt_of_block I4.out)).trans I4.out)
    have JX := Lib.hid ((hb.block _ (lt_of_block IX.out)).trans IX.out)
    have J5 := Lib.hid (I5.out.trans (hb.mono I5.out.size))
    have K2 : Hid (KeptO W3.heap.size (fun k => k < w.heap.size) V V2) := keptO_of_below hb
    clear hb c0 d0 d1 HC I2 I3 I4 I5 IX
    by_cases hx : x = kind
    · subst hx
      have hq : (x == x) = true := by simp
      have d0 := cellOf JX.out 0 _ rfl
      have d1 := cellOf JX.out 1 _ rfl
      have dl := lt_of_block JX.out
      have z0 := cellOf J3.out 0 _ rfl
      have z1 := cellOf J3.out 1 _ rfl
      have f0 := frozen_of_row _ _ 0 _ _ J3.out
      have f1 := frozen_of_row _ _ 1 _ _ J3.out
      have y0 := cellOf J4.out 0 _ rfl
      have g0 := frozen_of_row _ _ 0 _ _ J4.out
      have zl := lt_of_block J3.out
      have yl := lt_of_block J4.out
      rw [hq]
      have hsz := HS3.out
      gi_wp2_with fail
      refine ⟨((K2.out.setCell _ _ (by show w.heap.size + 1 < _; omega) (by show ¬ w.heap.size + 1 < _; omega)).setCell _ _ (by show w.heap.size + 1 < _; omega) (by show ¬ w.heap.size + 1 < _; omega)).setCell _ _ (by show w.heap.size + 1 + 1 < _; omega) (by show ¬ w.heap.size + 1 + 1 < _; omega), rfl, by simp, ?_, ?_, ?_⟩
      · exact (heap_setCell_other _ _ _ _ (by show w.heap.size + 1 ≠ w.heap.size + 1 + 1; omega)).trans (two_set J3.out)
      · have h4 := (heap_setCell_other ((V2.setCell ⟨w.heap.size + 1, 0, none⟩ (.int .i64 x)).setCell ⟨w.heap.size + 1, 1, none⟩ (.func (.func (rnF x)) #[] #[])) ⟨w.heap.size + 1 + 1, 0, none⟩ (w.heap.size + 1) (.bool true) (by show w.heap.size + 1 ≠ w.heap.size + 1 + 1; omega))
        have h5 : ((V2.setCell ⟨w.heap.size + 1, 0, none⟩ (.int .i64 x)).setCell ⟨w.heap.size + 1, 1, none⟩ (.func (.func (rnF x)) #[] #[])).heap[w.heap.size + 1 + 1]? = some (.cells #[.bool false] 4 (0, 0)) :=
          (heap_setCell_other _ _ _ _ (by show w.heap.size + 1 + 1 ≠ w.heap.size + 1; omega)).trans ((heap_setCell_other _ _ _ _ (by show w.heap.size + 1 + 1 ≠ w.heap.size + 1; omega)).trans J4.out)
        exact heap_setCell_same _ (w.heap.size + 1 + 1) 0 _ _ (.bool true) h5
      · exact (two_below (g := w.heap.size + 1) J5.out (by omega)).setCell (p := ⟨w.heap.size + 1 + 1, 0, none⟩) (by show w.heap.size ≤ w.heap.size + 1 + 1; omega) _
    · have hq : (x == kind) = false := by simp [hx]
      rw [hq]
      gi_wp2_with fail
      refine ⟨K2.out, fun y hy => ?_, J2.out, J3.out, J4.out, J5.out⟩
      rcases List.mem_append.1 hy with h | h
      · exact I1.out y h
      · simp at h; subst h; exact hx
  case done =>
    rintro D ys V hD rfl ⟨i1, i2, i3, i4, i5⟩ hK
    have I3 := Lib.hid i3
    have I4 := Lib.hid i4
    have I5 := Lib.hid i5
    have HK := Lib.hid hK
    have hkb : kindB kind = false := by
      have h1 := i1 1 (by simp [kinds])
      have h2 := i1 2 (by simp [kinds])
      have h3 := i1 3 (by simp [kinds])
      unfold kindB
      simp only [Bool.or_eq_false_iff, beq_eq_false_iff_ne, ne_eq]
      exact ⟨⟨fun e => h1 e.symm, fun e => h2 e.symm⟩, fun e => h3 e.symm⟩
    have HKB := Lib.hid hkb
    have z0 := cellOf i3 0 _ rfl
    have z1 := cellOf i3 1 _ rfl
    have f0 := frozen_of_row _ _ 0 _ _ i3
    have f1 := frozen_of_row _ _ 1 _ _ i3
    have y0 := cellOf i4 0 _ rfl
    have g0 := frozen_of_row _ _ 0 _ _ i4
    have zl := lt_of_block i3
    have yl := lt_of_block i4
    clear i1 i2 i3 i4 i5 hK hkb
    have hsz := HS3.out
    gi_wp2_with fail
    have hk5 : (((V.setCell ⟨w.heap.size + 1, 0, none⟩ (.int .i64 0)).setCell ⟨w.heap.size + 1, 1, none⟩ .nilFunc).setCell ⟨w.heap.size + 1 + 1, 0, none⟩ (.bool false)).heap[D]? = some (.deferred (some [])) :=
      (heap_setCell_other _ _ _ _ (by show D ≠ w.heap.size + 1 + 1; omega)).trans ((heap_setCell_other _ _ _ _ (by show D ≠ w.heap.size + 1; omega)).trans ((heap_setCell_other _ _ _ _ (by show D ≠ w.heap.size + 1; omega)).trans HK.out))
    have h5 : ((V.setCell ⟨w.heap.size + 1, 0, none⟩ (.int .i64 0)).setCell ⟨w.heap.size + 1, 1, none⟩ .nilFunc).heap[w.heap.size + 1 + 1]? = some (.cells #[.bool false] 4 (0, 0)) :=
      (heap_setCell_other _ _ _ _ (by show w.heap.size + 1 + 1 ≠ w.heap.size + 1; omega)).trans ((heap_setCell_other _ _ _ _ (by show w.heap.size + 1 + 1 ≠ w.heap.size + 1; omega)).trans I4.out)
    have h6 : (((V.setCell ⟨w.heap.size + 1, 0, none⟩ (.int .i64 0)).setCell ⟨w.heap.size + 1, 1, none⟩ .nilFunc).setCell ⟨w.heap.size + 1 + 1, 0, none⟩ (.bool false)).heap[w.heap.size + 1 + 1]? = some (.cells #[.bool false] 4 (0, 0)) := heap_setCell_same _ (w.heap.size + 1 + 1) 0 _ _ (.bool false) h5
    have h7 : (((V.setCell ⟨w.heap.size + 1, 0, none⟩ (.int .i64 0)).setCell ⟨w.heap.size + 1, 1, none⟩ .nilFunc).setCell ⟨w.heap.size + 1 + 1, 0, none⟩ (.bool false)).heap[w.heap.size + 1]? = some (.cells #[.int .i64 0, .nilFunc] 88 (0, 0)) := (heap_setCell_other _ _ _ _ (by show w.heap.size + 1 ≠ w.heap.size + 1 + 1; omega)).trans (two_set I3.out)
    refine ⟨by simp, .inl ⟨_, _, rfl, run_takeDeferred hk5, ?_⟩⟩
    refine ⟨_, rn_results rfl _ _ (w.heap.size + 1) (w.heap.size + 1 + 1) _ _ _ rfl rfl ((World.putObj_heap_other (by omega)).trans h7) ((World.putObj_heap_other (by omega)).trans h6), fun h => ?_, fun _ => rfl, ?_⟩
    · rw [HKB.out] at h; cases h
    · exact below_put _ ((two_below (g := w.heap.size + 1) I5.out (by omega)).setCell (p := ⟨w.heap.size + 1 + 1, 0, none⟩) (by show w.heap.size ≤ w.heap.size + 1 + 1; omega) _) (Nat.le_refl _) (by omega) hk5 rfl
  case stop =>
    rintro D c pre V hD hpre ⟨rfl, i1, i2, i3, i4⟩ hK
    have I2 := Lib.hid i2
    have I3 := Lib.hid i3
    have I4 := Lib.hid i4
    have HK := Lib.hid hK
    have hkb : kindB kind = true := by
      have h1 : kind ∈ pre := List.mem_of_getLast? i1
      have h2 : kind ∈ kinds := hpre.subset h1
      unfold kindB
      simp [kinds] at h2
      simp only [Bool.or_eq_true, beq_iff_eq]
      omega
    have HKB := Lib.hid hkb
    clear i1 i2 i3 i4 hK hkb
    have hsz := HS3.out
    gi_wp2_with fail
    refine ⟨by simp, .inl ⟨_, _, rfl, run_takeDeferred HK.out, ?_⟩⟩
    refine ⟨_, rn_results rfl _ _ (w.heap.size + 1) (w.heap.size + 1 + 1) _ _ _ rfl rfl ((World.putObj_heap_other (by omega)).trans I2.out) ((World.putObj_heap_other (by omega)).trans I3.out), fun _ => rfl, fun h => ?_, ?_⟩
    · rw [HKB.out] at h; cases h
    · exact below_put _ I4.out (Nat.le_refl _) (by omega) HK.out rfl
set_option maxRecDepth 100000 in
theorem rvalues_any (a : Option Addr) (n c : Nat) (w : World) :
    Calls Try.prog 90 #[.slice a n c] w fun e w' => e = .returned (.func (.func 111) #[] #[.pointer (some ⟨w.heap.size, 0, none⟩)]) ∧ w.alloc (.cells #[.slice a n c] 148) = w' := by
  go_enter Try.func90, Try.ntmps90
  go_wp2_with fail
  go_ret
  exact ⟨rfl, rfl⟩
/-- A rounding in its cell, and whether there is one. -/
theorem rn_result2 {fn : Func} {p q : Tmp} (h : fn.results = #[.cell p 88, .tmp q]) (tmps : Array Value) (w : World) (g : Nat) (x y : Value)
    (hp : tmps.getD p undef = .pointer (some ⟨g, 0, none⟩)) (hg : w.heap[g]? = some (.cells #[x, y] 88 (0, 0))) :
    (results fn tmps).run Try.prog w = .ok (.tuple #[.agg #[x, y], tmps.getD q undef]) w := by
  have c0 : w.cell? ⟨g, 0, none⟩ = some x := cellOf hg 0 _ rfl
  have c1 : w.cell? ⟨g, 1, none⟩ = some y := cellOf hg 1 _ rfl
  have hp' : tmps[p]?.getD undef = .pointer (some ⟨g, 0, none⟩) := by simpa using hp
  simp only [results, h]
  simp [Sem.run_bind, Result.andThen, hp', asAddr, go_sem, c0, c1]
set_option maxRecDepth 100000 in
set_option maxHeartbeats 4000000 in
theorem roundingOf_any (kind : Int) (w : World) :
    Calls Try.prog 52 #[.int .i64 kind] w fun e w' =>
      (kindB kind = true → e = .returned (.tuple #[.agg #[.int .i64 kind, .func (.func (rnF kind)) #[] #[]], .bool true])) ∧ (kindB kind = false → e = .returned (.tuple #[.agg #[.int .i64 0, .nilFunc], .bool false])) ∧ Below w.heap.size w w' := by
  obtain ⟨W2, hW2, z1, z2, hb2, hs2⟩ := al2 w (Obj.cells #[.int .i64 kind] 3) (Obj.cells #[.int .i64 0, .nilFunc] 88)
  have hb4 : Below W2.heap.size W2 ((W2.alloc (.cells rnC 88)).alloc (.cells #[.slice (some ⟨W2.heap.size, 0, none⟩) 3 3] 148)) := by go_grown
  obtain ⟨W4, hW4, y1, y2, _, hs4⟩ := al2 W2 (Obj.cells rnC 88) (Obj.cells #[.slice (some ⟨W2.heap.size, 0, none⟩) 3 3] 148)
  have HR := Lib.hid (roundings_any W2)
  have HV := Lib.hid (rvalues_any (some ⟨W2.heap.size, 0, none⟩) 3 3 (W2.alloc (.cells rnC 88)))
  rw [hW4] at HV hb4
  have e1 : (W2.alloc (.cells rnC 88)).heap.size = W2.heap.size + 1 := by simp
  rw [e1] at HV
  have HF := Lib.hid (rfirst_any (W2.heap.size + 1) W2.heap.size w.heap.size kind W4 (by omega) y2 y1 ((hb4.block _ (lt_of_block z1)).trans z1))
  have HW2 := Lib.hid hW2
  have Z2 := Lib.hid ((hb4.block _ (lt_of_block z2)).trans z2)
  have HB := Lib.hid (hb2.trans (hb4.mono hb2.size))
  clear hW2 hW4 z1 z2 y1 y2 hb2 hb4 hs2 hs4 e1
  go_enter Try.func52, Try.ntmps52
  go_wp2_with fail
  rw [HW2.out]
  refine HR.out.mono ?_
  rintro e w1 ⟨rfl, rfl⟩
  go_wp2_with fail
  refine HV.out.mono ?_
  rintro e w1 ⟨rfl, rfl⟩
  go_wp2_with fail
  refine HF.out.mono ?_
  rintro e w1 ⟨he1, he0, hb⟩
  have Z3 := Lib.hid ((hb.block _ (lt_of_block Z2.out)).trans Z2.out)
  have HB3 := Lib.hid (HB.out.trans (hb.mono HB.out.size))
  have c0 := cellOf Z3.out 0 _ rfl
  have c1 := cellOf Z3.out 1 _ rfl
  have f0 := frozen_of_row _ _ 0 _ _ Z3.out
  have f1 := frozen_of_row _ _ 1 _ _ Z3.out
  have cl := lt_of_block Z3.out
  clear hb HR HV HF HW2 Z2 HB
  cases hk : kindB kind
  · obtain rfl := he0 hk
    clear he1 he0
    go_wp2_with fail
    refine bodyPost_ret (rn_result2 rfl _ _ (w.heap.size + 1) (.int .i64 0) .nilFunc rfl (two_set Z3.out)) rfl ?_
    exact ⟨fun h => (by rw [hk] at h; cases h), fun _ => rfl, two_below (g := w.heap.size + 1) HB3.out (by omega)⟩
  · obtain rfl := he1 hk
    clear he1 he0
    go_wp2_with fail
    refine bodyPost_ret (rn_result2 rfl _ _ (w.heap.size + 1) (.int .i64 kind) (.func (.func (rnF kind)) #[] #[]) rfl (two_set Z3.out)) rfl ?_
    exact ⟨fun _ => rfl, fun h => (by rw [hk] at h; cases h), two_below (g := w.heap.size + 1) HB3.out (by omega)⟩
end Go.Proofs.Ythflbbjilebhlaa
