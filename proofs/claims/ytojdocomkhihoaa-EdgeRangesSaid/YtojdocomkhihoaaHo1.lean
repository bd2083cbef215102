/- Package edge: the best one of lists. -/
import Derived.Test.YtojdocomkhihoaaHn1
import Derived.Test.YtojdocomkhihoaaHf1
set_option linter.unusedSimpArgs false
set_option linter.unusedVariables false
namespace Go.Proofs.Ytojdocomkhihoaa
open Go Go.RowKit Go.Shelf Ed
attribute [local go_sem] Oper.semAt_some

theorem IntsAt.kept {w w' : World} {v : Value} {l : List Int} (h : IntsAt w v l) (P : ∀ (p : Addr) (x : Int), w.cell? p = some (.int .i64 x) → w'.cell? p = some (.int .i64 x)) : IntsAt w' v l := by
  obtain ⟨h1, a, cap, rfl, hc, h2⟩ := h
  refine ⟨h1, a, cap, rfl, hc, fun hne => ?_⟩
  obtain ⟨b, o, rfl, hk⟩ := h2 hne
  exact ⟨b, o, rfl, fun k h => P _ _ (hk k h)⟩
theorem ints_set {w : World} {b : Nat} {u y : Value} {t : TypeId} (hb : w.heap[b]? = some (.cells #[u] t (0, 0))) (hu : ∀ x, u ≠ .int .i64 x) (p : Addr) (x : Int) (hp : w.cell? p = some (.int .i64 x)) : (w.setCell ⟨b, 0, none⟩ y).cell? p = some (.int .i64 x) := by
  have hne : p.block ≠ b := by
    intro e
    unfold World.cell? at hp
    rw [e, hb] at hp
    simp only at hp
    split at hp
    · cases hp
    · have h2 := (Array.getElem?_eq_some_iff.1 hp).1
      have h0 : p.off = 0 := by simp at h2; exact h2
      rw [h0] at hp
      exact hu x (by simpa using hp)
  have e := heap_setCell_other w (⟨b, 0, none⟩ : Addr) p.block y hne
  unfold World.cell? at hp ⊢
  rw [e]
  exact hp
/-- What is found among lists. -/
def fndV (l : List (List Int)) : List Int × Bool := bestS fewE [] l
theorem fndV_snoc (l : List (List Int)) (y : List Int) : fndV (l ++ [y]) = if (fndV l).2 || fewE y (fndV l).1 then (y, false) else fndV l := bestS_snoc _ _ _ _
/-- What holds between two rounds of best. -/
structure BJ (n0 : Nat) (w : World) (l : List (List Int)) (V : World) : Prop where
  found : ∃ v, V.heap[n0 + 1]? = some (.cells #[v] 26 (0, 0)) ∧ IntsAt V v (fndV l).1
  first : V.heap[n0 + 1 + 1]? = some (.cells #[.bool (fndV l).2] 4 (0, 0))
  bet : V.heap[n0]? = some (.cells #[.func (.func 72) #[] #[]] 40 (0, 0))
  bw : Below w.heap.size w V
theorem BJ.own {n0 B : Nat} {w : World} (hw : w.heap.size ≤ B) {β : Type} (f : β → List (List Int)) : OwnFrom B (fun s V => BJ n0 w (f s) V) := by
  intro s X Y row h hg hr
  have hr' : ∀ r, row = some r → ∃ o : Obj, X.heap[r]? = some o ∧ o.isCells = false := fun r e => (hr r e).2
  obtain ⟨⟨v, h1, h2⟩, h3, h4, h5⟩ := h
  exact ⟨⟨v, blk_own _ (fun _ : Unit => #[v]) _ _ () X Y row h1 hg hr', h2.kept fun p x hp => cell_kept hp hg hr'⟩, blk_own _ (fun _ : Unit => _) _ _ () X Y row h3 hg hr', blk_own _ (fun _ : Unit => _) _ _ () X Y row h4 hg hr',
    h5.grown hg h5.size (fun r e => Nat.le_trans hw (hr r e).1)⟩
theorem BJ.below {n0 : Nat} {w V V' : World} {l : List (List Int)} (h : BJ n0 w l V) (hb : Below V.heap.size V V') : BJ n0 w l V' := by
  obtain ⟨⟨v, h1, h2⟩, h3, h4, h5⟩ := h
  exact ⟨⟨v, (hb.block _ (lt_of_block h1)).trans h1, h2.below hb⟩, (hb.block _ (lt_of_block h3)).trans h3, (hb.block _ (lt_of_block h4)).trans h4, h5.trans (hb.mono h5.size)⟩
theorem BJ.put {w V : World} {l : List (List Int)} (h : BJ w.heap.size w l V) (y : List Int) (u : Value) (hu : IntsAt V u y) (hy : (fndV l).2 = true ∨ fewE y (fndV l).1 = true) :
    BJ w.heap.size w (l ++ [y]) ((V.setCell ⟨w.heap.size + 1, 0, none⟩ u).setCell ⟨w.heap.size + 1 + 1, 0, none⟩ (.bool false)) := by
  have e : fndV (l ++ [y]) = (y, false) := by
    rw [fndV_snoc, if_pos]
    rcases hy with hy | hy
    · rw [hy]; rfl
    · simp [hy]
  obtain ⟨⟨v, h1, h2⟩, h3, h4, h5⟩ := h
  have h6 : (V.setCell ⟨w.heap.size + 1, 0, none⟩ u).heap[w.heap.size + 1]? = some (.cells #[u] 26 (0, 0)) := heap_setCell_same V (w.heap.size + 1) 0 _ _ u h1
  have h7 : (V.setCell ⟨w.heap.size + 1, 0, none⟩ u).heap[w.heap.size + 1 + 1]? = some (.cells #[.bool (fndV l).2] 4 (0, 0)) := one_other h3 (by omega)
  have hsl : ∃ a n cc, v = .slice a n cc := by obtain ⟨_, a, cap, h, _⟩ := h2; exact ⟨_, _, _, h⟩
  obtain ⟨va, vn, vc, rfl⟩ := hsl
  refine ⟨⟨u, one_other h6 (by omega), ?_⟩, ?_, one_other (one_other h4 (by omega)) (by omega), (h5.setCell (p := ⟨w.heap.size + 1, 0, none⟩) (show w.heap.size ≤ w.heap.size + 1 by omega) _).setCell (p := ⟨w.heap.size + 1 + 1, 0, none⟩) (show w.heap.size ≤ w.heap.size + 1 + 1 by omega) _⟩
  · rw [e]
    exact (hu.kept fun p x hp => ints_set h1 (fun _ h => by cases h) p x hp).kept fun p x hp => ints_set h7 (fun _ h => by cases h) p x hp
  · rw [e]
    exact heap_setCell_same _ (w.heap.size + 1 + 1) 0 _ _ (.bool false) h7
theorem keptO_two {W V : World} {kept : Nat → Prop} {a b : Nat} {u v : Value} (ha : a < W.heap.size) (hb : b < W.heap.size) (hk : ∀ k, kept k → k ≠ a ∧ k ≠ b) : KeptO W.heap.size kept V ((V.setCell ⟨a, 0, none⟩ u).setCell ⟨b, 0, none⟩ v) :=
  ⟨by simp, fun k _ hor => by
    have h : k ≠ a ∧ k ≠ b := by
      rcases hor with h | h
      · omega
      · exact hk k h
    exact (heap_setCell_other _ (⟨b, 0, none⟩ : Addr) k _ (by show k ≠ b; exact h.2)).trans (heap_setCell_other _ (⟨a, 0, none⟩ : Addr) k _ (by show k ≠ a; exact h.1))⟩
def vL2 (l : List Vl) : List (List Int) := l.map (·.2)
theorem vL2_snoc (l : List Vl) (y : Vl) : vL2 (l ++ [y]) = vL2 l ++ [y.2] := by simp [vL2]
set_option maxRecDepth 100000 in
set_option maxHeartbeats 4000000 in
theorem bestL_any (c : Cas) (hv : Valid c) (sv ev : Value) (ws : List Int) (hw : ws.length = 16) (bl : Nat) (w : World) (hC : CasAt w c sv ev) (hL : LkBlk w bl c.tol sv ev ws) :
    Calls Try.prog 70 #[.func (.func 93) #[] #[.pointer (some ⟨bl, 0, none⟩)], .func (.func 72) #[] #[]] w fun e w' => ∃ v, e = .returned v ∧ IntsAt w' v (withoutC c) ∧ Below w.heap.size w w' := by
  have HSO := Lib.hid (spare1_V c hv bl sv ev ws hw w hC hL)
  obtain ⟨W, hW, q1, q2, q3, hb, hs⟩ := al3 w (Obj.cells #[.func (.func 72) #[] #[]] 40) (Obj.cells #[.slice none 0 0] 26) (Obj.cells #[.bool true] 4)
  have HIN : Hid (BJ w.heap.size w [] W) := ⟨⟨_, q2, ⟨by simp [fndV, bestS], none, 0, rfl, by simp [fndV, bestS], fun h => absurd rfl h⟩⟩, q3, q1, hb⟩
  have HSZ := Lib.hid hs
  have HBW := Lib.hid hb
  have HWW := Lib.hid hW
  have HNX : Hid (withoutC c = (fndV (spareL c)).1) := rfl
  clear hW q1 q2 q3 hb hs hC hL hv hw
  refine (callsIn_wide (n := 9)).1 ?_
  refine callsIn_of_wp_marks Try.func70 rfl trivial ?_ rfl
  simp only [Try.ntmps70, List.size_toArray, List.length_cons, List.length_nil, Nat.reduceAdd, Nat.reduceSub, Array.replicate_succ, Array.replicate_zero, List.push_toArray, List.append_toArray, List.nil_append, List.cons_append]
  gi_wp2_with fail
  rw [HWW.out]
  refine wpIn_rangeFunc_V (gf := 93) (lb := #[.pointer (some ⟨bl, 0, none⟩)]) rfl (enters_of Try.func93 (by kernel_rfl) rfl) HSO.out HBW.out (fun _ => rfl)
    (by have := HSZ.out; intro k hk; omega)
    (fun pre V => BJ w.heap.size w (vL2 pre) V) (BJ.own (by have := HSZ.out; omega) _) HIN.out
    (fun x a' V => inV x V ∧ a' = { tmps := #[(.func (.func 93) #[] #[.pointer (some ⟨bl, 0, none⟩)]), .func (.func 72) #[] #[], undef, .pointer (some ⟨w.heap.size, 0, none⟩), .slice none 0 0, .pointer (some ⟨w.heap.size + 1, 0, none⟩), .pointer (some ⟨w.heap.size + 1 + 1, 0, none⟩), x.1, (.func (.func 93) #[] #[.pointer (some ⟨bl, 0, none⟩)]), x.1, undef, undef, undef, undef, undef, undef, undef, undef, undef], defers := [] })
    ?hAx ?assign ?body ?done
  case hAx =>
    rintro x a' _ X Y row ⟨h1, h2⟩ hg hr
    exact ⟨IntsAt.kept h1 fun p v hp => cell_kept hp hg (fun r e => (hr r e).2), h2⟩
  case assign =>
    rintro l m pre x V K hI hX hK
    have HI := Lib.hid hI
    have HK := Lib.hid hK
    have HX := Lib.hid hX
    unfold encV
    clear hI hK hX
    gi_wp2
    exact HK.out _ _ (KeptO.refl _ _ _) HI.out ⟨HX.out, rfl⟩
  case body =>
    rintro l m pre ⟨yv, y⟩ a' V hl hI ⟨hX, rfl⟩ hlen
    obtain ⟨ya, yn, yc, rfl⟩ : ∃ a n cc, yv = .slice a n cc := by obtain ⟨_, a, cap, h, _⟩ := hX; exact ⟨_, _, _, h⟩
    have HX : Hid (IntsAt V (.slice ya yn yc) y) := hX
    have HI := Lib.hid hI
    have HVS := Lib.hid (vL2_snoc pre (.slice ya yn yc, y))
    clear hI hX
    try simp only
    cases hfst : (fndV (vL2 pre)).2
    · obtain ⟨⟨fv, p1, p2⟩, p3, p4, p5⟩ := HI.out
      obtain ⟨fa, fn_, fc, rfl⟩ : ∃ a n cc, fv = .slice a n cc := by obtain ⟨_, a, cap, h, _⟩ := p2; exact ⟨_, _, _, h⟩
      have g0 := cellOf p1 0 _ rfl
      have f0 := cellOf p3 0 _ rfl
      have b0 := cellOf p4 0 _ rfl
      have gl := lt_of_block p1
      have fl := lt_of_block p3
      have bl_ := lt_of_block p4
      rw [hfst] at f0
      have HFW := Lib.hid (fewer_any y (fndV (vL2 pre)).1 _ _ V HX.out p2)
      have HFST := Lib.hid hfst
      clear p1 p2 p3 p4 p5 hfst
      gi_wp2_with fail
      refine ⟨trivial, fun h => (by cases h), ?_⟩
      refine (callsIn_wide.2 HFW.out).mono ?_
      rintro e V6 ⟨rfl, hb6⟩
      have HI6 := Lib.hid (HI.out.below hb6)
      have HX6 := Lib.hid (HX.out.below hb6)
      have HK6 : Hid (KeptO W.heap.size (fun k => k < w.heap.size) V V6) := keptO_of_below hb6
      clear hb6 HFW g0 f0 b0 gl fl bl_
      cases hfe : fewE y (fndV (vL2 pre)).1
      · have HFE := Lib.hid hfe
        clear hfe
        gi_wp2_with fail
        have e : fndV (vL2 pre ++ [y]) = fndV (vL2 pre) := by rw [fndV_snoc, HFST.out, HFE.out]; rfl
        refine ⟨HK6.out, ?_⟩
        show BJ _ _ (vL2 (pre ++ [(.slice ya yn yc, y)])) _
        rw [HVS.out]
        obtain ⟨q1, q2, q3, q4⟩ := HI6.out
        exact ⟨e.symm ▸ q1, e.symm ▸ q2, q3, q4⟩
      · have HFE := Lib.hid hfe
        clear hfe
        obtain ⟨⟨fv, p1, p2⟩, p3, p4, p5⟩ := HI6.out
        obtain ⟨fa, fn_, fc, rfl⟩ : ∃ a n cc, fv = .slice a n cc := by obtain ⟨_, a, cap, h, _⟩ := p2; exact ⟨_, _, _, h⟩
        have g0 := cellOf p1 0 _ rfl
        have gl := lt_of_block p1
        have gr := frozen_of_row _ _ 0 _ _ p1
        have f0 := cellOf p3 0 _ rfl
        have fl := lt_of_block p3
        have fr := frozen_of_row _ _ 0 _ _ p3
        clear p1 p2 p3 p4 p5
        gi_wp2_with fail
        have hput := HI6.out.put y (.slice ya yn yc) HX6.out (.inr HFE.out)
        exact ⟨HK6.out.trans (keptO_two (by have := HSZ.out; omega) (by have := HSZ.out; omega) (by intro k hk; omega)), show BJ _ _ _ _ from HVS.out.symm ▸ hput⟩
    · obtain ⟨p3⟩ : Nonempty (V.cell? ⟨w.heap.size + 1 + 1, 0, none⟩ = some (.bool (fndV (vL2 pre)).2)) := ⟨cellOf HI.out.first 0 _ rfl⟩
      have fl := lt_of_block HI.out.first
      rw [hfst] at p3
      have HFST := Lib.hid hfst
      clear hfst
      gi_wp2_with fail
      refine ⟨fun _ h => (by cases h), ?_⟩
      clear p3 fl
      obtain ⟨⟨fv, p1, p2⟩, p3, p4, p5⟩ := HI.out
      obtain ⟨fa, fn_, fc, rfl⟩ : ∃ a n cc, fv = .slice a n cc := by obtain ⟨_, a, cap, h, _⟩ := p2; exact ⟨_, _, _, h⟩
      have g0 := cellOf p1 0 _ rfl
      have gl := lt_of_block p1
      have gr := frozen_of_row _ _ 0 _ _ p1
      have f0 := cellOf p3 0 _ rfl
      have fl := lt_of_block p3
      have fr := frozen_of_row _ _ 0 _ _ p3
      clear p1 p2 p3 p4 p5
      gi_wp2_with fail
      have hput := HI.out.put y (.slice ya yn yc) HX.out (.inl HFST.out)
      exact ⟨(keptO_two (by have := HSZ.out; omega) (by have := HSZ.out; omega) (by intro k hk; omega)), show BJ _ _ _ _ from HVS.out.symm ▸ hput⟩
  case done =>
    rintro D ys V hD hys hI hK
    have HI := Lib.hid hI
    have HFIN : Hid ((fndV (vL2 ys)).1 = withoutC c) := by show _ = _; rw [HNX.out, ← hys]; rfl
    have HDK := Lib.hid hK
    obtain ⟨⟨fv, p1, p2⟩, p3, p4, p5⟩ := hI
    obtain ⟨fa, fn_, fc, rfl⟩ : ∃ a n cc, fv = .slice a n cc := by obtain ⟨_, a, cap, h, _⟩ := p2; exact ⟨_, _, _, h⟩
    have g0 := cellOf p1 0 _ rfl
    have gl := lt_of_block p1
    have HP2 := Lib.hid p2
    clear p1 p2 p3 p4 p5 hys
    gi_wp2_with fail
    refine ⟨by simp, .inl ⟨_, _, rfl, run_takeDeferred hK, ?_⟩⟩
    have hn : ∀ (p : Addr) (x : Int), V.cell? p = some (.int .i64 x) → (V.putObj D (.deferred none)).cell? p = some (.int .i64 x) := fun p x hp => cell_kept hp (grownBy_putObj' V D (.deferred none)) (fun r e => by cases e; exact ⟨_, hK, rfl⟩)
    refine ⟨_, results_tmp rfl _ _ _, _, rfl, ?_, HI.out.bw.trans (belowK_b (w := w) (Nat.le_refl _) V D _ _ (by have := HSZ.out; omega) hK rfl rfl)⟩
    rw [← HFIN.out]
    exact HP2.out.kept hn
end Go.Proofs.Ytojdocomkhihoaa
