/- Package edge: the best place next to changes. -/
import Derived.Test.YtojdocomkhihoaaHe1
import Derived.Test.YtojdocomkhihoaaFi1
set_option linter.unusedSimpArgs false
set_option linter.unusedVariables false
namespace Go.Proofs.Ytojdocomkhihoaa
open Go Go.RowKit Go.Shelf Ed
attribute [local go_sem] Oper.semAt_some

theorem al4e (w : World) (A B C D : Obj) : ∃ W, (((w.alloc A).alloc B).alloc C).alloc D = W ∧ W.heap[w.heap.size]? = some A ∧ W.heap[w.heap.size + 1]? = some B ∧ W.heap[w.heap.size + 1 + 1]? = some C ∧ W.heap[w.heap.size + 1 + 1 + 1]? = some D ∧ Below w.heap.size w W ∧ W.heap.size = w.heap.size + 4 := by
  obtain ⟨V, hV, h1, h2, h3, hb, hs⟩ := al3 w A B C
  rw [hV]
  have kb : Below V.heap.size V (V.alloc D) := (Below.refl _ _).alloc (Nat.le_refl _) _
  refine ⟨_, rfl, (kb.block _ (lt_of_block h1)).trans h1, (kb.block _ (lt_of_block h2)).trans h2, (kb.block _ (lt_of_block h3)).trans h3, ?_, hb.trans (kb.mono hb.size), by simp [hs]⟩
  have h := heap_alloc_new V D
  rw [show V.heap.size = w.heap.size + 1 + 1 + 1 by omega] at h
  exact h
theorem chIn_loadw {F : Fence} {n : Nat} {ops : Array Oper} {rest : List Oper} {o : Oper} {a : Act} {w : World} {Q : Exit → Act → World → Prop} (hw : Region.wanted o (yielded ops a.tmps) = true) (x : Operand) (ho : o.op = .load 96 x)
    (g : Nat) (hx : a.eval x = .pointer (some ⟨g, 0, none⟩)) (m : List Int) (hF : ChBlk w g m) (hm : m.length = 5)
    (h : wpListIn F n Try.prog ops Q rest (a.put o.dst (.agg (chC m))) w) : wpListIn F n Try.prog ops Q (o :: rest) a w := by
  refine BigFrame.wpListIn_want hw fun K hK => ?_
  unfold Oper.wpIn
  refine ⟨?_, ?_⟩
  · simp [Oper.about, ho]
  · rw [Oper.semAt_plain F _ _ (by rw [ho]; intro c hc'; cases hc')]
    unfold execOp
    simp only [ho, hx, Instr.loadAt, Instr.sureAddr, Sem.run_bind, Sem.run_pure, Result.andThen_ok, ch_var hF hm]
    exact hK _ _ h
theorem ownFrom_bm {β : Type} {b B : Nat} {w : World} (hB : w.heap.size ≤ B) : OwnFrom B (fun (_ : β) W => Bm b w W) := by
  intro s X Y row h hg hr
  refine ⟨hg.os.trans h.os, hg.tape.trans h.tape, hg.output.trans h.output, Nat.le_trans h.size hg.size, fun k hk hne => ?_⟩
  refine (hg.block k (Nat.lt_of_lt_of_le hk h.size) (fun e => ?_)).trans (h.block k hk hne)
  have := (hr k e.symm).1
  omega
theorem ownFrom_pst {β : Type} {c : Cas} {sv ev : Value} {ws : List Int} {mb kb lb B : Nat} (hb : mb < B) : OwnFrom B (fun (_ : β) W => PSt c sv ev ws mb kb lb W) := by
  intro s X Y row h hg hr
  have hc : ∀ (p : Addr) (v : Value), X.cell? p = some v → Y.cell? p = some v := by
    exact fun p v hp => cell_kept hp hg (fun r e => (hr r e).2)
  have hbk : ∀ {k : Nat} {C : Array Value} {t : TypeId} {fr : Nat × Nat}, X.heap[k]? = some (.cells C t fr) → Y.heap[k]? = some (.cells C t fr) := by
    intro k C t fr hk
    refine (hg.block k (lt_of_block hk) (fun e => ?_)).trans hk
    obtain ⟨_, o, ho, hcl⟩ := hr k e.symm
    rw [hk] at ho; cases ho; cases hcl
  refine ⟨hbk h.ck, hbk h.cl, h.cas.kept hc, h.map.keep ?_⟩
  obtain ⟨es, k, h1, _⟩ := h.map
  exact hg.block mb (Array.getElem?_eq_some_iff.1 h1).1 (fun e => by have := (hr mb e.symm).1; omega)
/-- What is found so far. -/
def fndL (c : Cas) (ws : List Int) (l : List (List Int)) : List Int × Bool := bestS (fun a b => decide (priceC c ws a < priceC c ws b)) z5 l
theorem fndL_snoc (c : Cas) (ws : List Int) (l : List (List Int)) (y : List Int) : fndL c ws (l ++ [y]) = if (fndL c ws l).2 || decide (priceC c ws y < priceC c ws (fndL c ws l).1) then (y, false) else fndL c ws l := bestS_snoc _ _ _ _
theorem fndL_in (c : Cas) (ws : List Int) (l : List (List Int)) : (fndL c ws l).1 = z5 ∨ (fndL c ws l).1 ∈ l := by
  rcases bestS_first (priceC c ws) z5 l with ⟨_, h⟩ | ⟨l1, r, l2, he, h, _⟩
  · left; unfold fndL; rw [h]
  · right; unfold fndL; rw [h, he]; simp
theorem fndL_bd (c : Cas) (ws : List Int) (l : List (List Int)) (h : ∀ y, y ∈ l → y.length = 5 ∧ ∀ i, -1000 ≤ y.getD i 0 ∧ y.getD i 0 ≤ 1000) : (fndL c ws l).1.length = 5 ∧ ∀ i, -1000 ≤ (fndL c ws l).1.getD i 0 ∧ (fndL c ws l).1.getD i 0 ≤ 1000 := by
  rcases fndL_in c ws l with e | e
  · rw [e]; exact ⟨rfl, fun i => by rw [z5_get]; omega⟩
  · exact h _ e
/-- What holds between two rounds of best. -/
structure BI (c : Cas) (sv ev : Value) (ws : List Int) (mb kb lb fb n0 : Nat) (w : World) (l : List (List Int)) (V : World) : Prop where
  found : ChBlk V (n0 + 1 + 1) (fndL c ws l).1
  first : V.heap[n0 + 1 + 1 + 1]? = some (.cells #[.bool (fndL c ws l).2] 4 (0, 0))
  pst : PSt c sv ev ws mb kb lb V
  pf : PFB kb lb fb V
  bet : V.heap[n0]? = some (.cells #[.func (.func 92) #[] #[.pointer (some ⟨fb, 0, none⟩)]] 135 (0, 0))
  res : ChBlk V (n0 + 1) z5
  bm : Bm mb w V
theorem BI.own {c : Cas} {sv ev : Value} {ws : List Int} {mb kb lb fb n0 B : Nat} {w : World} (hb : mb < B) (hw : w.heap.size ≤ B) {β : Type} (f : β → List (List Int)) : OwnFrom B (fun s V => BI c sv ev ws mb kb lb fb n0 w (f s) V) := by
  intro s X Y row h hg hr
  have hr' : ∀ r, row = some r → ∃ o : Obj, X.heap[r]? = some o ∧ o.isCells = false := fun r e => (hr r e).2
  exact ⟨chBlk_own _ (fun _ : Unit => (fndL c ws (f s)).1) () X Y row h.found hg hr', blk_own _ (fun _ : Unit => #[.bool (fndL c ws (f s)).2]) _ _ () X Y row h.first hg hr',
    ownFrom_pst (β := Unit) hb () X Y row h.pst hg hr, blk_own _ (fun _ : Unit => _) _ _ () X Y row h.pf hg hr', blk_own _ (fun _ : Unit => _) _ _ () X Y row h.bet hg hr', chBlk_own _ (fun _ : Unit => z5) () X Y row h.res hg hr', ownFrom_bm (β := Unit) hw () X Y row h.bm hg hr⟩
theorem BI.step {c : Cas} {sv ev : Value} {ws : List Int} {mb kb lb fb n0 : Nat} {w V V' : World} {l : List (List Int)} (h : BI c sv ev ws mb kb lb fb n0 w l V) (hb : Bm mb V V') (hm : MapSt c ws mb V') : BI c sv ev ws mb kb lb fb n0 w l V' :=
  ⟨blk_bm hb h.pst.map h.found, blk_bm hb h.pst.map h.first, h.pst.bm hb hm, blk_bm hb h.pst.map h.pf, blk_bm hb h.pst.map h.bet, blk_bm hb h.pst.map h.res, h.bm.trans hb⟩
/-- What is found anew. -/
theorem BI.put {c : Cas} {sv ev : Value} {ws : List Int} {mb kb lb fb : Nat} {w V : World} {l : List (List Int)} (h : BI c sv ev ws mb kb lb fb w.heap.size w l V) (hk : kb < w.heap.size) (hl : lb < w.heap.size) (hf : fb < w.heap.size) (hm : mb < w.heap.size) (hC : CasAt w c sv ev) (hE : MapSt c ws mb w) (y : List Int) (hy : (fndL c ws l).2 = true ∨ priceC c ws y < priceC c ws (fndL c ws l).1) :
    BI c sv ev ws mb kb lb fb w.heap.size w (l ++ [y]) ((V.setRow (w.heap.size + 1 + 1) (chC y)).setCell ⟨w.heap.size + 1 + 1 + 1, 0, none⟩ (.bool false)) := by
  have e : fndL c ws (l ++ [y]) = (y, false) := by
    rw [fndL_snoc, if_pos]
    rcases hy with hy | hy
    · rw [hy]; rfl
    · simp [hy]
  have hoth : ∀ k, k < w.heap.size + 1 + 1 → ((V.setRow (w.heap.size + 1 + 1) (chC y)).setCell ⟨w.heap.size + 1 + 1 + 1, 0, none⟩ (.bool false)).heap[k]? = V.heap[k]? := fun k hk =>
    (heap_setCell_other _ (⟨w.heap.size + 1 + 1 + 1, 0, none⟩ : Addr) k _ (by show k ≠ w.heap.size + 1 + 1 + 1; omega)).trans (setRow_other _ _ _ _ (by omega))
  have hbm : Bm mb w ((V.setRow (w.heap.size + 1 + 1) (chC y)).setCell ⟨w.heap.size + 1 + 1 + 1, 0, none⟩ (.bool false)) :=
    ⟨h.bm.os, h.bm.tape, h.bm.output, by have := h.bm.size; simpa [World.setRow] using this, fun k hk hne => (hoth k (by omega)).trans (h.bm.block k hk hne)⟩
  refine ⟨?_, ?_, ⟨(hoth _ (by omega)).trans h.pst.ck, (hoth _ (by omega)).trans h.pst.cl, hC.kept (cells_bm hbm hE), h.pst.map.keep (hoth _ (by omega))⟩, (hoth _ (by omega)).trans h.pf, (hoth _ (by omega)).trans h.bet, (hoth _ (by omega)).trans h.res, hbm⟩
  · rw [e]
    exact (heap_setCell_other _ (⟨w.heap.size + 1 + 1 + 1, 0, none⟩ : Addr) _ _ (by show w.heap.size + 1 + 1 ≠ w.heap.size + 1 + 1 + 1; omega)).trans (h.found.put y)
  · rw [e]
    have h1 : (V.setRow (w.heap.size + 1 + 1) (chC y)).heap[w.heap.size + 1 + 1 + 1]? = _ := (setRow_other _ _ _ _ (by omega)).trans h.first
    exact heap_setCell_same _ (w.heap.size + 1 + 1 + 1) 0 _ _ (.bool false) h1
theorem keptO_put {W V : World} {kept : Nat → Prop} {a b : Nat} {C : Array Value} {v : Value} (ha : a < W.heap.size) (hb : b < W.heap.size) (hk : ∀ k, kept k → k ≠ a ∧ k ≠ b) : KeptO W.heap.size kept V ((V.setRow a C).setCell ⟨b, 0, none⟩ v) :=
  ⟨by simp [World.setRow], fun k _ hor => by
    have h : k ≠ a ∧ k ≠ b := by
      rcases hor with h | h
      · omega
      · exact hk k h
    exact (heap_setCell_other _ (⟨b, 0, none⟩ : Addr) k _ (by show k ≠ b; exact h.2)).trans (setRow_other _ _ _ _ h.1)⟩
theorem keptO_bm {B mb : Nat} {kept : Nat → Prop} {V V' : World} (h : Bm mb V V') (hm : mb < B) (hk : ¬ kept mb) : KeptO B kept V V' :=
  ⟨h.size, fun k hlt hor => h.block k hlt (fun e => by subst e; exact hor.elim (fun h => by omega) hk)⟩
def vlL {n : Nat} {x : List Int} (l : List (Lw n x)) : List (List Int) := l.map (·.1)
theorem vlL_snoc {n : Nat} {x : List Int} (l : List (Lw n x)) (y : Lw n x) : vlL (l ++ [y]) = vlL l ++ [y.1] := by simp [vlL]
theorem vlL_mem {n : Nat} {x : List Int} {l : List (Lw n x)} {z : List Int} (h : z ∈ vlL l) : ∃ q : Lw n x, q.1 = z := by
  obtain ⟨q, _, e⟩ := List.mem_map.1 h
  exact ⟨q, e⟩
set_option maxRecDepth 100000 in
set_option maxHeartbeats 4000000 in
theorem bestCh_any (c : Cas) (hv : Valid c) (sa : Option Addr) (sc : Nat) (ev : Value) (ws : List Int) (hw : ws.length = 16) (mb kb lb fb bl bx : Nat) (x : List Int) (hxl : x.length = 5) (hx1 : ∀ i, -900 ≤ x.getD i 0 ∧ x.getD i 0 ≤ 900) (w : World)
    (hP : PSt c (.slice sa c.shs.length sc) ev ws mb kb lb w) (hF : PFB kb lb fb w) (hL : LkBlk w bl c.tol (.slice sa c.shs.length sc) ev ws) (hX : ChBlk w bx x) :
    Calls Try.prog 90 #[.func (.func 106) #[] #[.pointer (some ⟨bl, 0, none⟩), .pointer (some ⟨bx, 0, none⟩)], .func (.func 92) #[] #[.pointer (some ⟨fb, 0, none⟩)]] w fun e w' => e = .returned (.agg (chC (nextC c ws x))) ∧ Bm mb w w' ∧ MapSt c ws mb w' := by
  have n5 := hv.n5
  have hz := (zero_of_info chZero).1
  obtain ⟨W, hW, q1, q2, q3, q4, hb, hs⟩ := al4e w (Obj.cells #[.func (.func 92) #[] #[.pointer (some ⟨fb, 0, none⟩)]] 135) (Obj.cells (chC z5) 96) (Obj.cells (chC z5) 96) (Obj.cells #[.bool true] 4)
  have HPW := Lib.hid (hP.below hb)
  have HFW : Hid (PFB kb lb fb W) := (hb.block _ (lt_of_block hF)).trans hF
  have HLW := Lib.hid (hL.below hb hL.lt)
  have HXW := Lib.hid (hX.below hb hX.lt)
  have HSO := Lib.hid (below1_O bl bx c.tol sa c.shs.length sc ev ws x hv.n5 hxl (fun i => by have := hx1 i; omega) W HLW.out HXW.out)
  have HBW := Lib.hid hb
  have HQ1 := Lib.hid q1
  have HQ2 : Hid (ChBlk W (w.heap.size + 1) z5) := q2
  have HQ3 : Hid (ChBlk W (w.heap.size + 1 + 1) z5) := q3
  have HQ4 := Lib.hid q4
  have HSZ := Lib.hid hs
  have HWW := Lib.hid hW
  have HV := Lib.hid hv
  have HW5 := Lib.hid hw
  have HXL := Lib.hid hxl
  have HX1 := Lib.hid hx1
  have HNX : Hid (nextC c ws x = (fndL c ws (belowL c.shs.length x)).1) := rfl
  have hbl := hL.lt
  have hbx := hX.lt
  have HMB : Hid (mb < w.heap.size ∧ mb ≠ bl ∧ mb ≠ bx) := by
    obtain ⟨es, k, h1, _⟩ := hP.map
    refine ⟨(Array.getElem?_eq_some_iff.1 h1).1, ?_, ?_⟩
    · rintro rfl; have h2 : w.heap[mb]? = _ := hL; rw [h1] at h2; cases h2
    · rintro rfl; have h2 : w.heap[mb]? = _ := hX; rw [h1] at h2; cases h2
  have HP0 := Lib.hid hP
  have HF0 := Lib.hid hF
  clear hW q1 q2 q3 q4 hb hs hP hF hL hX hv hw hxl hx1
  refine (callsIn_wide (n := 9)).1 ?_
  refine callsIn_of_wp_marks Try.func90 rfl trivial ?_ rfl
  simp only [Try.ntmps90, List.size_toArray, List.length_cons, List.length_nil, Nat.reduceAdd, Nat.reduceSub, Array.replicate_succ, Array.replicate_zero, List.push_toArray, List.append_toArray, List.nil_append, List.cons_append]
  gi_wp2_with fail
  rw [HWW.out]
  have HIN : Hid (BI c (.slice sa c.shs.length sc) ev ws mb kb lb fb w.heap.size w [] W) := ⟨HQ3.out, HQ4.out, HPW.out, HFW.out, HQ1.out, HQ2.out, Bm.of_below HBW.out⟩
  have HIO := Lib.hid (BI.own (c := c) (sv := (.slice sa c.shs.length sc)) (ev := ev) (ws := ws) (mb := mb) (kb := kb) (lb := lb) (fb := fb) (n0 := w.heap.size) (B := W.heap.size) (w := w) (by have := HMB.out.1; have := HSZ.out; omega) (by have := HSZ.out; omega) (fun pre : List (Lw c.shs.length x) => vlL pre))
  have HLWB : Hid (∀ y : Lw c.shs.length x, y.1.length = 5 ∧ ∀ i, -1000 ≤ y.1.getD i 0 ∧ y.1.getD i 0 ≤ 1000) := by
    rintro ⟨y, s, hs, rfl⟩
    refine ⟨by rw [lowBy_length]; exact HXL.out, fun i => ?_⟩
    have := HX1.out i
    rw [lowBy_get _ _ _ (by rw [HXL.out]; omega)]
    split <;> omega
  refine wpIn_rangeFunc_O (gf := 106) (lb := #[.pointer (some ⟨bl, 0, none⟩), .pointer (some ⟨bx, 0, none⟩)]) rfl (enters_of Try.func106 (by kernel_rfl) rfl) HSO.out (Below.refl _ _) (fun _ => rfl)
    (by have := HSZ.out; rintro k (rfl | rfl) <;> omega)
    (fun pre V => BI c (.slice sa c.shs.length sc) ev ws mb kb lb fb w.heap.size w (vlL pre) V) HIO.out HIN.out
    (fun y a' V => ∃ B, w.heap.size + 4 ≤ B ∧ ChBlk V B y.1 ∧ a' = { tmps := #[.func (.func 106) #[] #[.pointer (some ⟨bl, 0, none⟩), .pointer (some ⟨bx, 0, none⟩)], .func (.func 92) #[] #[.pointer (some ⟨fb, 0, none⟩)], undef, .pointer (some ⟨w.heap.size, 0, none⟩), .pointer (some ⟨w.heap.size + 1, 0, none⟩), .pointer (some ⟨w.heap.size + 1 + 1, 0, none⟩), .pointer (some ⟨w.heap.size + 1 + 1 + 1, 0, none⟩), .pointer (some ⟨B, 0, none⟩), .func (.func 106) #[] #[.pointer (some ⟨bl, 0, none⟩), .pointer (some ⟨bx, 0, none⟩)], .agg (chC y.1), undef, undef, undef, undef, undef, undef, undef, undef, undef], defers := [] })
    ?hAx ?assign ?body ?done
  case hAx =>
    rintro y a' _ X Y row ⟨B, h1, h2, h3⟩ hg hr
    exact ⟨B, h1, chBlk_own B (fun _ : Unit => y.1) () X Y row h2 hg (fun r e => (hr r e).2), h3⟩
  case assign =>
    rintro l m pre y V K hI hK
    have N0 : Hid (ChBlk (V.alloc (Obj.cells (chC z5) 96)) V.heap.size z5) := heap_alloc_new V _
    have hba : Below V.heap.size V (V.alloc (Obj.cells (chC z5) 96)) := (Below.refl _ _).alloc (Nat.le_refl _) _
    have WS : Hid (Below V.heap.size V ((V.alloc (Obj.cells (chC z5) 96)).setRow V.heap.size (chC y.1))) := below_setRow hba (Nat.le_refl _) _
    have M3 : Hid (ChBlk ((V.alloc (Obj.cells (chC z5) 96)).setRow V.heap.size (chC y.1)) V.heap.size y.1) := N0.out.put y.1
    have HI := Lib.hid hI
    have HK := Lib.hid hK
    have hVs : w.heap.size + 4 ≤ V.heap.size := by have := lt_of_block hI.first; omega
    have HVS := Lib.hid hVs
    unfold encL
    clear hba hI hK hVs
    gi_wp2_with (refine chIn_store rfl (.tmp 7) (.tmp 9) rfl V.heap.size rfl y.1 z5 rfl N0.out (HLWB.out y).1 rfl rfl ?_)
    exact HK.out _ _ (keptO_of_below WS.out) (own_kept (s := pre) HIO.out HI.out WS.out) ⟨V.heap.size, HVS.out, M3.out, rfl⟩
  case body =>
    rintro l m pre y a' V hl hI ⟨B, hB, hy, rfl⟩ hlen
    have HI := Lib.hid hI
    have HY := Lib.hid hy
    have hfd := fndL_bd c ws (vlL pre) (fun z hz => by obtain ⟨q, rfl⟩ := vlL_mem hz; exact HLWB.out q)
    have HFD := Lib.hid hfd
    have f0 := cellOf hI.first 0 _ rfl
    have b0 := cellOf hI.bet 0 _ rfl
    have fl := lt_of_block hI.first
    have hfr := frozen_of_row _ _ 0 _ _ hI.first
    clear hI hy hfd
    cases hfst : (fndL c ws (vlL pre)).2
    · rw [hfst] at f0
      have HCH := Lib.hid (cheaper_any c HV.out (.slice sa c.shs.length sc) ev ws HW5.out mb kb lb fb y.1 (fndL c ws (vlL pre)).1 (HLWB.out y).1 HFD.out.1 (HLWB.out y).2 HFD.out.2 V HI.out.pst HI.out.pf)
      have HFST := Lib.hid hfst
      clear hfst
      try simp only
      gi_wp2_with (first | (refine chIn_loadw (by rfl) (.tmp 7) rfl B rfl y.1 HY.out (HLWB.out y).1 ?_) | (refine chIn_loadw (by rfl) (.tmp 5) rfl (w.heap.size + 1 + 1) rfl _ HI.out.found HFD.out.1 ?_))
      refine ⟨trivial, fun h => (by cases h), ?_⟩
      refine (callsIn_wide.2 HCH.out).mono ?_
      rintro e V6 ⟨rfl, hbm, hmp⟩
      have HI6 := Lib.hid (HI.out.step hbm hmp)
      have HY6 := Lib.hid (blk_bm hbm HI.out.pst.map HY.out)
      have HBM := Lib.hid hbm
      have f0 := cellOf HI6.out.first 0 _ rfl
      have fl := lt_of_block HI6.out.first
      have hfr := frozen_of_row _ _ 0 _ _ HI6.out.first
      clear hbm hmp HCH
      by_cases hlt : priceC c ws y.1 < priceC c ws (fndL c ws (vlL pre)).1
      · have qd : decide (priceC c ws y.1 < priceC c ws (fndL c ws (vlL pre)).1) = true := decide_eq_true hlt
        rw [qd]
        have HLT := Lib.hid hlt
        clear qd hlt
        have F2 : Hid ((V6.setRow (w.heap.size + 1 + 1) (chC y.1)).heap[w.heap.size + 1 + 1 + 1]? = some (.cells #[.bool (fndL c ws (vlL pre)).2] 4 (0, 0))) := (setRow_other _ _ _ _ (by omega)).trans HI6.out.first
        have HFN := Lib.hid HI6.out.found
        gi_wp2_with (first
          | (refine chIn_loadw (by rfl) (.tmp 7) rfl B rfl y.1 HY6.out (HLWB.out y).1 ?_)
          | (refine chIn_store rfl (.tmp 5) (.tmp 17) rfl (w.heap.size + 1 + 1) rfl y.1 _ rfl HFN.out (HLWB.out y).1 HFD.out.1 rfl ?_; generalize hWS : V6.setRow (w.heap.size + 1 + 1) (chC y.1) = V2 at *; have HWS := Lib.hid hWS; clear hWS; have g0 := cellOf F2.out 0 _ rfl; have gl := lt_of_block F2.out; have gr := frozen_of_row _ _ 0 _ _ F2.out))
        rw [← HWS.out]
        have hsz := HSZ.out
        have hmb := HMB.out
        have hput := HI6.out.put (lt_of_block HP0.out.ck) HP0.out.cl.lt (lt_of_block HF0.out) HMB.out.1 HP0.out.cas HP0.out.map y.1 (.inr HLT.out)
        exact ⟨(keptO_bm HBM.out (by omega) (fun h => h.elim hmb.2.1 hmb.2.2)).trans (keptO_put (by omega) (by omega) (by rintro k (rfl | rfl) <;> omega)), show BI _ _ _ _ _ _ _ _ _ _ _ _ from (vlL_snoc pre y).symm ▸ hput⟩
      · have qd : decide (priceC c ws y.1 < priceC c ws (fndL c ws (vlL pre)).1) = false := decide_eq_false hlt
        rw [qd]
        have HLT := Lib.hid hlt
        clear qd hlt
        gi_wp2_with fail
        have hsz := HSZ.out
        have hmb := HMB.out
        have e : fndL c ws (vlL pre ++ [y.1]) = fndL c ws (vlL pre) := by rw [fndL_snoc, HFST.out, if_neg (by simp; have := HLT.out; omega)]
        refine ⟨(keptO_bm HBM.out (by omega) (fun h => h.elim hmb.2.1 hmb.2.2)), ?_⟩
        have h6 := HI6.out
        show BI _ _ _ _ _ _ _ _ _ _ (vlL (pre ++ [y])) _
        rw [vlL_snoc]
        refine ⟨?_, ?_, h6.pst, h6.pf, h6.bet, h6.res, h6.bm⟩
        · exact e.symm ▸ h6.found
        · exact e.symm ▸ h6.first
    · have HFST := Lib.hid hfst
      rw [hfst] at f0
      clear hfst
      try simp only
      have F2 : Hid ((V.setRow (w.heap.size + 1 + 1) (chC y.1)).heap[w.heap.size + 1 + 1 + 1]? = some (.cells #[.bool (fndL c ws (vlL pre)).2] 4 (0, 0))) := (setRow_other _ _ _ _ (by omega)).trans HI.out.first
      have HFN := Lib.hid HI.out.found
      gi_wp2_with fail
      refine ⟨fun _ h => (by cases h), ?_⟩
      gi_wp2_with (first
        | (refine chIn_loadw (by rfl) (.tmp 7) rfl B rfl y.1 HY.out (HLWB.out y).1 ?_)
        | (refine chIn_store rfl (.tmp 5) (.tmp 17) rfl (w.heap.size + 1 + 1) rfl y.1 _ rfl HFN.out (HLWB.out y).1 HFD.out.1 rfl ?_; generalize hWS : V.setRow (w.heap.size + 1 + 1) (chC y.1) = V2 at *; have HWS := Lib.hid hWS; clear hWS; have g0 := cellOf F2.out 0 _ rfl; have gl := lt_of_block F2.out; have gr := frozen_of_row _ _ 0 _ _ F2.out))
      rw [← HWS.out]
      have hsz := HSZ.out
      have hmb := HMB.out
      have hput := HI.out.put (lt_of_block HP0.out.ck) HP0.out.cl.lt (lt_of_block HF0.out) HMB.out.1 HP0.out.cas HP0.out.map y.1 (.inl HFST.out)
      exact ⟨(keptO_put (by omega) (by omega) (by rintro k (rfl | rfl) <;> omega)), show BI _ _ _ _ _ _ _ _ _ _ _ _ from (vlL_snoc pre y).symm ▸ hput⟩
  case done =>
    rintro D ys V hD hys hI hK
    have HI := Lib.hid hI
    have HFIN : Hid ((fndL c ws (vlL ys)).1 = nextC c ws x) := by show _ = _; rw [HNX.out, ← hys]; rfl
    have HFD := Lib.hid (fndL_bd c ws (vlL ys) (fun z hz => by obtain ⟨q, rfl⟩ := vlL_mem hz; exact HLWB.out q))
    have HDK := Lib.hid hK
    clear hI hys
    gi_wp2_with (first
      | (refine chIn_load rfl (.tmp 5) rfl (w.heap.size + 1 + 1) rfl _ HI.out.found HFD.out.1 ?_)
      | (refine chIn_store rfl (.tmp 4) (.tmp 18) rfl (w.heap.size + 1) rfl (fndL c ws (vlL ys)).1 z5 rfl HI.out.res HFD.out.1 rfl rfl ?_))
    have hK2 : (V.setRow (w.heap.size + 1) (chC (fndL c ws (vlL ys)).1)).heap[D]? = some (.deferred (some [])) := (setRow_other _ _ _ _ (by have := HSZ.out; omega)).trans HDK.out
    have hB2 : Bm mb w ((V.setRow (w.heap.size + 1) (chC (fndL c ws (vlL ys)).1)).putObj D (.deferred none)) :=
      ⟨HI.out.bm.os, HI.out.bm.tape, HI.out.bm.output, by have := HI.out.bm.size; simpa [World.setRow, World.putObj] using this, fun k hk hne => (World.putObj_heap_other (by have := HSZ.out; omega)).trans ((setRow_other _ _ _ _ (by omega)).trans (HI.out.bm.block k hk hne))⟩
    refine ⟨by simp, .inl ⟨_, _, rfl, run_takeDeferred hK2, ?_⟩⟩
    refine ⟨_, ch_result rfl _ _ (w.heap.size + 1) (fndL c ws (vlL ys)).1 rfl ((World.putObj_heap_other (by have := HSZ.out; omega)).trans (HI.out.res.put _)) HFD.out.1, by rw [HFIN.out], hB2, HI.out.pst.map.keep ?_⟩
    exact (World.putObj_heap_other (by have := HSZ.out; have := HMB.out.1; omega)).trans (setRow_other _ _ _ _ (by have := HMB.out.1; omega))
end Go.Proofs.Ytojdocomkhihoaa
