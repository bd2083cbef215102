/- How far heights can be apart: bounds and apart of package sheet. -/
import Derived.Test.YtacmaddjpaebfaaGreatDoorIter
import Derived.Test.YtacmaddjpaebfaaGreatDoorMat
import Derived.Shelf.RegionOpen
import Derived.Test.YtacmaddjpaebfaaGreatDoorRound
set_option linter.unusedSimpArgs false
set_option linter.unusedVariables false
namespace Go.Proofs.YtacmaddjpaebfaaGreatDoor
open Go Go.RowKit Go.Shelf Hs
attribute [local go_sem] Oper.semAt_some

/-- One bound lessens a matrix. -/
def apB (q : List Int) (x : Bd3) : List Int := q.set (x.1.val * 9 + x.2.1.val) (if cl x.2.2 < q[x.1.val * 9 + x.2.1.val]?.getD 0 then cl x.2.2 else q[x.1.val * 9 + x.2.1.val]?.getD 0)
theorem apB_length (q : List Int) (x : Bd3) : (apB q x).length = q.length := by simp [apB]
def apL (l : List Bd3) : List Int := l.foldl apB unbFar
theorem apL_length (l : List Bd3) : (apL l).length = 81 := by
  unfold apL
  suffices h : ∀ q : List Int, q.length = 81 → (l.foldl apB q).length = 81 from h _ unbFar_length
  induction l with
  | nil => intro q hq; exact hq
  | cons x l ih => intro q hq; exact ih _ (by rw [apB_length, hq])
theorem apL_snoc (l : List Bd3) (x : Bd3) : apL (l ++ [x]) = apB (apL l) x := by simp [apL]

set_option maxHeartbeats 1000000 in
theorem bounds_in (n : Nat) (iv wd : Int) (pa qa : Option Addr) (pn pc qn qc : Nat) (w : World) :
    CallsIn Fence.wide n Tryz.prog 117 #[lookedV iv (.slice pa pn pc) (.slice qa qn qc) wd] w fun e w' => e = .returned (.func (.func 131) #[] #[.pointer (some ⟨w.heap.size, 0, none⟩)]) ∧ w.alloc (.cells #[.int .i64 iv, .slice pa pn pc, .slice qa qn qc, .int .i64 wd] 80) = w' := by
  refine callsIn_of_wp Tryz.func117 rfl trivial ?_ rfl
  simp only [Tryz.ntmps117, List.size_toArray, List.length_cons, List.length_nil, Nat.reduceAdd, Nat.reduceSub, Array.replicate_succ, Array.replicate_zero, List.push_toArray, List.append_toArray, List.nil_append, List.cons_append]
  gi_wp2
  go_ret
  exact ⟨rfl, rfl⟩

theorem bounds_stops (n : Nat) (hn : 1 ≤ n) (Bl Bf n0 : Nat) (hBl : Bl ≠ Bf) (hn0 : n0 ≤ Bf) (iv wd : Int) (pa : Option Addr) (pn pc : Nat) (qv : Value) (notes : List Note)
    (hwd : 0 ≤ wd ∧ wd ≤ 9000) (hiv : 1 ≤ iv ∧ iv ≤ 1000) (hok : ∀ x, x ∈ notes → NoteOk iv x) (w : World) (hBf : Bf < w.heap.size) (hBl' : Bl < w.heap.size)
    (hL : w.heap[Bl]? = some (.cells #[.int .i64 iv, .slice pa pn pc, qv, .int .i64 wd] 80 (0, 0))) (hN : NotesAt n0 w qv notes) :
    SeqStopsK Fence.wide n Tryz.prog 131 #[.pointer (some ⟨Bl, 0, none⟩)] encB (Kpc Bf) (fun ys => ys = bdsL iv wd notes) (fun _ => True) (2 * notes.length) w := fun l J Jx W hW hJ _ hY h0 =>
  bounds1_in n hn l Bl Bf n0 hBl hn0 iv wd pa pn pc qv notes J Jx hwd hiv hok W (Nat.lt_of_lt_of_le hBf hW.size) hJ hY ((hW.block Bl hBl').trans hL) (hN.below (hW.mono (by omega))) h0

theorem FarBlk.putObj {w : World} {b : Nat} {m : List Int} (h : FarBlk w b m) (l : Nat) (o : Obj) (hne : b ≠ l) : FarBlk (w.putObj l o) b m := by
  unfold FarBlk
  simp only [World.putObj]
  rw [Array.getElem?_setIfInBounds_ne (Ne.symm hne)]
  exact h
theorem farBlk_own {β : Type} (b : Nat) (f : β → List Int) : Own (fun s W => FarBlk W b (f s)) := by
  intro s X Y row h hg hr
  refine (hg.block b h.lt (fun e => ?_)).trans h
  obtain ⟨o, ho, hc⟩ := hr b e.symm
  have h' : X.heap[b]? = _ := h
  rw [h'] at ho; cases ho; cases hc

theorem farIn_load {F : Fence} {n : Nat} {ops : Array Oper} {rest : List Oper} {o : Oper} {a : Act} {w : World} {Q : Exit → Act → World → Prop} (hgd : o.guard = none) (x : Operand) (ho : o.op = .load 99 x)
    (g : Nat) (hx : a.eval x = .pointer (some ⟨g, 0, none⟩)) (m : List Int) (hF : FarBlk w g m) (hm : m.length = 81)
    (h : wpListIn F n Tryz.prog ops Q rest (a.put o.dst (.agg (cs m))) w) : wpListIn F n Tryz.prog ops Q (o :: rest) a w := by
  refine wpListIn_plain hgd fun K hK => ?_
  unfold Oper.wpIn
  refine ⟨?_, ?_⟩
  · simp [Oper.about, ho]
  · rw [Oper.semAt_plain F _ _ (by rw [ho]; intro c hc'; cases hc')]
    unfold execOp
    simp only [ho, hx, Instr.loadAt, Instr.sureAddr, Sem.run_bind, Sem.run_pure, Result.andThen_ok, run_loadVar_row (P := Tryz.prog) w g 99 99 (cs m) (0, 0) _ hF Tryz.underlying99 rfl (by rw [farSize, cs_size, hm])]
    exact hK _ _ h
theorem farIn_store {F : Fence} {n : Nat} {ops : Array Oper} {rest : List Oper} {o : Oper} {a : Act} {w : World} {Q : Exit → Act → World → Prop} (hgd : o.guard = none) (x y : Operand) (ho : o.op = .store 99 x y)
    (g : Nat) (hx : a.eval x = .pointer (some ⟨g, 0, none⟩)) (m old : List Int) (hy : a.eval y = .agg (cs m)) (hF : FarBlk w g old) (hm : m.length = 81) (ho' : old.length = 81) (hd : o.dst = none)
    (h : wpListIn F n Tryz.prog ops Q rest a (w.setRow g (cs m))) : wpListIn F n Tryz.prog ops Q (o :: rest) a w := by
  refine wpListIn_plain hgd fun K hK => ?_
  unfold Oper.wpIn
  refine ⟨?_, ?_⟩
  · simp [Oper.about, ho]
  · rw [Oper.semAt_plain F _ _ (by rw [ho]; intro c hc'; cases hc')]
    unfold execOp
    simp only [ho, hx, hy, Instr.storeAt, Instr.sureAddr, Sem.run_bind, Sem.run_pure, Result.andThen_ok, run_storeVar_row w g 99 99 (cs old) (cs m) hF (by rw [farSize, cs_size, hm]) (by rw [cs_size, cs_size, hm, ho']) (cs_one m)]
    exact hK _ _ (by rw [hd]; exact h)

set_option maxRecDepth 100000 in
set_option maxHeartbeats 4000000 in
theorem apart_in (iv wd : Int) (pa qa : Option Addr) (pn pc qc : Nat) (notes : List Note) (w : World) (hwd : 0 ≤ wd ∧ wd ≤ 9000) (hiv : 1 ≤ iv ∧ iv ≤ 1000) (hok : ∀ x, x ∈ notes → NoteOk iv x)
    (hN : NotesAt w.heap.size w (.slice qa notes.length qc) notes) (R : List Int) (b : Bool)
    (hT : ∀ w1, Calls Tryz.prog 118 #[.agg (cs (apL (bdsL iv wd notes)))] w1 fun e w' => e = .returned (.tuple #[.agg (cs R), .bool b]) ∧ Below w1.heap.size w1 w') (hR : R.length = 81) :
    Calls Tryz.prog 98 #[lookedV iv (.slice pa pn pc) (.slice qa notes.length qc) wd] w fun e w' => e = .returned (.tuple #[.agg (cs R), .bool b]) ∧ Below w.heap.size w w' := by
  have hz := (zero_of_info zeroInfo).1
  have HT := Lib.hid hT
  have HOK := Lib.hid hok
  have HN := Lib.hid hN
  have HR := Lib.hid hR
  clear hT hok hN hR
  refine (callsIn_wide (n := 4)).1 ?_
  refine callsIn_of_wp_marks Tryz.func98 rfl trivial ?_ rfl
  simp only [Tryz.ntmps98, List.size_toArray, List.length_cons, List.length_nil, Nat.reduceAdd, Nat.reduceSub, Array.replicate_succ, Array.replicate_zero, List.push_toArray, List.append_toArray, List.nil_append, List.cons_append]
  gi_wp2_with fail
  refine ⟨trivial, ?_⟩
  refine (callsIn_wide.2 (unbound_any _)).mono ?_
  rintro e w1 ⟨rfl, hb1⟩
  have k1 : FarBlk w1 (w.heap.size + 1) z81 := FarBlk.below (FarBlk.new' (w.alloc (Obj.cells #[.int .i64 iv, .slice pa pn pc, .slice qa notes.length qc, .int .i64 wd] 80)) z81 (w.heap.size + 1) (by simp)) hb1 (by simp)
  have kL : w1.heap[w.heap.size]? = some (.cells #[.int .i64 iv, .slice pa pn pc, .slice qa notes.length qc, .int .i64 wd] 80 (0, 0)) := (hb1.block _ (by simp; omega)).trans (heap_alloc2_old _ _ _)
  have hB1 : Below w.heap.size w w1 := (((Below.refl _ _).alloc (Nat.le_refl _) _).alloc (by simp) _).trans (hb1.mono (by simp; omega))
  have hs1 := hb1.size
  simp only [World.size_alloc] at hs1
  clear hb1
  have n1 : FarBlk (w1.alloc (Obj.cells (cs z81) 99)) w1.heap.size z81 := FarBlk.new w1 z81
  have e0 := cellOf kL 0 _ rfl
  have e1 := cellOf kL 1 _ rfl
  have e2 := cellOf kL 2 _ rfl
  have e3 := cellOf kL 3 _ rfl
  have u0 : w.heap.size < w1.heap.size := by omega
  have u1 : w.heap.size ≠ w1.heap.size := by omega
  have f0 : ((w1.alloc (Obj.cells (cs z81) 99)).setRow w1.heap.size (cs unbFar)).heap[w.heap.size]? = some (.cells #[.int .i64 iv, .slice pa pn pc, .slice qa notes.length qc, .int .i64 wd] 80 (0, 0)) := (setRow_other _ _ _ _ u1).trans ((Below.heap_alloc _ _ _ u0).trans kL)
  have v0 := cellOf f0 0 _ rfl
  have v1 := cellOf f0 1 _ rfl
  have v2 := cellOf f0 2 _ rfl
  have v3 := cellOf f0 3 _ rfl
  have fF := n1.put unbFar
  have fZ := (k1.alloc (Obj.cells (cs z81) 99)).putOther (b' := w1.heap.size) (by omega) unbFar
  have fB := below_setRow (hB1.alloc hB1.size (Obj.cells (cs z81) 99)) hB1.size (cs unbFar)
  have fs : ((w1.alloc (Obj.cells (cs z81) 99)).setRow w1.heap.size (cs unbFar)).heap.size = w1.heap.size + 1 := by simp
  gi_wp2_with (refine farIn_store rfl (.tmp 4) (.tmp 6) rfl w1.heap.size rfl unbFar z81 rfl n1 unbFar_length rfl rfl ?_)
  generalize (w1.alloc (Obj.cells (cs z81) 99)).setRow w1.heap.size (cs unbFar) = W2 at *
  clear n1 e0 e1 e2 e3 hB1 k1 kL
  have hBf : w1.heap.size < W2.heap.size := by omega
  have hNW : NotesAt w.heap.size W2 (.slice qa notes.length qc) notes := HN.out.below fB
  refine ⟨trivial, ?_⟩
  refine (bounds_in 3 iv wd pa qa pn pc notes.length qc _).mono ?_
  rintro e w3 ⟨rfl, rfl⟩
  have gF := fF.alloc (.cells #[.int .i64 iv, .slice pa pn pc, .slice qa notes.length qc, .int .i64 wd] 80)
  have gZ := fZ.alloc (.cells #[.int .i64 iv, .slice pa pn pc, .slice qa notes.length qc, .int .i64 wd] 80)
  have gB := fB.alloc fB.size (.cells #[.int .i64 iv, .slice pa pn pc, .slice qa notes.length qc, .int .i64 wd] 80)
  have gL := heap_alloc_new W2 (.cells #[.int .i64 iv, .slice pa pn pc, .slice qa notes.length qc, .int .i64 wd] 80)
  have gs : (W2.alloc (.cells #[.int .i64 iv, .slice pa pn pc, .slice qa notes.length qc, .int .i64 wd] 80)).heap.size = W2.heap.size + 1 := by simp
  have gN : NotesAt w.heap.size (W2.alloc (.cells #[.int .i64 iv, .slice pa pn pc, .slice qa notes.length qc, .int .i64 wd] 80)) (.slice qa notes.length qc) notes := HN.out.below gB
  generalize W2.alloc (.cells #[.int .i64 iv, .slice pa pn pc, .slice qa notes.length qc, .int .i64 wd] 80) = W3 at gF gZ gB gL gs gN ⊢
  gi_wp2_with fail
  rw [fs] at gL
  have hstop := bounds_stops 3 (by omega) (w1.heap.size + 1) w1.heap.size w.heap.size (by omega) (by omega) iv wd pa pn pc (.slice qa notes.length qc) notes hwd hiv HOK.out W3 (by omega) (by omega) gL gN
  refine wpIn_rangeFunc_ownH rfl (by omega) (gf := 131) (lb := #[.pointer (some ⟨w1.heap.size + 1, 0, none⟩)]) rfl trivial (enters_of Tryz.func131 (by kernel_rfl) rfl)
    hstop (fun h k => h.trans k) (fun W l o o' _ hl ho _ => Kpc.putObj _ W l o o' hl ho) (Below.refl _ _) (fun _ => rfl)
    (fun pre W => (FarBlk W w1.heap.size (apL pre) ∧ FarBlk W (w.heap.size + 1) z81) ∧ Below w.heap.size w W)
    (fun _ _ _ => False)
    (OwnFrom.and (OwnFrom.and (Own.from (farBlk_own _ _) _) (Own.from (farBlk_own _ (fun _ => z81)) _)) (ownFrom_below (Nat.le_refl _) (by omega)))
    (fun _ _ _ _ _ hs _ _ => hs)
    ⟨⟨gF, gZ⟩, gB⟩
    (fun x a' W => ∃ Bx, (Bx ≠ w1.heap.size ∧ Bx ≠ w.heap.size + 1) ∧ W.heap[Bx]? = some (.cells #[.int .i64 (x.1 : Nat), .int .i64 (x.2.1 : Nat), .int .i64 (cl x.2.2)] 160 (0, 0)) ∧ a' = { tmps := #[lookedV iv (.slice pa pn pc) (.slice qa notes.length qc) wd, .pointer (some ⟨w.heap.size, 0, none⟩), .pointer (some ⟨w.heap.size + 1, 0, none⟩), .bool false, .pointer (some ⟨w1.heap.size, 0, none⟩), .pointer (some ⟨Bx, 0, none⟩), .agg (cs unbFar), .agg #[.int .i64 iv, .slice pa pn pc, .slice qa notes.length qc, .int .i64 wd], .func (.func 131) #[] #[.pointer (some ⟨w1.heap.size + 1, 0, none⟩)], .agg #[.int .i64 (x.1 : Nat), .int .i64 (x.2.1 : Nat), .int .i64 (cl x.2.2)], undef, undef, undef, undef, undef, undef, undef, undef, undef, undef, undef, undef, undef, undef, undef, undef, undef, undef, undef, undef], defers := [] })
    ?hAx ?assign ?body ?done ?stop
  case hAx =>
    rintro x a' _ X Y row ⟨Bx, h1, h2, h3⟩ hg hr
    refine ⟨Bx, h1, (hg.block Bx (lt_of_block h2) (fun e => ?_)).trans h2, h3⟩
    obtain ⟨_, o, ho, hc⟩ := hr Bx e.symm
    rw [h2] at ho; cases ho; cases hc
  case assign =>
    rintro l pre x W K ⟨⟨iF, iZ⟩, iB⟩ hK
    unfold encB
    gi_wp2
    exact hK _ _ ((KeepsOthers.alloc _ _).from _) (Kpc.of_below ((Below.refl _ W).alloc (Nat.le_refl _) _)) ⟨⟨iF.alloc _, iZ.alloc _⟩, iB.alloc iB.size _⟩ ⟨W.heap.size, ⟨by have := iF.lt; omega, by have := iZ.lt; omega⟩, heap_alloc_new W _, rfl⟩
  case body =>
    rintro l pre ⟨⟨i, hi⟩, ⟨j, hj⟩, mo⟩ a' W hl ⟨r, hr⟩ ⟨⟨iF, iZ⟩, iB⟩ ⟨Bx, ⟨nx1, nx2⟩, hX, rfl⟩ hlt
    have x0 : W.cell? ⟨Bx, 0, none⟩ = some (.int .i64 i) := cellOf hX 0 _ rfl
    have x1 : W.cell? ⟨Bx, 1, none⟩ = some (.int .i64 j) := cellOf hX 1 _ rfl
    have x2 : W.cell? ⟨Bx, 2, none⟩ = some (.int .i64 (cl mo)) := cellOf hX 2 _ rfl
    have HS := Lib.hid (apL_snoc pre (⟨i, hi⟩, ⟨j, hj⟩, mo))
    have hq := apL_length pre
    generalize apL pre = q at iF HS hq
    have c1 := iF.cell (i * 9 + j) (by rw [hq]; omega)
    have c2 := iF.free (i * 9 + j)
    have HA : Hid (apB q (⟨i, hi⟩, ⟨j, hj⟩, mo) = q.set (i * 9 + j) (if cl mo < q[i * 9 + j]?.getD 0 then cl mo else q[i * 9 + j]?.getD 0)) := rfl
    show Code.wpIn (Fence.wide.inRound l) 2 _ _ _ { tmps := #[lookedV iv (.slice pa pn pc) (.slice qa notes.length qc) wd, .pointer (some ⟨w.heap.size, 0, none⟩), .pointer (some ⟨w.heap.size + 1, 0, none⟩), .bool false, .pointer (some ⟨w1.heap.size, 0, none⟩), .pointer (some ⟨Bx, 0, none⟩), .agg (cs unbFar), .agg #[.int .i64 iv, .slice pa pn pc, .slice qa notes.length qc, .int .i64 wd], .func (.func 131) #[] #[.pointer (some ⟨w1.heap.size + 1, 0, none⟩)], .agg #[.int .i64 i, .int .i64 j, .int .i64 (cl mo)], undef, undef, undef, undef, undef, undef, undef, undef, undef, undef, undef, undef, undef, undef, undef, undef, undef, undef, undef, undef], defers := [] } W
    generalize cl mo = mc at x2 HA ⊢
    clear hz HT HOK HN HR f0 v0 v1 v2 v3 fF fZ fB hNW gF gZ gB gL gN hq hX hr hlt hstop
    have i9 : (i : Int) < 9 := by omega
    have j9 : (j : Int) < 9 := by omega
    refine wpIn_block ?_
    refine wpIn_region_still_tail 16 (by kernel_rfl) (by kernel_rfl) (by kernel_rfl) (by rintro ⟨_, _, h⟩; exact h) ?_
    simp only [List.take_succ_cons, List.take_zero, List.drop_succ_cons, List.drop_zero]
    repeat still_step
    refine wpStill_nil ?_
    go_wp2
    · refine ⟨((KeepsOthers.setCell _ _ _).trans (KeepsOthers.drew _)).from _, (Kpc.setCell W _ _).trans (Kpc.drew _ _), ⟨?_, (iZ.other (by omega) _).drew⟩, (iB.setCell (p := ⟨w1.heap.size, i * 9 + j, none⟩) (show w.heap.size ≤ w1.heap.size by omega) _).drew⟩
      rw [HS.out, HA.out, if_pos (by assumption)]
      exact (iF.set _ _).drew
    · refine ⟨((KeepsOthers.setCell _ _ _).trans (KeepsOthers.drew _)).from _, (Kpc.setCell W _ _).trans (Kpc.drew _ _), ⟨?_, (iZ.other (by omega) _).drew⟩, (iB.setCell (p := ⟨w1.heap.size, i * 9 + j, none⟩) (show w.heap.size ≤ w1.heap.size by omega) _).drew⟩
      rw [HS.out, HA.out, if_neg (by omega)]
      exact (iF.set _ _).drew
  case done =>
    rintro D ys W hD rfl ⟨⟨iF, iZ⟩, iB⟩ hK
    have hq := Lib.hid (apL_length (bdsL iv wd notes))
    have hcall := HT.out W
    obtain ⟨q, HQ, iF, HC⟩ : ∃ q, Hid (q.length = 81) ∧ FarBlk W w1.heap.size q ∧ Hid (Calls Tryz.prog 118 #[.agg (cs q)] W fun e w' => e = .returned (.tuple #[.agg (cs R), .bool b]) ∧ Below W.heap.size W w') := ⟨_, hq, iF, hcall⟩
    clear hq hcall
    gi_wp2_with (refine farIn_load rfl (.tmp 4) rfl w1.heap.size rfl q iF HQ.out ?_)
    refine ⟨trivial, ?_⟩
    refine (callsIn_wide.2 HC.out).mono ?_
    rintro e w4 ⟨rfl, hb4⟩
    have jZ := iZ.below hb4 iZ.lt
    have jB := iB.trans (hb4.mono iB.size)
    have jK := (hb4.block D (lt_of_block hK)).trans hK
    clear iF iZ iB hK hb4
    gi_wp2_with (refine farIn_store rfl (.tmp 2) (.tmp 28) rfl (w.heap.size + 1) rfl R z81 rfl jZ HR.out rfl rfl ?_)
    have mF := jZ.put R
    have mB := below_setRow jB (show w.heap.size ≤ w.heap.size + 1 by omega) (cs R)
    have mK : (w4.setRow (w.heap.size + 1) (cs R)).heap[D]? = some (.deferred (some [])) := (setRow_other _ _ _ _ (by omega)).trans jK
    refine ⟨by simp, .inl ⟨_, _, rfl, run_takeDeferred mK, ?_⟩⟩
    exact ⟨_, far_result2 rfl _ _ (w.heap.size + 1) R rfl (mF.putObj D _ (by omega)) HR.out, rfl, mB.trans (belowK_b (w := w) (Nat.le_refl _) _ D _ _ (by omega) mK rfl rfl)⟩
  case stop =>
    rintro D c pre W _ _ h _
    exact h.elim
end Go.Proofs.YtacmaddjpaebfaaGreatDoor
