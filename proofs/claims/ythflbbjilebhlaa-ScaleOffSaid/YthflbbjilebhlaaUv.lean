/- Package scale: the models with those of the scales that fit on the board. -/
import Derived.Test.YthflbbjilebhlaaUu
import Derived.Test.YthflbbjilebhlaaUf
set_option linter.unusedSimpArgs false
set_option linter.unusedVariables false
namespace Go.Proofs.Ythflbbjilebhlaa
open Go Go.RowKit Go.Shelf Sc
attribute [local go_sem] Oper.semAt_some

theorem cell_same {w V : World} {p : Addr} {v : Value} (h : w.cell? p = some v) (hs : ∀ k, k < w.heap.size → V.heap[k]? = w.heap[k]?) : V.cell? p = some v :=
  (World.cell?_of_block (w := w) (hs p.block (World.block_lt_of_cell? w p h))).trans h
theorem IntsAt.same {w V : World} {v : Value} {l : List Int} (h : IntsAt w v l) (hs : ∀ k, k < w.heap.size → V.heap[k]? = w.heap[k]?) : IntsAt V v l := by
  obtain ⟨h1, a, cap, rfl, hc, h2⟩ := h
  refine ⟨h1, a, cap, rfl, hc, fun hne => ?_⟩
  obtain ⟨b, o, rfl, hk⟩ := h2 hne
  exact ⟨b, o, rfl, fun k h => cell_same (hk k h) hs⟩
theorem PairsAt.same {w V : World} {v : Value} {l : List (Int × Int)} (h : PairsAt w v l) (hs : ∀ k, k < w.heap.size → V.heap[k]? = w.heap[k]?) : PairsAt V v l := by
  obtain ⟨h1, a, cap, rfl, hc, h2⟩ := h
  refine ⟨h1, a, cap, rfl, hc, fun hne => ?_⟩
  obtain ⟨b, o, rfl, hk⟩ := h2 hne
  exact ⟨b, o, rfl, fun k h => ⟨cell_same (hk k h).1 hs, cell_same (hk k h).2 hs⟩⟩
theorem MrksAt.same {w V : World} {v : Value} {l : List Mrk} (h : MrksAt w v l) (hs : ∀ k, k < w.heap.size → V.heap[k]? = w.heap[k]?) : MrksAt V v l := by
  obtain ⟨h1, a, cap, rfl, hc, h2⟩ := h
  refine ⟨h1, a, cap, rfl, hc, fun hne => ?_⟩
  obtain ⟨b, o, rfl, hk⟩ := h2 hne
  exact ⟨b, o, rfl, fun k h => ⟨cell_same (hk k h).1 hs, cell_same (hk k h).2.1 hs, cell_same (hk k h).2.2 hs⟩⟩
theorem CseAt.same {w V : World} {c : Cse} {hv rv : Value} (h : CseAt w c hv rv) (hs : ∀ k, k < w.heap.size → V.heap[k]? = w.heap[k]?) : CseAt V c hv rv := ⟨h.hs.same hs, h.rd.same hs⟩
theorem same_own {β : Type} {B : Nat} {w : World} (hn : w.heap.size ≤ B) : OwnFrom B (fun (_ : β) V => ∀ k, k < w.heap.size → V.heap[k]? = w.heap[k]?) := by
  intro s X Y row h hg hr k hk
  have hx : k < X.heap.size := by
    have h1 := h k hk
    rw [Array.getElem?_eq_getElem hk] at h1
    exact (Array.getElem?_eq_some_iff.1 h1).1
  exact (hg.block k hx (fun e => by have := (hr k e.symm).1; omega)).trans (h k hk)
/-- An operation that is no call, within a fence. -/
theorem wpListIn_run {F : Fence} {n : Nat} {P : Program} {ops : Array Oper} {rest : List Oper} {o : Oper} {a : Act} {w : World} {Q : Exit → Act → World → Prop} (hg : o.guard = none) (ha : o.about P w a.eval = none) (hd : ∀ c, o.op ≠ .defer c)
    (w' : World) (hrun : (execOp a.eval o).run P w = .ok .skip w') (h : wpListIn F n P ops Q rest (a.put o.dst undef) w') : wpListIn F n P ops Q (o :: rest) a w := by
  refine wpListIn_plain hg fun K hK => ?_
  unfold Oper.wpIn
  refine ⟨fun f hf => (by rw [ha] at hf; cases hf), ?_⟩
  rw [Oper.semAt_plain F _ _ hd, hrun, Oper.uponIn_skip]
  exact hK _ _ h
theorem md_storeIn {F : Fence} {n : Nat} {ops : Array Oper} {rest : List Oper} {o : Oper} {a : Act} {w : World} {Q : Exit → Act → World → Prop} (hgd : o.guard = none) (x y : Operand) (ho : o.op = .store 99 x y)
    (g : Nat) (hx : a.eval x = .pointer (some ⟨g, 0, none⟩)) (cells old : Array Value) (hy : a.eval y = .agg cells) (hF : w.heap[g]? = some (.cells old 99 (0, 0))) (hs : cells.size = 17) (hs' : old.size = 17) (h1 : cells.all (·.oneCell') = true) (hd : o.dst = none)
    (h : wpListIn F n Try.prog ops Q rest a (w.setRow g cells)) : wpListIn F n Try.prog ops Q (o :: rest) a w := by
  refine wpListIn_run hgd (by simp [Oper.about, ho]) (by rw [ho]; intro c e; cases e) (w.setRow g cells) ?_ (by rw [hd]; exact h)
  unfold execOp
  simp only [ho, hx, hy, Instr.storeAt, Instr.sureAddr, Sem.run_bind, Sem.run_pure, Result.andThen_ok, run_storeVar_row (P := Try.prog) w g 99 99 old cells hF (by rw [mdSize, hs]) (by rw [hs, hs']) h1]
def encM (c : Cse) (hv rv : Value) (s : Scl) : Array Value := #[.agg (mdC (mdP c hv rv s) (cut8 c s))]
/-- Those of the scales that fit. -/
def fitL (c : Cse) (l : List Scl) : List Scl := l.filter (fitsB c)
theorem fitL_yes {c : Cse} {l : List Scl} {s : Scl} (h : fitsB c s = true) : fitL c (l ++ [s]) = fitL c l ++ [s] := by simp [fitL, h]
theorem fitL_no {c : Cse} {l : List Scl} {s : Scl} (h : fitsB c s = false) : fitL c (l ++ [s]) = fitL c l := by simp [fitL, h]
theorem fitL_pre {c : Cse} {l r : List Scl} (h : l <+: r) : fitL c l <+: fitL c r := List.IsPrefix.filter _ h
set_option maxRecDepth 100000 in
set_option maxHeartbeats 8000000 in
theorem models_Y (c : Cse) (hv rv : Value) (f t : Scl) (kept : Nat → Prop) (ob : Option Nat) (bS bL bf bt : Nat) (w0 w : World) (hb0 : Below w0.heap.size w0 w) (hC0 : CseAt w0 c hv rv) (hV : Valid c)
    (hk0 : ∀ k, k < w0.heap.size → kept k) (hkL : kept bL) (hkw : ∀ k, kept k → k < w.heap.size)
    (hf : 0 ≤ f.1 ∧ f.1 ≤ 30 ∧ 0 ≤ f.2 ∧ f.2 ≤ 30 ∧ 1 ≤ f.1 + f.2) (ht : 0 ≤ t.1 ∧ t.1 ≤ 30 ∧ 0 ≤ t.2 ∧ t.2 ≤ 30 ∧ 1 ≤ t.1 + t.2) (hok : ∀ s, s ∈ sbL 61 f t → 1 ≤ s.1 ∧ s.1 ≤ 30 ∧ 1 ≤ s.2 ∧ s.2 ≤ 30)
    (h1 : w.heap[bS]? = some (.cells #[.func (.func 117) #[] #[.pointer (some ⟨bf, 0, none⟩), .pointer (some ⟨bt, 0, none⟩)]] 118 (0, 0)))
    (h2 : w.heap[bL]? = some (.cells (lkV c hv rv) 95 (0, 0)))
    (h3 : w.heap[bf]? = some (.cells #[.int .i64 f.1, .int .i64 f.2] 27 (0, 0))) (h4 : w.heap[bt]? = some (.cells #[.int .i64 t.1, .int .i64 t.2] 27 (0, 0))) :
    SeqY Try.prog 99 #[.pointer (some ⟨bS, 0, none⟩), .pointer (some ⟨bL, 0, none⟩)] (encM c hv rv) kept ob (fun pre x _ => pre ++ [x] <+: fitL c (sbL 61 f t)) (fun xs => xs = fitL c (sbL 61 f t)) (fun pre => pre <+: fitL c (sbL 61 f t)) (fitL c (sbL 61 f t)).length w := by
  intro m l J Jx W hW hJ hJx hOk hOwn hY h0
  obtain ⟨ha, hn, hc, rfl⟩ : ∃ a n c, hv = .slice a n c := by obtain ⟨_, a, cap, h, _⟩ := hC0.hs; exact ⟨_, _, _, h⟩
  obtain ⟨ra, rn, rc, rfl⟩ : ∃ a n c, rv = .slice a n c := by obtain ⟨_, a, cap, h, _⟩ := hC0.rd; exact ⟨_, _, _, h⟩
  obtain ⟨kind, hkind⟩ : ∃ x, c.kind = x := ⟨_, rfl⟩
  obtain ⟨base, hbase⟩ : ∃ x, c.base = x := ⟨_, rfl⟩
  obtain ⟨most, hmost⟩ : ∃ x, c.most = x := ⟨_, rfl⟩
  obtain ⟨F, hF⟩ : ∃ F, rnF c.kind = F := ⟨_, rfl⟩
  have HLK : Hid (lkV c (.slice ha hn hc) (.slice ra rn rc) = #[.int .i64 kind, .int .i64 base, .int .i64 most, .slice ha hn hc, .slice ra rn rc, .int .i64 kind, .func (.func F) #[] #[]]) := by show _ = _; unfold lkV lkC; rw [hF, hkind, hbase, hmost]
  have HMD : Hid (∀ u d : Int, ∃ x0 x1 x2 x3 x4 x5 x6 x7, mdC (mdP c (.slice ha hn hc) (.slice ra rn rc) (u, d)) (cut8 c (u, d)) = #[.int .i64 kind, .int .i64 base, .int .i64 most, .slice ha hn hc, .slice ra rn rc, .int .i64 kind, .func (.func F) #[] #[], .int .i64 u, .int .i64 d, .int .i64 x0, .int .i64 x1, .int .i64 x2, .int .i64 x3, .int .i64 x4, .int .i64 x5, .int .i64 x6, .int .i64 x7]) := fun u d => by
    obtain ⟨x0, x1, x2, x3, x4, x5, x6, x7, hcs⟩ := list8 (cut8 c (u, d)) (cut8_len c _)
    exact ⟨x0, x1, x2, x3, x4, x5, x6, x7, by rw [hcs]; unfold mdP; rw [hF, hkind, hbase, hmost]; rfl⟩
  rw [HLK.out] at h2
  obtain ⟨LL, hLL⟩ : ∃ LL, sbL 61 f t = LL := ⟨_, rfl⟩
  rw [hLL] at hok
  have hSub : ∀ k, k < w0.heap.size → W.heap[k]? = w0.heap[k]? := fun k hk => (hW.block k (by have := hb0.size; omega)).trans (hb0.block k hk)
  have g1 := (hW.block _ (lt_of_block h1)).trans h1
  have g2 := (hW.block _ (lt_of_block h2)).trans h2
  have g3 := (hW.block _ (lt_of_block h3)).trans h3
  have g4 := (hW.block _ (lt_of_block h4)).trans h4
  obtain ⟨W1, hW1, z1, hb1, hs1⟩ : ∃ V, W.alloc (Obj.cells #[.func (.yield l) #[] #[]] 125) = V ∧ V.heap[W.heap.size]? = some (.cells #[.func (.yield l) #[] #[]] 125 (0, 0)) ∧ Below W.heap.size W V ∧ V.heap.size = W.heap.size + 1 := ⟨_, rfl, heap_alloc_new _ _, by go_grown, by simp⟩
  have hBX := between_Y f t kept ob hf ht bf bt w h3 h4
  rw [hLL] at hBX hY ⊢
  obtain ⟨hown1, hok1⟩ := hOk.below hb1
  have OK1 := Lib.hid hok1
  have OW1 : Hid (∀ k, ownOf ob W1 = some k → w.heap.size ≤ k) := fun k e => hOwn k (by rw [hown1] at e; exact e)
  have B01 := Lib.hid (hW.trans (hb1.mono hW.size))
  have z1 := AtY.fresh hOk hb1 (Nat.le_refl _) z1
  have hLw := lt_of_block h2
  have bLw : AtY ob W1 bL _ := ⟨(hb1.block _ (lt_of_block g2)).trans g2, hok1, fun e => by have := OW1.out bL e; omega⟩
  have FW : Hid (FarY ob w0.heap.size W1) := ⟨hok1, fun k e => by have := OW1.out k e; have := hb0.size; omega⟩
  have HW1 := Lib.hid hW1
  have HS1 := Lib.hid hs1
  have HZ := Lib.hid z1
  have HJ1 : Hid (J [] W1) := own_kept hJ h0 hb1
  have G2 := Lib.hid bLw
  have SB : Hid (∀ k, k < w0.heap.size → W1.heap[k]? = w0.heap[k]?) := fun k hk => (hb1.block k (by have := hb0.size; have := hW.size; omega)).trans (hSub k hk)
  have HBX := Lib.hid hBX
  have HYY := Lib.hid hY
  have HJO := Lib.hid hJ
  have HJX := Lib.hid hJx
  have HOK := Lib.hid hok
  have HK0 := Lib.hid hk0
  have HKL := Lib.hid hkL
  have HKW : Hid (∀ k, kept k → k < W.heap.size) := fun k hk => by have := hkw k hk; have := hW.size; omega
  have HC0 := Lib.hid hC0
  have HVV := Lib.hid hV
  have HSZ : Hid (w0.heap.size ≤ W.heap.size) := by show _ ≤ _; have := hb0.size; have := hW.size; omega
  have c1 : (W.alloc (Obj.cells #[.func (.yield l) #[] #[]] 125)).cell? ⟨bS, 0, none⟩ = some (.func (.func 117) #[] #[.pointer (some ⟨bf, 0, none⟩), .pointer (some ⟨bt, 0, none⟩)]) := by rw [hW1]; exact cellOf ((hb1.block _ (lt_of_block g1)).trans g1) 0 _ rfl
  have cl := lt_of_block g1
  clear hok1 hown1 hOk hOwn hLw bLw hW hJ hJx hY h0 hb0 hC0 hV hk0 hkL hkw hf ht hok h1 h2 h3 h4 g1 g2 g3 g4 hSub hW1 z1 hb1 hs1 hBX hLL hF hkind hbase hmost
  refine callsIn_wide.2 ((callsIn_wide (n := 9)).1 ?_)
  refine callsIn_of_wp_marks Try.func99 rfl trivial ?_ rfl
  simp only [Try.ntmps99, List.size_toArray, List.length_cons, List.length_nil, Nat.reduceAdd, Nat.reduceSub, Array.replicate_succ, Array.replicate_zero, List.push_toArray, List.append_toArray, List.nil_append, List.cons_append]
  gi_wp2_with fail
  rw [HW1.out]
  clear c1 cl
  refine wpIn_rangeFunc_Y rfl (enters_of Try.func117 (by kernel_rfl) rfl) HBX.out B01.out OK1.out OW1.out (fun _ => rfl) (fun k hk => by have := HKW.out k hk; have := HS1.out; omega)
    (fun pre V => pre <+: LL ∧ J (fitL c pre) V ∧ AtY ob V W.heap.size (.cells #[.func (.yield l) #[] #[]] 125 (0, 0)) ∧ AtY ob V bL (.cells #[.int .i64 kind, .int .i64 base, .int .i64 most, .slice ha hn hc, .slice ra rn rc, .int .i64 kind, .func (.func F) #[] #[]] 95 (0, 0)) ∧ (∀ k, k < w0.heap.size → V.heap[k]? = w0.heap[k]?) ∧ FarY ob w0.heap.size V)
    (fun cd pre V => cd = .ret ∧ pre <+: LL ∧ Jx (fitL c pre) V)
    (OwnFrom.and (fun _ _ _ _ h _ _ => h) (OwnFrom.and (fun s A B row hs hg hr => (HJO.out.up (by have := HS1.out; omega)) (fitL c s) A B row hs hg hr) (OwnFrom.and (AtY.own _ (fun _ => _) _ _ _) (OwnFrom.and (AtY.own _ (fun _ => _) _ _ _) (OwnFrom.and (same_own (by have := HSZ.out; have := HS1.out; omega)) (FarY.ofown _))))))
    (fun cd => OwnFrom.and (fun _ _ _ _ h _ _ => h) (OwnFrom.and (fun _ _ _ _ h _ _ => h) (fun s A B row hs hg hr => (HJX.out.up (by have := HS1.out; omega)) (fitL c s) A B row hs hg hr)))
    ⟨List.nil_prefix, HJ1.out, HZ.out, G2.out, SB.out, FW.out⟩
    (fun pre x a' V => pre ++ [x] <+: LL ∧ ∃ Bx, W1.heap.size ≤ Bx ∧ V.heap[Bx]? = some (.cells #[.int .i64 x.1, .int .i64 x.2] 27 (0, 0)) ∧ a' = { tmps := #[.func (.yield l) #[] #[], .pointer (some ⟨bS, 0, none⟩), .pointer (some ⟨bL, 0, none⟩), .pointer (some ⟨W.heap.size, 0, none⟩), .pointer (some ⟨Bx, 0, none⟩), undef, .func (.func 117) #[] #[.pointer (some ⟨bf, 0, none⟩), .pointer (some ⟨bt, 0, none⟩)], .agg #[.int .i64 x.1, .int .i64 x.2], undef, undef, undef, undef, undef, undef, undef, undef, undef, undef, undef], defers := [] })
    ?hAx ?assign ?body ?done ?stop
  case hAx =>
    rintro pre x a' _ X Y row ⟨h0, Bx, h1, h2, h3⟩ hg hr
    exact ⟨h0, Bx, h1, (Own.from (blk_own (β := Unit) _ (fun _ => _) _ _) W1.heap.size) () X Y row h2 hg hr, h3⟩
  case assign =>
    rintro l' m' pre ⟨x1, x2⟩ V K ⟨i0, i1, i2, i3, i4, i5⟩ hokV hvx hK
    unfold encP
    simp only at hK ⊢
    have hb : Below V.heap.size V (V.alloc (Obj.cells #[.int .i64 x1, .int .i64 x2] 27)) := by go_grown
    have hz := heap_alloc_new V (Obj.cells #[.int .i64 x1, .int .i64 x2] 27)
    have hszV : W1.heap.size ≤ V.heap.size := by have := HS1.out; have := lt_of_block i2.at_; omega
    clear hokV
    gi_wp2_with fail
    exact hK _ _ (KeptY.of_below i5.ok hb) ⟨i0, own_kept HJO.out i1 hb, i2.below hb, i3.below hb, fun k hk => (hb.block k (by have := HSZ.out; have := HS1.out; omega)).trans (i4 k hk), i5.below hb⟩ ⟨hvx, _, hszV, hz, rfl⟩
  case body =>
    rintro l' m' pre ⟨u, d⟩ a' V hl ⟨i0, i1, i2, i3, i4, i5⟩ hokV ⟨hvx, Bx, hBx, iX, rfl⟩ hlt
    simp only at iX ⊢
    obtain ⟨x0, x1, x2, x3, x4, x5, x6, x7, hmd⟩ := HMD.out u d
    have hu := HOK.out (u, d) (hvx.subset (by simp))
    have hcall := with_any c _ _ (u, d) V (HC0.out.same i4) HVV.out hu
    rw [HLK.out, hmd] at hcall
    dsimp only at hcall
    have HC := Lib.hid hcall
    obtain ⟨R, hR⟩ : ∃ R, fitsB c (u, d) = R := ⟨_, rfl⟩
    have HF : Hid (∀ V1, CseAt V1 c (.slice ha hn hc) (.slice ra rn rc) → Calls Try.prog 100 #[.agg #[.int .i64 kind, .int .i64 base, .int .i64 most, .slice ha hn hc, .slice ra rn rc, .int .i64 kind, .func (.func F) #[] #[], .int .i64 u, .int .i64 d, .int .i64 x0, .int .i64 x1, .int .i64 x2, .int .i64 x3, .int .i64 x4, .int .i64 x5, .int .i64 x6, .int .i64 x7]] V1 fun e w' => e = .returned (.bool R) ∧ Below V1.heap.size V1 w') := fun V1 h1 => by
      have h := fits_any c _ _ (u, d) V1 h1 HVV.out
      rw [hmd, hR] at h
      exact h
    have HRR := Lib.hid hR
    have HMD2 := Lib.hid hmd
    have I0 := Lib.hid i0
    have I1 := Lib.hid i1
    have I2 := Lib.hid i2
    have I3 := Lib.hid i3
    have I4 := Lib.hid i4
    have I5 := Lib.hid i5
    have IX := Lib.hid iX
    have HVX := Lib.hid hvx
    have HSV : Hid (W1.heap.size ≤ V.heap.size) := by show _ ≤ _; have := lt_of_block iX; omega
    have c0 := cellOf i3.at_ 0 (.int .i64 kind) rfl
    have c1 := cellOf i3.at_ 1 (.int .i64 base) rfl
    have c2 := cellOf i3.at_ 2 (.int .i64 most) rfl
    have c3 := cellOf i3.at_ 3 (.slice ha hn hc) rfl
    have c4 := cellOf i3.at_ 4 (.slice ra rn rc) rfl
    have c5 := cellOf i3.at_ 5 (.int .i64 kind) rfl
    have c6 := cellOf i3.at_ 6 (.func (.func F) #[] #[]) rfl
    have cl := lt_of_block i3.at_
    have e0 := cellOf iX 0 (.int .i64 u) rfl
    have e1 := cellOf iX 1 (.int .i64 d) rfl
    have el := lt_of_block iX
    clear i0 i1 i2 i3 i4 i5 hokV iX hvx hlt hcall hR hu hmd HMD
    gi_wp2_with fail
    refine ⟨trivial, fun h => (by cases h), ?_⟩
    refine (callsIn_wide.2 HC.out).mono ?_
    rintro e V2 ⟨rfl, hb⟩
    obtain ⟨V3, hV3, M3, B3⟩ : ∃ V3, (V2.alloc (Obj.cells (mdC pf0 z8) 99)).setRow V2.heap.size #[.int .i64 kind, .int .i64 base, .int .i64 most, .slice ha hn hc, .slice ra rn rc, .int .i64 kind, .func (.func F) #[] #[], .int .i64 u, .int .i64 d, .int .i64 x0, .int .i64 x1, .int .i64 x2, .int .i64 x3, .int .i64 x4, .int .i64 x5, .int .i64 x6, .int .i64 x7] = V3 ∧ V3.heap[V2.heap.size]? = some (.cells #[.int .i64 kind, .int .i64 base, .int .i64 most, .slice ha hn hc, .slice ra rn rc, .int .i64 kind, .func (.func F) #[] #[], .int .i64 u, .int .i64 d, .int .i64 x0, .int .i64 x1, .int .i64 x2, .int .i64 x3, .int .i64 x4, .int .i64 x5, .int .i64 x6, .int .i64 x7] 99 (0, 0)) ∧ Below V2.heap.size V2 V3 := ⟨_, rfl, setRow_heap _ _ _ _ _ _ (heap_alloc_new V2 _), below_setRow (by go_grown) (Nat.le_refl _) _⟩
    have B3' := Lib.hid (hb.trans (B3.mono hb.size))
    have S3 := Lib.hid (show ∀ k, k < w0.heap.size → V3.heap[k]? = w0.heap[k]? from fun k hk => (B3'.out.block k (by have := HSZ.out; have := HSV.out; have := HS1.out; omega)).trans (I4.out k hk))
    have HV3 := Lib.hid hV3
    have MM := Lib.hid M3
    have hz := (zero_of_info mdZero).1
    have HZS : Hid ((mdC pf0 z8).size = 17) := by show _ = _; rw [md_size]; rfl
    have HONE : Hid ((#[.int .i64 kind, .int .i64 base, .int .i64 most, .slice ha hn hc, .slice ra rn rc, .int .i64 kind, .func (.func F) #[] #[], .int .i64 u, .int .i64 d, .int .i64 x0, .int .i64 x1, .int .i64 x2, .int .i64 x3, .int .i64 x4, .int .i64 x5, .int .i64 x6, .int .i64 x7] : Array Value).all (·.oneCell') = true) := by show _ = true; simp [Value.oneCell']
    have HN2 := Lib.hid (heap_alloc_new V2 (Obj.cells (mdC pf0 z8) 99))
    have m0 := cellOf M3 0 (.int .i64 kind) rfl
    have m1 := cellOf M3 1 (.int .i64 base) rfl
    have m2 := cellOf M3 2 (.int .i64 most) rfl
    have m3 := cellOf M3 3 (.slice ha hn hc) rfl
    have m4 := cellOf M3 4 (.slice ra rn rc) rfl
    have m5 := cellOf M3 5 (.int .i64 kind) rfl
    have m6 := cellOf M3 6 (.func (.func F) #[] #[]) rfl
    have m7 := cellOf M3 7 (.int .i64 u) rfl
    have m8 := cellOf M3 8 (.int .i64 d) rfl
    have m9 := cellOf M3 9 (.int .i64 x0) rfl
    have m10 := cellOf M3 10 (.int .i64 x1) rfl
    have m11 := cellOf M3 11 (.int .i64 x2) rfl
    have m12 := cellOf M3 12 (.int .i64 x3) rfl
    have m13 := cellOf M3 13 (.int .i64 x4) rfl
    have m14 := cellOf M3 14 (.int .i64 x5) rfl
    have m15 := cellOf M3 15 (.int .i64 x6) rfl
    have m16 := cellOf M3 16 (.int .i64 x7) rfl
    have ml := lt_of_block M3
    clear hb B3 hV3 M3 c0 c1 c2 c3 c4 c5 c6 cl e0 e1 el HC
    gi_wp2_with (refine md_storeIn rfl (.tmp 5) (.tmp 10) rfl V2.heap.size rfl #[.int .i64 kind, .int .i64 base, .int .i64 most, .slice ha hn hc, .slice ra rn rc, .int .i64 kind, .func (.func F) #[] #[], .int .i64 u, .int .i64 d, .int .i64 x0, .int .i64 x1, .int .i64 x2, .int .i64 x3, .int .i64 x4, .int .i64 x5, .int .i64 x6, .int .i64 x7] (mdC pf0 z8) rfl HN2.out rfl HZS.out HONE.out rfl ?_; rw [HV3.out])
    refine ⟨trivial, fun h => (by cases h), ?_⟩
    refine (callsIn_wide.2 (HF.out _ (HC0.out.same S3.out))).mono ?_
    rintro e V4 ⟨rfl, hb⟩
    have B4 := Lib.hid (B3'.out.trans (hb.mono B3'.out.size))
    have M4 := Lib.hid ((hb.block _ (lt_of_block MM.out)).trans MM.out)
    have J4 : Hid (J (fitL c pre) V4) := own_kept HJO.out I1.out B4.out
    have I24 := Lib.hid (I2.out.below B4.out)
    have I34 := Lib.hid (I3.out.below B4.out)
    have I54 := Lib.hid (I5.out.below B4.out)
    have S4 := Lib.hid (show ∀ k, k < w0.heap.size → V4.heap[k]? = w0.heap[k]? from fun k hk => (B4.out.block k (by have := HSZ.out; have := HSV.out; have := HS1.out; omega)).trans (I4.out k hk))
    have K4 : Hid (KeptY W1.heap.size kept ob V V4) := KeptY.of_below I5.out.ok B4.out
    clear hb MM HV3 B3' S3 I1 I2 I3 I4 I5 IX HN2 hz HF ml m0 m1 m2 m3 m4 m5 m6 m7 m8 m9 m10 m11 m12 m13 m14 m15 m16
    cases R
    · have hno := fitL_no (l := pre) HRR.out
      gi_wp2_with fail
      refine ⟨fun _ h => (by cases h), ?_⟩
      gi_wp2_with fail
      exact ⟨K4.out, HVX.out, by rw [hno]; exact J4.out, I24.out, I34.out, S4.out, I54.out⟩
    · have hyes := fitL_yes (l := pre) HRR.out
      have hpx : fitL c pre ++ [(u, d)] <+: fitL c LL := by rw [← hyes]; exact fitL_pre HVX.out
      have hV4 : W.heap.size ≤ V4.heap.size := by have := B4.out.size; have := HSV.out; have := HS1.out; omega
      obtain ⟨fn, tmps, assign, body, hy, hR⟩ := HYY.out 99 (fitL c pre) (u, d) V4 J4.out hpx (by have := hpx.length_le; simp at this; omega) hV4 I54.out.ok
      unfold encM at hy
      rw [HMD2.out] at hy
      have HR := Lib.hid hR
      have HYES := Lib.hid hyes
      have y0 := cellOf I24.out.at_ 0 _ rfl
      have yl := lt_of_block I24.out.at_
      have m0 := cellOf M4.out 0 (.int .i64 kind) rfl
      have m1 := cellOf M4.out 1 (.int .i64 base) rfl
      have m2 := cellOf M4.out 2 (.int .i64 most) rfl
      have m3 := cellOf M4.out 3 (.slice ha hn hc) rfl
      have m4 := cellOf M4.out 4 (.slice ra rn rc) rfl
      have m5 := cellOf M4.out 5 (.int .i64 kind) rfl
      have m6 := cellOf M4.out 6 (.func (.func F) #[] #[]) rfl
      have m7 := cellOf M4.out 7 (.int .i64 u) rfl
      have m8 := cellOf M4.out 8 (.int .i64 d) rfl
      have m9 := cellOf M4.out 9 (.int .i64 x0) rfl
      have m10 := cellOf M4.out 10 (.int .i64 x1) rfl
      have m11 := cellOf M4.out 11 (.int .i64 x2) rfl
      have m12 := cellOf M4.out 12 (.int .i64 x3) rfl
      have m13 := cellOf M4.out 13 (.int .i64 x4) rfl
      have m14 := cellOf M4.out 14 (.int .i64 x5) rfl
      have m15 := cellOf M4.out 15 (.int .i64 x6) rfl
      have m16 := cellOf M4.out 16 (.int .i64 x7) rfl
      have ml := lt_of_block M4.out
      clear hR hyes hpx hV4 HYY
      gi_wp2_with fail
      refine ⟨fun h => (by cases h), ?_⟩
      refine (roundIn_any HR.out).mono ?_
      rintro e V5 (⟨rfl, hJ5, hk5⟩ | ⟨rfl, hx5, hk5⟩)
      · have K5 : Hid (KeptY W1.heap.size kept ob V V5) := K4.out.trans (hk5.mono (by have := HS1.out; omega))
        have J5 := Lib.hid hJ5
        have HK5 := Lib.hid hk5
        clear hk5 hJ5 y0 yl ml hy HR m0 m1 m2 m3 m4 m5 m6 m7 m8 m9 m10 m11 m12 m13 m14 m15 m16
        gi_wp2_with fail
        refine ⟨K5.out, HVX.out, by rw [HYES.out]; exact J5.out, HK5.out.keep I24.out (.inl (Nat.le_refl _)), HK5.out.keep I34.out (.inr HKL.out), fun k hk => ?_, I54.out.keep HK5.out (by have := B4.out.size; have := HSV.out; have := HS1.out; have := HSZ.out; omega)⟩
        have h4 := S4.out k hk
        have hlt : k < V4.heap.size := by have := B4.out.size; have := HSV.out; have := HS1.out; have := HSZ.out; omega
        exact (HK5.out.same k hlt (.inr (HK0.out k hk)) (fun e => by have := I54.out.far k e; omega)).trans h4
      · have K5 : Hid (KeptY W1.heap.size kept ob V V5) := K4.out.trans (hk5.mono (by have := HS1.out; omega))
        have J5 := Lib.hid hx5
        clear hk5 hx5 y0 yl ml hy HR m0 m1 m2 m3 m4 m5 m6 m7 m8 m9 m10 m11 m12 m13 m14 m15 m16
        gi_wp2_with fail
        exact ⟨K5.out, rfl, HVX.out, by rw [HYES.out]; exact J5.out⟩
  case done =>
    rintro D ys V hD rfl ⟨i0, i1, i2, i3, i4, i5⟩ hK
    have I1 := Lib.hid i1
    have HK := Lib.hid hK
    clear i0 i1 i2 i3 i4 i5 hK
    gi_wp2_with fail
    refine ⟨by simp, .inl ⟨_, _, rfl, run_takeDeferred HK.out, ?_⟩⟩
    exact ⟨_, results_none rfl _ _ _, ⟨_, rfl⟩, .inl ⟨_, rfl, HJO.out.putObj _ I1.out (by have := HS1.out; omega) HK.out rfl⟩⟩
  case stop =>
    rintro D cd pre V hD hpre ⟨rfl, i1, i2⟩ hK
    have I1 := Lib.hid i1
    have I2 := Lib.hid i2
    have HK := Lib.hid hK
    clear i1 i2 hK
    gi_wp2_with fail
    refine ⟨by simp, .inl ⟨_, _, rfl, run_takeDeferred HK.out, ?_⟩⟩
    exact ⟨_, results_none rfl _ _ _, ⟨_, rfl⟩, .inr ⟨_, fitL_pre I1.out, HJX.out.putObj _ I2.out (by have := HS1.out; omega) HK.out rfl⟩⟩
theorem models_X (c : Cse) (hv rv : Value) (f t : Scl) (kept : Nat → Prop) (bS bL bf bt : Nat) (w0 w : World) (hb0 : Below w0.heap.size w0 w) (hC0 : CseAt w0 c hv rv) (hV : Valid c)
    (hk0 : ∀ k, k < w0.heap.size → kept k) (hkL : kept bL) (hkw : ∀ k, kept k → k < w.heap.size)
    (hf : 0 ≤ f.1 ∧ f.1 ≤ 30 ∧ 0 ≤ f.2 ∧ f.2 ≤ 30 ∧ 1 ≤ f.1 + f.2) (ht : 0 ≤ t.1 ∧ t.1 ≤ 30 ∧ 0 ≤ t.2 ∧ t.2 ≤ 30 ∧ 1 ≤ t.1 + t.2) (hok : ∀ s, s ∈ sbL 61 f t → 1 ≤ s.1 ∧ s.1 ≤ 30 ∧ 1 ≤ s.2 ∧ s.2 ≤ 30)
    (h1 : w.heap[bS]? = some (.cells #[.func (.func 117) #[] #[.pointer (some ⟨bf, 0, none⟩), .pointer (some ⟨bt, 0, none⟩)]] 118 (0, 0)))
    (h2 : w.heap[bL]? = some (.cells (lkV c hv rv) 95 (0, 0)))
    (h3 : w.heap[bf]? = some (.cells #[.int .i64 f.1, .int .i64 f.2] 27 (0, 0))) (h4 : w.heap[bt]? = some (.cells #[.int .i64 t.1, .int .i64 t.2] 27 (0, 0))) :
    SeqX Try.prog 99 #[.pointer (some ⟨bS, 0, none⟩), .pointer (some ⟨bL, 0, none⟩)] (encM c hv rv) kept (fun pre x _ => pre ++ [x] <+: fitL c (sbL 61 f t)) (fun xs => xs = fitL c (sbL 61 f t)) (fun pre => pre <+: fitL c (sbL 61 f t)) (fitL c (sbL 61 f t)).length w := (models_Y c hv rv f t kept none bS bL bf bt w0 w hb0 hC0 hV hk0 hkL hkw hf ht hok h1 h2 h3 h4).toX
end Go.Proofs.Ythflbbjilebhlaa
