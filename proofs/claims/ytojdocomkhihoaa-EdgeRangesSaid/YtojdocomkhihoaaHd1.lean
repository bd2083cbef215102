/- Package edge: prices. -/
import Derived.Test.YtojdocomkhihoaaHc1
import Derived.BigFrame
import Derived.Laws.EntriesVeiled
set_option linter.unusedSimpArgs false
set_option linter.unusedVariables false
namespace Go.Proofs.Ytojdocomkhihoaa
open Go Go.RowKit Go.Shelf Ed

theorem ch_loadw {ops : Array Oper} {rest : List Oper} {o : Oper} {a : Act} {w : World} {Q : Exit → Act → World → Prop} (hw : Region.wanted o (yielded ops a.tmps) = true) (x : Operand) (ho : o.op = .load 96 x)
    (g : Nat) (hx : a.eval x = .pointer (some ⟨g, 0, none⟩)) (m : List Int) (hF : ChBlk w g m) (hm : m.length = 5)
    (h : wpList Try.prog ops Q rest (a.put o.dst (.agg (chC m))) w) : wpList Try.prog ops Q (o :: rest) a w := by
  refine BigFrame.wpList_want hw fun K hK => ?_
  unfold Oper.wp execOp
  simp only [ho, hx, Instr.loadAt, Instr.sureAddr, Sem.run_bind, Sem.run_pure, Result.andThen_ok, ch_var hF hm]
  exact hK _ _ h
theorem lk_loadw {ops : Array Oper} {rest : List Oper} {o : Oper} {a : Act} {w : World} {Q : Exit → Act → World → Prop} (hw : Region.wanted o (yielded ops a.tmps) = true) (x : Operand) (ho : o.op = .load 89 x)
    (g : Nat) (hx : a.eval x = .pointer (some ⟨g, 0, none⟩)) (tol : Int) (sv ev : Value) (ws : List Int) (hF : LkBlk w g tol sv ev ws) (hm : ws.length = 16)
    (h : wpList Try.prog ops Q rest (a.put o.dst (.agg (lkC tol sv ev ws))) w) : wpList Try.prog ops Q (o :: rest) a w := by
  refine BigFrame.wpList_want hw fun K hK => ?_
  unfold Oper.wp execOp
  simp only [ho, hx, Instr.loadAt, Instr.sureAddr, Sem.run_bind, Sem.run_pure, Result.andThen_ok, lk_var hF hm]
  exact hK _ _ h
/-- Cells that are kept. -/
theorem PairsAt.kept {w w' : World} {v : Value} {l : List (Int × Int)} (h : PairsAt w v l) (P : ∀ (p : Addr) (x : Value), w.cell? p = some x → w'.cell? p = some x) : PairsAt w' v l := by
  obtain ⟨h1, a, cap, rfl, hc, h2⟩ := h
  refine ⟨h1, a, cap, rfl, hc, fun hne => ?_⟩
  obtain ⟨b, o, rfl, hk⟩ := h2 hne
  exact ⟨b, o, rfl, fun k h => ⟨P _ _ (hk k h).1, P _ _ (hk k h).2⟩⟩
theorem CasAt.kept {w w' : World} {c : Cas} {sv ev : Value} (h : CasAt w c sv ev) (P : ∀ (p : Addr) (x : Value), w.cell? p = some x → w'.cell? p = some x) : CasAt w' c sv ev := by
  obtain ⟨⟨h1, a, cap, rfl, hc, hs, h2⟩, ⟨k1, a', cap', rfl, kc, k2⟩⟩ := h
  refine ⟨⟨h1, a, cap, rfl, hc, hs, fun hne => ?_⟩, ⟨k1, a', cap', rfl, kc, fun hne => ?_⟩⟩
  · obtain ⟨b, o, rfl, hk⟩ := h2 hne
    exact ⟨b, o, rfl, fun k h => ⟨P _ _ (hk k h).1, P _ _ (hk k h).2.1, P _ _ (hk k h).2.2⟩⟩
  · obtain ⟨b, o, rfl, hk⟩ := k2 hne
    exact ⟨b, o, rfl, fun k h => by
      obtain ⟨c0, c1, pv, c2, hp⟩ := hk k h
      exact ⟨P _ _ c0, P _ _ c1, pv, P _ _ c2, hp.kept P⟩⟩
theorem cells_bm {c : Cas} {ws : List Int} {mb : Nat} {w w' : World} (h : Bm mb w w') (hm : MapSt c ws mb w) (p : Addr) (x : Value) (hp : w.cell? p = some x) : w'.cell? p = some x := by
  have hlt := World.block_lt_of_cell? w p hp
  have hne : p.block ≠ mb := by
    intro e
    obtain ⟨es, k, h1, _⟩ := hm
    unfold World.cell? at hp
    rw [e, h1] at hp
    cases hp
  have e := h.block p.block hlt hne
  unfold World.cell? at hp ⊢
  rw [e]
  exact hp
/-- What prices rest on. -/
structure PSt (c : Cas) (sv ev : Value) (ws : List Int) (mb kb lb : Nat) (w : World) : Prop where
  ck : w.heap[kb]? = some (.cells #[.map (some mb)] 151 (0, 0))
  cl : LkBlk w lb c.tol sv ev ws
  cas : CasAt w c sv ev
  map : MapSt c ws mb w
theorem PSt.bm {c : Cas} {sv ev : Value} {ws : List Int} {mb kb lb : Nat} {w w' : World} (h : PSt c sv ev ws mb kb lb w) (hb : Bm mb w w') (hm : MapSt c ws mb w') : PSt c sv ev ws mb kb lb w' :=
  ⟨blk_bm hb h.map h.ck, blk_bm hb h.map h.cl, h.cas.kept (cells_bm hb h.map), hm⟩
theorem PSt.below {c : Cas} {sv ev : Value} {ws : List Int} {mb kb lb : Nat} {w w' : World} (h : PSt c sv ev ws mb kb lb w) (hb : Below w.heap.size w w') : PSt c sv ev ws mb kb lb w' :=
  h.bm (Bm.of_below hb) (h.map.below hb)
set_option maxRecDepth 100000 in
set_option maxHeartbeats 4000000 in
theorem price_any (c : Cas) (hv : Valid c) (sv ev : Value) (ws : List Int) (hw : ws.length = 16) (mb kb lb : Nat) (x : List Int) (hxl : x.length = 5) (hx1 : ∀ i, -1000 ≤ x.getD i 0 ∧ x.getD i 0 ≤ 1000) (w : World) (hP : PSt c sv ev ws mb kb lb w) :
    Calls Try.prog 105 #[.agg (chC x), .pointer (some ⟨kb, 0, none⟩), .pointer (some ⟨lb, 0, none⟩)] w fun e w' => e = .returned (.int .i64 (priceC c ws x)) ∧ Bm mb w w' ∧ MapSt c ws mb w' := by
  have hba : Below w.heap.size w (w.alloc (.cells (chC x) 96)) := (Below.refl _ _).alloc (Nat.le_refl _) _
  have HPW := Lib.hid (hP.below hba)
  have HX : Hid (ChBlk (w.alloc (.cells (chC x) 96)) w.heap.size x) := heap_alloc_new w _
  have HBA := Lib.hid hba
  have HV := Lib.hid hv
  have HW := Lib.hid hw
  have HXL := Lib.hid hxl
  obtain ⟨v, t, hl, ht⟩ := look_ch c ws mb x hxl _ HPW.out.map
  have ck0 := cellOf HPW.out.ck 0 _ rfl
  have c0 : w.cell? ⟨kb, 0, none⟩ = some (.map (some mb)) := cellOf hP.ck 0 _ rfl
  have hkb := lt_of_block hP.ck
  have HT := Lib.hid ht
  have HPC : Hid (priceC c ws x = if lowK c.shs x c.shs.length || decide (0 ≤ firstB (apartB ws c.eds x) 0 c.eds.length) then dearC c + 1 else costK c.shs x c.shs.length) := rfl
  have hx6 : ∀ i, -1000000 ≤ x.getD i 0 ∧ x.getD i 0 ≤ 1000000 := fun i => by have := hx1 i; omega
  have HX6 := Lib.hid hx6
  have HX1 := Lib.hid hx1
  have HPC1 : Hid (∀ a : Int, a = priceC c ws x → Ending.returned (.int .i64 a) = Ending.returned (.int .i64 (priceC c ws x))) := fun a h => by rw [h]
  clear hba hP hv hw hxl ht hx6 hx1
  cases t
  · clear HT
    go_enter Try.func105, Try.ntmps105
    go_wp2_with (first
      | (refine ch_loadw (by rfl) (.tmp 3) rfl w.heap.size rfl x HX.out HXL.out ?_)
      | (refine lk_loadw (by rfl) (.tmp 2) rfl lb rfl c.tol sv ev ws HPW.out.cl HW.out ?_))
    have P1 := HPW
    have X1 := HX
    have B1 := HBA
    refine (cost_any c _ _ ws HW.out x HXL.out HX6.out HX1.out _ HPW.out.cas HV.out).mono ?_
    clear ck0 c0 hkb hl HPW HX HBA
    rintro e w2 ⟨rfl, hb⟩
    have P2 := Lib.hid (P1.out.below hb)
    have X2 := Lib.hid (X1.out.below hb X1.out.lt)
    have B2 := Lib.hid (B1.out.trans (hb.mono B1.out.size))
    have ck0 := cellOf P2.out.ck 0 _ rfl
    have hkb := lt_of_block P2.out.ck
    clear hb
    have HPK : Hid (lowK c.shs x c.shs.length = false → ¬ 0 ≤ firstB (apartB ws c.eds x) 0 c.eds.length → priceC c ws x = costK c.shs x c.shs.length) := fun h1 h2 => by rw [HPC.out, h1, Bool.false_or, if_neg (by simpa using h2)]
    generalize costK c.shs x c.shs.length = pk at *
    have HTL := Lib.hid (tooLow_any c _ _ ws HW.out x HXL.out HX6.out w2 P2.out.cas HV.out)
    go_wp2_with (first | (refine ch_loadw (by rfl) (.tmp 3) rfl w.heap.size rfl x X2.out HXL.out ?_) | (refine lk_loadw (by rfl) (.tmp 2) rfl lb rfl c.tol sv ev ws P2.out.cl HW.out ?_))
    refine HTL.out.mono ?_
    rintro e w3 ⟨rfl, hb⟩
    have P3 := Lib.hid (P2.out.below hb)
    have X3 := Lib.hid (X2.out.below hb X2.out.lt)
    have B3 := Lib.hid (B2.out.trans (hb.mono B2.out.size))
    have ck0 := cellOf P3.out.ck 0 _ rfl
    have hkb := lt_of_block P3.out.ck
    clear hb
    clear HTL P1 X1 B1 P2 X2 B2
    cases hlow : lowK c.shs x c.shs.length
    · have HFA := Lib.hid (firstApart_any c _ _ ws HW.out x HXL.out HX6.out w3 P3.out.cas HV.out)
      go_wp2_with (first | (refine ch_loadw (by rfl) (.tmp 3) rfl w.heap.size rfl x X3.out HXL.out ?_) | (refine lk_loadw (by rfl) (.tmp 2) rfl lb rfl c.tol sv ev ws P3.out.cl HW.out ?_))
      refine HFA.out.mono ?_
      rintro e w4 ⟨rfl, hb⟩
      have P4 := Lib.hid (P3.out.below hb)
      have X4 := Lib.hid (X3.out.below hb X3.out.lt)
      have B4 := Lib.hid (B3.out.trans (hb.mono B3.out.size))
      have ck0 := cellOf P4.out.ck 0 _ rfl
      have hkb := lt_of_block P4.out.ck
      clear hb
      clear HFA P3 X3 B3
      have HLOW := Lib.hid hlow
      clear hlow
      obtain ⟨z, hz⟩ : ∃ z, firstB (apartB ws c.eds x) 0 c.eds.length = z := ⟨_, rfl⟩
      have HZ := Lib.hid hz
      rw [hz]
      clear hz
      by_cases h0 : 0 ≤ z
      · have HZ0 := Lib.hid h0
        have HD := Lib.hid (dearest_any c sv ev ws w4 P4.out.cas HV.out)
        have hdb := dearK_bd c.shs HV.out.sh c.shs.length (Nat.le_refl _)
        have hn5 := HV.out.n5
        have hd2 : 0 ≤ dearC c ∧ dearC c ≤ 600 := by unfold dearC; omega
        have HDE : Hid (priceC c ws x = dearC c + 1) := by show _ = _; rw [HPC.out]; rw [if_pos]; rw [HZ.out]; simp [HZ0.out]
        generalize dearC c = dd at *
        clear hdb hn5
        go_wp2_with (first | (refine lk_loadw (by rfl) (.tmp 2) rfl lb rfl c.tol sv ev ws P4.out.cl HW.out ?_))
        refine HD.out.mono ?_
        rintro e w5 ⟨rfl, hb⟩
        have P5 := Lib.hid (P4.out.below hb)
        have X5 := Lib.hid (X4.out.below hb X4.out.lt)
        have B5 := Lib.hid (B4.out.trans (hb.mono B4.out.size))
        have ck0 := cellOf P5.out.ck 0 _ rfl
        have hkb := lt_of_block P5.out.ck
        clear hb
        clear HD
        obtain ⟨W9, hst, hm9, hb9⟩ := store_ch c ws mb x HXL.out w5 P5.out.map
        have hpe : priceC c ws x = dd + 1 := by rw [HPC.out]; rw [← HPC.out]; exact HDE.out
        have HPE := Lib.hid hpe
        rw [hpe] at hst
        have HM9 := Lib.hid hm9
        have HB9 := Lib.hid hb9
        clear hm9 hb9 hpe
        go_wp2_with (refine ch_loadw (by rfl) (.tmp 3) rfl w.heap.size rfl x X5.out HXL.out ?_)
        go_ret
        exact ⟨by rw [HPE.out]; rfl, (Bm.of_below B5.out).trans HB9.out, HM9.out⟩
      · have hpe0 := HPK.out HLOW.out (by rw [HZ.out]; omega)
        have HPE0 := Lib.hid hpe0
        clear hpe0
        obtain ⟨W9, hst, hm9, hb9⟩ := store_ch c ws mb x HXL.out w4 P4.out.map
        have hpe : priceC c ws x = pk := by rw [HPC.out]; rw [← HPC.out]; exact HPE0.out
        have HPE := Lib.hid hpe
        rw [hpe] at hst
        have HM9 := Lib.hid hm9
        have HB9 := Lib.hid hb9
        clear hm9 hb9 hpe
        go_wp2_with (refine ch_loadw (by rfl) (.tmp 3) rfl w.heap.size rfl x X4.out HXL.out ?_)
        go_ret
        exact ⟨by rw [HPE.out]; rfl, (Bm.of_below B4.out).trans HB9.out, HM9.out⟩
    · have HLOW := Lib.hid hlow
      clear hlow
      have HD := Lib.hid (dearest_any c sv ev ws w3 P3.out.cas HV.out)
      have hdb := dearK_bd c.shs HV.out.sh c.shs.length (Nat.le_refl _)
      have hn5 := HV.out.n5
      have hd2 : 0 ≤ dearC c ∧ dearC c ≤ 600 := by unfold dearC; omega
      have HDE : Hid (priceC c ws x = dearC c + 1) := by show _ = _; rw [HPC.out]; rw [if_pos]; rw [HLOW.out]; rfl
      generalize dearC c = dd at *
      clear hdb hn5
      go_wp2_with (first | (refine lk_loadw (by rfl) (.tmp 2) rfl lb rfl c.tol sv ev ws P3.out.cl HW.out ?_))
      refine HD.out.mono ?_
      rintro e w4 ⟨rfl, hb⟩
      have P4 := Lib.hid (P3.out.below hb)
      have X4 := Lib.hid (X3.out.below hb X3.out.lt)
      have B4 := Lib.hid (B3.out.trans (hb.mono B3.out.size))
      have ck0 := cellOf P4.out.ck 0 _ rfl
      have hkb := lt_of_block P4.out.ck
      clear hb
      clear HD
      obtain ⟨W9, hst, hm9, hb9⟩ := store_ch c ws mb x HXL.out w4 P4.out.map
      have hpe : priceC c ws x = dd + 1 := by rw [HPC.out]; rw [← HPC.out]; exact HDE.out
      have HPE := Lib.hid hpe
      rw [hpe] at hst
      have HM9 := Lib.hid hm9
      have HB9 := Lib.hid hb9
      clear hm9 hb9 hpe
      go_wp2_with (refine ch_loadw (by rfl) (.tmp 3) rfl w.heap.size rfl x X4.out HXL.out ?_)
      go_ret
      exact ⟨by rw [HPE.out]; rfl, (Bm.of_below B4.out).trans HB9.out, HM9.out⟩
  · have hv := HT.out rfl
    subst hv
    clear HT
    go_enter Try.func105, Try.ntmps105
    go_wp2_with (refine ch_loadw (by rfl) (.tmp 3) rfl w.heap.size rfl x HX.out HXL.out ?_)
    go_ret
    exact ⟨rfl, Bm.of_below HBA.out, HPW.out.map⟩
end Go.Proofs.Ytojdocomkhihoaa
