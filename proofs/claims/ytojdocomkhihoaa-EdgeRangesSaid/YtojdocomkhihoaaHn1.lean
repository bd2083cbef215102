/- Package edge: lists of edges that can be left out, as a function that is ranged over. -/
import Derived.Test.YtojdocomkhihoaaPd
import Derived.Test.YtojdocomkhihoaaFf1
import Derived.Test.YtojdocomkhihoaaHb1
set_option linter.unusedSimpArgs false
set_option linter.unusedVariables false
namespace Go.Proofs.Ytojdocomkhihoaa
open Go Go.RowKit Go.Shelf Ed
attribute [local go_sem] Oper.semAt_some

/-- A list, and the value that it is. -/
abbrev Vl := Value × List Int
def encV (x : Vl) : Array Value := #[x.1]
def inV (x : Vl) (W : World) : Prop := IntsAt W x.1 x.2
set_option maxRecDepth 100000 in
theorem spare_in (m : Nat) (L : Array Value) (w : World) :
    CallsIn Fence.wide m Try.prog 71 #[.agg L] w fun e w' => e = .returned (.func (.func 93) #[] #[.pointer (some ⟨w.heap.size, 0, none⟩)]) ∧ w.alloc (.cells L 89) = w' := by
  refine callsIn_of_wp Try.func71 rfl trivial ?_ rfl
  simp only [Try.ntmps71, List.size_toArray, List.length_cons, List.length_nil, Nat.reduceAdd, Nat.reduceSub, Array.replicate_succ, Array.replicate_zero, List.push_toArray, List.append_toArray, List.nil_append, List.cons_append]
  gi_wp2
  go_ret
  exact ⟨rfl, rfl⟩
/-- What lay in the first so many blocks lies there. -/
def Same (w W : World) : Prop := ∀ k, k < w.heap.size → W.heap[k]? = w.heap[k]?
theorem Same.cell {w W : World} (h : Same w W) (p : Addr) (v : Value) (hp : w.cell? p = some v) : W.cell? p = some v := by
  have e := h p.block (World.block_lt_of_cell? w p hp)
  unfold World.cell? at hp ⊢
  rw [e]
  exact hp
theorem same_own {β : Type} (w : World) {B : Nat} (hB : w.heap.size ≤ B) : OwnFrom B (fun (_ : β) W => Same w W) := by
  intro s X Y row h hg hr k hk
  have hlt : k < X.heap.size := by
    have e := h k hk
    rcases Nat.lt_or_ge k X.heap.size with h1 | h1
    · exact h1
    · rw [Array.getElem?_eq_none h1, Array.getElem?_eq_getElem hk] at e; cases e
  exact (hg.block k hlt (fun e => by have := (hr k e.symm).1; omega)).trans (h k hk)
theorem intsAt_natV {w : World} {base : Nat} {v : Value} {l : List Nat} (h : w.ownsRow base 3 1 v l.length (natV l)) (hl : l.length ≤ 8) : IntsAt w v (l.map fun (j : Nat) => (j : Int)) := by
  refine intsAt_own (base := base) ?_ (by rw [List.length_map]; omega)
  rw [List.length_map, List.map_map]
  exact h
theorem highGo_length (c : Cas) (ws : List Int) : ∀ (g : Nat) (x : List Int), x.length = 5 → (highGo c ws g x).1.length = 5 := by
  intro g
  induction g with
  | zero => intro x _; rfl
  | succ g ih =>
    intro x hx
    simp only [highGo]
    split
    · exact hx
    · split
      · rfl
      · exact ih _ (by rw [lowTo_length]; exact hx)
theorem highC_length (c : Cas) (ws : List Int) : (highC c ws).1.length = 5 := highGo_length c ws 5 _ (by simp [mostTo])
def sbL {n : Nat} (l : List (Sb n)) : List Nat := l.map (·.1)
theorem sbL_snoc {n : Nat} (l : List (Sb n)) (s : Sb n) : sbL (l ++ [s]) = sbL l ++ [s.1] := by simp [sbL]
theorem sbL_length {n : Nat} (l : List (Sb n)) : (sbL l).length = l.length := by simp [sbL]
set_option maxRecDepth 100000 in
set_option maxHeartbeats 4000000 in
theorem spare1_V (c : Cas) (hv : Valid c) (bl : Nat) (sv ev : Value) (ws : List Int) (hw : ws.length = 16) (w : World) (hC : CasAt w c sv ev) (hL : LkBlk w bl c.tol sv ev ws) :
    SeqV Try.prog 93 #[.pointer (some ⟨bl, 0, none⟩)] encV (fun k => k < w.heap.size) inV (fun ys => ys.map (·.2) = spareL c) 257 w := by
  intro m l J W hW hJ hY h0
  obtain ⟨sa, n, sc, rfl, hn⟩ : ∃ a n cc, sv = .slice a n cc ∧ n = c.shs.length := by obtain ⟨_, a, cap, h, _⟩ := hC.shs; exact ⟨_, _, _, h, rfl⟩
  obtain ⟨ea, em, ec, rfl, hm⟩ : ∃ a n cc, ev = .slice a n cc ∧ n = c.eds.length := by obtain ⟨_, a, cap, h, _⟩ := hC.eds; exact ⟨_, _, _, h, rfl⟩
  clear hn
  have m8 := hv.m8
  rw [← hm] at m8
  have HMM := Lib.hid hm
  have HY := Lib.hid hY
  have HJ := Lib.hid hJ
  have HC := Lib.hid hC
  have HL := Lib.hid hL
  have HV := Lib.hid hv
  have HW5 := Lib.hid hw
  have HSW : Hid (Same w W) := fun k hk => hW.block k hk
  have HWS := Lib.hid hW.size
  have HLW := Lib.hid (hL.below hW hL.lt)
  have H0 := Lib.hid h0
  have c1 := HLW.out.c2
  have cl := HLW.out.lt
  have nI : (em : Int) ≤ 8 := by omega
  clear hW hJ hY h0 hL hC hm hv hw
  refine callsIn_wide.2 ((callsIn_wide (n := 9)).1 ?_)
  refine callsIn_of_wp_marks Try.func93 rfl trivial ?_ rfl
  simp only [Try.ntmps93, List.size_toArray, List.length_cons, List.length_nil, Nat.reduceAdd, Nat.reduceSub, Array.replicate_succ, Array.replicate_zero, List.push_toArray, List.append_toArray, List.nil_append, List.cons_append]
  gi_wp2_with fail
  refine ⟨trivial, ?_⟩
  refine (sets_in 8 em _).mono ?_
  rintro e w3 ⟨rfl, rfl⟩
  obtain ⟨W3, hW3, hQ1, hQ2, hB3, hs3⟩ := al2 W (Obj.cells #[.func (.yield l) #[] #[]] 136) (Obj.cells #[.int .i64 em] 3)
  simp only [World.size_alloc]
  rw [hW3]
  have H03 : Hid (J [] W3) := own_kept HJ.out H0.out hB3
  have HS3W : Hid (Same w W3) := fun k hk => (hB3.block k (by have := HWS.out; omega)).trans (HSW.out k hk)
  have HQ1 := Lib.hid hQ1
  have HQ2 := Lib.hid hQ2
  have HS3 := Lib.hid hs3
  clear c1 cl hW3 hQ1 hQ2 hB3 hs3
  gi_wp2_with fail
  refine wpIn_rangeFunc_ownH rfl (by omega) (gf := 108) (lb := #[.pointer (some ⟨W.heap.size + 1, 0, none⟩)]) rfl trivial (enters_of Try.func108 (by kernel_rfl) rfl)
    (sets_stops 8 (by omega) (W.heap.size + 1) em (by omega) W3 HQ2.out) (fun h k => h.trans k) (fun V l o o' hl _ _ _ => KB.putObj V l o' (by have := HS3.out; omega)) (Below.refl _ _) (fun _ => rfl)
    (fun pre V => (∃ xs : List Vl, J xs V ∧ xs.map (·.2) = spareTo c (sbL pre)) ∧ V.heap[W.heap.size]? = some (.cells #[.func (.yield l) #[] #[]] 136 (0, 0)) ∧ Same w V ∧ W3.heap.size ≤ V.heap.size)
    (fun _ _ _ => False)
    (OwnFrom.and (fun s A B row hs hg hr => by obtain ⟨xs, h1, h2⟩ := hs; exact ⟨xs, HJ.out.up (by have := HS3.out; omega) xs A B row h1 hg hr, h2⟩) (OwnFrom.and (Own.from (blk_own _ (fun _ => #[.func (.yield l) #[] #[]]) _ _) _) (OwnFrom.and (same_own w (by have := HS3.out; have := HWS.out; omega)) (fun s A B row hs hg hr => Nat.le_trans hs hg.size))))
    (fun _ _ _ _ _ hs _ _ => hs)
    ⟨⟨[], H03.out, rfl⟩, HQ1.out, HS3W.out, Nat.le_refl _⟩
    (fun s a' _ => a' = { tmps := #[.func (.yield l) #[] #[], .pointer (some ⟨bl, 0, none⟩), .pointer (some ⟨W.heap.size, 0, none⟩), .int .u64 (s.1 : Int), undef, undef, undef, undef, .pointer (some ⟨bl, 0, none⟩), .pointer (some ⟨bl, 2, none⟩), .slice ea em ec, .int .i64 em, .func (.func 108) #[] #[.pointer (some ⟨W.heap.size + 1, 0, none⟩)], .int .u64 (s.1 : Int), undef, undef, undef, undef, undef, undef, undef, undef, undef, undef, undef, undef, undef, undef, undef, undef, undef, undef, undef], defers := [] })
    ?hAx ?assign ?body ?done ?stop
  case hAx => exact fun x a' _ X Y row h _ _ => h
  case assign =>
    rintro l' pre s V K hI hK
    unfold encS
    gi_wp2
    exact hK _ _ (KeepsFrom.refl _ _) (KB.refl _ _) hI rfl
  case body =>
    rintro l' pre s a' V hl ⟨rr, hr⟩ ⟨⟨xs, iJ, iX⟩, iY, iS, iZ⟩ rfl hlt
    have HIJ := Lib.hid iJ
    have HIX := Lib.hid iX
    have HIY := Lib.hid iY
    have HIS := Lib.hid iS
    have HIZ := Lib.hid iZ
    have hlw := HL.out.lt
    have HIL : Hid (LkBlk V bl c.tol (.slice sa n sc) (.slice ea em ec) ws) := (iS bl hlw).trans HL.out
    have HIC : Hid (CasAt V c (.slice sa n sc) (.slice ea em ec)) := HC.out.kept iS.cell
    have hsn : s.1 < 256 := Nat.lt_of_lt_of_le s.2 (pow_le8 (by omega)).2
    have HPL : Hid (pre.length < 257) := hlt
    have HSP := Lib.hid (split_any c HV.out (.slice sa n sc) (.slice ea em ec) ws HW5.out s.1 (by omega) V HIC.out)
    have HLV := Lib.hid (less_valid c HV.out s.1)
    clear iJ iX iY iS iZ hlt
    try simp only
    gi_wp2_with (refine lkIn_load rfl (.tmp 1) rfl bl rfl c.tol (.slice sa n sc) (.slice ea em ec) ws HIL.out HW5.out ?_)
    refine ⟨trivial, ?_⟩
    refine (callsIn_wide.2 HSP.out).mono ?_
    rintro e V1 ⟨v, ev', rfl, hown, hcas, hb1⟩
    obtain ⟨qa, qn, qc, rfl⟩ : ∃ a n cc, ev' = .slice a n cc := by obtain ⟨_, a, cap, h, _⟩ := hcas.eds; exact ⟨_, _, _, h⟩
    have hia : IntsAt V1 v (lsI s.1 c.eds.length) := intsAt_natV hown (by have := lstK_le s.1 c.eds.length; have := HMM.out; omega)
    obtain ⟨la, lc, rfl⟩ := own_slice hown
    have hba : Below V1.heap.size V1 (V1.alloc (Obj.cells #[.int .i64 c.tol, .slice sa n sc, .slice qa qn qc] 25)) := (Below.refl _ _).alloc (Nat.le_refl _) _
    have HB2 := Lib.hid (hb1.trans (hba.mono hb1.size))
    have HIA := Lib.hid (hia.below hba)
    have HCS := Lib.hid (hcas.below hba)
    have HWN := Lib.hid (wanting_any (lessC c s.1) (.slice sa n sc) (.slice qa qn qc) (V1.alloc (Obj.cells #[.int .i64 c.tol, .slice sa n sc, .slice qa qn qc] 25)) (hcas.below hba) HLV.out)
    have htol : (lessC c s.1).tol = c.tol := rfl
    rw [htol] at HWN
    have HTO := Lib.hid htol
    clear hown hcas hb1 hia hba HSP htol
    generalize (lstK s.1 c.eds.length).length = ln at *
    gi_wp2_with fail
    refine ⟨trivial, ?_⟩
    refine (callsIn_wide.2 HWN.out).mono ?_
    rintro e V3 ⟨rfl, hb3⟩
    have HB3 := Lib.hid (HB2.out.trans (hb3.mono HB2.out.size))
    have HIA3 := Lib.hid (HIA.out.below hb3)
    have HHI := Lib.hid (highest_any (lessC c s.1) _ _ (wsC (lessC c s.1)) (wsC_length _) (wsC_bd _ HLV.out) V3 (HCS.out.below hb3) HLV.out)
    rw [HTO.out] at HHI
    clear hb3 HB2 HIA HCS HWN
    gi_wp2_with fail
    refine ⟨trivial, ?_⟩
    refine (callsIn_wide.2 HHI.out).mono ?_
    rintro e V4 ⟨rfl, hb4⟩
    have HB4 := Lib.hid (HB3.out.trans (hb4.mono HB3.out.size))
    have HIA4 := Lib.hid (HIA3.out.below hb4)
    clear hb4 HB3 HIA3 HHI
    have HCN : Hid (canS c s.1 = (highC (lessC c s.1) (wsC (lessC c s.1))).2) := rfl
    have HXL := Lib.hid (highC_length (lessC c s.1) (wsC (lessC c s.1)))
    generalize (highC (lessC c s.1) (wsC (lessC c s.1))).1 = hx at *
    generalize (highC (lessC c s.1) (wsC (lessC c s.1))).2 = can at *
    have N0 : Hid (ChBlk (V4.alloc (Obj.cells (chC z5) 96)) V4.heap.size z5) := heap_alloc_new V4 _
    have hb5 : Below V4.heap.size V4 ((V4.alloc (Obj.cells (chC z5) 96)).setRow V4.heap.size (chC hx)) := below_setRow ((Below.refl _ _).alloc (Nat.le_refl _) _) (Nat.le_refl _) _
    have HB5 := Lib.hid (HB4.out.trans (hb5.mono HB4.out.size))
    have HIA5 := Lib.hid (HIA4.out.below hb5)
    have HY5 : Hid (((V4.alloc (Obj.cells (chC z5) 96)).setRow V4.heap.size (chC hx)).heap[W.heap.size]? = some (.cells #[.func (.yield l) #[] #[]] 136 (0, 0))) := (HB5.out.block _ (lt_of_block HIY.out)).trans HIY.out
    have hz := (zero_of_info chZero).1
    clear hb5 HB4 HIA4
    cases can
    · have hJ5 : J xs ((V4.alloc (Obj.cells (chC z5) 96)).setRow V4.heap.size (chC hx)) := own_kept HJ.out HIJ.out HB5.out
      have HJ5 := Lib.hid hJ5
      have HKK : Hid (KeptO W.heap.size (fun k => k < w.heap.size) V ((V4.alloc (Obj.cells (chC z5) 96)).setRow V4.heap.size (chC hx))) := keptO_of_below HB5.out
      clear hJ5
      gi_wp2_with (refine chIn_store rfl (.tmp 6) (.tmp 24) rfl V4.heap.size rfl hx z5 rfl N0.out HXL.out rfl rfl ?_; generalize hWS : (V4.alloc (Obj.cells (chC z5) 96)).setRow V4.heap.size (chC hx) = V5 at *; clear hWS)
      refine ⟨fun _ h => (by cases h), ?_⟩
      gi_wp2_with fail
      have hsp : spareTo c (sbL (pre ++ [s])) = spareTo c (sbL pre) := by rw [sbL_snoc, spareTo_snoc, HCN.out, if_neg (by simp)]
      have hVs := HS3.out
      have h1 := lt_of_block HIY.out
      have hws := HWS.out
      refine ⟨⟨HKK.out.size, fun q o hq ho _ => (HKK.out.same q (lt_of_block ho) (.inl (by omega))).trans ho⟩, fun o ho => (HKK.out.same _ (lt_of_block ho) (.inl (by omega))).trans ho, ⟨xs, HJ5.out, by rw [hsp]; exact HIX.out⟩, (HKK.out.same _ h1 (.inl (Nat.le_refl _))).trans HIY.out, fun q hq => (HKK.out.same q (by have := HIZ.out; omega) (.inr hq)).trans (HIS.out q hq), by have := HKK.out.size; have := HIZ.out; omega⟩
    · have hJ5 : J xs ((V4.alloc (Obj.cells (chC z5) 96)).setRow V4.heap.size (chC hx)) := own_kept HJ.out HIJ.out HB5.out
      have hsz5 := HB5.out.size
      obtain ⟨fn, tmps, assign, body, hy, hR⟩ := HY.out 99 xs (.slice la ln lc, lsI s.1 c.eds.length) ((V4.alloc (Obj.cells (chC z5) 96)).setRow V4.heap.size (chC hx)) hJ5 HIA5.out (by have h1 := congrArg List.length HIX.out; have h2 := spareTo_length c (sbL pre); rw [List.length_map] at h1; rw [sbL_length] at h2; have := HPL.out; omega) (by have := HS3.out; have := HIZ.out; omega)
      unfold encV at hy
      dsimp only at hy
      have HR := Lib.hid hR
      clear hR hJ5 hsz5
      gi_wp2_with (refine chIn_store rfl (.tmp 6) (.tmp 24) rfl V4.heap.size rfl hx z5 rfl N0.out HXL.out rfl rfl ?_; generalize hWS : (V4.alloc (Obj.cells (chC z5) 96)).setRow V4.heap.size (chC hx) = V5 at *; clear hWS; have cy := cellOf HY5.out 0 _ rfl; have hyl := lt_of_block HY5.out)
      refine (roundIn_any HR.out).mono ?_
      rintro e V6 ⟨rfl, hJ6, hK6⟩
      have HKK : Hid (KeptO W.heap.size (fun k => k < w.heap.size) V V6) := (keptO_of_below HB5.out).trans hK6
      have HJ6 := Lib.hid hJ6
      clear hJ6 hK6 hy HR
      gi_wp2_with fail
      have hsp : spareTo c (sbL (pre ++ [s])) = spareTo c (sbL pre) ++ [lsI s.1 c.eds.length] := by rw [sbL_snoc, spareTo_snoc, HCN.out, if_pos rfl]
      have hVs := HS3.out
      have h1 := lt_of_block HIY.out
      have hws := HWS.out
      refine ⟨⟨HKK.out.size, fun q o hq ho _ => (HKK.out.same q (lt_of_block ho) (.inl (by omega))).trans ho⟩, fun o ho => (HKK.out.same _ (lt_of_block ho) (.inl (by omega))).trans ho, ⟨xs ++ [(.slice la ln lc, lsI s.1 c.eds.length)], HJ6.out, by rw [hsp, List.map_append, HIX.out]; rfl⟩, (HKK.out.same _ h1 (.inl (Nat.le_refl _))).trans HIY.out, fun q hq => (HKK.out.same q (by have := HIZ.out; omega) (.inr hq)).trans (HIS.out q hq), by have := HKK.out.size; have := HIZ.out; omega⟩
  case done =>
    rintro D ys V hD hys ⟨⟨xs, iJ, iX⟩, _, _, iZ⟩ hK
    have HIJ := Lib.hid iJ
    have HIX := Lib.hid iX
    have HYS : Hid (sbL ys = setsL em) := hys
    clear iJ iX hys
    gi_wp2_with fail
    refine ⟨by simp, .inl ⟨_, _, rfl, run_takeDeferred hK, ?_⟩⟩
    refine ⟨_, results_none rfl _ _ _, ⟨_, rfl⟩, xs, ?_, HJ.out.putObj _ HIJ.out (by have := HS3.out; omega) hK rfl⟩
    rw [HIX.out, HYS.out, HMM.out]
    rfl
  case stop => exact fun D c pre W _ _ h _ => h.elim
end Go.Proofs.Ytojdocomkhihoaa
