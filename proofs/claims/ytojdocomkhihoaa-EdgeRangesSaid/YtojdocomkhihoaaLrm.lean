/- Package edge: cases that want the same; cases with raised heights. -/
import Derived.Test.YtojdocomkhihoaaLvm
import Derived.Deep.DeepCutAuto
import Derived.Deep.CutRange
set_option linter.unusedSimpArgs false
set_option linter.unusedVariables false
namespace Go.Proofs.Ytojdocomkhihoaa
open Go Go.RowKit Go.Shelf Ed

/-- Points in a row of the call's own. -/
def flatP (l : List (Int × Int)) : List Value := l.flatMap fun p => [.int .i64 p.1, .int .i64 p.2]
theorem flatP_append (l : List (Int × Int)) (p : Int × Int) : flatP (l ++ [p]) = flatP l ++ [.int .i64 p.1, .int .i64 p.2] := by simp [flatP]
theorem flatP_get : ∀ (l : List (Int × Int)) (k : Nat) (h : k < l.length), (flatP l)[k * 2]? = some (.int .i64 l[k].1) ∧ (flatP l)[k * 2 + 1]? = some (.int .i64 l[k].2) := by
  intro l
  induction l with
  | nil => intro k h; simp at h
  | cons p l ih =>
    intro k h
    cases k with
    | zero => simp [flatP]
    | succ k =>
      obtain ⟨h1, h2⟩ := ih k (by simpa using h)
      have e : ∀ i, (flatP (p :: l))[(k + 1) * 2 + i]? = (flatP l)[k * 2 + i]? := by
        intro i
        rw [show (k + 1) * 2 + i = 2 + (k * 2 + i) by omega]
        simp only [flatP, List.flatMap_cons]
        rw [List.getElem?_append_right (by simp)]
        simp
      exact ⟨(e 0).trans h1, (e 1).trans h2⟩
theorem pairsAt_ownP {w : World} {base m : Nat} {v : Value} {l : List (Int × Int)} (hm : m = l.length) (h : w.ownsRow base 74 2 v m (flatP l)) (hl : l.length ≤ 4611686018427387904) : PairsAt w v l := by
  subst hm
  rcases h.2 with ⟨rfl, h0⟩ | ⟨g, cap, cur, rfl, hb, hg, hnc, hcm, hcs, htake⟩
  · have : l = [] := List.length_eq_zero_iff.1 h0
    subst this
    exact ⟨by simp, none, 0, rfl, by simp, fun hne => absurd rfl hne⟩
  · refine ⟨hl, _, cap, rfl, hnc, fun _ => ⟨g, 0, rfl, fun k hk => ?_⟩⟩
    obtain ⟨e0, e1⟩ := flatP_get l k hk
    rw [Nat.zero_add]
    exact ⟨(h.cellAt (k * 2) (by omega)).trans e0, (h.cellAt (k * 2 + 1) (by omega)).trans e1⟩
theorem eRow_upd (eds : List Edg) (P : Nat → Value) (k : Nat) (v : Value) : eRow eds (fun j => if j = k then v else P j) (List.range (k + 1)) = eRow eds P (List.range k) ++ [.int .i64 (eds.getD k default).a, .int .i64 (eds.getD k default).b, v] := by
  rw [List.range_succ, eRow_append, if_pos rfl]
  congr 1
  unfold eRow
  rw [List.flatMap_def, List.flatMap_def]
  congr 1
  apply List.map_congr_left
  intro j hj
  have : j < k := List.mem_range.1 hj
  rw [show (fun j => if j = k then v else P j) j = P j from if_neg (by omega)]
/-- Edges in a row of the call's own, each with its points in a row of its own. -/
structure EdOwn (B : Nat) (w : World) (v : Value) (eds : List Edg) (k : Nat) (P : Nat → Value) : Prop where
  row : w.ownsRow B 71 3 v k (eRow eds P (List.range k))
  pts : ∀ j, j < k → w.ownsRow B 74 2 (P j) (eds.getD j default).pts.length (flatP (eds.getD j default).pts)
theorem EdOwn.below {B : Nat} {w w' : World} {v : Value} {eds : List Edg} {k : Nat} {P : Nat → Value} (h : EdOwn B w v eds k P) (hb : Below w.heap.size w w') : EdOwn B w' v eds k P :=
  ⟨own_below h.row hb, fun j hj => own_below (h.pts j hj) hb⟩
theorem EdOwn.at {B : Nat} {w : World} {v : Value} {eds : List Edg} {P : Nat → Value} (h : EdOwn B w v eds eds.length P) (hl : eds.length ≤ 1000) (hp : ∀ d, d ∈ eds → d.pts.length ≤ 1000) : EdgsAt w v eds := by
  have e : (List.range eds.length).map (fun j => eds.getD j default) = eds := by
    apply List.ext_getElem (by simp)
    intro i h1 h2
    simp [List.getD_eq_getElem?_getD, h2]
  have h' := edgsAt_own (w := w) (base := B) (v := v) (eds := eds) (P := P) (js := List.range eds.length) (by rw [List.length_range]; exact h.row) (by rw [List.length_range]; omega) (fun j hj => by
    have hj' : j < eds.length := List.mem_range.1 hj
    have hd : eds.getD j default ∈ eds := by rw [getD_lt _ _ hj']; exact List.getElem_mem hj'
    exact pairsAt_ownP rfl (h.pts j hj') (by have := hp _ hd; omega))
  rwa [e] at h'
theorem EdOwn.other {B : Nat} {w : World} {v : Value} {eds : List Edg} {k : Nat} {P : Nat → Value} (h : EdOwn B w v eds k P) (p : Addr) (hp : p.block < B) (u : Value) : EdOwn B (w.setCell p u) v eds k P :=
  ⟨own_other h.row p hp u, fun j hj => own_other (h.pts j hj) p hp u⟩
/-- One more edge. -/
theorem EdOwn.next {B : Nat} {w w' : World} {v v' pv : Value} {eds : List Edg} {k : Nat} {P : Nat → Value} (h : EdOwn B w v eds k P) (hp : w.ownsRow B 74 2 pv (eds.getD k default).pts.length (flatP (eds.getD k default).pts))
    (hg : w.grownBy w' v.ownBlock) (hr : w'.ownsRow B 71 3 v' (k + 1) (eRow eds P (List.range k) ++ [.int .i64 (eds.getD k default).a, .int .i64 (eds.getD k default).b, pv])) :
    EdOwn B w' v' eds (k + 1) (fun j => if j = k then pv else P j) := by
  refine ⟨by rw [eRow_upd]; exact hr, fun j hj => ?_⟩
  by_cases e : j = k
  · subst e
    rw [if_pos rfl]
    exact hp.kept hg (own_apart (by decide) hp h.row)
  · rw [if_neg e]
    exact (h.pts j (by omega)).kept hg (own_apart (by decide) (h.pts j (by omega)) h.row)
theorem pointInfo2 : (Try.prog.info? 74).map (fun i => (i.zero, i.size, i.bytes)) = some (some (.agg #[.int .i64 0, .int .i64 0]), 2, 16) := by kernel_rfl
/-- A case with some heights raised. -/
def rPt (s b : Int) (d : Edg) (p : Int × Int) : Int × Int := (if s < 0 ∨ d.a = s then p.1 + b else p.1, if s < 0 ∨ d.b = s then p.2 + b else p.2)
def rEd (s b : Int) (d : Edg) : Edg := ⟨d.a, d.b, d.pts.map (rPt s b d)⟩
def raisedC (c : Cas) (s b : Int) : Cas := { c with eds := c.eds.map (rEd s b) }
theorem rEd_getD (l : List Edg) (s b : Int) (k : Nat) (h : k < l.length) : (l.map (rEd s b)).getD k default = rEd s b l[k] := by simp [List.getD_eq_getElem?_getD, h]
set_option maxRecDepth 100000 in
set_option maxHeartbeats 8000000 in
theorem raised_any (c : Cas) (hv : Valid c) (sv ev : Value) (s b : Int) (w : World) (hb0 : 0 ≤ b ∧ b ≤ 65535) (hC : CasAt w c sv ev) :
    Calls Try.prog 47 #[.agg #[.int .i64 c.tol, sv, ev], .int .i64 s, .int .i64 b] w fun e w' => ∃ ev', e = .returned (.agg #[.int .i64 c.tol, sv, ev']) ∧ CasAt w' (raisedC c s b) sv ev' ∧ Below w.heap.size w w' := by
  obtain ⟨m, hm⟩ : ∃ m, c.eds.length = m := ⟨_, rfl⟩
  obtain ⟨sa, n, sc, rfl⟩ : ∃ a n cc, sv = .slice a n cc := by obtain ⟨_, a, cap, h, _⟩ := hC.shs; exact ⟨_, _, _, h⟩
  have hE := hC.eds
  obtain ⟨_, ea, ec, rfl, _⟩ := id hE
  have m8 := hv.m8
  rw [hm] at hE m8 ⊢
  obtain ⟨i0, hi0⟩ := info_of_underlying Try.underlying74
  have HI0 : Hid (i0.zero = some (.agg #[.int .i64 0, .int .i64 0]) ∧ i0.size = 2 ∧ i0.bytes = 16) := by
    have h := pointInfo2
    rw [hi0] at h
    simp at h
    exact h
  obtain ⟨i1, hi1⟩ := info_of_underlying Try.underlying71
  have HI1 : Hid (i1.zero = some (.agg #[.int .i64 0, .int .i64 0, .slice none 0 0]) ∧ i1.size = 3 ∧ i1.bytes = 40) := by
    have h := edgeInfo
    rw [hi1] at h
    simp at h
    exact h
  obtain ⟨W, hW, q1, q2, hb, hsz⟩ := al2 w (Obj.cells #[.int .i64 c.tol, .slice sa n sc, .slice ea m ec] 25) (Obj.cells #[.int .i64 0, .slice none 0 0, .slice none 0 0] 25)
  have HR := Lib.hid q1
  have HQ := Lib.hid q2
  have HE := Lib.hid (hE.below hb)
  have HSH := Lib.hid hC.shs
  have HW := Lib.hid hW
  have HB := Lib.hid hb
  have HM := Lib.hid hm
  have HV := Lib.hid hv
  obtain ⟨b0, b9⟩ := hb0
  have mI : (m : Int) ≤ 8 := by omega
  generalize c.tol = tol at *
  obtain ⟨RC, hRC⟩ : ∃ R, c.eds.map (rEd s b) = R := ⟨_, rfl⟩
  have HRC := Lib.hid hRC
  have HRL : Hid (RC.length = m) := by show _ = _; rw [← hRC, List.length_map, hm]
  have own0 : EdOwn W.heap.size W (.slice none 0 0) RC 0 (fun _ => undef) := ⟨World.ownsRow_nil _ _ _ _, fun j hj => absurd hj (Nat.not_lt_zero _)⟩
  have HSZ := Lib.hid hsz
  have HWS0 : w.heap.size + 2 ≤ W.heap.size := by omega
  clear hW hb hE hC hm hv q1 q2 hRC hsz
  go_enter Try.func47, Try.ntmps47
  go_wp2_with fail
  rw [HW.out]
  go_loopg [7, 8] m (fun g nv v wr => ∃ (k : Nat) (na : Option Addr) (nc : Nat) (P : Nat → Value), g + k = m ∧ v = .int .i64 k ∧ nv = .slice na k nc ∧ Hid (EdOwn W.heap.size wr (.slice na k nc) RC k P) ∧ Hid (Below W.heap.size W wr))
  case atStart => exact ⟨0, none, 0, _, by omega, rfl, rfl, own0, Below.refl _ _⟩
  case round =>
    clear own0
    obtain ⟨k, na, nc, P, hk, rfl, rfl, HOW, HL⟩ := hrel
    have R1 := Lib.hid ((HL.out.block _ (lt_of_block HR.out)).trans HR.out)
    have c0 := cellOf R1.out 0 _ rfl
    have c1 := cellOf R1.out 1 _ rfl
    have c2 := cellOf R1.out 2 _ rfl
    have cl := lt_of_block R1.out
    have HLS := HL.out.size
    by_cases hkm : k < m
    · have kI : (k : Int) < (m : Int) := by omega
      have hk' : k < c.eds.length := by rw [HM.out]; exact hkm
      obtain ⟨eb, eo, pa, pc, rfl, d0, d1, d2, hpp⟩ := (HE.out.below HL.out).get hk'
      have hed := HV.out.ed _ (List.getElem_mem hk')
      have HRK : Hid (RC.getD k default = rEd s b c.eds[k]) := by show _ = _; rw [← HRC.out]; exact rEd_getD _ _ _ _ hk'
      obtain ⟨_, _, _, _, _, _, xp4, xpt⟩ := hed
      generalize c.eds[k] = d at *
      obtain ⟨da, db, ps⟩ := d
      simp only at d0 d1 d2 hpp xp4 xpt
      obtain ⟨np, hnp⟩ : ∃ np, ps.length = np := ⟨_, rfl⟩
      rw [hnp] at d2 hpp xp4
      have HNP := Lib.hid hnp
      have HPP := Lib.hid hpp
      have HPT := Lib.hid xpt
      have npI : (np : Int) ≤ 4 := by omega
      obtain ⟨V, hV⟩ : ∃ V, wr.alloc (Obj.cells #[.int .i64 da, .int .i64 db, .slice none 0 0] 71) = V := ⟨_, rfl⟩
      have hbV : Below wr.heap.size wr V := by rw [← hV]; exact (Below.refl _ _).alloc (Nat.le_refl _) _
      have HY := Lib.hid (show V.heap[wr.heap.size]? = some (Obj.cells #[.int .i64 da, .int .i64 db, .slice none 0 0] 71) by rw [← hV]; exact heap_alloc_new wr _)
      have hVs : V.heap.size = wr.heap.size + 1 := by rw [← hV]; simp
      have HVV := Lib.hid hV
      have HBV := Lib.hid hbV
      have D2 := Lib.hid d2
      clear hpp hnp xpt hV hbV hk'
      go_wp2_with fail
      rw [HVV.out]
      clear HVV
      obtain ⟨u, hu⟩ : ∃ u, wr.heap.size = u := ⟨_, rfl⟩
      rw [hu] at HY ⊢
      obtain ⟨wo, hwo⟩ : ∃ wo, wo = wr := ⟨_, rfl⟩
      subst hwo
      obtain ⟨gk2, hgk⟩ : ∃ g', g' + k + 1 = m := ⟨m - k - 1, by omega⟩
      clear c0 c1 c2 cl d0 d1 d2
      have ownp0 : V.ownsRow (u + 1) 74 2 (.slice none 0 0) 0 (flatP ((ps.map (rPt s b ⟨da, db, ps⟩)).take 0)) := World.ownsRow_nil _ _ _ _
      go_loopg [10] np (fun g v wi => ∃ (i : Nat) (qa : Option Addr) (qc : Nat), g + i = np ∧ v = .int .i64 i ∧ Hid (wi.heap[u]? = some (.cells #[.int .i64 da, .int .i64 db, .slice qa i qc] 71 (0, 0))) ∧ wi.ownsRow (u + 1) 74 2 (.slice qa i qc) i (flatP ((ps.map (rPt s b ⟨da, db, ps⟩)).take i)) ∧ Hid (Below wo.heap.size wo wi) ∧ u < wi.heap.size)
      case atStart => exact ⟨0, none, 0, by omega, rfl, HY, ownp0, HBV.out, by omega⟩
      case round =>
        clear ownp0
        obtain ⟨i, qa, qc, hi, rfl, HY, OP, HLI, hus⟩ := hrel
        have R2 := Lib.hid ((HLI.out.block _ (lt_of_block R1.out)).trans R1.out)
        have c0 := cellOf R2.out 0 _ rfl
        have c1 := cellOf R2.out 1 _ rfl
        have c2 := cellOf R2.out 2 _ rfl
        have cl := lt_of_block R2.out
        have d2 := keepK D2.out HLI.out
        by_cases hin : i < np
        · have iI : (i : Int) < (np : Int) := by omega
          have hi' : i < ps.length := by rw [HNP.out]; exact hin
          obtain ⟨pb, po, rfl, e0, e1⟩ := (HPP.out.below HLI.out).get hi'
          have hpk := HPT.out _ (List.getElem_mem hi')
          have HTK : Hid ((ps.map (rPt s b ⟨da, db, ps⟩)).take (i + 1) = (ps.map (rPt s b ⟨da, db, ps⟩)).take i ++ [rPt s b ⟨da, db, ps⟩ ps[i]]) := by show _ = _; rw [List.take_succ_eq_append_getElem (by rw [List.length_map]; exact hi'), List.getElem_map]
          generalize ps[i] = p at *
          obtain ⟨x, y⟩ := p
          simp only at e0 e1 hpk
          obtain ⟨x0, x9, y0, y9⟩ := hpk
          have y0c := cellOf HY.out 0 _ rfl
          have y1c := cellOf HY.out 1 _ rfl
          have y2c := cellOf HY.out 2 _ rfl
          have s1 : IntKind.i64.wrap (x + b) = x + b := by rw [IntKind.wrap_i64] <;> omega
          have s2 : IntKind.i64.wrap (y + b) = y + b := by rw [IntKind.wrap_i64] <;> omega
          have iI4 : (i : Int) < 4 := by omega
          by_cases hs : s < 0
          · skip
            have HTX : Hid ((ps.map (rPt s b ⟨da, db, ps⟩)).take (i + 1) = (ps.map (rPt s b ⟨da, db, ps⟩)).take i ++ [(x + b, y + b)]) := by show _ = _; rw [HTK.out]; unfold rPt; simp [hs]
            have hba : Below wr.heap.size wr ((wr.alloc (Obj.cells #[.int .i64 (x + b), .int .i64 (y + b)] 74)).alloc (Obj.cells #[.int .i64 (x + b), .int .i64 (y + b)] 74)) := by go_grown
            have hownA := (OP.alloc (Obj.cells #[.int .i64 (x + b), .int .i64 (y + b)] 74)).alloc (Obj.cells #[.int .i64 (x + b), .int .i64 (y + b)] 74)
            have YA := Lib.hid ((hba.block _ (lt_of_block HY.out)).trans HY.out)
            have PB := Lib.hid (HLI.out.trans (hba.mono HLI.out.size))
            have HKN : Hid (∀ j v, [Value.int .i64 (x + b), .int .i64 (y + b)][j]? = some v → ((wr.alloc (Obj.cells #[.int .i64 (x + b), .int .i64 (y + b)] 74)).alloc (Obj.cells #[.int .i64 (x + b), .int .i64 (y + b)] 74)).cell? ((⟨wr.heap.size + 1, 0, none⟩ : Addr).add j) = some v) := by
              have h := cells2_new (wr.alloc (Obj.cells #[.int .i64 (x + b), .int .i64 (y + b)] 74)) 74 (.int .i64 (x + b)) (.int .i64 (y + b))
              rw [show (wr.alloc (Obj.cells #[.int .i64 (x + b), .int .i64 (y + b)] 74)).heap.size = wr.heap.size + 1 by simp] at h
              exact h
            have hsz2 : ((wr.alloc (Obj.cells #[.int .i64 (x + b), .int .i64 (y + b)] 74)).alloc (Obj.cells #[.int .i64 (x + b), .int .i64 (y + b)] 74)).heap.size = wr.heap.size + 2 := by simp
            clear hba
            go_wp2_with (at_builtin; refine wpList_append_own _ rfl _ _ 69 rfl (u + 1) 74 i0 (.agg #[.int .i64 0, .int .i64 0]) 2 16 Try.underlying69 hi0 HI0.out.1 HI0.out.2.1 HI0.out.2.2 rfl (by decide) _ _ _ rfl hownA ⟨wr.heap.size + 1, 0, none⟩ 1 1 [.int .i64 (x + b), .int .i64 (y + b)] rfl rfl HKN.out (ones2 _ _) (by unfold maxLen; omega) (by omega) (by omega) ?_)
            intro v' w3 hown3 hgrow _
            have hgb : ∀ g, (Value.slice qa i qc).ownBlock = some g → u + 1 ≤ g := fun g hg => (hownA.lt g hg).1
            have hB3 := Lib.hid (PB.out.grown hgrow (by omega) (fun g hg => by have := hgb g hg; omega))
            have Y3 := Lib.hid ((hgrow.block _ (lt_of_block YA.out) (fun e => by have := hgb _ e.symm; omega)).trans YA.out)
            obtain ⟨qa', qc', rfl⟩ := own_slice hown3
            have HO3 : Hid (w3.ownsRow (u + 1) 74 2 (.slice qa' (i + 1) qc') (i + 1) (flatP ((ps.map (rPt s b ⟨da, db, ps⟩)).take (i + 1)))) := by
              show World.ownsRow _ _ _ _ _ _ _
              rw [HTX.out, flatP_append]
              exact hown3
            have y2 := cellOf Y3.out 2 _ rfl
            have fy := frozen_of_row _ _ 2 _ _ Y3.out
            have yl := lt_of_block Y3.out
            clear hown3 hgrow hownA hgb YA HKN PB OP HY hsz2 c0 c1 c2 cl d2 e0 e1
            go_wp2
            go_roundg (gk - 1)
            case measure => omega
            case rel => exact ⟨i + 1, qa', qc', by omega, by go_num, heap_setCell_same w3 u 2 _ _ (.slice qa' (i + 1) qc') Y3.out, own_other HO3.out ⟨u, 2, none⟩ (by simp) _, hB3.out.setCell (by simp; omega) _, by simp; omega⟩
          · have hs0 : 0 ≤ s := by omega
            have hsd : decide (s < 0) = false := by simp; omega
            by_cases ha : da = s
            · have ta : (da == s) = true := by simp [ha]
              by_cases hd : db = s
              · have tb : (db == s) = true := by simp [hd]
                have HTX : Hid ((ps.map (rPt s b ⟨da, db, ps⟩)).take (i + 1) = (ps.map (rPt s b ⟨da, db, ps⟩)).take i ++ [(x + b, y + b)]) := by show _ = _; rw [HTK.out]; unfold rPt; simp [ha, hd]
                clear ha hd
                have hba : Below wr.heap.size wr ((wr.alloc (Obj.cells #[.int .i64 (x + b), .int .i64 (y + b)] 74)).alloc (Obj.cells #[.int .i64 (x + b), .int .i64 (y + b)] 74)) := by go_grown
                have hownA := (OP.alloc (Obj.cells #[.int .i64 (x + b), .int .i64 (y + b)] 74)).alloc (Obj.cells #[.int .i64 (x + b), .int .i64 (y + b)] 74)
                have YA := Lib.hid ((hba.block _ (lt_of_block HY.out)).trans HY.out)
                have PB := Lib.hid (HLI.out.trans (hba.mono HLI.out.size))
                have HKN : Hid (∀ j v, [Value.int .i64 (x + b), .int .i64 (y + b)][j]? = some v → ((wr.alloc (Obj.cells #[.int .i64 (x + b), .int .i64 (y + b)] 74)).alloc (Obj.cells #[.int .i64 (x + b), .int .i64 (y + b)] 74)).cell? ((⟨wr.heap.size + 1, 0, none⟩ : Addr).add j) = some v) := by
                  have h := cells2_new (wr.alloc (Obj.cells #[.int .i64 (x + b), .int .i64 (y + b)] 74)) 74 (.int .i64 (x + b)) (.int .i64 (y + b))
                  rw [show (wr.alloc (Obj.cells #[.int .i64 (x + b), .int .i64 (y + b)] 74)).heap.size = wr.heap.size + 1 by simp] at h
                  exact h
                have hsz2 : ((wr.alloc (Obj.cells #[.int .i64 (x + b), .int .i64 (y + b)] 74)).alloc (Obj.cells #[.int .i64 (x + b), .int .i64 (y + b)] 74)).heap.size = wr.heap.size + 2 := by simp
                clear hba
                go_wp2_with (at_builtin; refine wpList_append_own _ rfl _ _ 69 rfl (u + 1) 74 i0 (.agg #[.int .i64 0, .int .i64 0]) 2 16 Try.underlying69 hi0 HI0.out.1 HI0.out.2.1 HI0.out.2.2 rfl (by decide) _ _ _ rfl hownA ⟨wr.heap.size + 1, 0, none⟩ 1 1 [.int .i64 (x + b), .int .i64 (y + b)] rfl rfl HKN.out (ones2 _ _) (by unfold maxLen; omega) (by omega) (by omega) ?_)
                intro v' w3 hown3 hgrow _
                have hgb : ∀ g, (Value.slice qa i qc).ownBlock = some g → u + 1 ≤ g := fun g hg => (hownA.lt g hg).1
                have hB3 := Lib.hid (PB.out.grown hgrow (by omega) (fun g hg => by have := hgb g hg; omega))
                have Y3 := Lib.hid ((hgrow.block _ (lt_of_block YA.out) (fun e => by have := hgb _ e.symm; omega)).trans YA.out)
                obtain ⟨qa', qc', rfl⟩ := own_slice hown3
                have HO3 : Hid (w3.ownsRow (u + 1) 74 2 (.slice qa' (i + 1) qc') (i + 1) (flatP ((ps.map (rPt s b ⟨da, db, ps⟩)).take (i + 1)))) := by
                  show World.ownsRow _ _ _ _ _ _ _
                  rw [HTX.out, flatP_append]
                  exact hown3
                have y2 := cellOf Y3.out 2 _ rfl
                have fy := frozen_of_row _ _ 2 _ _ Y3.out
                have yl := lt_of_block Y3.out
                clear hown3 hgrow hownA hgb YA HKN PB OP HY hsz2 c0 c1 c2 cl d2 e0 e1
                go_wp2
                go_roundg (gk - 1)
                case measure => omega
                case rel => exact ⟨i + 1, qa', qc', by omega, by go_num, heap_setCell_same w3 u 2 _ _ (.slice qa' (i + 1) qc') Y3.out, own_other HO3.out ⟨u, 2, none⟩ (by simp) _, hB3.out.setCell (by simp; omega) _, by simp; omega⟩
              · have tb : (db == s) = false := by simp [hd]
                have tb2 : decide (db = s) = false := by simp [hd]
                have HTX : Hid ((ps.map (rPt s b ⟨da, db, ps⟩)).take (i + 1) = (ps.map (rPt s b ⟨da, db, ps⟩)).take i ++ [(x + b, y)]) := by show _ = _; rw [HTK.out]; unfold rPt; simp [hs, ha, hd]
                clear ha hd
                have hba : Below wr.heap.size wr ((wr.alloc (Obj.cells #[.int .i64 (x + b), .int .i64 (y)] 74)).alloc (Obj.cells #[.int .i64 (x + b), .int .i64 (y)] 74)) := by go_grown
                have hownA := (OP.alloc (Obj.cells #[.int .i64 (x + b), .int .i64 (y)] 74)).alloc (Obj.cells #[.int .i64 (x + b), .int .i64 (y)] 74)
                have YA := Lib.hid ((hba.block _ (lt_of_block HY.out)).trans HY.out)
                have PB := Lib.hid (HLI.out.trans (hba.mono HLI.out.size))
                have HKN : Hid (∀ j v, [Value.int .i64 (x + b), .int .i64 (y)][j]? = some v → ((wr.alloc (Obj.cells #[.int .i64 (x + b), .int .i64 (y)] 74)).alloc (Obj.cells #[.int .i64 (x + b), .int .i64 (y)] 74)).cell? ((⟨wr.heap.size + 1, 0, none⟩ : Addr).add j) = some v) := by
                  have h := cells2_new (wr.alloc (Obj.cells #[.int .i64 (x + b), .int .i64 (y)] 74)) 74 (.int .i64 (x + b)) (.int .i64 (y))
                  rw [show (wr.alloc (Obj.cells #[.int .i64 (x + b), .int .i64 (y)] 74)).heap.size = wr.heap.size + 1 by simp] at h
                  exact h
                have hsz2 : ((wr.alloc (Obj.cells #[.int .i64 (x + b), .int .i64 (y)] 74)).alloc (Obj.cells #[.int .i64 (x + b), .int .i64 (y)] 74)).heap.size = wr.heap.size + 2 := by simp
                clear hba
                go_wp2_with (at_builtin; refine wpList_append_own _ rfl _ _ 69 rfl (u + 1) 74 i0 (.agg #[.int .i64 0, .int .i64 0]) 2 16 Try.underlying69 hi0 HI0.out.1 HI0.out.2.1 HI0.out.2.2 rfl (by decide) _ _ _ rfl hownA ⟨wr.heap.size + 1, 0, none⟩ 1 1 [.int .i64 (x + b), .int .i64 (y)] rfl rfl HKN.out (ones2 _ _) (by unfold maxLen; omega) (by omega) (by omega) ?_)
                intro v' w3 hown3 hgrow _
                have hgb : ∀ g, (Value.slice qa i qc).ownBlock = some g → u + 1 ≤ g := fun g hg => (hownA.lt g hg).1
                have hB3 := Lib.hid (PB.out.grown hgrow (by omega) (fun g hg => by have := hgb g hg; omega))
                have Y3 := Lib.hid ((hgrow.block _ (lt_of_block YA.out) (fun e => by have := hgb _ e.symm; omega)).trans YA.out)
                obtain ⟨qa', qc', rfl⟩ := own_slice hown3
                have HO3 : Hid (w3.ownsRow (u + 1) 74 2 (.slice qa' (i + 1) qc') (i + 1) (flatP ((ps.map (rPt s b ⟨da, db, ps⟩)).take (i + 1)))) := by
                  show World.ownsRow _ _ _ _ _ _ _
                  rw [HTX.out, flatP_append]
                  exact hown3
                have y2 := cellOf Y3.out 2 _ rfl
                have fy := frozen_of_row _ _ 2 _ _ Y3.out
                have yl := lt_of_block Y3.out
                clear hown3 hgrow hownA hgb YA HKN PB OP HY hsz2 c0 c1 c2 cl d2 e0 e1
                go_wp2
                go_roundg (gk - 1)
                case measure => omega
                case rel => exact ⟨i + 1, qa', qc', by omega, by go_num, heap_setCell_same w3 u 2 _ _ (.slice qa' (i + 1) qc') Y3.out, own_other HO3.out ⟨u, 2, none⟩ (by simp) _, hB3.out.setCell (by simp; omega) _, by simp; omega⟩
            · have ta : (da == s) = false := by simp [ha]
              have ta2 : decide (da = s) = false := by simp [ha]
              by_cases hd : db = s
              · have tb : (db == s) = true := by simp [hd]
                have HTX : Hid ((ps.map (rPt s b ⟨da, db, ps⟩)).take (i + 1) = (ps.map (rPt s b ⟨da, db, ps⟩)).take i ++ [(x, y + b)]) := by show _ = _; rw [HTK.out]; unfold rPt; simp [hs, ha, hd]
                clear ha hd
                have hba : Below wr.heap.size wr ((wr.alloc (Obj.cells #[.int .i64 (x), .int .i64 (y + b)] 74)).alloc (Obj.cells #[.int .i64 (x), .int .i64 (y + b)] 74)) := by go_grown
                have hownA := (OP.alloc (Obj.cells #[.int .i64 (x), .int .i64 (y + b)] 74)).alloc (Obj.cells #[.int .i64 (x), .int .i64 (y + b)] 74)
                have YA := Lib.hid ((hba.block _ (lt_of_block HY.out)).trans HY.out)
                have PB := Lib.hid (HLI.out.trans (hba.mono HLI.out.size))
                have HKN : Hid (∀ j v, [Value.int .i64 (x), .int .i64 (y + b)][j]? = some v → ((wr.alloc (Obj.cells #[.int .i64 (x), .int .i64 (y + b)] 74)).alloc (Obj.cells #[.int .i64 (x), .int .i64 (y + b)] 74)).cell? ((⟨wr.heap.size + 1, 0, none⟩ : Addr).add j) = some v) := by
                  have h := cells2_new (wr.alloc (Obj.cells #[.int .i64 (x), .int .i64 (y + b)] 74)) 74 (.int .i64 (x)) (.int .i64 (y + b))
                  rw [show (wr.alloc (Obj.cells #[.int .i64 (x), .int .i64 (y + b)] 74)).heap.size = wr.heap.size + 1 by simp] at h
                  exact h
                have hsz2 : ((wr.alloc (Obj.cells #[.int .i64 (x), .int .i64 (y + b)] 74)).alloc (Obj.cells #[.int .i64 (x), .int .i64 (y + b)] 74)).heap.size = wr.heap.size + 2 := by simp
                clear hba
                go_wp2_with (at_builtin; refine wpList_append_own _ rfl _ _ 69 rfl (u + 1) 74 i0 (.agg #[.int .i64 0, .int .i64 0]) 2 16 Try.underlying69 hi0 HI0.out.1 HI0.out.2.1 HI0.out.2.2 rfl (by decide) _ _ _ rfl hownA ⟨wr.heap.size + 1, 0, none⟩ 1 1 [.int .i64 (x), .int .i64 (y + b)] rfl rfl HKN.out (ones2 _ _) (by unfold maxLen; omega) (by omega) (by omega) ?_)
                intro v' w3 hown3 hgrow _
                have hgb : ∀ g, (Value.slice qa i qc).ownBlock = some g → u + 1 ≤ g := fun g hg => (hownA.lt g hg).1
                have hB3 := Lib.hid (PB.out.grown hgrow (by omega) (fun g hg => by have := hgb g hg; omega))
                have Y3 := Lib.hid ((hgrow.block _ (lt_of_block YA.out) (fun e => by have := hgb _ e.symm; omega)).trans YA.out)
                obtain ⟨qa', qc', rfl⟩ := own_slice hown3
                have HO3 : Hid (w3.ownsRow (u + 1) 74 2 (.slice qa' (i + 1) qc') (i + 1) (flatP ((ps.map (rPt s b ⟨da, db, ps⟩)).take (i + 1)))) := by
                  show World.ownsRow _ _ _ _ _ _ _
                  rw [HTX.out, flatP_append]
                  exact hown3
                have y2 := cellOf Y3.out 2 _ rfl
                have fy := frozen_of_row _ _ 2 _ _ Y3.out
                have yl := lt_of_block Y3.out
                clear hown3 hgrow hownA hgb YA HKN PB OP HY hsz2 c0 c1 c2 cl d2 e0 e1
                go_wp2
                go_roundg (gk - 1)
                case measure => omega
                case rel => exact ⟨i + 1, qa', qc', by omega, by go_num, heap_setCell_same w3 u 2 _ _ (.slice qa' (i + 1) qc') Y3.out, own_other HO3.out ⟨u, 2, none⟩ (by simp) _, hB3.out.setCell (by simp; omega) _, by simp; omega⟩
              · have tb : (db == s) = false := by simp [hd]
                have tb2 : decide (db = s) = false := by simp [hd]
                have HTX : Hid ((ps.map (rPt s b ⟨da, db, ps⟩)).take (i + 1) = (ps.map (rPt s b ⟨da, db, ps⟩)).take i ++ [(x, y)]) := by show _ = _; rw [HTK.out]; unfold rPt; simp [hs, ha, hd]
                clear ha hd
                have hba : Below wr.heap.size wr ((wr.alloc (Obj.cells #[.int .i64 (x), .int .i64 (y)] 74)).alloc (Obj.cells #[.int .i64 (x), .int .i64 (y)] 74)) := by go_grown
                have hownA := (OP.alloc (Obj.cells #[.int .i64 (x), .int .i64 (y)] 74)).alloc (Obj.cells #[.int .i64 (x), .int .i64 (y)] 74)
                have YA := Lib.hid ((hba.block _ (lt_of_block HY.out)).trans HY.out)
                have PB := Lib.hid (HLI.out.trans (hba.mono HLI.out.size))
                have HKN : Hid (∀ j v, [Value.int .i64 (x), .int .i64 (y)][j]? = some v → ((wr.alloc (Obj.cells #[.int .i64 (x), .int .i64 (y)] 74)).alloc (Obj.cells #[.int .i64 (x), .int .i64 (y)] 74)).cell? ((⟨wr.heap.size + 1, 0, none⟩ : Addr).add j) = some v) := by
                  have h := cells2_new (wr.alloc (Obj.cells #[.int .i64 (x), .int .i64 (y)] 74)) 74 (.int .i64 (x)) (.int .i64 (y))
                  rw [show (wr.alloc (Obj.cells #[.int .i64 (x), .int .i64 (y)] 74)).heap.size = wr.heap.size + 1 by simp] at h
                  exact h
                have hsz2 : ((wr.alloc (Obj.cells #[.int .i64 (x), .int .i64 (y)] 74)).alloc (Obj.cells #[.int .i64 (x), .int .i64 (y)] 74)).heap.size = wr.heap.size + 2 := by simp
                clear hba
                go_wp2_with (at_builtin; refine wpList_append_own _ rfl _ _ 69 rfl (u + 1) 74 i0 (.agg #[.int .i64 0, .int .i64 0]) 2 16 Try.underlying69 hi0 HI0.out.1 HI0.out.2.1 HI0.out.2.2 rfl (by decide) _ _ _ rfl hownA ⟨wr.heap.size + 1, 0, none⟩ 1 1 [.int .i64 (x), .int .i64 (y)] rfl rfl HKN.out (ones2 _ _) (by unfold maxLen; omega) (by omega) (by omega) ?_)
                intro v' w3 hown3 hgrow _
                have hgb : ∀ g, (Value.slice qa i qc).ownBlock = some g → u + 1 ≤ g := fun g hg => (hownA.lt g hg).1
                have hB3 := Lib.hid (PB.out.grown hgrow (by omega) (fun g hg => by have := hgb g hg; omega))
                have Y3 := Lib.hid ((hgrow.block _ (lt_of_block YA.out) (fun e => by have := hgb _ e.symm; omega)).trans YA.out)
                obtain ⟨qa', qc', rfl⟩ := own_slice hown3
                have HO3 : Hid (w3.ownsRow (u + 1) 74 2 (.slice qa' (i + 1) qc') (i + 1) (flatP ((ps.map (rPt s b ⟨da, db, ps⟩)).take (i + 1)))) := by
                  show World.ownsRow _ _ _ _ _ _ _
                  rw [HTX.out, flatP_append]
                  exact hown3
                have y2 := cellOf Y3.out 2 _ rfl
                have fy := frozen_of_row _ _ 2 _ _ Y3.out
                have yl := lt_of_block Y3.out
                clear hown3 hgrow hownA hgb YA HKN PB OP HY hsz2 c0 c1 c2 cl d2 e0 e1
                go_wp2
                go_roundg (gk - 1)
                case measure => omega
                case rel => exact ⟨i + 1, qa', qc', by omega, by go_num, heap_setCell_same w3 u 2 _ _ (.slice qa' (i + 1) qc') Y3.out, own_other HO3.out ⟨u, 2, none⟩ (by simp) _, hB3.out.setCell (by simp; omega) _, by simp; omega⟩
        · obtain rfl : i = np := by omega
          have iI : ¬ (i : Int) < (i : Int) := by omega
          have HTA : Hid ((ps.map (rPt s b ⟨da, db, ps⟩)).take i = ps.map (rPt s b ⟨da, db, ps⟩)) := by show _ = _; rw [List.take_of_length_le]; rw [List.length_map, HNP.out]; exact Nat.le_refl _
          have OW := HOW.out.below HLI.out
          have hba : Below wr.heap.size wr (wr.alloc (Obj.cells #[.int .i64 da, .int .i64 db, .slice qa i qc] 71)) := (Below.refl _ _).alloc (Nat.le_refl _) _
          have OWA := Lib.hid (OW.below hba)
          have hownA := OWA.out.row
          have OPA : Hid ((wr.alloc (Obj.cells #[.int .i64 da, .int .i64 db, .slice qa i qc] 71)).ownsRow W.heap.size 74 2 (.slice qa i qc) (RC.getD k default).pts.length (flatP (RC.getD k default).pts)) := by
            show World.ownsRow _ _ _ _ _ _ _
            rw [HRK.out]
            simp only [rEd, List.length_map]
            rw [HNP.out, ← HTA.out]
            exact own_base (OP.alloc _) (by omega)
          have PB := Lib.hid ((HL.out.trans (HLI.out.mono HL.out.size)).trans (hba.mono (by have := HLI.out.size; omega)))
          have HKN := Lib.hid (cells3_new wr 71 (.int .i64 da) (.int .i64 db) (.slice qa i qc))
          have y0c := cellOf HY.out 0 _ rfl
          have y1c := cellOf HY.out 1 _ rfl
          have y2c := cellOf HY.out 2 _ rfl
          have HWS : W.heap.size ≤ wr.heap.size := by have := HLI.out.size; omega
          have kI8 : (k : Int) < 8 := by omega
          have hk8 : k < 8 := by omega
          clear hba OW hin hi
          go_wp2_with (at_builtin; refine wpList_append_own _ rfl _ _ 23 rfl W.heap.size 71 i1 (.agg #[.int .i64 0, .int .i64 0, .slice none 0 0]) 3 40 Try.underlying23 hi1 HI1.out.1 HI1.out.2.1 HI1.out.2.2 rfl (by decide) _ _ _ rfl hownA ⟨wr.heap.size, 0, none⟩ 1 1 [.int .i64 da, .int .i64 db, .slice qa i qc] rfl rfl HKN.out (by intro u hu; simp at hu; rcases hu with rfl | rfl | rfl <;> rfl) (by unfold maxLen; omega) (by omega) (by simp; omega) ?_)
          intro v' w3 hown3 hgrow _
          have hB3 := Lib.hid (PB.out.grown hgrow PB.out.size (fun g hg => (hownA.lt g hg).1))
          obtain ⟨la', lc', rfl⟩ := own_slice hown3
          have HN3 : Hid (EdOwn W.heap.size w3 (.slice la' (k + 1) lc') RC (k + 1) (fun j => if j = k then .slice qa i qc else P j)) := OWA.out.next OPA.out hgrow (by rw [HRK.out]; exact hown3)
          clear hown3 hgrow hownA OWA OPA PB HKN OP HY c0 c1 c2 cl d2 y0c y1c y2c iI
          go_wp2
          go_roundg gk2
          case measure => omega
          case rel => exact ⟨k + 1, la', lc', _, by omega, by go_num, rfl, HN3, hB3⟩
    · obtain rfl : k = m := by omega
      have kI : ¬ (k : Int) < (k : Int) := by omega
      have Q1 := Lib.hid ((HL.out.block _ (lt_of_block HQ.out)).trans HQ.out)
      have q0 := cellOf Q1.out 0 _ rfl
      have q1 := cellOf Q1.out 1 _ rfl
      have q2 := cellOf Q1.out 2 _ rfl
      have ql := lt_of_block Q1.out
      have f0 := frozen_of_row _ _ 0 _ _ Q1.out
      have f1 := frozen_of_row _ _ 1 _ _ Q1.out
      have f2 := frozen_of_row _ _ 2 _ _ Q1.out
      have g2 := frozen_of_row _ _ 2 _ _ R1.out
      clear hkm hk
      go_wp2_with fail
      have hA := ((((HOW.out.other ⟨w.heap.size, 2, none⟩ (by simp; omega) (.slice na k nc)).other ⟨w.heap.size + 1, 0, none⟩ (by simp; omega) (.int .i64 tol)).other ⟨w.heap.size + 1, 1, none⟩ (by simp; omega) (.slice sa n sc)).other ⟨w.heap.size + 1, 2, none⟩ (by simp; omega) (.slice na k nc))
      have hbf := put3_below (g := w.heap.size + 1) (a := .int .i64 tol) (b := .slice sa n sc) (c := .slice na k nc) ((HB.out.trans (HL.out.mono HB.out.size)).setCell (p := ⟨w.heap.size, 2, none⟩) (Nat.le_refl _) (.slice na k nc)) (by omega)
      have hres := put3_at (V := wr.setCell ⟨w.heap.size, 2, none⟩ (.slice na k nc)) (g := w.heap.size + 1) (a := .int .i64 tol) (b := .slice sa n sc) (c := .slice na k nc) ((heap_setCell_other wr ⟨w.heap.size, 2, none⟩ (w.heap.size + 1) _ (by simp)).trans Q1.out)
      have hk2 := HRL.out
      refine bodyPost_ret (case_result rfl _ _ (w.heap.size + 1) _ _ _ rfl hres) rfl ⟨_, rfl, ⟨HSH.out.below hbf, ?_⟩, hbf⟩
      show EdgsAt _ _ (c.eds.map (rEd s b))
      rw [HRC.out]
      subst hk2
      refine EdOwn.at hA (by have := HRL.out; omega) fun d hd => ?_
      rw [← HRC.out] at hd
      obtain ⟨d', hd', rfl⟩ := List.mem_map.1 hd
      have := (HV.out.ed _ hd').p4
      simp only [rEd, List.length_map]
      omega
end Go.Proofs.Ytojdocomkhihoaa
namespace Go.Proofs.Ytojdocomkhihoaa
open Go Go.RowKit Go.Shelf Ed

/-- Two cases that want the same of the same sheets. -/
structure SameW (c d : Cas) : Prop where
  shs : c.shs = d.shs
  len : c.eds.length = d.eds.length
  ab : ∀ i, i < c.eds.length → (c.eds.getD i default).a = (d.eds.getD i default).a ∧ (c.eds.getD i default).b = (d.eds.getD i default).b
  wt : ∀ i, i < c.eds.length → wantF c i = wantF d i
theorem wL_wsC (c : Cas) (h8 : c.eds.length ≤ 8) (i : Nat) (hi : i < c.eds.length) : wL (wsC c) i = wantF c i := by
  have h := wsTo_get (wantF c) c.eds.length i hi h8
  exact Prod.ext h.1 h.2
theorem SameW.sys {c d : Cas} (h : SameW c d) (h8 : c.eds.length ≤ 8) : sysA c = sysA d := by
  have h8' : d.eds.length ≤ 8 := by rw [← h.len]; exact h8
  have he : (List.range c.eds.length).map (fun i => (⟨(c.eds.getD i default).a.toNat, (c.eds.getD i default).b.toNat, (wL (wsC c) i).1, (wL (wsC c) i).2⟩ : Ar)) = (List.range d.eds.length).map fun i => ⟨(d.eds.getD i default).a.toNat, (d.eds.getD i default).b.toNat, (wL (wsC d) i).1, (wL (wsC d) i).2⟩ := by
    rw [← h.len]
    apply List.map_congr_left
    intro i hi
    have hi' := List.mem_range.1 hi
    rw [wL_wsC c h8 i hi', wL_wsC d h8' i (by rw [← h.len]; exact hi'), (h.ab i hi').1, (h.ab i hi').2, h.wt i hi']
  unfold sysA sysC
  rw [he, h.shs]
theorem SameW.least {c d : Cas} (h : SameW c d) (hc : errC c = 0) (hd : errC d = 0) : leastE c = leastE d := by
  have hs := h.sys (valid_of hc).m8
  rcases least_spec d hd with ⟨h1, h2⟩ | ⟨h1, h2⟩
  · rw [h1]
    exact least_no c hc (by rw [hs]; exact h2)
  · have : leastE c = ((leastE d).1, (leastE d).2.1, 0) := least_is c hc ⟨by rw [h2.len, h.shs], by rw [hs]; exact h2.ag, by rw [hs]; exact h2.mn, fun y hy i hi => h2.bot y (by rw [← hs]; exact hy) i (by rw [← h.shs]; exact hi), by rw [hs]; exact h2.cost⟩
    rw [this, ← h1]
theorem canS_iff (c : Cas) (hv : Valid c) (s : Nat) : canS c s = true ↔ ∃ y, Ag (sysA (lessC c s)) y := by
  have hl := less_valid c hv s
  unfold canS
  constructor
  · intro h
    exact ⟨_, (highC_true _ hl _ h).2.1⟩
  · rintro ⟨y, hy⟩
    cases h : (highC (lessC c s) (wsC (lessC c s))).2
    · exact absurd hy (highC_false _ hl _ h y)
    · rfl
theorem SameW.less {c d : Cas} (h : SameW c d) (s : Nat) : SameW (lessC c s) (lessC d s) := by
  have hg : ∀ e : Cas, ∀ i, i < (lessC e s).eds.length → (lessC e s).eds.getD i default = e.eds.getD ((resK s e.eds.length).getD i 0) default := by
    intro e i hi
    simp only [lessC, List.length_map] at hi ⊢
    simp [List.getD_eq_getElem?_getD, hi]
  have hr : ∀ (n i : Nat), i < (resK s n).length → (resK s n).getD i 0 < n := by
    intro n i hi
    have : (resK s n).getD i 0 ∈ resK s n := by rw [List.getD_eq_getElem?_getD, List.getElem?_eq_getElem hi]; exact List.getElem_mem hi
    exact List.mem_range.1 (List.mem_filter.1 this).1
  have hlen : (lessC c s).eds.length = (resK s c.eds.length).length := by simp [lessC]
  have hlen' : (lessC d s).eds.length = (resK s d.eds.length).length := by simp [lessC]
  have hll : (lessC c s).eds.length = (lessC d s).eds.length := by rw [hlen, hlen', h.len]
  refine ⟨h.shs, hll, fun i hi => ?_, fun i hi => ?_⟩
  · rw [hg c i hi, hg d i (by rw [← hll]; exact hi), ← h.len]
    exact h.ab _ (hr _ _ (by rw [← hlen]; exact hi))
  · have := h.wt _ (hr _ _ (by rw [← hlen]; exact hi))
    unfold wantF at this ⊢
    rw [hg c i hi, hg d i (by rw [← hll]; exact hi), ← h.len]
    exact this
theorem SameW.can {c d : Cas} (h : SameW c d) (hc : Valid c) (hd : Valid d) (s : Nat) : canS c s = canS d s := by
  have hs := (h.less s).sys (less_valid c hc s).m8
  rw [Bool.eq_iff_iff, canS_iff c hc, canS_iff d hd, hs]
/-- What Without answers. -/
def withoutE (c : Cas) : List Int × Int := if errC c ≠ 0 then ([], errC c) else (withoutC c, 0)
theorem SameW.without {c d : Cas} (h : SameW c d) (hc : errC c = 0) (hd : errC d = 0) : withoutE c = withoutE d := by
  have hv := valid_of hc
  have hw := valid_of hd
  unfold withoutE
  rw [if_neg (by simp [hc]), if_neg (by simp [hd])]
  have : spareL c = spareL d := by
    unfold spareL spareTo
    rw [← h.len]
    congr 1
    funext s
    rw [h.can hv hw s]
  unfold withoutC
  rw [this]
theorem without1_any (c : Cas) (sv ev : Value) (w : World) (hC : CasAt w c sv ev) :
    Calls Try.prog 32 #[.agg #[.int .i64 c.tol, sv, ev]] w fun e w' => ∃ v, e = .returned (.tuple #[v, .int .i64 (withoutE c).2]) ∧ IntsAt w' v (withoutE c).1 ∧ Below w.heap.size w w' := by
  refine (without_any c sv ev w hC).mono fun e w' ⟨h1, h2, hb⟩ => ?_
  unfold withoutE
  by_cases h0 : errC c = 0
  · rw [if_neg (by simp [h0])]
    obtain ⟨v, hv, hI⟩ := h2 h0
    exact ⟨v, hv, hI, hb⟩
  · rw [if_pos h0]
    exact ⟨_, h1 h0, ⟨by simp, none, 0, rfl, Nat.le_refl _, fun h => absurd rfl h⟩, hb⟩
/-! ## Raised heights -/
def up (α β : Int) (p : Int × Int) : Int × Int := (p.1 + α, p.2 + β)
theorem want_up_fold (tol α β : Int) : ∀ (l : List (Int × Int)) (s : Int × Int), (l.map (up α β)).foldl (wantStep tol) (s.1 + (β - α), s.2 + (β - α)) = ((l.foldl (wantStep tol) s).1 + (β - α), (l.foldl (wantStep tol) s).2 + (β - α)) := by
  intro l
  induction l with
  | nil => intro s; rfl
  | cons p l ih =>
    intro s
    rw [List.map_cons, List.foldl_cons, List.foldl_cons]
    have e : wantStep tol (s.1 + (β - α), s.2 + (β - α)) (up α β p) = ((wantStep tol s p).1 + (β - α), (wantStep tol s p).2 + (β - α)) := by
      simp only [wantStep, up, Prod.mk.injEq]
      omega
    rw [e, ih]
theorem want_up (tol α β : Int) (l : List (Int × Int)) (h0 : 0 ≤ tol) (hne : l ≠ []) (h1 : PtsOk l) (h2 : PtsOk (l.map (up α β))) : wantS tol (l.map (up α β)) = ((wantS tol l).1 + (β - α), (wantS tol l).2 + (β - α)) := by
  obtain ⟨p, t, rfl⟩ := List.exists_cons_of_ne_nil hne
  rw [want_first tol p t (h1 p (by simp)) h0]
  have := want_first tol (up α β p) (t.map (up α β)) (h2 _ (by simp)) h0
  rw [List.map_cons, this, ← want_up_fold]
  congr 1
  simp only [up, Prod.mk.injEq]
  omega
def aOf (s b : Int) (d : Edg) : Int := if s < 0 ∨ d.a = s then b else 0
def bOf (s b : Int) (d : Edg) : Int := if s < 0 ∨ d.b = s then b else 0
theorem rPt_up (s b : Int) (d : Edg) : rPt s b d = up (aOf s b d) (bOf s b d) := by
  funext p
  unfold rPt up aOf bOf
  split <;> split <;> simp
theorem raised_getD (c : Cas) (s b : Int) (i : Nat) (hi : i < c.eds.length) : (raisedC c s b).eds.getD i default = rEd s b (c.eds.getD i default) := by
  simp only [raisedC]
  rw [rEd_getD _ _ _ _ hi, getD_lt _ _ hi]
theorem raised_want (c : Cas) (s b : Int) (hc : Valid c) (hd : Valid (raisedC c s b)) (i : Nat) (hi : i < c.eds.length) :
    wantF (raisedC c s b) i = ((wantF c i).1 + (bOf s b (c.eds.getD i default) - aOf s b (c.eds.getD i default)), (wantF c i).2 + (bOf s b (c.eds.getD i default) - aOf s b (c.eds.getD i default))) := by
  have hdi : i < (raisedC c s b).eds.length := by simp [raisedC, hi]
  have e1 := hc.ed _ (List.getElem_mem hi)
  have e2 := hd.ed _ (List.getElem_mem hdi)
  have hg := raised_getD c s b i hi
  unfold wantF
  rw [hg]
  simp only [rEd, rPt_up]
  rw [← getD_lt _ _ hdi, hg] at e2
  rw [← getD_lt _ _ hi] at e1
  have p2 := e2.pt
  simp only [rEd, rPt_up] at p2
  exact want_up c.tol _ _ _ hc.t0 (by intro h; have := e1.p1; rw [h] at this; simp at this) e1.pt p2
theorem raised_same (c : Cas) (b : Int) (hc : Valid c) (hd : Valid (raisedC c (-1) b)) : SameW c (raisedC c (-1) b) := by
  have hl : c.eds.length = (raisedC c (-1) b).eds.length := by simp [raisedC]
  refine ⟨rfl, hl, fun i hi => ?_, fun i hi => ?_⟩
  · rw [raised_getD c _ _ i hi]
    exact ⟨rfl, rfl⟩
  · rw [raised_want c _ _ hc hd i hi]
    have : bOf (-1) b (c.eds.getD i default) = aOf (-1) b (c.eds.getD i default) := by unfold bOf aOf; rw [if_pos (Or.inl (by decide)), if_pos (Or.inl (by decide))]
    rw [this]
    simp
end Go.Proofs.Ytojdocomkhihoaa
