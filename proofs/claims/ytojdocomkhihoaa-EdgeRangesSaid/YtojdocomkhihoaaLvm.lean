/- Package edge: what Least, Range and Without answer, by what agrees. -/
import Derived.Test.YtojdocomkhihoaaRff
import Derived.Maps.AppendAt
set_option linter.unusedSimpArgs false
set_option linter.unusedVariables false
namespace Go.Proofs.Ytojdocomkhihoaa
open Go Go.RowKit Go.Shelf Ed

set_option maxHeartbeats 400000 in
theorem lvalid_any (c : Cas) (sv ev : Value) (w : World) (hC : CasAt w c sv ev) :
    Calls Try.prog 36 #[.agg #[.int .i64 c.tol, sv, ev]] w fun e w' => e = .returned (.bool (decide (errC c = 0))) ∧ Below w.heap.size w w' := by
  obtain ⟨sa, n, sc, rfl⟩ : ∃ a n cc, sv = .slice a n cc := by obtain ⟨_, a, cap, h, _⟩ := hC.shs; exact ⟨_, _, _, h⟩
  obtain ⟨ea, m, ec, rfl⟩ : ∃ a n cc, ev = .slice a n cc := by obtain ⟨_, a, cap, h, _⟩ := hC.eds; exact ⟨_, _, _, h⟩
  obtain ⟨W, hW⟩ : ∃ W, w.alloc (Obj.cells #[.int .i64 c.tol, .slice sa n sc, .slice ea m ec] 25) = W := ⟨_, rfl⟩
  have hb : Below w.heap.size w W := by rw [← hW]; exact (Below.refl _ _).alloc (Nat.le_refl _) _
  have HCK := Lib.hid (rcheck_any c _ _ W (hC.below hb))
  obtain ⟨tol, htol⟩ : ∃ t, c.tol = t := ⟨_, rfl⟩
  rw [htol] at HCK hW ⊢
  have HR : Hid (W.heap[w.heap.size]? = some (Obj.cells #[.int .i64 tol, .slice sa n sc, .slice ea m ec] 25)) := by show _ = _; rw [← hW]; exact heap_alloc_new w _
  have HW := Lib.hid hW
  have HB := Lib.hid hb
  obtain ⟨⟨k1, k2, er⟩, hk⟩ : ∃ x, checkC c = x := ⟨_, rfl⟩
  have HER : Hid (errC c = er) := by show _ = _; unfold errC; rw [hk]
  rw [hk] at HCK
  have HDE : Hid (decide (errC c = 0) = (er == 0)) := by show _ = _; rw [HER.out]; rfl
  obtain ⟨dd, hdd⟩ : ∃ b, decide (errC c = 0) = b := ⟨_, rfl⟩
  rw [hdd] at HDE ⊢
  clear hW hb hC htol hk hdd
  go_enter Try.func36, Try.ntmps36
  go_wp2_with fail
  rw [HW.out]
  have c0 := cellOf HR.out 0 _ rfl
  have c1 := cellOf HR.out 1 _ rfl
  have c2 := cellOf HR.out 2 _ rfl
  have cl := lt_of_block HR.out
  go_wp2_with fail
  refine HCK.out.mono ?_
  rintro e w1 ⟨rfl, hb1⟩
  have HB1 := Lib.hid (HB.out.trans (hb1.mono HB.out.size))
  clear hb1 HB HCK HW HR c0 c1 c2 cl
  obtain rfl := HDE.out
  go_wp2
  go_ret
  exact ⟨rfl, HB1.out⟩
theorem turnS_le {w : World} {v : Value} {l : List Nat} (h : U8At w v l) (n : Nat) : turnS l n ≤ 255 := by
  unfold turnS
  split
  · omega
  · rename_i hne
    obtain ⟨_, a, cap, rfl, h2⟩ := h
    obtain ⟨b, o, _, hc⟩ := h2 hne
    exact (hc _ (Nat.mod_lt _ (List.length_pos_iff.2 hne))).2
set_option maxRecDepth 100000 in
set_option maxHeartbeats 1000000 in
theorem lturn_any (v : Value) (l : List Nat) (n : Nat) (w : World) (hv : U8At w v l) (hn : n ≤ 1000) :
    Calls Try.prog 76 #[v, .int .i64 n] w fun e w' => e = .returned (.int .i64 (turnS l n)) ∧ w = w' := by
  obtain ⟨hm, a, cap, rfl, hc⟩ := hv
  have hm' : (l.length : Int) ≤ 4611686018427387904 := by omega
  by_cases hl : l = []
  · subst hl
    go_enter Try.func76, Try.ntmps76
    go_wp2
    go_ret
    exact ⟨rfl, rfl⟩
  · obtain ⟨b, o, rfl, hd⟩ := hc hl
    have hp := List.length_pos_iff.2 hl
    have hlt : n % l.length < l.length := Nat.mod_lt _ hp
    obtain ⟨hck, hle⟩ := hd _ hlt
    have HE : Hid (turnS l n = l.getD (n % l.length) 0) := by show _ = _; unfold turnS; rw [if_neg hl]
    have e1 := tmod_nat n l.length
    generalize n % l.length = k at *
    generalize l.getD k 0 = z at *
    have z0 : ((l.length : Int) == 0) = false := by rw [beq_eq_false_iff_ne]; omega
    have p1 : (1 : Int) ≤ (l.length : Int) := by omega
    have kl : (k : Int) < (l.length : Int) := by omega
    have zl : (z : Int) ≤ 255 := by omega
    clear hc hd hl
    go_enter Try.func76, Try.ntmps76
    go_wp2
    go_ret
    exact ⟨by rw [HE.out]; rfl, rfl⟩
/-- ANY changes, by turns. -/
def anyK (shs : List Sht) (x : List Nat) (k : Nat) : List Int := (List.range k).map fun i => ((turnS x i : Int) % (2 * (shs.getD i default).most + 1)) - (shs.getD i default).most
def anyC (c : Cas) (x : List Nat) : List Int := anyK c.shs x c.shs.length
theorem anyK_succ (shs : List Sht) (x : List Nat) (k : Nat) : anyK shs x (k + 1) = anyK shs x k ++ [((turnS x k : Int) % (2 * (shs.getD k default).most + 1)) - (shs.getD k default).most] := by
  unfold anyK
  rw [List.range_succ, List.map_append]
  rfl
theorem anyK_length (shs : List Sht) (x : List Nat) (k : Nat) : (anyK shs x k).length = k := by simp [anyK]
theorem anyC_length (c : Cas) (x : List Nat) : (anyC c x).length = c.shs.length := anyK_length _ _ _
set_option maxRecDepth 100000 in
set_option maxHeartbeats 4000000 in
theorem lany_any (c : Cas) (hv : Valid c) (sv ev xv : Value) (x : List Nat) (w : World) (hC : CasAt w c sv ev) (hX : U8At w xv x) :
    Calls Try.prog 37 #[.agg #[.int .i64 c.tol, sv, ev], xv] w fun e w' => ∃ v, e = .returned v ∧ IntsAt w' v (anyC c x) ∧ Below w.heap.size w w' := by
  obtain ⟨m, hm⟩ : ∃ m, c.shs.length = m := ⟨_, rfl⟩
  obtain ⟨ea, em, ec, rfl⟩ : ∃ a n cc, ev = .slice a n cc := by obtain ⟨_, a, cap, h, _⟩ := hC.eds; exact ⟨_, _, _, h⟩
  have hS := hC.shs
  obtain ⟨_, sa, sc, rfl, _⟩ := id hS
  obtain ⟨_, xa, xc, rfl, _⟩ := id hX
  have n5 := hv.n5
  rw [hm] at hS n5 ⊢
  obtain ⟨i0, hi0⟩ := info_of_underlying Try.underlying3
  have HI : Hid (i0.zero = some (.int .i64 0) ∧ i0.size = 1 ∧ i0.bytes = 8) := by
    have h := intInfo
    rw [hi0] at h
    simp at h
    exact h
  obtain ⟨W, hW⟩ : ∃ W, w.alloc (Obj.cells #[.int .i64 c.tol, .slice sa m sc, .slice ea em ec] 25) = W := ⟨_, rfl⟩
  have hb : Below w.heap.size w W := by rw [← hW]; exact (Below.refl _ _).alloc (Nat.le_refl _) _
  have HR : Hid (W.heap[w.heap.size]? = some (Obj.cells #[.int .i64 c.tol, .slice sa m sc, .slice ea em ec] 25)) := by show _ = _; rw [← hW]; exact heap_alloc_new w _
  have HS := Lib.hid (hS.below hb)
  have HX := Lib.hid (hX.below hb)
  have HW := Lib.hid hW
  have HB := Lib.hid hb
  have HM := Lib.hid hm
  have HV := Lib.hid hv
  have HAN : Hid (anyC c x = anyK c.shs x m) := by show _ = _; unfold anyC; rw [hm]
  have mI : (m : Int) ≤ 5 := by omega
  generalize c.tol = tol at *
  have own0 : W.ownsRow W.heap.size 3 1 (.slice none 0 0) 0 ((anyK c.shs x 0).map (Value.int .i64)) := World.ownsRow_nil _ _ _ _
  clear hW hb hS hX hC hm hv
  go_enter Try.func37, Try.ntmps37
  go_wp2_with fail
  rw [HW.out]
  go_loopg [5, 6] m (fun g nv v wr => ∃ (k : Nat) (na : Option Addr) (nc : Nat), g + k = m ∧ v = .int .i64 k ∧ nv = .slice na k nc ∧ wr.ownsRow W.heap.size 3 1 (.slice na k nc) k ((anyK c.shs x k).map (Value.int .i64)) ∧ Hid (Below W.heap.size W wr))
  case atStart => exact ⟨0, none, 0, by omega, rfl, rfl, own0, Below.refl _ _⟩
  case round =>
    clear own0
    obtain ⟨k, na, nc, hk, rfl, rfl, hown, HL⟩ := hrel
    have R1 := Lib.hid ((HL.out.block _ (lt_of_block HR.out)).trans HR.out)
    have c1 := cellOf R1.out 1 _ rfl
    have cl := lt_of_block R1.out
    by_cases hkm : k < m
    · have kI : (k : Int) < (m : Int) := by omega
      have hk' : k < c.shs.length := by rw [HM.out]; exact hkm
      obtain ⟨sb, so, rfl, d0, d1, d2⟩ := (HS.out.below HL.out).get hk'
      have hsk := HV.out.sh _ (List.getElem_mem hk')
      obtain ⟨_, _, m0, m6⟩ := hsk
      have HSN := Lib.hid (anyK_succ c.shs x k)
      rw [getD_lt _ _ hk'] at HSN
      generalize c.shs[k] = s at *
      obtain ⟨nm, wt, most⟩ := s
      simp only at d0 d1 d2 m0 m6 HSN
      have htl := turnS_le HX.out k
      have HT := Lib.hid (lturn_any (.slice xa x.length xc) x k wr (HX.out.below HL.out) (by omega))
      generalize turnS x k = z at *
      have zI : (z : Int) ≤ 255 := by omega
      have s1 : IntKind.i64.wrap (2 * most) = 2 * most := by rw [IntKind.wrap_i64] <;> omega
      have s2 : IntKind.i64.wrap (2 * most + 1) = 2 * most + 1 := by rw [IntKind.wrap_i64] <;> omega
      obtain ⟨dv, hdv⟩ : ∃ d : Int, 2 * most + 1 = d := ⟨_, rfl⟩
      have hd1 : 1 ≤ dv := by omega
      have hd13 : dv ≤ 13 := by omega
      have dz : (dv == 0) = false := by rw [beq_eq_false_iff_ne]; omega
      have em : (z : Int).tmod dv = (z : Int) % dv := Int.tmod_eq_emod_of_nonneg (by omega)
      have em0 : 0 ≤ (z : Int) % dv := Int.emod_nonneg _ (by omega)
      have em1 : (z : Int) % dv < dv := Int.emod_lt_of_pos _ (by omega)
      rw [hdv] at s2 HSN
      have nd0 : ¬ dv = 0 := by omega
      have nd1 : ¬ dv = -1 := by omega
      obtain ⟨y, hy⟩ : ∃ y : Int, (z : Int) % dv = y := ⟨_, rfl⟩
      rw [hy] at em em0 em1 HSN
      have s3 : IntKind.i64.wrap y = y := by rw [IntKind.wrap_i64] <;> omega
      have s4 : IntKind.i64.wrap (y - most) = y - most := by rw [IntKind.wrap_i64] <;> omega
      have s0 := hdv
      have hownA := hown.alloc (Obj.cells #[.int .i64 (y - most)] 3)
      have hba : Below wr.heap.size wr (wr.alloc (Obj.cells #[.int .i64 (y - most)] 3)) := (Below.refl _ _).alloc (Nat.le_refl _) _
      have PB := Lib.hid (HL.out.trans (hba.mono HL.out.size))
      have HLS := HL.out.size
      have kI5 : (k : Int) < 5 := by omega
      clear hk' hba hy hdv hown
      go_wp2_with fail
      refine HT.out.mono ?_
      rintro e w' ⟨rfl, rfl⟩
      clear HT
      go_wp2_with (at_builtin; refine wpList_append_own _ rfl _ _ 26 rfl W.heap.size 3 i0 (.int .i64 0) 1 8 Try.underlying26 hi0 HI.out.1 HI.out.2.1 HI.out.2.2 rfl (by decide) _ _ _ rfl hownA ⟨wr.heap.size, 0, none⟩ 1 1 [.int .i64 (y - most)] rfl rfl ?pa1 ?pa2 ?pa3 ?pa4 ?pa5 ?_)
      case pa1 =>
        intro j u hj
        match j, hj with
        | 0, hj => simp at hj; subst hj; exact cellOf (heap_alloc_new wr (Obj.cells #[.int .i64 (y - most)] 3)) 0 _ rfl
        | j + 1, hj => simp at hj
      case pa2 => intro u hu; simp at hu; subst hu; rfl
      case pa3 => unfold maxLen; omega
      case pa4 => omega
      case pa5 => simp; omega
      intro v' w3 hown3 hgrow _
      have hB3 := Lib.hid (PB.out.grown hgrow PB.out.size (fun g hg => by have := (hownA.lt g hg).1; omega))
      obtain ⟨la', lc', rfl⟩ := own_slice hown3
      have HO3 : Hid (w3.ownsRow W.heap.size 3 1 (.slice la' (k + 1) lc') (k + 1) ((anyK c.shs x (k + 1)).map (Value.int .i64))) := by
        show World.ownsRow _ _ _ _ _ _ _
        rw [HSN.out, List.map_append]
        exact hown3
      clear hown3 hgrow hownA c1 cl d0 d1 d2 s0 s1 s2 s3 s4 em dz
      go_wp2
      go_roundg (gk - 1)
      case measure => omega
      case rel => exact ⟨k + 1, la', lc', by omega, by go_num, rfl, HO3.out, hB3⟩
    · obtain rfl : k = m := by omega
      have kI : ¬ (k : Int) < (k : Int) := by omega
      have HO := Lib.hid (intsAt_own (l := anyK c.shs x k) (by rw [anyK_length]; exact hown) (by rw [anyK_length]; omega))
      clear hkm hk hown
      go_wp2
      go_ret
      exact ⟨_, rfl, by rw [HAN.out]; exact HO.out, HB.out.trans (HL.out.mono HB.out.size)⟩
/-- Whether changes agree. -/
def agreeB (c : Cas) (l : List Int) : Bool := decide (chgE c l = 0) && decide (oddR c l < 0)
set_option maxRecDepth 100000 in
set_option maxHeartbeats 4000000 in
theorem lagree_any (c : Cas) (sv ev lv : Value) (l : List Int) (w : World) (hC : CasAt w c sv ev) (hL : IntsAt w lv l) :
    Calls Try.prog 38 #[.agg #[.int .i64 c.tol, sv, ev], lv] w fun e w' => e = .returned (.bool (agreeB c l)) ∧ Below w.heap.size w w' := by
  obtain ⟨sa, n, sc, rfl⟩ : ∃ a n cc, sv = .slice a n cc := by obtain ⟨_, a, cap, h, _⟩ := hC.shs; exact ⟨_, _, _, h⟩
  obtain ⟨ea, m, ec, rfl⟩ : ∃ a n cc, ev = .slice a n cc := by obtain ⟨_, a, cap, h, _⟩ := hC.eds; exact ⟨_, _, _, h⟩
  obtain ⟨la, q, lc, rfl⟩ : ∃ a n cc, lv = .slice a n cc := by obtain ⟨_, a, cap, h, _⟩ := hL; exact ⟨_, _, _, h⟩
  obtain ⟨tol, htol⟩ : ∃ t, c.tol = t := ⟨_, rfl⟩
  obtain ⟨W, hW⟩ : ∃ W, w.alloc (Obj.cells #[.int .i64 tol, .slice sa n sc, .slice ea m ec] 25) = W := ⟨_, rfl⟩
  have hb : Below w.heap.size w W := by rw [← hW]; exact (Below.refl _ _).alloc (Nat.le_refl _) _
  have HCK := Lib.hid (rchanges_any c _ _ _ l W (hC.below hb) (hL.below hb))
  have HTOL := Lib.hid htol
  rw [htol] at HCK ⊢
  have HR : Hid (W.heap[w.heap.size]? = some (Obj.cells #[.int .i64 tol, .slice sa n sc, .slice ea m ec] 25)) := by show _ = _; rw [← hW]; exact heap_alloc_new w _
  have HC := Lib.hid (hC.below hb)
  have HL := Lib.hid (hL.below hb)
  have HW := Lib.hid hW
  have HB := Lib.hid hb
  obtain ⟨res, hres⟩ : ∃ r, agreeB c l = r := ⟨_, rfl⟩
  have HRS : Hid (res = (decide (chgE c l = 0) && decide (oddR c l < 0))) := by show _ = _; rw [← hres]; rfl
  rw [hres]
  clear hW hb hC hL htol hres
  go_enter Try.func38, Try.ntmps38
  go_wp2_with fail
  rw [HW.out]
  have c0 := cellOf HR.out 0 _ rfl
  have c1 := cellOf HR.out 1 _ rfl
  have c2 := cellOf HR.out 2 _ rfl
  have cl := lt_of_block HR.out
  go_wp2_with fail
  refine HCK.out.mono ?_
  rintro e w1 ⟨rfl, hb1⟩
  have R1 := Lib.hid ((hb1.block _ (lt_of_block HR.out)).trans HR.out)
  have HB1 := Lib.hid (HB.out.trans (hb1.mono HB.out.size))
  have HC1 := Lib.hid (HC.out.below hb1)
  have HL1 := Lib.hid (HL.out.below hb1)
  clear hb1 HB HC HL HCK HW HR c0 c1 c2 cl
  by_cases h0 : chgE c l = 0
  · have hbd := chg_bd c l h0
    rw [h0] at HRS ⊢
    have HOD := Lib.hid (rodd_any c hbd.1 _ _ _ l w1 HC1.out HL1.out hbd.2.1 (fun i => by
      have h := hbd.2.2.2 i
      rw [padC_get l (by rw [hbd.2.1]; exact hbd.1.n5)] at h
      omega))
    rw [HTOL.out] at HOD
    generalize oddR c l = o at *
    clear hbd h0
    have c0 := cellOf R1.out 0 _ rfl
    have c1 := cellOf R1.out 1 _ rfl
    have c2 := cellOf R1.out 2 _ rfl
    have cl := lt_of_block R1.out
    go_wp2_with fail
    refine HOD.out.mono ?_
    rintro e w2 ⟨rfl, hb2⟩
    have HB2 := Lib.hid (HB1.out.trans (hb2.mono HB1.out.size))
    clear hb2 c0 c1 c2 cl
    go_wp2_with fail
    go_ret
    exact ⟨by rw [HRS.out]; simp, HB2.out⟩
  · have hf : res = false := by rw [HRS.out]; simp [h0]
    subst hf
    obtain ⟨er, her⟩ : ∃ x, chgE c l = x := ⟨_, rfl⟩
    rw [her] at h0 ⊢
    have tz : (er == 0) = false := by simp [h0]
    clear h0 her HRS
    go_wp2_with fail
    go_ret
    exact ⟨rfl, HB1.out⟩
end Go.Proofs.Ytojdocomkhihoaa
namespace Go.Proofs.Ytojdocomkhihoaa
open Go Go.RowKit Go.Shelf Ed

/-- The case as a system. -/
abbrev sysA (c : Cas) : Sys := sysC c (wsC c)
/-- What Least answers. -/
def leastE (c : Cas) : List Int × Int × Int :=
  if errC c ≠ 0 then ([], 0, errC c) else if (highC c (wsC c)).2 = false then ([], 0, 9) else match cheapGo c (wsC c) 100 (highC c (wsC c)).1 with
    | some r => (r.take c.shs.length, costK c.shs r c.shs.length, 0)
    | none => ([], 0, 0)
theorem least1_any (c : Cas) (sv ev : Value) (w : World) (hC : CasAt w c sv ev) :
    Calls Try.prog 27 #[.agg #[.int .i64 c.tol, sv, ev]] w fun e w' => ∃ v, e = .returned (.tuple #[v, .int .i64 (leastE c).2.1, .int .i64 (leastE c).2.2]) ∧ IntsAt w' v (leastE c).1 ∧ Below w.heap.size w w' := by
  refine (leastT_any c sv ev w hC).mono fun e w' ⟨h1, h2, h3, hb⟩ => ?_
  have hnil : IntsAt w' (.slice none 0 0) [] := ⟨by simp, none, 0, rfl, Nat.le_refl _, fun h => absurd rfl h⟩
  unfold leastE
  by_cases h0 : errC c = 0
  · rw [if_neg (by simp [h0])]
    cases hh : (highC c (wsC c)).2
    · rw [if_pos rfl]
      exact ⟨_, h2 h0 hh, hnil, hb⟩
    · rw [if_neg (by simp)]
      obtain ⟨r, z, hr, _⟩ := cheap_ends c (valid_of h0) (wsC c) hh
      obtain ⟨v, hv, hI⟩ := h3 h0 hh r hr
      rw [hr]
      exact ⟨v, hv, hI, hb⟩
  · rw [if_pos h0]
    exact ⟨_, h1 h0, hnil, hb⟩
theorem least_err {c : Cas} (h : errC c ≠ 0) : leastE c = ([], 0, errC c) := by unfold leastE; rw [if_pos h]
theorem costK_take (l : List Sht) (r : List Int) (n : Nat) : ∀ k, k ≤ n → costK l (r.take n) k = costK l r k := by
  intro k
  induction k with
  | zero => intro _; rfl
  | succ k ih =>
    intro hk
    simp only [costK, ih (by omega)]
    congr 2
    simp [List.getD_eq_getElem?_getD, List.getElem?_take, show k < n by omega]
/-- Least: nothing agrees, or the least ones of the cheapest changes. -/
structure LeastOk (c : Cas) (l : List Int) (m : Int) : Prop where
  len : l.length = c.shs.length
  ag : Ag (sysA c) (fun i => l.getD i 0)
  mn : Mn (sysA c) (fun i => l.getD i 0)
  bot : ∀ y, Mn (sysA c) y → ∀ i, i < c.shs.length → l.getD i 0 ≤ y i
  cost : m = costF (sysA c) (fun i => l.getD i 0)
theorem least_spec (c : Cas) (h : errC c = 0) : (leastE c = ([], 0, 9) ∧ ∀ y, ¬ Ag (sysA c) y) ∨ ((leastE c).2.2 = 0 ∧ LeastOk c (leastE c).1 (leastE c).2.1) := by
  have hv := valid_of h
  unfold leastE
  rw [if_neg (by simp [h])]
  cases hh : (highC c (wsC c)).2
  · rw [if_pos rfl]
    exact .inl ⟨rfl, highC_false c hv (wsC c) hh⟩
  · rw [if_neg (by simp)]
    obtain ⟨r, z, hr, hl, hz, hlow, heq, _⟩ := cheap_ends c hv (wsC c) hh
    rw [hr]
    right
    refine ⟨rfl, ?_⟩
    simp only
    have hg : ∀ i, i < c.shs.length → (r.take c.shs.length).getD i 0 = z i := by
      intro i hi
      rw [← heq i hi]
      simp [List.getD_eq_getElem?_getD, List.getElem?_take, hi]
    have hag : Ag (sysA c) (fun i => (r.take c.shs.length).getD i 0) := hz.1.congr (sys_fine c hv _) fun i hi => (hg i hi).symm
    have hcf : costF (sysA c) (fun i => (r.take c.shs.length).getD i 0) = costF (sysA c) z := costF_congr hg
    refine ⟨by rw [List.length_take, hl]; have := hv.n5; omega, hag, ⟨hag, fun y hy => by rw [hcf]; exact hz.2 y hy⟩, fun y hy i hi => by rw [hg i hi]; exact hlow y hy i hi, ?_⟩
    rw [← costK_eq c (wsC c)]
    exact (costK_take c.shs r c.shs.length c.shs.length (Nat.le_refl _)).symm
theorem least_is (c : Cas) (h : errC c = 0) {l : List Int} {m : Int} (hl : LeastOk c l m) : leastE c = (l, m, 0) := by
  rcases least_spec c h with ⟨_, h2⟩ | ⟨h2, h3⟩
  · exact absurd hl.ag (h2 _)
  · have e : (leastE c).1 = l := by
      apply List.ext_getElem (by rw [h3.len, hl.len])
      intro i h4 h5
      have hi : i < c.shs.length := by rw [← hl.len]; exact h5
      have a := h3.bot _ hl.mn i hi
      have b := hl.bot _ h3.mn i hi
      have e1 : (leastE c).1.getD i 0 = (leastE c).1[i] := by simp [List.getD_eq_getElem?_getD, h4]
      have e2 : l.getD i 0 = l[i] := by simp [List.getD_eq_getElem?_getD, h5]
      omega
    have e2 : (leastE c).2.1 = m := by rw [h3.cost, hl.cost, e]
    exact Prod.ext e (Prod.ext e2 h2)
theorem least_no (c : Cas) (h : errC c = 0) (hno : ∀ y, ¬ Ag (sysA c) y) : leastE c = ([], 0, 9) := by
  rcases least_spec c h with ⟨h2, _⟩ | ⟨_, h3⟩
  · exact h2
  · exact absurd h3.ag (hno _)
/-- Changes that agree, in the reference's words. -/
theorem agree_iff (c : Cas) (h : errC c = 0) (l : List Int) : agreeB c l = true ↔ l.length = c.shs.length ∧ Ag (sysA c) (fun i => l.getD i 0) := by
  have hv := valid_of h
  have n5 := hv.n5
  unfold agreeB
  rw [Bool.and_eq_true, decide_eq_true_eq, decide_eq_true_eq]
  constructor
  · rintro ⟨h1, h2⟩
    have hb := chg_bd c l h1
    have hl : l.length ≤ 5 := by rw [hb.2.1]; exact n5
    rw [oddR_eq c hv l hl, apart_iff] at h2
    refine ⟨hb.2.1, fun i hi => hb.2.2.1 i hi, fun e he => ?_⟩
    have := h2 e he
    rwa [padC_get l hl, padC_get l hl] at this
  · rintro ⟨h1, h2⟩
    have hl : l.length ≤ 5 := by rw [h1]; exact n5
    refine ⟨chgE_in h h1 fun k hk => ?_, ?_⟩
    · have := h2.bx k (by simp only [sysC]; omega)
      simp only [sysC] at this
      unfold inM inB
      simp only [Bool.and_eq_true, decide_eq_true_eq]
      exact this
    · rw [oddR_eq c hv l hl, apart_iff]
      intro e he
      rw [padC_get l hl, padC_get l hl]
      exact h2.ed e he
/-- A system turned round. -/
theorem wL_out (ws : List Int) (k : Nat) (h : ws.length ≤ 16) (h8 : 8 ≤ k) : wL ws k = (0, 0) := by
  unfold wL
  rw [List.getD_eq_getElem?_getD, List.getD_eq_getElem?_getD, List.getElem?_eq_none (by omega), List.getElem?_eq_none (by omega)]
  rfl
theorem ag_turn (c : Cas) (hv : Valid c) (ws : List Int) (y : Nat → Int) : Ag (sysC c (turnW ws)) y ↔ Ag (sysC c ws) (fun i => -y i) := by
  have h8 := hv.m8
  constructor
  · intro h
    refine ⟨fun i hi => by have := h.bx i hi; simp only [sysC] at this ⊢; omega, fun e he => ?_⟩
    simp only [sysC, List.mem_map, List.mem_range] at he
    obtain ⟨i, hi, rfl⟩ := he
    have := h.ed ⟨(c.eds.getD i default).a.toNat, (c.eds.getD i default).b.toNat, (wL (turnW ws) i).1, (wL (turnW ws) i).2⟩ (by simp only [sysC, List.mem_map, List.mem_range]; exact ⟨i, hi, rfl⟩)
    rw [turnW_span ws i (by omega)] at this
    simp only at this ⊢
    omega
  · intro h
    refine ⟨fun i hi => by have := h.bx i hi; simp only [sysC] at this ⊢; omega, fun e he => ?_⟩
    simp only [sysC, List.mem_map, List.mem_range] at he
    obtain ⟨i, hi, rfl⟩ := he
    have := h.ed ⟨(c.eds.getD i default).a.toNat, (c.eds.getD i default).b.toNat, (wL ws i).1, (wL ws i).2⟩ (by simp only [sysC, List.mem_map, List.mem_range]; exact ⟨i, hi, rfl⟩)
    rw [turnW_span ws i (by omega)]
    simp only at this ⊢
    omega
/-- Range: nothing agrees, or how far the changes of a sheet go. -/
structure RangeOk (c : Cas) (i : Nat) (s : Int × Int) : Prop where
  all : ∀ y, Ag (sysA c) y → s.1 ≤ y i ∧ y i ≤ s.2
  lo : ∃ y, Ag (sysA c) y ∧ y i = s.1
  hi : ∃ y, Ag (sysA c) y ∧ y i = s.2
theorem range_spec (c : Cas) (h : errC c = 0) (i : Nat) (hi : i < c.shs.length) : (rangeE c i = ((0, 0), 9) ∧ ∀ y, ¬ Ag (sysA c) y) ∨ ((rangeE c i).2 = 0 ∧ RangeOk c i (rangeE c i).1) := by
  have hv := valid_of h
  have hin : inB 0 ((c.shs.length : Int) - 1) (i : Int) = true := by unfold inB; simp; omega
  unfold rangeE
  rw [if_neg (by simp [h]), if_neg (by simp [hin])]
  cases hh : (highC c (wsC c)).2
  · rw [if_pos rfl]
    exact .inl ⟨rfl, highC_false c hv (wsC c) hh⟩
  · rw [if_neg (by simp)]
    right
    refine ⟨rfl, ?_⟩
    obtain ⟨_, hag, hg⟩ := highC_true c hv (wsC c) hh
    have ht : (highC c (turnW (wsC c))).2 = true := by
      cases hq : (highC c (turnW (wsC c))).2
      · exfalso
        apply highC_false c hv _ hq (fun i => -(highC c (wsC c)).1.getD i 0)
        rw [ag_turn c hv]
        simpa using hag
      · rfl
    obtain ⟨_, tag, tg⟩ := highC_true c hv (turnW (wsC c)) ht
    simp only [Int.toNat_natCast]
    refine ⟨fun y hy => ⟨?_, hg y hy i hi⟩, ⟨_, (ag_turn c hv _ _).1 tag, rfl⟩, ⟨_, hag, rfl⟩⟩
    have := tg (fun i => -y i) ((ag_turn c hv _ _).2 (by simpa using hy)) i hi
    omega
theorem range_is (c : Cas) (h : errC c = 0) (i : Nat) (hi : i < c.shs.length) {s : Int × Int} (hs : RangeOk c i s) : rangeE c i = (s, 0) := by
  rcases range_spec c h i hi with ⟨_, h2⟩ | ⟨h2, h3⟩
  · obtain ⟨y, hy, _⟩ := hs.lo
    exact absurd hy (h2 _)
  · obtain ⟨y1, a1, e1⟩ := hs.lo
    obtain ⟨y2, a2, e2⟩ := hs.hi
    obtain ⟨y3, a3, e3⟩ := h3.lo
    obtain ⟨y4, a4, e4⟩ := h3.hi
    have b1 := h3.all _ a1
    have b2 := h3.all _ a2
    have b3 := hs.all _ a3
    have b4 := hs.all _ a4
    exact Prod.ext (Prod.ext (show (rangeE c i).1.1 = s.1 by omega) (show (rangeE c i).1.2 = s.2 by omega)) h2
theorem range_no (c : Cas) (h : errC c = 0) (i : Nat) (hi : i < c.shs.length) (hno : ∀ y, ¬ Ag (sysA c) y) : rangeE c i = ((0, 0), 9) := by
  rcases range_spec c h i hi with ⟨h2, _⟩ | ⟨_, h3⟩
  · exact h2
  · obtain ⟨y, hy, _⟩ := h3.lo
    exact absurd hy (hno _)
end Go.Proofs.Ytojdocomkhihoaa
