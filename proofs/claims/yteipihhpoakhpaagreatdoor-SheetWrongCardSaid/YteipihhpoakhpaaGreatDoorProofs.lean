/- SheetProof: the call returns true. Condition: the tables of Go's library are laid. -/
import Derived.Test.YteipihhpoakhpaaGreatDoorSome
import Derived.Test.YteipihhpoakhpaaGreatDoorSol
set_option linter.unusedSimpArgs false
set_option linter.unusedVariables false
namespace Go.Proofs.YteipihhpoakhpaaGreatDoor
open Go Go.RowKit Hs Dc

set_option maxRecDepth 100000 in
theorem havK_all (l : List Note) : ∀ k, k ≤ l.length → havK l ((List.range l.length).map Int.ofNat) true k = l.take k := by
  intro k
  induction k with
  | zero => intro _; rfl
  | succ k ih =>
    intro hk
    have hm : decide ((k : Int) ∈ (List.range l.length).map Int.ofNat) = true := by
      simp only [decide_eq_true_eq, List.mem_map, List.mem_range]
      exact ⟨k, by omega, rfl⟩
    rw [havK, if_pos hm, ih (by omega), List.take_add_one]
set_option maxRecDepth 100000 in
theorem asc_range (n : Nat) : Asc n ((List.range n).map Int.ofNat) := by
  refine ⟨?_, fun x hx => ?_⟩
  · rw [List.pairwise_map]
    exact (List.pairwise_lt_range (n := n)).imp (fun h => by simpa using h)
  · obtain ⟨a, ha, rfl⟩ := List.mem_map.1 hx
    have := List.mem_range.1 ha
    simp; omega
theorem asc_without {n : Nat} {l : List Int} (h : Asc n l) (k : Nat) : Asc n (l.take k ++ l.drop (k + 1)) := by
  have hs : (l.take k ++ l.drop (k + 1)).Sublist l := by
    have := List.Sublist.append (List.Sublist.refl (l.take k)) (List.drop_sublist_drop_left l (show k ≤ k + 1 by omega))
    rwa [List.take_append_drop] at this
  exact ⟨h.1.sublist hs, fun x hx => h.2 x (hs.subset hx)⟩
set_option maxRecDepth 100000 in
theorem having_valid {s : Sheet} (h : ValidS s) (list : List Int) (inn : Bool) : ValidS ⟨s.iv, s.pts, havK s.notes list inn s.notes.length⟩ :=
  h.with_ (havK s.notes list inn s.notes.length) (Nat.le_trans (havK_le s.notes list inn s.notes.length) h.nn) (fun x hx => h.err0 x (havK_mem s.notes list inn s.notes.length x hx))
set_option maxRecDepth 100000 in
/-- What Proof hands back where the sheet is valid and does not fit. -/
theorem proof_facts {s : Sheet} (h : ValidS s) (hf : fitB s.iv 0 s.notes = false) :
    proofL s = fewS s.notes.length (proofG s) ∧ proofE s = 0 ∧ Asc s.notes.length (proofL s) ∧ fitB s.iv 0 (havK s.notes (proofL s) true s.notes.length) = false ∧
      ∀ t, Asc s.notes.length t → fitB s.iv 0 (havK s.notes t true s.notes.length) = false → (proofL s).length ≤ t.length := by
  have e1 : proofL s = fewS s.notes.length (proofG s) := by unfold proofL; rw [errS_zero h, if_pos rfl, hf, if_neg Bool.false_ne_true]
  have e2 : proofE s = 0 := by unfold proofE; rw [errS_zero h, if_pos rfl, hf, if_neg Bool.false_ne_true]
  obtain ⟨s1, s2⟩ := fewS_spec (proofG s) s.notes.length
  have hall : proofG s ((List.range s.notes.length).map Int.ofNat) = true := by
    unfold proofG
    rw [havK_all s.notes _ (Nat.le_refl _), List.take_length, hf]
    rfl
  have hg := (s2 _ (asc_range _) hall).1
  refine ⟨e1, e2, by rw [e1]; exact s1, ?_, fun t ht hb => ?_⟩
  · rw [← e1] at hg
    unfold proofG at hg
    simpa using hg
  · rw [e1]
    exact (s2 t ht (by unfold proofG; rw [hb]; rfl)).2
/-- Fits of a sheet with some of the notes. -/
theorem fits_some {s : Sheet} (h : ValidS s) (list : List Int) (inn : Bool) (pv nv : Value) (w : World) (hS : SheetAt w.heap.size w pv nv ⟨s.iv, s.pts, havK s.notes list inn s.notes.length⟩) :
    Calls Tryz.prog 20 #[.agg #[.int .i64 s.iv, pv, nv]] w fun e w' => e = .returned (.tuple #[.bool (fitB s.iv 0 (havK s.notes list inn s.notes.length)), .int .i64 0]) ∧ Below w.heap.size w w' := by
  have hv := having_valid h list inn
  have hc := Fits_any _ pv nv w hS
  rw [errS_zero hv, fitsS_of hv] at hc
  exact hc

set_option maxRecDepth 100000 in
/-- Numbers are appended to a row of the call's own, at the step of a region that draws its order. -/
theorem run_ints (w : World) (ty : TypeId) (base : Nat) (v sv : Value) (xs l : List Int) (hown : w.ownsRow base 3 1 v xs.length (xs.map (Value.int .i64))) (hl : IntsAt w sv l) (hb : base ≤ w.heap.size)
    (hlen : xs.length + l.length ≤ 1000) :
    ∃ v' w', (Builtin.append_ #[43, 43] ty #[v, sv]).run Tryz.prog w = .ok v' w' ∧ w'.ownsRow base 3 1 v' (xs ++ l).length ((xs ++ l).map (Value.int .i64)) ∧ w.grownBy w' v.ownBlock := by
  obtain ⟨i0, hi⟩ := info_of_underlying Tryz.underlying3
  have HI : i0.zero = some (.int .i64 0) ∧ i0.size = 1 ∧ i0.bytes = 8 := by
    have h := intInfo
    rw [hi] at h
    simp at h
    exact h
  obtain ⟨_, A, c, rfl, hc⟩ := hl
  cases A with
  | none =>
    have hn : l = [] := by
      cases l with
      | nil => rfl
      | cons x l => obtain ⟨_, _, h, _⟩ := hc (by simp); cases h
    subst hn
    have hrun : (Builtin.append_ #[43, 43] ty #[v, .slice none 0 c]).run Tryz.prog w = .ok v w := by
      rcases hown.2 with ⟨rfl, h0⟩ | ⟨g, cap, cur, rfl, _, _, h1, _⟩
      · simp [Builtin.append_, run_underlying Tryz.underlying43, sizeOf, typeInfo, hi, Builtin.lenOf, Builtin.firstCells]
      · simp [Builtin.append_, run_underlying Tryz.underlying43, sizeOf, typeInfo, hi, Builtin.lenOf, Builtin.firstCells, h1, storeCells]
    exact ⟨v, w, hrun, by rw [List.append_nil]; exact hown, grown_refl w _⟩
  | some ad =>
    have hcells : ∀ j u, (l.map (Value.int .i64))[j]? = some u → w.cell? (ad.add j) = some u := by
      intro j u hu
      have hj : j < l.length := by have := (List.getElem?_eq_some_iff.1 hu).1; simpa using this
      obtain ⟨b, o, e, hk⟩ := hc (by rintro rfl; simp at hj)
      injection e with e
      subst e
      rw [Go.WideShapes.add_plain, hk j hj, ← hu]
      simp [List.getD_eq_getElem?_getD, hj]
    obtain ⟨v', w', h1, h2, h3, _, _⟩ := run_append_own_at (P := Tryz.prog) w base 43 ty 3 i0 _ 1 8 Tryz.underlying43 hi HI.1 HI.2.1 HI.2.2 rfl (by decide) v xs.length _ hown ad l.length c (l.map (Value.int .i64)) (by simp) hcells
      (by intro u hu; obtain ⟨x, _, rfl⟩ := List.mem_map.1 hu; rfl) (by unfold maxLen; omega) (by omega) hb
    exact ⟨v', w', h1, by rw [List.map_append, List.length_append]; exact h2, h3⟩
theorem step_ints {ops : Array Oper} {o : Oper} {a : Act} {K : Act → World → Prop} {Q : Exit → Act → World → Prop} {E : Prop} {w : World} (hgd : o.guard = none) (s x : Operand)
    (ho : o.op = .call { callee := .builtin .append, args := #[s, x], argTypes := #[43, 43] })
    (base : Nat) (v sv : Value) (xs l : List Int) (hs : a.eval s = v) (hx : a.eval x = sv) (hown : w.ownsRow base 3 1 v xs.length (xs.map (Value.int .i64))) (hl : IntsAt w sv l) (hb : base ≤ w.heap.size)
    (hlen : xs.length + l.length ≤ 1000)
    (h : ∀ v' w', w'.ownsRow base 3 1 v' (xs ++ l).length ((xs ++ l).map (Value.int .i64)) → w.grownBy w' v.ownBlock → (∀ k, v.ownBlock = some k → base ≤ k) → K (a.put o.dst v') w') :
    if Region.wanted o (yielded ops a.tmps) = true then Oper.wp Tryz.prog o a w K Q else E := by
  rw [if_pos (by simp [Region.wanted, hgd])]
  obtain ⟨v', w', hrun, h2, h3⟩ := run_ints w o.type base v sv xs l hown hl hb hlen
  unfold Oper.wp execOp
  simp only [ho, resolve, invoke, builtin, Sem.run_bind, Sem.run_pure, Result.andThen_ok, List.map_toArray, List.map_cons, List.map_nil, hs, hx, hrun]
  exact h v' w' h2 h3 (fun k hk => (hown.lt k hk).1)

theorem own_slice_m {w : World} {base e size n : Nat} {v : Value} {xs : List Value} (h : w.ownsRow base e size v n xs) : ∃ m sa sc, m = n ∧ v = .slice sa m sc := by
  obtain ⟨sa, sc, rfl⟩ := own_slice h
  exact ⟨n, sa, sc, rfl, rfl⟩
theorem own_cap {w : World} {base e size n m sc : Nat} {sa : Option Addr} {xs : List Value} (h : w.ownsRow base e size (.slice sa m sc) n xs) : m ≤ sc := by
  rcases h.2 with ⟨e, _⟩ | ⟨g, cap, cur, e, _, _, hc, _⟩
  · simp only [Value.slice.injEq] at e; omega
  · simp only [Value.slice.injEq] at e; omega
theorem ints_head {w : World} {a : Option Addr} {m cap k : Nat} {l : List Int} (h : IntsAt w (.slice a m cap) l) (hk : k ≤ l.length) (c' : Nat) : IntsAt w (.slice a k c') (l.take k) := by
  obtain ⟨h1, a', c, e, hc⟩ := h
  simp only [Value.slice.injEq] at e
  obtain ⟨rfl, rfl, rfl⟩ := e
  have hl : (l.take k).length = k := by rw [List.length_take]; omega
  refine ⟨by omega, a, c', by rw [hl], fun hne => ?_⟩
  obtain ⟨b, o, rfl, hd⟩ := hc (by rintro rfl; simp at hne)
  refine ⟨b, o, rfl, fun j hj => ?_⟩
  rw [hd j (by omega)]
  simp [List.getD_eq_getElem?_getD, List.getElem?_take, show j < k by omega]
theorem ints_tail {w : World} {b o m cap k : Nat} {l : List Int} (h : IntsAt w (.slice (some ⟨b, o, none⟩) m cap) l) (hk : k ≤ l.length) (c' : Nat) : IntsAt w (.slice (some ⟨b, o + k, none⟩) (l.length - k) c') (l.drop k) := by
  obtain ⟨h1, a', c, e, hc⟩ := h
  simp only [Value.slice.injEq] at e
  obtain ⟨rfl, rfl, rfl⟩ := e
  refine ⟨by rw [List.length_drop]; omega, some ⟨b, o + k, none⟩, c', by rw [List.length_drop], fun hne => ?_⟩
  obtain ⟨b', o', e, hd⟩ := hc (by rintro rfl; simp at hne)
  injection e with e
  injection e with e1 e2
  subst e1 e2
  refine ⟨b, o + k, rfl, fun j hj => ?_⟩
  rw [List.length_drop] at hj
  rw [show o + k + j = o + (k + j) by omega, hd (k + j) (by omega)]
  simp [List.getD_eq_getElem?_getD, List.getElem?_drop]
theorem ints_tail0 {k : Nat} {l : List Int} (h : l.length = k + 1) (w : World) (a : Option Addr) (c' : Nat) : IntsAt w (.slice a (l.length - (k + 1)) c') (l.drop (k + 1)) := by
  have e : l.drop (k + 1) = [] := by rw [List.drop_eq_nil_iff]; omega
  rw [e, h, Nat.sub_self]
  exact ⟨by simp, a, c', rfl, fun h => absurd rfl h⟩
theorem ints_made (w : World) (n base : Nat) (hn : n = w.heap.size) (hb : base ≤ w.heap.size) : (w.alloc (.cells #[] 3)).ownsRow base 3 1 (.slice (some ⟨n, 0, none⟩) 0 0) 0 [] := by
  subst hn
  exact World.ownsRow_made w #[] 0 hb (by decide) rfl

set_option maxRecDepth 100000 in
set_option maxHeartbeats 8000000 in
theorem lproof_any (s : Sheet) (pv nv : Value) (n : Nat) (w : World) (hS : SheetAt w.heap.size w pv nv s) (hcap : CapOk pv) (hn : n ≤ 65535) (hT : Tabs w) :
    Calls Tryz.prog 10 #[.agg #[.int .i64 s.iv, pv, nv], .int .u16 n] w fun e w' => e = .returned (.bool true) ∧ Below w.heap.size w w' := by
  obtain ⟨iv, pts, notes⟩ := s
  obtain ⟨ln, na, nc, rfl, _⟩ := id hS.notes
  obtain ⟨lp, pa, pc, rfl, _⟩ := id hS.pts
  simp only at hS ln lp ⊢
  have B0 : Below w.heap.size w (w.alloc (Obj.cells #[.int .i64 iv, .slice pa pts.length pc, .slice na notes.length nc] 25)) := by go_grown
  have HA0 := Lib.hid (heap_alloc_new w (Obj.cells #[.int .i64 iv, .slice pa pts.length pc, .slice na notes.length nc] 25))
  have HS0 := Lib.hid (hS.up B0)
  have HT0 := Lib.hid (hT.below B0)
  have HB0 := Lib.hid B0
  clear B0 hS hT
  go_enter Tryz.func10, Tryz.ntmps10
  go_wp2_with fail
  generalize w.alloc (Obj.cells #[.int .i64 iv, .slice pa pts.length pc, .slice na notes.length nc] 25) = w0 at *
  refine (Proof_any ⟨iv, pts, notes⟩ _ _ w0 HS0.out).mono ?_
  rintro e w1 ⟨vl, rfl, hown, hb⟩
  have HA1 := Lib.hid ((hb.block _ (lt_of_block HA0.out)).trans HA0.out)
  have HS1 := Lib.hid (HS0.out.up hb)
  have HT1 := Lib.hid (HT0.out.below hb)
  have HB1 := Lib.hid (HB0.out.trans (hb.mono HB0.out.size))
  clear hb HA0 HS0 HT0 HB0
  have a0 := cellOf HA1.out 0 _ rfl
  have a1 := cellOf HA1.out 1 _ rfl
  have a2 := cellOf HA1.out 2 _ rfl
  have hvl := valid_any ⟨iv, pts, notes⟩ (.slice pa pts.length pc) (.slice na notes.length nc) w1 HS1.out hcap
  have HVL := Lib.hid hvl
  clear hvl
  by_cases hv : errS ⟨iv, pts, notes⟩ = 0
  · have HV := Lib.hid ((check_valid _).1 hv)
    have tv : (errS ⟨iv, pts, notes⟩ == 0) = true := by simp [hv]
    rw [tv] at HVL
    clear tv hv
    have hn12 := HV.out.nn
    simp only at hn12
    cases hf : fitB iv 0 notes
    · obtain ⟨_, pe, pasc, pbad, pmin⟩ := proof_facts HV.out hf
      have hll := asc_len pasc
      simp only at pe pasc pbad pmin hll
      have HI1 := Lib.hid (intsAt_own hown (by omega))
      rw [pe]
      have HASC := Lib.hid pasc
      have HBAD := Lib.hid pbad
      have HMIN := Lib.hid pmin
      have HF := Lib.hid hf
      have hownL := hown
      clear pe pasc pbad pmin hf hown
      obtain ⟨L, hL⟩ : ∃ L, Hid (L = proofL ⟨iv, pts, notes⟩) := ⟨_, rfl⟩
      rw [← hL.out] at HI1 HASC HBAD HMIN hll hownL
      obtain ⟨_, la, lc, rfl, _⟩ := id HI1.out
      have hcL := own_cap hownL
      clear hownL
      simp only
      go_wp2_with fail
      refine HVL.out.mono ?_
      rintro e w2 ⟨rfl, hb⟩
      clear HVL
      clear a0 a1 a2
      have HA2 := Lib.hid ((hb.block _ (lt_of_block HA1.out)).trans HA1.out)
      have HS2 := Lib.hid (HS1.out.up hb)
      have HT2 := Lib.hid (HT1.out.below hb)
      have HB2 := Lib.hid (HB1.out.trans (hb.mono HB1.out.size))
      have HI2 := Lib.hid (IntsAt.below HI1.out hb)
      clear hb HA1 HS1 HT1 HB1 HI1
      have a0 := cellOf HA2.out 0 _ rfl
      have a1 := cellOf HA2.out 1 _ rfl
      have a2 := cellOf HA2.out 2 _ rfl
      have hc := Fits_any ⟨iv, pts, notes⟩ (.slice pa pts.length pc) (.slice na notes.length nc) w2 HS2.out
      rw [errS_zero HV.out, fitsS_of HV.out] at hc
      simp only [HF.out] at hc
      have HC := Lib.hid hc
      clear hc
      go_wp2_with fail
      refine HC.out.mono ?_
      rintro e w3 ⟨rfl, hb⟩
      clear a0 a1 a2 HC
      have HA3 := Lib.hid ((hb.block _ (lt_of_block HA2.out)).trans HA2.out)
      have HS3 := Lib.hid (HS2.out.up hb)
      have HT3 := Lib.hid (HT2.out.below hb)
      have HB3 := Lib.hid (HB2.out.trans (hb.mono HB2.out.size))
      have HI3 := Lib.hid (IntsAt.below HI2.out hb)
      clear hb HA2 HS2 HT2 HB2 HI2
      have a0 := cellOf HA3.out 0 _ rfl
      have a1 := cellOf HA3.out 1 _ rfl
      have a2 := cellOf HA3.out 2 _ rfl
      go_wp2_with fail
      refine (bits_any n hn notes.length hn12 w3).mono ?_
      rintro e w4 ⟨vf, F, rfl, hF, hFa, hb⟩
      clear a0 a1 a2
      have HFA := Lib.hid hFa
      have HIF4 := Lib.hid hF
      obtain ⟨_, fa, fc, rfl, _⟩ := id hF
      clear hF hFa
      have HA4 := Lib.hid ((hb.block _ (lt_of_block HA3.out)).trans HA3.out)
      have HS4 := Lib.hid (HS3.out.up hb)
      have HT4 := Lib.hid (HT3.out.below hb)
      have HB4 := Lib.hid (HB3.out.trans (hb.mono HB3.out.size))
      have HI4 := Lib.hid (IntsAt.below HI3.out hb)
      clear hb HA3 HS3 HT3 HB3 HI3
      have a0 := cellOf HA4.out 0 _ rfl
      have a1 := cellOf HA4.out 1 _ rfl
      have a2 := cellOf HA4.out 2 _ rfl
      go_wp2_with fail
      refine (some_any ⟨iv, pts, notes⟩ (.slice pa pts.length pc) (.slice na notes.length nc) (.slice fa F.length fc) F true w4 HS4.out HIF4.out hn12).mono ?_
      rintro e w5 ⟨nv5, rfl, hS5, hb⟩
      clear a0 a1 a2
      have HA5 := Lib.hid ((hb.block _ (lt_of_block HA4.out)).trans HA4.out)
      have HS5 := Lib.hid (HS4.out.up hb)
      have HT5 := Lib.hid (HT4.out.below hb)
      have HB5 := Lib.hid (HB4.out.trans (hb.mono HB4.out.size))
      have HI5 := Lib.hid (IntsAt.below HI4.out hb)
      have HIF5 := Lib.hid (IntsAt.below HIF4.out hb)
      clear hb HA4 HS4 HT4 HB4 HI4 HIF4
      go_wp2_with fail
      refine (fits_some HV.out F true (.slice pa pts.length pc) nv5 w5 hS5).mono ?_
      rintro e w6 ⟨rfl, hb⟩
      clear hS5
      have HA6 := Lib.hid ((hb.block _ (lt_of_block HA5.out)).trans HA5.out)
      have HS6 := Lib.hid (HS5.out.up hb)
      have HT6 := Lib.hid (HT5.out.below hb)
      have HB6 := Lib.hid (HB5.out.trans (hb.mono HB5.out.size))
      have HI6 := Lib.hid (IntsAt.below HI5.out hb)
      have HIF6 := Lib.hid (IntsAt.below HIF5.out hb)
      clear hb HA5 HS5 HT5 HB5 HI5 HIF5
      have a0 := cellOf HA6.out 0 _ rfl
      have a1 := cellOf HA6.out 1 _ rfl
      have a2 := cellOf HA6.out 2 _ rfl
      have HSO : Hid (fitB iv 0 (havK notes F true notes.length) = false → L.length ≤ F.length) := fun h => HMIN.out F HFA.out h
      simp only
      generalize fitB iv 0 (havK notes F true notes.length) = so at *
      go_wp2_with fail
      refine (some_any ⟨iv, pts, notes⟩ (.slice pa pts.length pc) (.slice na notes.length nc) (.slice la L.length lc) L true w6 HS6.out HI6.out hn12).mono ?_
      rintro e w7 ⟨nv7, rfl, hS7, hb⟩
      clear a0 a1 a2
      have HA7 := Lib.hid ((hb.block _ (lt_of_block HA6.out)).trans HA6.out)
      have HS7 := Lib.hid (HS6.out.up hb)
      have HT7 := Lib.hid (HT6.out.below hb)
      have HB7 := Lib.hid (HB6.out.trans (hb.mono HB6.out.size))
      have HI7 := Lib.hid (IntsAt.below HI6.out hb)
      have HIF7 := Lib.hid (IntsAt.below HIF6.out hb)
      clear hb HA6 HS6 HT6 HB6 HI6 HIF6
      have hc := fits_some HV.out L true (.slice pa pts.length pc) nv7 w7 hS7
      simp only [HBAD.out] at hc
      have HC := Lib.hid hc
      clear hc hS7
      go_wp2_with fail
      refine HC.out.mono ?_
      rintro e w8 ⟨rfl, hb⟩
      clear HC
      have HA8 := Lib.hid ((hb.block _ (lt_of_block HA7.out)).trans HA7.out)
      have HS8 := Lib.hid (HS7.out.up hb)
      have HT8 := Lib.hid (HT7.out.below hb)
      have HB8 := Lib.hid (HB7.out.trans (hb.mono HB7.out.size))
      have HI8 := Lib.hid (IntsAt.below HI7.out hb)
      have HIF8 := Lib.hid (IntsAt.below HIF7.out hb)
      clear hb HA7 HS7 HT7 HB7 HI7 HIF7
      have a0 := cellOf HA8.out 0 _ rfl
      have a1 := cellOf HA8.out 1 _ rfl
      have a2 := cellOf HA8.out 2 _ rfl
      go_wp2_with fail
      refine (asc_any (.slice la L.length lc) L notes.length w8 HI8.out HASC.out (by omega)).mono ?_
      rintro e w9 ⟨rfl, hb⟩
      clear a0 a1 a2
      have HA9 := Lib.hid ((hb.block _ (lt_of_block HA8.out)).trans HA8.out)
      have HS9 := Lib.hid (HS8.out.up hb)
      have HT9 := Lib.hid (HT8.out.below hb)
      have HB9 := Lib.hid (HB8.out.trans (hb.mono HB8.out.size))
      have HI9 := Lib.hid (IntsAt.below HI8.out hb)
      have HIF9 := Lib.hid (IntsAt.below HIF8.out hb)
      clear hb HA8 HS8 HT8 HB8 HI8 HIF8
      cases so
      case' false => have lt : decide (F.length < L.length) = false := by have := HSO.out rfl; simp; omega
      all_goals
        go_wp2
        try clear lt
        clear HSO
        go_loopw [14] (fun i wr => ∃ k : Nat, k ≤ L.length ∧ i = .int .i64 k ∧ Hid (Below w9.heap.size w9 wr)) (fun i _ => L.length - (intOf i).toNat)
        case atStart => exact ⟨0, Nat.zero_le _, rfl, Below.refl _ _⟩
        case round =>
          obtain ⟨k, hk, rfl, HLp⟩ := hrel
          have hb := HLp.out
          obtain ⟨HAr, HSr, HTr, HBr, HIr⟩ : Hid (wr.heap[w.heap.size]? = some (.cells #[.int .i64 iv, .slice pa pts.length pc, .slice na notes.length nc] 25 (0, 0))) ∧ Hid (SheetAt wr.heap.size wr (.slice pa pts.length pc) (.slice na notes.length nc) ⟨iv, pts, notes⟩) ∧ Hid (Tabs wr) ∧ Hid (Below w.heap.size w wr) ∧ Hid (IntsAt wr (.slice la L.length lc) L) :=
            ⟨(hb.block _ (lt_of_block HA9.out)).trans HA9.out, HS9.out.up hb, HT9.out.below hb, HB9.out.trans (hb.mono HB9.out.size), IntsAt.below HI9.out hb⟩
          clear hb
          by_cases hlt : k < L.length
          · obtain ⟨_, a', c', e', hcc⟩ := HIr.out
            simp only [Value.slice.injEq, true_and] at e'
            obtain ⟨rfl, rfl⟩ := e'
            obtain ⟨b, o, rfl, hd⟩ := hcc (by intro e; simp [e] at hlt)
            clear hcc hd
            have kl : (k : Int) < (L.length : Int) := by omega
            have k12 : (k : Int) ≤ 11 := by omega
            have kc : (k : Int) ≤ (lc : Int) := by omega
            have kc1 : (k : Int) + 1 ≤ (lc : Int) := by omega
            have kl1 : (k : Int) + 1 ≤ (L.length : Int) := by omega
            have e1 : IntKind.i64.wrap ((k : Int) + 1) = (k : Int) + 1 := by rw [IntWalk.i64_in _ (by omega)]
            have HLA := Lib.hid (asc_without HASC.out k)
            have HLL : Hid ((L.take k ++ L.drop (k + 1)).length + 1 = L.length) := by show _ = _; simp; omega
            have HGOOD : Hid (fitB iv 0 (havK notes (L.take k ++ L.drop (k + 1)) true notes.length) = true) := by
              show _ = _
              cases hg : fitB iv 0 (havK notes (L.take k ++ L.drop (k + 1)) true notes.length)
              · have := HMIN.out _ HLA.out hg
                have := HLL.out
                omega
              · rfl
            go_wp2_with fail
            have hI0 := hk
            by_cases hkc : lc = k + 1
            · have s2 : (k + 1 = lc) = True := by simp only [eq_iff_iff, iff_true]; exact hkc.symm
              have s3 : (lc = k + 1) = True := by simp only [eq_iff_iff, iff_true]; exact hkc
              have hL1 : L.length = k + 1 := by omega
              clear hkc
              have s0 : (0 : Int) ≤ (k : Int) + 1 := by omega
              have s1 : ((k : Int) + 1).toNat = k + 1 := by omega
              have HL1 := Lib.hid hL1
              clear hL1
              go_region_law (first
                | (refine step_ints (o := ⟨some 124, _, _, _, _, _⟩) (by rfl) _ _ (by rfl) wr.heap.size (.slice (some ⟨_, 0, none⟩) 0 0) _ [] (L.take k) (by rfl) (by rfl) (ints_made _ _ _ (by simp) (by simp)) (ints_head (IntsAt.below HIr.out (by go_grown)) hI0 _) (by first | (simp; done) | (simp; omega)) (by simp; omega) ?_; intro v1 w1 ho1 hg1 hl1; have HBw1 : Hid (Below wr.heap.size wr w1) := Below.grown (by go_grown) hg1 (by first | (simp; done) | (simp; omega)) hl1)
                | (refine step_ints (o := ⟨some 129, _, _, _, _, _⟩) (by rfl) _ _ (by rfl) wr.heap.size _ _ (L.take k) (L.drop (k + 1)) (by rfl) (by rfl) (by exact ho1) (ints_tail0 HL1.out _ _ _) (by have := HBw1.out.size; first | (simp; done) | (simp; omega) | omega) (by simp; omega) ?_; intro v2 w2 ho2 hg2 hl2; obtain ⟨m2, sa2, sc2, hm2, rfl⟩ := own_slice_m ho2; have HM2 := Lib.hid hm2; clear hm2; have HBw2 : Hid (Below wr.heap.size wr w2) := HBw1.out.grown hg2 HBw1.out.size hl2))
              all_goals
                have HOL := Lib.hid (intsAt_own ho2 (by simp; omega))
                have hb := HBw2.out
                obtain ⟨HAq, HSq⟩ : Hid (w2.heap[w.heap.size]? = some (.cells #[.int .i64 iv, .slice pa pts.length pc, .slice na notes.length nc] 25 (0, 0))) ∧ Hid (SheetAt w2.heap.size w2 (.slice pa pts.length pc) (.slice na notes.length nc) ⟨iv, pts, notes⟩) :=
                  ⟨(hb.block _ (lt_of_block HAr.out)).trans HAr.out, HSr.out.up hb⟩
                have a0 := cellOf HAq.out 0 _ rfl
                have a1 := cellOf HAq.out 1 _ rfl
                have a2 := cellOf HAq.out 2 _ rfl
                clear ho1 hg1 hl1 ho2 hg2 hl2 hb HBw1 e1
                have hLess := HLL.out
                generalize hG : L.take k ++ L.drop (k + 1) = G at *
                have HOG := Lib.hid hG
                clear hG
                go_wp2_with fail
                refine (some_any ⟨iv, pts, notes⟩ (.slice pa pts.length pc) (.slice na notes.length nc) (.slice sa2 m2 sc2) G true w2 HSq.out HOL.out hn12).mono ?_
                rintro e w5 ⟨nv5, rfl, hS5, hb⟩
                have HBq := Lib.hid (HBw2.out.trans (hb.mono HBw2.out.size))
                clear hb a0 a1 a2
                have hc := fits_some HV.out G true (.slice pa pts.length pc) nv5 w5 hS5
                simp only [HGOOD.out] at hc
                have HC := Lib.hid hc
                clear hc hS5
                go_wp2_with fail
                refine HC.out.mono ?_
                rintro e w6 ⟨rfl, hb⟩
                have HBz : Hid (Below w9.heap.size w9 w6) := HLp.out.trans ((HBq.out.trans (hb.mono HBq.out.size)).mono HLp.out.size)
                clear hb HC
                go_wp2
                go_roundw
                case rel => exact ⟨k + 1, by omega, by go_num, HBz⟩
                case measure => simp [intOf]; omega
            · have hkc' : (k : Int) + 1 < (lc : Int) := by omega
              have s0 : (0 : Int) ≤ (k : Int) + 1 := by omega
              have s1 : ((k : Int) + 1).toNat = k + 1 := by omega
              have s2 : ¬ (k + 1 = lc) := fun h => hkc h.symm
              go_region_law (first
                | (refine step_ints (o := ⟨some 124, _, _, _, _, _⟩) (by rfl) _ _ (by rfl) wr.heap.size (.slice (some ⟨_, 0, none⟩) 0 0) _ [] (L.take k) (by rfl) (by rfl) (ints_made _ _ _ (by simp) (by simp)) (ints_head (IntsAt.below HIr.out (by go_grown)) hI0 _) (by first | (simp; done) | (simp; omega)) (by simp; omega) ?_; intro v1 w1 ho1 hg1 hl1; have HBw1 : Hid (Below wr.heap.size wr w1) := Below.grown (by go_grown) hg1 (by first | (simp; done) | (simp; omega)) hl1)
                | (refine step_ints (o := ⟨some 129, _, _, _, _, _⟩) (by rfl) _ _ (by rfl) wr.heap.size _ _ (L.take k) (L.drop (k + 1)) (by rfl) (by rfl) (by exact ho1) (ints_tail (IntsAt.below HIr.out HBw1.out) (by omega) _) (by have := HBw1.out.size; first | (simp; done) | (simp; omega) | omega) (by simp; omega) ?_; intro v2 w2 ho2 hg2 hl2; obtain ⟨m2, sa2, sc2, hm2, rfl⟩ := own_slice_m ho2; have HM2 := Lib.hid hm2; clear hm2; have HBw2 : Hid (Below wr.heap.size wr w2) := HBw1.out.grown hg2 HBw1.out.size hl2))
              all_goals
                have HOL := Lib.hid (intsAt_own ho2 (by simp; omega))
                have hb := HBw2.out
                obtain ⟨HAq, HSq⟩ : Hid (w2.heap[w.heap.size]? = some (.cells #[.int .i64 iv, .slice pa pts.length pc, .slice na notes.length nc] 25 (0, 0))) ∧ Hid (SheetAt w2.heap.size w2 (.slice pa pts.length pc) (.slice na notes.length nc) ⟨iv, pts, notes⟩) :=
                  ⟨(hb.block _ (lt_of_block HAr.out)).trans HAr.out, HSr.out.up hb⟩
                have a0 := cellOf HAq.out 0 _ rfl
                have a1 := cellOf HAq.out 1 _ rfl
                have a2 := cellOf HAq.out 2 _ rfl
                clear ho1 hg1 hl1 ho2 hg2 hl2 hb HBw1 e1
                have hLess := HLL.out
                generalize hG : L.take k ++ L.drop (k + 1) = G at *
                have HOG := Lib.hid hG
                clear hG
                go_wp2_with fail
                refine (some_any ⟨iv, pts, notes⟩ (.slice pa pts.length pc) (.slice na notes.length nc) (.slice sa2 m2 sc2) G true w2 HSq.out HOL.out hn12).mono ?_
                rintro e w5 ⟨nv5, rfl, hS5, hb⟩
                have HBq := Lib.hid (HBw2.out.trans (hb.mono HBw2.out.size))
                clear hb a0 a1 a2
                have hc := fits_some HV.out G true (.slice pa pts.length pc) nv5 w5 hS5
                simp only [HGOOD.out] at hc
                have HC := Lib.hid hc
                clear hc hS5
                go_wp2_with fail
                refine HC.out.mono ?_
                rintro e w6 ⟨rfl, hb⟩
                have HBz : Hid (Below w9.heap.size w9 w6) := HLp.out.trans ((HBq.out.trans (hb.mono HBq.out.size)).mono HLp.out.size)
                clear hb HC
                go_wp2
                go_roundw
                case rel => exact ⟨k + 1, by omega, by go_num, HBz⟩
                case measure => simp [intOf]; omega
          · clear HAr HSr HIr
            go_wp2_with fail
            refine (awake_any _ HTr.out).mono ?_
            rintro e wA ⟨rfl, hb⟩
            have HBA := Lib.hid (HBr.out.trans (hb.mono HBr.out.size))
            clear hb
            go_wp2
            go_ret
            exact ⟨rfl, HBA.out⟩
    · have pe : proofE ⟨iv, pts, notes⟩ = 4 := by unfold proofE; rw [errS_zero HV.out, if_pos rfl, hf, if_pos rfl]
      have pl : proofL ⟨iv, pts, notes⟩ = [] := by unfold proofL; rw [errS_zero HV.out, if_pos rfl, hf, if_pos rfl]
      rw [pl] at hown
      rw [pe]
      obtain ⟨la, lc, rfl⟩ := own_slice hown
      have HF := Lib.hid hf
      clear pe pl hown hf
      go_wp2_with fail
      refine HVL.out.mono ?_
      rintro e w2 ⟨rfl, hb⟩
      clear HVL
      clear a0 a1 a2
      have HA2 := Lib.hid ((hb.block _ (lt_of_block HA1.out)).trans HA1.out)
      have HS2 := Lib.hid (HS1.out.up hb)
      have HT2 := Lib.hid (HT1.out.below hb)
      have HB2 := Lib.hid (HB1.out.trans (hb.mono HB1.out.size))
      clear hb HA1 HS1 HT1 HB1
      have a0 := cellOf HA2.out 0 _ rfl
      have a1 := cellOf HA2.out 1 _ rfl
      have a2 := cellOf HA2.out 2 _ rfl
      have hc := Fits_any ⟨iv, pts, notes⟩ (.slice pa pts.length pc) (.slice na notes.length nc) w2 HS2.out
      rw [errS_zero HV.out, fitsS_of HV.out] at hc
      simp only [HF.out] at hc
      have HC := Lib.hid hc
      clear hc
      go_wp2_with fail
      refine HC.out.mono ?_
      rintro e w3 ⟨rfl, hb⟩
      clear a0 a1 a2 HC
      have HA3 := Lib.hid ((hb.block _ (lt_of_block HA2.out)).trans HA2.out)
      have HS3 := Lib.hid (HS2.out.up hb)
      have HT3 := Lib.hid (HT2.out.below hb)
      have HB3 := Lib.hid (HB2.out.trans (hb.mono HB2.out.size))
      clear hb HA2 HS2 HT2 HB2
      go_wp2_with fail
      refine (awake_any _ HT3.out).mono ?_
      rintro e wA ⟨rfl, hb⟩
      have HBA := Lib.hid (HB3.out.trans (hb.mono HB3.out.size))
      clear hb
      go_wp2
      go_ret
      exact ⟨rfl, HBA.out⟩
  · have tv : (errS ⟨iv, pts, notes⟩ == 0) = false := by simp [hv]
    rw [tv] at HVL
    have pe : proofE ⟨iv, pts, notes⟩ = errS ⟨iv, pts, notes⟩ := by unfold proofE; rw [if_neg hv]
    have pl : proofL ⟨iv, pts, notes⟩ = [] := by unfold proofL; rw [if_neg hv]
    rw [pl] at hown
    rw [pe]
    obtain ⟨la, lc, rfl⟩ := own_slice hown
    have tn : (errS ⟨iv, pts, notes⟩ != 0) = true := by simp [hv]
    clear pe pl hown hv tv
    generalize errS ⟨iv, pts, notes⟩ = r at *
    go_wp2_with fail
    refine HVL.out.mono ?_
    rintro e w2 ⟨rfl, hb⟩
    clear HVL
    clear a0 a1 a2
    have HA2 := Lib.hid ((hb.block _ (lt_of_block HA1.out)).trans HA1.out)
    have HS2 := Lib.hid (HS1.out.up hb)
    have HT2 := Lib.hid (HT1.out.below hb)
    have HB2 := Lib.hid (HB1.out.trans (hb.mono HB1.out.size))
    clear hb HA1 HS1 HT1 HB1
    go_wp2_with fail
    refine (awake_any _ HT2.out).mono ?_
    rintro e wA ⟨rfl, hb⟩
    have HBA := Lib.hid (HB2.out.trans (hb.mono HB2.out.size))
    clear hb
    go_wp2
    go_ret
    exact ⟨rfl, HBA.out⟩
end Go.Proofs.YteipihhpoakhpaaGreatDoor
