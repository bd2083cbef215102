/- EdgeBounds: the call returns true, whatever its arguments and the memory in which it begins; its arguments read as they did. -/
import Derived.Test.YthhlakodnpopmaaEar
import Derived.Maps.AppendAt
import Derived.Test.YthhlakodnpopmaaRff
import Derived.BigQuiet
import Derived.Test.YthhlakodnpopmaaLrm
import Derived.Test.YthhlakodnpopmaaLnm
import Derived.Laws.StructEq
import Derived.Test.YthhlakodnpopmaaRows
import Derived.ProofKit
import Derived.JoinedOf
import Derived.JoinedAt
set_option linter.unusedSimpArgs false
set_option linter.unusedVariables false
namespace Go.Proofs.Ythhlakodnpopmaa
open Go Go.RowKit Ed Go.ChangeShapes Go.WideShapes Go.Deep Go.Joins

def I16At (w : World) (v : Value) (l : List Int) : Prop :=
  l.length ≤ 4611686018427387904 ∧ ∃ a cap, v = .slice a l.length cap ∧ (l ≠ [] → ∃ b o, a = some ⟨b, o, none⟩ ∧ ∀ k, k < l.length → w.cell? ⟨b, o + k, none⟩ = some (.int .i16 (l.getD k 0)) ∧ -32768 ≤ l.getD k 0 ∧ l.getD k 0 ≤ 32767)
theorem I16At.below {w w' : World} {v : Value} {l : List Int} (h : I16At w v l) (hb : Below w.heap.size w w') : I16At w' v l := by
  obtain ⟨h1, a, cap, rfl, h2⟩ := h
  refine ⟨h1, a, cap, rfl, fun hne => ?_⟩
  obtain ⟨b, o, rfl, hc⟩ := h2 hne
  exact ⟨b, o, rfl, fun k hk => ⟨(hb.cell (p := ⟨b, o + k, none⟩) (World.block_lt_of_cell? w _ (hc k hk).1)).trans (hc k hk).1, (hc k hk).2⟩⟩
/-- What a law reads at an index, round and round. -/
def turnI (l : List Int) (n : Nat) : Int := if l = [] then 0 else l.getD (n % l.length) 0
theorem turnI_bd {w : World} {v : Value} {l : List Int} (h : I16At w v l) (n : Nat) : -32768 ≤ turnI l n ∧ turnI l n ≤ 32767 := by
  unfold turnI
  split
  · omega
  · rename_i hne
    obtain ⟨_, a, cap, _, h2⟩ := h
    obtain ⟨b, o, _, hc⟩ := h2 hne
    exact (hc (n % l.length) (Nat.mod_lt _ (List.length_pos_iff.2 hne))).2
theorem cellsI16 : Try.prog.cellsOf 54 = 1 := by kernel_rfl
theorem bytesI16 : Try.prog.bytesOf 54 = 2 := by kernel_rfl
section
variable {H : Type} {enc : TypeId × Value → H} {W : World} {sp : Nat → Bool} {base : Nat} {v : Value} {d : DataW H} {p : List MemPlace}
set_option maxRecDepth 100000 in
theorem open_i16s (hok : Value.okWide Try.prog W .any base 52 v) (h : DataW.Trod enc Try.prog W 0 sp true 52 v d p) (hw : ∀ x ∈ d.weights Try.prog 52, x ≤ reachBytes) :
    ∃ l : List Int, I16At W v l := by
  obtain ⟨a0, len0, cap0, rfl⟩ := okWide_slice Try.underlying52 hok
  obtain ⟨fuel, hf⟩ := h
  have hf' : DataW.trod enc Try.prog W 0 sp true fuel 52 [.slice a0 len0 cap0] = some (d, p) := hf
  rcases open_slice1 Try.underlying52 cellsI16 hf' with ⟨hcs, _⟩ | ⟨a, len, cap, m, n', V, D, Pl, hcs, _, hl, hm, hmm, hx, hel⟩
  · simp only [List.cons.injEq, Value.slice.injEq, and_true] at hcs
    obtain ⟨rfl, rfl, rfl⟩ := hcs
    exact ⟨[], by simp, none, 0, rfl, fun h => absurd rfl h⟩
  · simp only [List.cons.injEq, Value.slice.injEq, and_true] at hcs
    obtain ⟨rfl, rfl, rfl⟩ := hcs
    have hlm : len0 ≤ m := by rw [hmm]; split <;> omega
    have hd : d = .slice ((List.range len0).map D) ((List.range (m - len0)).map fun j => D (len0 + j)) := congrArg Prod.fst hx
    have hb : len0 * 2 ≤ reachBytes := by
      have := hw ((((List.range len0).map D).length + ((List.range (m - len0)).map fun j => D (len0 + j)).length) * 2) (by rw [hd]; simp [DataW.weights, Try.underlying52, bytesI16])
      simp only [List.length_map, List.length_range] at this
      omega
    have hr : reachBytes = 140737488351232 := rfl
    obtain ⟨f, hfl⟩ := choose_lt (α := Int) (n := len0) (p := fun i x => W.cell? (a.add i) = some (.int .i16 x) ∧ -32768 ≤ x ∧ x ≤ 32767) (fun i hi => by
      obtain ⟨h1, h2⟩ := hel i (by omega)
      obtain ⟨k, e, _, w⟩ := DataW.trod_int Try.underlying54 h2
      simp only [List.cons.injEq, and_true] at e
      have bd := bounds_i16 w
      exact ⟨k, by rw [h1, e], bd⟩)
    refine ⟨(List.range len0).map f, by simp; omega, some a, cap0, by simp, fun hne => ?_⟩
    have h0 : 0 < len0 := by
      rcases Nat.eq_zero_or_pos len0 with h | h
      · subst h; exact absurd rfl hne
      · exact h
    obtain ⟨b, o, spot⟩ := a
    have hspot : spot = none := by simpa [Addr.add] using World.cell?_spot (hfl 0 h0).1
    subst hspot
    refine ⟨b, o, rfl, fun k hk => ?_⟩
    have hk' : k < len0 := by simpa using hk
    have hc := hfl k hk'
    rw [add_plain] at hc
    simpa [List.getD_eq_getElem?_getD, hk'] using hc
end
end Go.Proofs.Ythhlakodnpopmaa
namespace Go.Proofs.Ythhlakodnpopmaa
open Go Go.RowKit Go.Shelf Ed

def onK (l : List Int) (k : Nat) : List Int := (List.range k).map (turnI l)
theorem onK_succ (l : List Int) (k : Nat) : onK l (k + 1) = onK l k ++ [turnI l k] := by simp [onK, List.range_succ]
theorem onK_length (l : List Int) (k : Nat) : (onK l k).length = k := by simp [onK]
theorem onK_get (l : List Int) (n k : Nat) (h : k < n) : (onK l n).getD k 0 = turnI l k := by simp [onK, List.getD_eq_getElem?_getD, h]
theorem run_app1 (w : World) (ty : TypeId) (base n : Nat) (v : Value) (xs : List Value) (g : Nat) (x : Int) (hown : w.ownsRow base 3 1 v n xs) (hc : w.cell? ⟨g, 0, none⟩ = some (.int .i64 x)) (hn : n ≤ 1000) (hb : base ≤ w.heap.size) :
    ∃ v' w', (Builtin.append_ #[26, 26] ty #[v, .slice (some ⟨g, 0, none⟩) 1 1]).run Try.prog w = .ok v' w' ∧ w'.ownsRow base 3 1 v' (n + 1) (xs ++ [.int .i64 x]) ∧ w.grownBy w' v.ownBlock ∧ (v'.ownBlock = v.ownBlock ∨ v'.ownBlock = some w.heap.size) := by
  obtain ⟨i0, hi⟩ := info_of_underlying Try.underlying3
  have HI : i0.zero = some (.int .i64 0) ∧ i0.size = 1 ∧ i0.bytes = 8 := by
    have h := intInfo
    rw [hi] at h
    simp at h
    exact h
  obtain ⟨v', w', h1, h2, h3, _, h5⟩ := run_append_own_at (P := Try.prog) w base 26 ty 3 i0 _ 1 8 Try.underlying26 hi HI.1 HI.2.1 HI.2.2 rfl (by decide) v n xs hown ⟨g, 0, none⟩ 1 1 [.int .i64 x] rfl
    (by
      intro j u hj
      match j, hj with
      | 0, hj => simp at hj; subst hj; exact hc
      | j + 1, hj => simp at hj) (by intro u hu; simp at hu; subst hu; rfl) (by unfold maxLen; omega) (by omega) hb
  exact ⟨v', w', h1, h2, h3, h5⟩
theorem wpl_app1 {ops : Array Oper} {rest : List Oper} {o : Oper} {a : Act} {Q : Exit → Act → World → Prop} {w : World} (hgd : o.guard = none) (s x : Operand)
    (ho : o.op = .call { callee := .builtin .append, args := #[s, x], argTypes := #[26, 26] })
    (base n : Nat) (v : Value) (xs : List Value) (g : Nat) (y : Int) (hs : a.eval s = v) (hx : a.eval x = .slice (some ⟨g, 0, none⟩) 1 1) (hown : w.ownsRow base 3 1 v n xs) (hc : w.cell? ⟨g, 0, none⟩ = some (.int .i64 y)) (hn : n ≤ 1000) (hb : base ≤ w.heap.size)
    (h : ∀ v' w', w'.ownsRow base 3 1 v' (n + 1) (xs ++ [.int .i64 y]) → w.grownBy w' v.ownBlock → (v'.ownBlock = v.ownBlock ∨ v'.ownBlock = some w.heap.size) → wpList Try.prog ops Q rest (a.put o.dst v') w') : wpList Try.prog ops Q (o :: rest) a w := by
  refine wpList_plain hgd fun K hK => ?_
  obtain ⟨v', w', hr, h2, h3, h4⟩ := run_app1 w o.type base n v xs g y hown hc hn hb
  unfold Oper.wp execOp
  simp only [ho, resolve, invoke, builtin, Sem.run_bind, Sem.run_pure, Result.andThen_ok, List.map_toArray, List.map_cons, List.map_nil, hs, hx, hr]
  exact hK _ _ (h v' w' h2 h3 h4)
/-- Rows that lie in different blocks. -/
def Dis (a b : Option Nat) : Prop := ∀ q, a = some q → b ≠ some q
theorem Dis.or {a b : Option Nat} (h : Dis a b) : b = none ∨ b ≠ a := by
  cases b with
  | none => exact .inl rfl
  | some q => exact .inr fun e => h q e.symm rfl
theorem Dis.symm {a b : Option Nat} (h : Dis a b) : Dis b a := fun q hq e => h q e hq
theorem Dis.next {a b c : Option Nat} {n : Nat} (h : Dis a b) (hc : c = a ∨ c = some n) (hb : ∀ q, b = some q → q < n) : Dis c b := by
  intro q hq e
  rcases hc with rfl | rfl
  · exact h q hq e
  · have := hb q e
    simp only [Option.some.injEq] at hq
    omega
end Go.Proofs.Ythhlakodnpopmaa
namespace Go.Proofs.Ythhlakodnpopmaa
open Go Go.RowKit Go.Shelf Ed

set_option maxRecDepth 100000 in
set_option maxHeartbeats 4000000 in
theorem rdearest_any (c : Cas) (hv : Valid c) (sv ev : Value) (w : World) (hC : CasAt w c sv ev) :
    Calls Try.prog 42 #[.agg #[.int .i64 c.tol, sv, ev]] w fun e w' => e = .returned (.int .i64 (dearC c)) ∧ Below w.heap.size w w' := by
  obtain ⟨m, hm⟩ : ∃ m, c.shs.length = m := ⟨_, rfl⟩
  obtain ⟨hS, _⟩ := id hC
  obtain ⟨_, sa, sc, rfl, _⟩ := id hS
  have m5 := hv.n5
  have hbk := dearK_bd c.shs hv.sh
  rw [hm] at hS m5 hbk ⊢
  obtain ⟨tol, htol⟩ : ∃ t, c.tol = t := ⟨_, rfl⟩
  rw [htol]
  obtain ⟨W, hW⟩ : ∃ W, w.alloc (Obj.cells #[.int .i64 tol, .slice sa m sc, ev] 25) = W := ⟨_, rfl⟩
  have hb : Below w.heap.size w W := by rw [← hW]; exact (Below.refl _ _).alloc (Nat.le_refl _) _
  have HR : Hid (W.heap[w.heap.size]? = some (Obj.cells #[.int .i64 tol, .slice sa m sc, ev] 25)) := by show _ = _; rw [← hW]; exact heap_alloc_new w _
  have HSS := Lib.hid (hS.below hb)
  have HW := Lib.hid hW
  have HB := Lib.hid hb
  have HV := Lib.hid hv
  have HBK := Lib.hid hbk
  have HM := Lib.hid hm
  have HRES : Hid (dearC c = dearK c.shs m) := by show _ = _; unfold dearC; rw [hm]
  rw [HRES.out]
  have mI : (m : Int) ≤ 5 := by omega
  clear hW hb hS hC hv hm hbk htol HRES
  go_enter Try.func42, Try.ntmps42
  go_wp2_with fail
  rw [HW.out]
  go_loopg [3, 4] m (fun gh cv i wr => ∃ k : Nat, gh + k = m ∧ i = .int .i64 (k : Int) ∧ cv = .int .i64 (dearK c.shs k) ∧ Hid (Below W.heap.size W wr))
  case atStart => exact ⟨0, by omega, rfl, rfl, Below.refl _ _⟩
  case round =>
    obtain ⟨k, hk, rfl, rfl, HBB⟩ := hrel
    have R1 := Lib.hid ((HBB.out.block _ (lt_of_block HR.out)).trans HR.out)
    have c1 := cellOf R1.out 1 _ rfl
    have cl := lt_of_block R1.out
    by_cases hlt : k < m
    · have kI : (k : Int) < (m : Int) := by omega
      have hkm : k < c.shs.length := by rw [HM.out]; omega
      obtain ⟨sb, so, rfl, d0, d1, d2⟩ := (HSS.out.below HBB.out).get hkm
      have hsk := HV.out.sh c.shs[k] (List.getElem_mem hkm)
      have hcs := HBK.out k (by omega)
      have HST : Hid (dearK c.shs (k + 1) = dearK c.shs k + c.shs[k].wt * c.shs[k].most) := dearK_succ _ _ hkm
      obtain ⟨w0, w20, m0, m6⟩ := hsk
      generalize dearK c.shs k = ck at *
      generalize c.shs[k] = s at *
      obtain ⟨nm, wt, most⟩ := s
      simp only at d0 d1 d2 w0 w20 m0 m6 HST
      have hmul := mul_in (a := wt) (b := most) (A := 20) (B := 6) (by omega) (by omega) (by omega) (by omega)
      have s1 : IntKind.i64.wrap (wt * most) = wt * most := by rw [IntKind.wrap_i64] <;> omega
      have s2 : IntKind.i64.wrap (ck + wt * most) = ck + wt * most := by rw [IntKind.wrap_i64] <;> omega
      clear hkm
      generalize hwz : wt * most = wz at *
      go_wp2_with fail
      go_quiet (fail)
      have HBN : Hid (Below W.heap.size W (wr.drewN nq)) := HBB.out.trans ⟨rfl, rfl, rfl, Nat.le_refl _, fun _ _ => rfl⟩
      clear d0 d1 d2 c1 cl
      go_wp2
      go_roundg (gk - 1)
      case measure => omega
      case rel => exact ⟨k + 1, by omega, by go_num, by rw [HST.out], HBN⟩
    · have kI : ¬ (k : Int) < (m : Int) := by omega
      obtain rfl : k = m := by omega
      clear hlt hk
      go_wp2
      go_ret
      exact ⟨rfl, HB.out.trans (HBB.out.mono HB.out.size)⟩
theorem wL_ws (c : Cas) (i : Nat) (hi : i < c.eds.length) (h8 : c.eds.length ≤ 8) : wL (wsC c) i = wantF c i := by
  have h2 := wsTo_get (wantF c) c.eds.length i hi h8
  exact Prod.ext h2.1 h2.2
theorem torn_no (c : Cas) (h8 : c.eds.length ≤ 8) (h : ∀ j, j < c.eds.length → (wantF c j).1 ≤ (wantF c j).2) : tornK (wsC c) c.eds.length = false := by
  unfold tornK
  rw [List.any_eq_false]
  intro i hi
  have hi' := List.mem_range.1 hi
  have := h i hi'
  rw [wL_ws c i hi' h8]
  simp
  omega
theorem torn_yes (c : Cas) (h8 : c.eds.length ≤ 8) (k : Nat) (hk : k < c.eds.length) (h : ¬ (wantF c k).1 ≤ (wantF c k).2) : tornK (wsC c) c.eds.length = true := by
  unfold tornK
  rw [List.any_eq_true]
  exact ⟨k, List.mem_range.2 hk, by rw [wL_ws c k hk h8]; simp; omega⟩
set_option maxRecDepth 100000 in
set_option maxHeartbeats 4000000 in
theorem rsound_any (c : Cas) (hv : Valid c) (sv ev : Value) (w : World) (hC : CasAt w c sv ev) :
    Calls Try.prog 41 #[.agg #[.int .i64 c.tol, sv, ev]] w fun e w' => e = .returned (.bool (!tornK (wsC c) c.eds.length)) ∧ Below w.heap.size w w' := by
  obtain ⟨m, hm⟩ : ∃ m, c.eds.length = m := ⟨_, rfl⟩
  obtain ⟨tol, htol⟩ : ∃ t, c.tol = t := ⟨_, rfl⟩
  obtain ⟨_, hE⟩ := id hC
  obtain ⟨_, ea, ec, rfl, _⟩ := id hE
  have m8 := hv.m8
  rw [hm] at hE m8 ⊢
  rw [htol]
  obtain ⟨W, hW⟩ : ∃ W, w.alloc (Obj.cells #[.int .i64 tol, sv, .slice ea m ec] 25) = W := ⟨_, rfl⟩
  have hb : Below w.heap.size w W := by rw [← hW]; exact (Below.refl _ _).alloc (Nat.le_refl _) _
  have HR : Hid (W.heap[w.heap.size]? = some (Obj.cells #[.int .i64 tol, sv, .slice ea m ec] 25)) := by show _ = _; rw [← hW]; exact heap_alloc_new w _
  have HEE := Lib.hid (hE.below hb)
  have HW := Lib.hid hW
  have HB := Lib.hid hb
  have HV := Lib.hid hv
  have HM := Lib.hid hm
  have HTOL := Lib.hid htol
  have mI : (m : Int) ≤ 8 := by omega
  have HYES : Hid (∀ k, k < m → ¬ (wantF c k).1 ≤ (wantF c k).2 → tornK (wsC c) m = true) := fun k hk h => by rw [← hm] at hk ⊢; exact torn_yes c (by omega) k hk h
  have HNO : Hid ((∀ j, j < m → (wantF c j).1 ≤ (wantF c j).2) → tornK (wsC c) m = false) := fun h => by rw [← hm] at h ⊢; exact torn_no c (by omega) h
  obtain ⟨res, hres⟩ : ∃ r, tornK (wsC c) m = r := ⟨_, rfl⟩
  rw [hres] at HYES HNO ⊢
  clear hW hb hE hv hm hC htol hres
  go_enter Try.func41, Try.ntmps41
  go_wp2_with fail
  rw [HW.out]
  go_loopg [3, 4, 5] m (fun gh i v4 v5 wr => ∃ k : Nat, gh + k = m ∧ i = .int .i64 (k : Int) ∧ Hid (∀ j, j < k → (wantF c j).1 ≤ (wantF c j).2) ∧ Hid (Below W.heap.size W wr))
  case atStart => exact ⟨0, by omega, rfl, fun j hj => absurd hj (Nat.not_lt_zero _), Below.refl _ _⟩
  case round =>
    obtain ⟨k, hk, rfl, HZ, HBB⟩ := hrel
    have R1 := Lib.hid ((HBB.out.block _ (lt_of_block HR.out)).trans HR.out)
    have c0 := cellOf R1.out 0 _ rfl
    have c1 := cellOf R1.out 1 _ rfl
    have c2 := cellOf R1.out 2 _ rfl
    have cl := lt_of_block R1.out
    by_cases hlt : k < m
    · have kI : (k : Int) < (m : Int) := by omega
      have hkm : k < c.eds.length := by rw [HM.out]; omega
      obtain ⟨eb, eo, pa, pc, rfl, d0, d1, d2, hpp⟩ := (HEE.out.below HBB.out).get hkm
      have hed := HV.out.ed _ (List.getElem_mem hkm)
      have HWK : Hid (wantF c k = wantS tol c.eds[k].pts) := by show _ = _; unfold wantF; rw [getD_lt _ _ hkm, HTOL.out]
      have HF : Hid (∀ W', Below wr.heap.size wr W' → Calls Try.prog 56 #[.agg #[.int .i64 tol, sv, .slice (some ⟨eb, eo, none⟩) m ec], .agg #[.int .i64 c.eds[k].a, .int .i64 c.eds[k].b, .slice pa c.eds[k].pts.length pc]] W' fun e w' => e = .returned (.tuple #[.agg #[.int .i64 (wantS tol c.eds[k].pts).1, .int .i64 (wantS tol c.eds[k].pts).2], .bool (decide ((wantS tol c.eds[k].pts).1 ≤ (wantS tol c.eds[k].pts).2))]) ∧ Below W'.heap.size W' w') := fun W' hb => by
        have h := rwant_any c.tol sv (.slice (some ⟨eb, eo, none⟩) m ec) (.slice pa c.eds[k].pts.length pc) c.eds[k].a c.eds[k].b c.eds[k].pts W' HV.out.t0 HV.out.t50 hed.pt hed.p1 hed.p4 (hpp.below hb)
        rw [HTOL.out] at h
        exact h
      generalize wantS tol c.eds[k].pts = s at *
      generalize c.eds[k] = d at *
      obtain ⟨da, db, ps⟩ := d
      obtain ⟨lo, hi⟩ := s
      simp only at d0 d1 d2 HF HWK
      obtain ⟨np, hnp⟩ : ∃ np, ps.length = np := ⟨_, rfl⟩
      rw [hnp] at d2 HF
      clear hed hpp hnp hkm
      go_wp2_with fail
      go_cut [4, 5] from 6 to 24 (fun v b wx => b = .bool (decide (lo ≤ hi)) ∧ Hid (Below wr.heap.size wr wx))
      case first =>
        have KA : ∀ W' : World, Below wr.heap.size wr W' → (W'.cell? ⟨w.heap.size, 0, none⟩ = some (.int .i64 tol) ∧ W'.cell? ⟨w.heap.size, 1, none⟩ = some (sv) ∧ W'.cell? ⟨w.heap.size, 2, none⟩ = some (.slice (some ⟨eb, eo, none⟩) m ec) ∧ W'.cell? ⟨eb, eo + k * 3, none⟩ = some (.int .i64 da) ∧ W'.cell? ⟨eb, eo + k * 3 + 1, none⟩ = some (.int .i64 db) ∧ W'.cell? ⟨eb, eo + k * 3 + 2, none⟩ = some (.slice pa np pc) ∧ Below wr.heap.size wr W') := fun W' hb => ⟨keepK c0 hb, keepK c1 hb, keepK c2 hb, keepK d0 hb, keepK d1 hb, keepK d2 hb, hb⟩
        refine wp_region_noPanic ?_
        refine wp_region_held_drew (S := (fun W' => W'.cell? ⟨w.heap.size, 0, none⟩ = some (.int .i64 tol) ∧ W'.cell? ⟨w.heap.size, 1, none⟩ = some (sv) ∧ W'.cell? ⟨w.heap.size, 2, none⟩ = some (.slice (some ⟨eb, eo, none⟩) m ec) ∧ W'.cell? ⟨eb, eo + k * 3, none⟩ = some (.int .i64 da) ∧ W'.cell? ⟨eb, eo + k * 3 + 1, none⟩ = some (.int .i64 db) ∧ W'.cell? ⟨eb, eo + k * 3 + 2, none⟩ = some (.slice pa np pc) ∧ Below wr.heap.size wr W')) (by kernel_rfl) ?_ (fun hh0 => ?_)
        · exact KA _ (Below.refl _ _).drew
        refine wpAnyH_take (i := 0) (v := ?_) rfl (by as_aux_lemma => kernel_rfl) (by as_aux_lemma => kernel_rfl) (by as_aux_lemma => kernel_rfl) (fun _ _ _ h => h) (Or.inl ⟨by rfl, ?_⟩) (by assumption) ?_
        rotate_left
        · intro w hSw
          try dsimp only at hSw
          go_simp
          try with_reducible rfl
        try simp only [Act.put, List.getElem_toArray, List.getElem_cons_succ, List.getElem_cons_zero, List.setIfInBounds_toArray, List.set_cons_zero, List.set_cons_succ]
        refine wpAnyH_take (i := 1) (v := ?_) rfl (by as_aux_lemma => kernel_rfl) (by as_aux_lemma => kernel_rfl) (by as_aux_lemma => kernel_rfl) (fun _ _ _ h => h) (Or.inl ⟨by rfl, ?_⟩) (by assumption) ?_
        rotate_left
        · intro w hSw
          try dsimp only at hSw
          go_simp
          try with_reducible rfl
        try simp only [Act.put, List.getElem_toArray, List.getElem_cons_succ, List.getElem_cons_zero, List.setIfInBounds_toArray, List.set_cons_zero, List.set_cons_succ]
        refine wpAnyH_take (i := 2) (v := ?_) rfl (by as_aux_lemma => kernel_rfl) (by as_aux_lemma => kernel_rfl) (by as_aux_lemma => kernel_rfl) (fun _ _ _ h => h) (Or.inl ⟨by rfl, ?_⟩) (by assumption) ?_
        rotate_left
        · intro w hSw
          try dsimp only at hSw
          go_simp
          try with_reducible rfl
        try simp only [Act.put, List.getElem_toArray, List.getElem_cons_succ, List.getElem_cons_zero, List.setIfInBounds_toArray, List.set_cons_zero, List.set_cons_succ]
        refine wpAnyH_take (i := 3) (v := ?_) rfl (by as_aux_lemma => kernel_rfl) (by as_aux_lemma => kernel_rfl) (by as_aux_lemma => kernel_rfl) (fun _ _ _ h => h) (Or.inl ⟨by rfl, ?_⟩) (by assumption) ?_
        rotate_left
        · intro w hSw
          try dsimp only at hSw
          go_simp
          try with_reducible rfl
        try simp only [Act.put, List.getElem_toArray, List.getElem_cons_succ, List.getElem_cons_zero, List.setIfInBounds_toArray, List.set_cons_zero, List.set_cons_succ]
        refine wpAnyH_take (i := 4) (v := ?_) rfl (by as_aux_lemma => kernel_rfl) (by as_aux_lemma => kernel_rfl) (by as_aux_lemma => kernel_rfl) (fun _ _ _ h => h) (Or.inl ⟨by rfl, ?_⟩) (by assumption) ?_
        rotate_left
        · intro w hSw
          try dsimp only at hSw
          go_simp
          try with_reducible rfl
        try simp only [Act.put, List.getElem_toArray, List.getElem_cons_succ, List.getElem_cons_zero, List.setIfInBounds_toArray, List.set_cons_zero, List.set_cons_succ]
        refine wpAnyH_take (i := 5) (v := ?_) rfl (by as_aux_lemma => kernel_rfl) (by as_aux_lemma => kernel_rfl) (by as_aux_lemma => kernel_rfl) (fun _ _ _ h => h) (Or.inl ⟨by rfl, ?_⟩) (by assumption) ?_
        rotate_left
        · intro w hSw
          try dsimp only at hSw
          go_simp
          try with_reducible rfl
        try simp only [Act.put, List.getElem_toArray, List.getElem_cons_succ, List.getElem_cons_zero, List.setIfInBounds_toArray, List.set_cons_zero, List.set_cons_succ]
        refine wpAnyH_ready (rs := [6, 10]) (by as_aux_lemma => kernel_rfl) (by simp) ?_
        refine AllReadyH.cons rfl (fun K hK => ?_) (AllReadyH.cons rfl (fun K hK => ?_) AllReadyH.nil)
        · skip
          go_simp
          refine (HF.out _ hh0.2.2.2.2.2.2).mono ?_
          rintro e w8 ⟨rfl, hb8⟩
          refine hK.out _ _ (KA _ (Below.trans hh0.2.2.2.2.2.2 (Below.mono hb8 (hh0.2.2.2.2.2.2).size))) (fun hh1 => ?_)
          clear hK K
          try simp only [Act.put, List.getElem_toArray, List.getElem_cons_succ, List.getElem_cons_zero, List.setIfInBounds_toArray, List.set_cons_zero, List.set_cons_succ]
          refine wpAnyH_take (i := 7) (v := ?_) rfl (by as_aux_lemma => kernel_rfl) (by as_aux_lemma => kernel_rfl) (by as_aux_lemma => kernel_rfl) (fun _ _ _ h => h) (Or.inl ⟨by rfl, ?_⟩) (by assumption) ?_
          rotate_left
          · intro w hSw
            try dsimp only at hSw
            go_simp
            try with_reducible rfl
          try simp only [Act.put, List.getElem_toArray, List.getElem_cons_succ, List.getElem_cons_zero, List.setIfInBounds_toArray, List.set_cons_zero, List.set_cons_succ]
          refine wpAnyH_take (i := 8) (v := ?_) rfl (by as_aux_lemma => kernel_rfl) (by as_aux_lemma => kernel_rfl) (by as_aux_lemma => kernel_rfl) (fun _ _ _ h => h) (Or.inl ⟨by rfl, ?_⟩) (by assumption) ?_
          rotate_left
          · intro w hSw
            try dsimp only at hSw
            go_simp
            try with_reducible rfl
          try simp only [Act.put, List.getElem_toArray, List.getElem_cons_succ, List.getElem_cons_zero, List.setIfInBounds_toArray, List.set_cons_zero, List.set_cons_succ]
          refine wpAnyH_take (i := 9) (v := ?_) rfl (by as_aux_lemma => kernel_rfl) (by as_aux_lemma => kernel_rfl) (by as_aux_lemma => kernel_rfl) (fun _ _ _ h => h) (Or.inl ⟨by rfl, ?_⟩) (by assumption) ?_
          rotate_left
          · intro w hSw
            try dsimp only at hSw
            go_simp
            try with_reducible rfl
          try simp only [Act.put, List.getElem_toArray, List.getElem_cons_succ, List.getElem_cons_zero, List.setIfInBounds_toArray, List.set_cons_zero, List.set_cons_succ]
          refine wpAnyH_ready (rs := [10]) (by as_aux_lemma => kernel_rfl) (by simp) ?_
          refine AllReadyH.cons rfl (fun K hK => ?_) AllReadyH.nil
          go_simp
          refine hK.out _ _ (KA _ ((hh1.2.2.2.2.2.2).alloc (hh1.2.2.2.2.2.2).size _)) (fun hh2 => ?_)
          clear hK K
          try simp only [Act.put, List.getElem_toArray, List.getElem_cons_succ, List.getElem_cons_zero, List.setIfInBounds_toArray, List.set_cons_zero, List.set_cons_succ]
          refine wpAnyH_ready (rs := [11]) (by as_aux_lemma => kernel_rfl) (by simp) ?_
          refine AllReadyH.cons rfl (fun K hK => ?_) AllReadyH.nil
          go_simp
          refine hK.out _ _ ?_ (fun hh3 => ?_)
          · first | exact KA _ (two_below hh2.2.2.2.2.2.2 (by omega)) | exact KA _ ((hh2.2.2.2.2.2.2).setCell (by simp; omega) _) | exact KA _ ((hh0.2.2.2.2.2.2).alloc (hh0.2.2.2.2.2.2).size _) | exact KA _ ((hh1.2.2.2.2.2.2).alloc (hh1.2.2.2.2.2.2).size _)
          clear hK K
          try simp only [Act.put, List.getElem_toArray, List.getElem_cons_succ, List.getElem_cons_zero, List.setIfInBounds_toArray, List.set_cons_zero, List.set_cons_succ]
          refine wpAnyH_ready (rs := [12]) (by as_aux_lemma => kernel_rfl) (by simp) ?_
          refine AllReadyH.cons rfl (fun K hK => ?_) AllReadyH.nil
          go_simp
          refine hK.out _ _ hh3 (fun hh4 => ?_)
          clear hK K
          try simp only [Act.put, List.getElem_toArray, List.getElem_cons_succ, List.getElem_cons_zero, List.setIfInBounds_toArray, List.set_cons_zero, List.set_cons_succ]
          refine wpAnyH_done (by as_aux_lemma => kernel_rfl) ?_ _
          refine NoPanic.normal ?_
          have HBZ := Lib.hid (hh4.2.2.2.2.2.2)
          go_wp2_with fail
          go_meet
          case rel => exact ⟨rfl, HBZ⟩
        · skip
          go_simp
          refine hK.out _ _ (KA _ ((hh0.2.2.2.2.2.2).alloc (hh0.2.2.2.2.2.2).size _)) (fun hh1 => ?_)
          clear hK K
          try simp only [Act.put, List.getElem_toArray, List.getElem_cons_succ, List.getElem_cons_zero, List.setIfInBounds_toArray, List.set_cons_zero, List.set_cons_succ]
          refine wpAnyH_ready (rs := [6]) (by as_aux_lemma => kernel_rfl) (by simp) ?_
          refine AllReadyH.cons rfl (fun K hK => ?_) AllReadyH.nil
          go_simp
          refine (HF.out _ hh1.2.2.2.2.2.2).mono ?_
          rintro e w8 ⟨rfl, hb8⟩
          have z8 := (hb8.block wr.heap.size (by simp)).trans (heap_alloc_new wr.drew (Obj.cells #[.int .i64 0, .int .i64 0] 31))
          have y0 := cellOf z8 0 _ rfl
          have y1 := cellOf z8 1 _ rfl
          have g0 := frozen_of_row _ _ 0 _ _ z8
          have g1 := frozen_of_row _ _ 1 _ _ z8
          have zl := lt_of_block z8
          refine hK.out _ _ (KA _ (Below.trans hh1.2.2.2.2.2.2 (Below.mono hb8 (hh1.2.2.2.2.2.2).size))) (fun hh2 => ?_)
          clear hK K
          try simp only [Act.put, List.getElem_toArray, List.getElem_cons_succ, List.getElem_cons_zero, List.setIfInBounds_toArray, List.set_cons_zero, List.set_cons_succ]
          refine wpAnyH_take (i := 7) (v := ?_) rfl (by as_aux_lemma => kernel_rfl) (by as_aux_lemma => kernel_rfl) (by as_aux_lemma => kernel_rfl) (fun _ _ _ h => h) (Or.inl ⟨by rfl, ?_⟩) (by assumption) ?_
          rotate_left
          · intro w hSw
            try dsimp only at hSw
            go_simp
            try with_reducible rfl
          try simp only [Act.put, List.getElem_toArray, List.getElem_cons_succ, List.getElem_cons_zero, List.setIfInBounds_toArray, List.set_cons_zero, List.set_cons_succ]
          refine wpAnyH_take (i := 8) (v := ?_) rfl (by as_aux_lemma => kernel_rfl) (by as_aux_lemma => kernel_rfl) (by as_aux_lemma => kernel_rfl) (fun _ _ _ h => h) (Or.inl ⟨by rfl, ?_⟩) (by assumption) ?_
          rotate_left
          · intro w hSw
            try dsimp only at hSw
            go_simp
            try with_reducible rfl
          try simp only [Act.put, List.getElem_toArray, List.getElem_cons_succ, List.getElem_cons_zero, List.setIfInBounds_toArray, List.set_cons_zero, List.set_cons_succ]
          refine wpAnyH_take (i := 9) (v := ?_) rfl (by as_aux_lemma => kernel_rfl) (by as_aux_lemma => kernel_rfl) (by as_aux_lemma => kernel_rfl) (fun _ _ _ h => h) (Or.inl ⟨by rfl, ?_⟩) (by assumption) ?_
          rotate_left
          · intro w hSw
            try dsimp only at hSw
            go_simp
            try with_reducible rfl
          try simp only [Act.put, List.getElem_toArray, List.getElem_cons_succ, List.getElem_cons_zero, List.setIfInBounds_toArray, List.set_cons_zero, List.set_cons_succ]
          refine wpAnyH_ready (rs := [11]) (by as_aux_lemma => kernel_rfl) (by simp) ?_
          refine AllReadyH.cons rfl (fun K hK => ?_) AllReadyH.nil
          go_simp
          refine hK.out _ _ ?_ (fun hh3 => ?_)
          · first | exact KA _ (two_below hh2.2.2.2.2.2.2 (by omega)) | exact KA _ ((hh2.2.2.2.2.2.2).setCell (by simp; omega) _) | exact KA _ ((hh0.2.2.2.2.2.2).alloc (hh0.2.2.2.2.2.2).size _) | exact KA _ ((hh1.2.2.2.2.2.2).alloc (hh1.2.2.2.2.2.2).size _)
          clear hK K
          try simp only [Act.put, List.getElem_toArray, List.getElem_cons_succ, List.getElem_cons_zero, List.setIfInBounds_toArray, List.set_cons_zero, List.set_cons_succ]
          refine wpAnyH_ready (rs := [12]) (by as_aux_lemma => kernel_rfl) (by simp) ?_
          refine AllReadyH.cons rfl (fun K hK => ?_) AllReadyH.nil
          go_simp
          refine hK.out _ _ hh3 (fun hh4 => ?_)
          clear hK K
          try simp only [Act.put, List.getElem_toArray, List.getElem_cons_succ, List.getElem_cons_zero, List.setIfInBounds_toArray, List.set_cons_zero, List.set_cons_succ]
          refine wpAnyH_done (by as_aux_lemma => kernel_rfl) ?_ _
          refine NoPanic.normal ?_
          have HBZ := Lib.hid (hh4.2.2.2.2.2.2)
          go_wp2_with fail
          go_meet
          case rel => exact ⟨rfl, HBZ⟩
      case rest =>
        obtain ⟨rfl, hbw⟩ := hcut
        have HL8 := Lib.hid (HBB.out.trans (hbw.out.mono HBB.out.size))
        clear c0 c1 c2 cl d0 d1 d2 HF hbw R1
        by_cases hle : lo ≤ hi
        · have td : decide (lo ≤ hi) = true := by simp; omega
          rw [td]
          have HZ2 : Hid (∀ j, j < k + 1 → (wantF c j).1 ≤ (wantF c j).2) := fun j hj => by
            by_cases e : j = k
            · subst e; rw [HWK.out]; exact hle
            · exact HZ.out j (by omega)
          clear HZ HWK hle td
          go_wp2
          go_roundg (gk - 1)
          case measure => omega
          case rel => exact ⟨k + 1, by omega, by go_num, HZ2, HL8⟩
        · have td : decide (lo ≤ hi) = false := by simp; omega
          have hr := HYES.out k (by omega) (by rw [HWK.out]; simp only; omega)
          subst hr
          rw [td]
          clear hle td HWK
          go_wp2
          go_ret
          exact ⟨rfl, HB.out.trans (HL8.out.mono HB.out.size)⟩
    · have kI : ¬ (k : Int) < (m : Int) := by omega
      obtain rfl : k = m := by omega
      have hr := HNO.out HZ.out
      subst hr
      clear hlt hk
      go_wp2
      go_ret
      exact ⟨rfl, HB.out.trans (HBB.out.mono HB.out.size)⟩
end Go.Proofs.Ythhlakodnpopmaa
namespace Go.Proofs.Ythhlakodnpopmaa
open Go Go.RowKit Go.Shelf Ed

def givN (c : Cas) (l : List Int) (k : Nat) : List Int := (givTo c.eds l k).take c.shs.length
theorem made_z5 (n : Nat) (h : n ≤ 5) : (madeCells #[Value.int .i64 0] n).toList = (z5.take n).map (Value.int .i64) := by
  apply List.ext_getElem?
  intro j
  by_cases hj : j < n
  · have e1 : (madeCells #[Value.int .i64 0] n).toList[j]? = some (.int .i64 0) := by simp [madeCells, hj, Nat.mod_one]
    rw [e1, List.getElem?_map, List.getElem?_take, if_pos hj]
    match j, show j < 5 by omega with
    | 0, _ => rfl
    | 1, _ => rfl
    | 2, _ => rfl
    | 3, _ => rfl
    | 4, _ => rfl
  · rw [List.getElem?_eq_none (by simp [madeCells]; omega), List.getElem?_eq_none (by simp; omega)]
theorem row_get {w : World} {B g n cap k : Nat} {G : List Int} (h : w.ownsRow B 3 1 (.slice (some ⟨g, 0, none⟩) n cap) n ((G.take n).map (Value.int .i64))) (hk : k < n) (hn : n ≤ G.length) : w.cell? ⟨g, k, none⟩ = some (.int .i64 (G.getD k 0)) := by
  rw [h.cellAt k (by omega)]
  simp [List.getD_eq_getElem?_getD, hk, show k < G.length by omega]
theorem row_set {w : World} {B g n cap k : Nat} {G : List Int} (h : w.ownsRow B 3 1 (.slice (some ⟨g, 0, none⟩) n cap) n ((G.take n).map (Value.int .i64))) (y : Int) : (w.setCell ⟨g, k, none⟩ (.int .i64 y)).ownsRow B 3 1 (.slice (some ⟨g, 0, none⟩) n cap) n (((G.set k y).take n).map (Value.int .i64)) := by
  have h1 := (h.stored k (.int .i64 y)).1
  rw [← List.map_set, ← List.take_set] at h1
  exact h1
set_option maxRecDepth 100000 in
set_option maxHeartbeats 8000000 in
theorem rgiven_any (c : Cas) (hv : Valid c) (sv ev lv : Value) (l : List Int) (w : World) (hC : CasAt w c sv ev) (hL : IntsAt w lv l) (hl : l.length = c.eds.length) (hbd : PuBd l) :
    Calls Try.prog 68 #[.agg #[.int .i64 c.tol, sv, ev], lv] w fun e w' => ∃ v, e = .returned v ∧ IntsAt w' v (givN c l c.eds.length) ∧ Below w.heap.size w w' := by
  obtain ⟨n, hn⟩ : ∃ n, c.shs.length = n := ⟨_, rfl⟩
  obtain ⟨m, hm⟩ : ∃ m, c.eds.length = m := ⟨_, rfl⟩
  obtain ⟨tol, htol⟩ : ∃ t, c.tol = t := ⟨_, rfl⟩
  obtain ⟨hS, hE⟩ := id hC
  obtain ⟨_, sa, sc, rfl, _⟩ := id hS
  obtain ⟨_, ea, ec, rfl, _⟩ := id hE
  obtain ⟨_, la, lc, rfl, _⟩ := id hL
  obtain ⟨i0, hi0⟩ := info_of_underlying Try.underlying3
  have HI : Hid (i0.zero = some (.int .i64 0) ∧ i0.size = 1 ∧ i0.bytes = 8) := by
    have h := intInfo
    rw [hi0] at h
    simp at h
    exact h
  have m8 := hv.m8
  have n5 := hv.n5
  have hgb := givTo_bd c.eds l hbd (fun k hk => by
    have h := hv.ed _ (List.getElem_mem hk)
    rw [getD_lt _ _ hk]
    have := h.a0; have := h.b0; have := h.ne
    omega)
  rw [hm] at hE m8 hgb ⊢
  rw [hn] at n5 ⊢
  rw [hl, hm] at hL ⊢
  rw [htol]
  obtain ⟨W, hW⟩ : ∃ W, w.alloc (Obj.cells #[.int .i64 tol, .slice sa n sc, .slice ea m ec] 25) = W := ⟨_, rfl⟩
  have hb : Below w.heap.size w W := by rw [← hW]; exact (Below.refl _ _).alloc (Nat.le_refl _) _
  have HR : Hid (W.heap[w.heap.size]? = some (Obj.cells #[.int .i64 tol, .slice sa n sc, .slice ea m ec] 25)) := by show _ = _; rw [← hW]; exact heap_alloc_new w _
  have HEE := Lib.hid (hE.below hb)
  have HLL := Lib.hid (hL.below hb)
  have HW := Lib.hid hW
  have HB := Lib.hid hb
  have HV := Lib.hid hv
  have HBD := Lib.hid hbd
  have HGB := Lib.hid hgb
  have HN := Lib.hid hn
  have HM := Lib.hid hm
  have HLM : Hid (l.length = m) := by show _ = _; rw [hl, hm]
  have nI : (n : Int) ≤ 5 := by omega
  have mI : (m : Int) ≤ 8 := by omega
  clear hW hb hS hE hL hv hbd hn hm hC hl htol hgb
  go_enter Try.func68, Try.ntmps68
  go_wp2_with (at_make; rw [HW.out]; refine wpList_make_full _ rfl _ _ 26 rfl W.heap.size 3 i0 (.int .i64 0) 1 Try.underlying26 hi0 HI.out.1 HI.out.2.1 .i64 .i64 _ _ n rfl rfl rfl rfl ?c1 ?c2 (Nat.le_refl _) ?_)
  case c1 => rw [HI.out.2.2]; omega
  case c2 => unfold maxLen; omega
  intro w1 hown hgr
  rw [made_z5 n n5] at hown
  have hb1 : Below W.heap.size W w1 := (Below.refl W.heap.size W).grown hgr (Nat.le_refl _) (by simp)
  have HB1 := Lib.hid hb1
  have HO := Lib.hid hown
  clear hown hgr hb1 HW
  obtain ⟨g, hg⟩ : ∃ g, W.heap.size = g := ⟨_, rfl⟩
  rw [hg] at HO HB1 ⊢
  have HG0 := Lib.hid hg
  clear hg
  go_wp2_with fail
  go_loopg [6] m (fun gh i wr => ∃ k : Nat, gh + k = m ∧ i = .int .i64 (k : Int) ∧ Hid (wr.ownsRow g 3 1 (.slice (some ⟨g, 0, none⟩) n n) n (((givTo c.eds l k).take n).map (Value.int .i64))) ∧ Hid (Below g W wr))
  case atStart => exact ⟨0, by omega, rfl, HO, HB1⟩
  case round =>
    obtain ⟨k, hk, rfl, HOR, HBB⟩ := hrel
    have c2 := cellOf ((HBB.out.block _ (by rw [← HG0.out]; exact lt_of_block HR.out)).trans HR.out) 2 _ rfl
    by_cases hlt : k < m
    · have kI : (k : Int) < (m : Int) := by omega
      have hkm : k < c.eds.length := by rw [HM.out]; exact hlt
      have hkl : k < l.length := by rw [HLM.out]; exact hlt
      obtain ⟨eb, eo, pa, pc, rfl, d0, d1, d2, hpp⟩ := HEE.out.get hkm
      obtain ⟨lb, lo, rfl, e0⟩ := HLL.out.get hkl
      have hed := HV.out.ed _ (List.getElem_mem hkm)
      have hx := HBD.out k
      have HST : Hid (givTo c.eds l (k + 1) = givStep c.eds[k].a.toNat c.eds[k].b.toNat l[k] (givTo c.eds l k)) := by
        show _ = _
        simp only [givTo]
        rw [getD_lt _ _ hkm, show l.getD k 0 = l[k] by simp [List.getD_eq_getElem?_getD, hkl]]
      have hxe : l.getD k 0 = l[k] := by simp [List.getD_eq_getElem?_getD, hkl]
      rw [hxe] at hx
      have hG5 := givTo_length c.eds l k
      have hGB := HGB.out k (by omega)
      obtain ⟨xa0, xan, xb0, xbn, xne, _, _, _⟩ := hed
      rw [HN.out] at xan xbn
      clear hpp d2 hxe
      generalize c.eds[k] = d at *
      obtain ⟨da, db, ps⟩ := d
      simp only at d0 d1 HST xa0 xan xb0 xbn xne
      obtain ⟨ia, rfl⟩ : ∃ i : Nat, da = i := ⟨da.toNat, by omega⟩
      obtain ⟨ib, rfl⟩ : ∃ i : Nat, db = i := ⟨db.toNat, by omega⟩
      simp only [Int.toNat_natCast] at HST
      generalize givTo c.eds l k = G at *
      generalize l[k] = x at *
      have ian : ia < n := by omega
      have ibn : ib < n := by omega
      have iab : ia ≠ ib := by omega
      have hga := hGB ia
      have hgb' := hGB ib
      have gfe : (G.set ia (G.getD ia 0 + x)).getD ib 0 = G.getD ib 0 := by rw [getD_set, if_neg (by omega)]
      obtain ⟨va, hva⟩ : ∃ v, G.getD ia 0 = v := ⟨_, rfl⟩
      obtain ⟨vb, hvb⟩ : ∃ v, G.getD ib 0 = v := ⟨_, rfl⟩
      have HSS : Hid (givTo c.eds l (k + 1) = (G.set ia (va + x)).set ib (vb - x)) := by
        show _ = _
        rw [HST.out]
        unfold givStep
        rw [gfe, hva, hvb]
      have a0 := row_get HOR.out ian (by omega)
      have b1 := row_get (row_set (k := ia) HOR.out (va + x)) ibn (by rw [List.length_set]; omega)
      rw [← hva, gfe, hvb, hva] at b1
      rw [hva] at a0 hga
      rw [hvb] at hgb'
      have ws1 : IntKind.i64.wrap (va + x) = va + x := by rw [IntKind.wrap_i64] <;> omega
      have ws2 : IntKind.i64.wrap (vb - x) = vb - x := by rw [IntKind.wrap_i64] <;> omega
      have iaI : (ia : Int) < (n : Int) := by omega
      have ibI : (ib : Int) < (n : Int) := by omega
      have af := HOR.out.frozenAt ia
      have D0 := Lib.hid d0
      have D1 := Lib.hid d1
      have E0 := Lib.hid e0
      have B1 := Lib.hid b1
      have el : ⟨eb, eo + k * 3, none⟩ = (⟨eb, eo + k * 3, none⟩ : Addr) := rfl
      have d0l := World.block_lt_of_cell? W _ d0
      have d1l := World.block_lt_of_cell? W _ d1
      have e0l := World.block_lt_of_cell? W _ e0
      rw [HG0.out] at d0l d1l e0l
      have d0 := (HBB.out.cell (p := ⟨eb, eo + k * 3, none⟩) d0l).trans d0
      have e0 := (HBB.out.cell (p := ⟨lb, lo + k, none⟩) e0l).trans e0
      clear el hga hgb' hva hvb HST hGB hG5 gfe b1 d1 hkm hkl xa0 xan xb0 xbn xne
      go_wp2_with fail
      refine wp_region_noPanic ?_
      refine wp_region_last (S := (fun W' : World => W'.cell? ⟨w.heap.size, 2, none⟩ = some (.slice (some ⟨eb, eo, none⟩) m ec) ∧ W'.cell? ⟨eb, eo + k * 3, none⟩ = some (.int .i64 (ia : Int)) ∧ W'.cell? ⟨lb, lo + k, none⟩ = some (.int .i64 x) ∧ W'.cell? ⟨g, ia, none⟩ = some (.int .i64 va) ∧ W'.frozen? ⟨g, ia, none⟩ = false)) 22 (by kernel_rfl) (by decide) (fun inv0 => ?_)
      have hh0 := (⟨c2, d0, e0, a0, af⟩ : _ ∧ _ ∧ _ ∧ _ ∧ _)
      refine wpAnyZ_take (i := 0) (v := ?_) rfl (Lib.hid ⟨by as_aux_lemma => kernel_rfl, by as_aux_lemma => kernel_rfl, by as_aux_lemma => kernel_rfl, rfl⟩) (by decide) inv0 (by as_aux_lemma => kernel_rfl) (by as_aux_lemma => kernel_rfl) (fun _ _ _ h => h) (Or.inl ⟨by rfl, ?_⟩) hh0 (fun inv1 => ?_)
      rotate_left
      · intro w hSw
        try dsimp only at hSw
        go_simp
        try with_reducible rfl
      clear inv0
      try simp only [Act.put, List.getElem_toArray, List.getElem_cons_succ, List.getElem_cons_zero, List.setIfInBounds_toArray, List.set_cons_zero, List.set_cons_succ]
      refine wpAnyZ_take (i := 1) (v := ?_) rfl (Lib.hid ⟨by as_aux_lemma => kernel_rfl, by as_aux_lemma => kernel_rfl, by as_aux_lemma => kernel_rfl, rfl⟩) (by decide) inv1 (by as_aux_lemma => kernel_rfl) (by as_aux_lemma => kernel_rfl) (fun _ _ _ h => h) (Or.inl ⟨by rfl, ?_⟩) hh0 (fun inv2 => ?_)
      rotate_left
      · intro w hSw
        try dsimp only at hSw
        go_simp
        try with_reducible rfl
      clear inv1
      try simp only [Act.put, List.getElem_toArray, List.getElem_cons_succ, List.getElem_cons_zero, List.setIfInBounds_toArray, List.set_cons_zero, List.set_cons_succ]
      refine wpAnyZ_take (i := 2) (v := ?_) rfl (Lib.hid ⟨by as_aux_lemma => kernel_rfl, by as_aux_lemma => kernel_rfl, by as_aux_lemma => kernel_rfl, rfl⟩) (by decide) inv2 (by as_aux_lemma => kernel_rfl) (by as_aux_lemma => kernel_rfl) (fun _ _ _ h => h) (Or.inl ⟨by rfl, ?_⟩) hh0 (fun inv3 => ?_)
      rotate_left
      · intro w hSw
        try dsimp only at hSw
        go_simp
        try with_reducible rfl
      clear inv2
      try simp only [Act.put, List.getElem_toArray, List.getElem_cons_succ, List.getElem_cons_zero, List.setIfInBounds_toArray, List.set_cons_zero, List.set_cons_succ]
      refine wpAnyZ_take (i := 3) (v := ?_) rfl (Lib.hid ⟨by as_aux_lemma => kernel_rfl, by as_aux_lemma => kernel_rfl, by as_aux_lemma => kernel_rfl, rfl⟩) (by decide) inv3 (by as_aux_lemma => kernel_rfl) (by as_aux_lemma => kernel_rfl) (fun _ _ _ h => h) (Or.inl ⟨by rfl, ?_⟩) hh0 (fun inv4 => ?_)
      rotate_left
      · intro w hSw
        try dsimp only at hSw
        go_simp
        try with_reducible rfl
      clear inv3
      try simp only [Act.put, List.getElem_toArray, List.getElem_cons_succ, List.getElem_cons_zero, List.setIfInBounds_toArray, List.set_cons_zero, List.set_cons_succ]
      refine wpAnyZ_take (i := 4) (v := ?_) rfl (Lib.hid ⟨by as_aux_lemma => kernel_rfl, by as_aux_lemma => kernel_rfl, by as_aux_lemma => kernel_rfl, rfl⟩) (by decide) inv4 (by as_aux_lemma => kernel_rfl) (by as_aux_lemma => kernel_rfl) (fun _ _ _ h => h) (Or.inl ⟨by rfl, ?_⟩) hh0 (fun inv5 => ?_)
      rotate_left
      · intro w hSw
        try dsimp only at hSw
        go_simp
        try with_reducible rfl
      clear inv4
      try simp only [Act.put, List.getElem_toArray, List.getElem_cons_succ, List.getElem_cons_zero, List.setIfInBounds_toArray, List.set_cons_zero, List.set_cons_succ]
      refine wpAnyZ_take (i := 5) (v := ?_) rfl (Lib.hid ⟨by as_aux_lemma => kernel_rfl, by as_aux_lemma => kernel_rfl, by as_aux_lemma => kernel_rfl, rfl⟩) (by decide) inv5 (by as_aux_lemma => kernel_rfl) (by as_aux_lemma => kernel_rfl) (fun _ _ _ h => h) (Or.inl ⟨by rfl, ?_⟩) hh0 (fun inv6 => ?_)
      rotate_left
      · intro w hSw
        try dsimp only at hSw
        go_simp
        try with_reducible rfl
      clear inv5
      try simp only [Act.put, List.getElem_toArray, List.getElem_cons_succ, List.getElem_cons_zero, List.setIfInBounds_toArray, List.set_cons_zero, List.set_cons_succ]
      refine wpAnyZ_take (i := 6) (v := ?_) rfl (Lib.hid ⟨by as_aux_lemma => kernel_rfl, by as_aux_lemma => kernel_rfl, by as_aux_lemma => kernel_rfl, rfl⟩) (by decide) inv6 (by as_aux_lemma => kernel_rfl) (by as_aux_lemma => kernel_rfl) (fun _ _ _ h => h) (Or.inl ⟨by rfl, ?_⟩) hh0 (fun inv7 => ?_)
      rotate_left
      · intro w hSw
        try dsimp only at hSw
        go_simp
        try with_reducible rfl
      clear inv6
      try simp only [Act.put, List.getElem_toArray, List.getElem_cons_succ, List.getElem_cons_zero, List.setIfInBounds_toArray, List.set_cons_zero, List.set_cons_succ]
      refine wpAnyZ_take (i := 7) (v := ?_) rfl (Lib.hid ⟨by as_aux_lemma => kernel_rfl, by as_aux_lemma => kernel_rfl, by as_aux_lemma => kernel_rfl, rfl⟩) (by decide) inv7 (by as_aux_lemma => kernel_rfl) (by as_aux_lemma => kernel_rfl) (fun _ _ _ h => h) (Or.inl ⟨by rfl, ?_⟩) hh0 (fun inv8 => ?_)
      rotate_left
      · intro w hSw
        try dsimp only at hSw
        go_simp
        try with_reducible rfl
      clear inv7
      try simp only [Act.put, List.getElem_toArray, List.getElem_cons_succ, List.getElem_cons_zero, List.setIfInBounds_toArray, List.set_cons_zero, List.set_cons_succ]
      refine wpAnyZ_take (i := 8) (v := ?_) rfl (Lib.hid ⟨by as_aux_lemma => kernel_rfl, by as_aux_lemma => kernel_rfl, by as_aux_lemma => kernel_rfl, rfl⟩) (by decide) inv8 (by as_aux_lemma => kernel_rfl) (by as_aux_lemma => kernel_rfl) (fun _ _ _ h => h) (Or.inl ⟨by rfl, ?_⟩) hh0 (fun inv9 => ?_)
      rotate_left
      · intro w hSw
        try dsimp only at hSw
        go_simp
        try with_reducible rfl
      clear inv8
      try simp only [Act.put, List.getElem_toArray, List.getElem_cons_succ, List.getElem_cons_zero, List.setIfInBounds_toArray, List.set_cons_zero, List.set_cons_succ]
      refine wpAnyZ_take (i := 9) (v := ?_) rfl (Lib.hid ⟨by as_aux_lemma => kernel_rfl, by as_aux_lemma => kernel_rfl, by as_aux_lemma => kernel_rfl, rfl⟩) (by decide) inv9 (by as_aux_lemma => kernel_rfl) (by as_aux_lemma => kernel_rfl) (fun _ _ _ h => h) (Or.inl ⟨by rfl, ?_⟩) hh0 (fun inv10 => ?_)
      rotate_left
      · intro w hSw
        try dsimp only at hSw
        go_simp
        try with_reducible rfl
      clear inv9
      try simp only [Act.put, List.getElem_toArray, List.getElem_cons_succ, List.getElem_cons_zero, List.setIfInBounds_toArray, List.set_cons_zero, List.set_cons_succ]
      refine wpAnyZ_take (i := 10) (v := ?_) rfl (Lib.hid ⟨by as_aux_lemma => kernel_rfl, by as_aux_lemma => kernel_rfl, by as_aux_lemma => kernel_rfl, rfl⟩) (by decide) inv10 (by as_aux_lemma => kernel_rfl) (by as_aux_lemma => kernel_rfl) (fun _ _ _ h => h) (Or.inl ⟨by rfl, ?_⟩) hh0 (fun inv11 => ?_)
      rotate_left
      · intro w hSw
        try dsimp only at hSw
        go_simp
        try with_reducible rfl
      clear inv10
      try simp only [Act.put, List.getElem_toArray, List.getElem_cons_succ, List.getElem_cons_zero, List.setIfInBounds_toArray, List.set_cons_zero, List.set_cons_succ]
      refine wpAnyZ_take (i := 11) (v := ?_) rfl (Lib.hid ⟨by as_aux_lemma => kernel_rfl, by as_aux_lemma => kernel_rfl, by as_aux_lemma => kernel_rfl, rfl⟩) (by decide) inv11 (by as_aux_lemma => kernel_rfl) (by as_aux_lemma => kernel_rfl) (fun _ _ _ h => h) (Or.inl ⟨by rfl, ?_⟩) hh0 (fun inv12 => ?_)
      rotate_left
      · intro w hSw
        try dsimp only at hSw
        go_simp
        try with_reducible rfl
      clear inv11
      try simp only [Act.put, List.getElem_toArray, List.getElem_cons_succ, List.getElem_cons_zero, List.setIfInBounds_toArray, List.set_cons_zero, List.set_cons_succ]
      refine wpAnyZ_take (i := 12) (v := ?_) rfl (Lib.hid ⟨by as_aux_lemma => kernel_rfl, by as_aux_lemma => kernel_rfl, by as_aux_lemma => kernel_rfl, rfl⟩) (by decide) inv12 (by as_aux_lemma => kernel_rfl) (by as_aux_lemma => kernel_rfl) (fun _ _ _ h => h) (Or.inl ⟨by rfl, ?_⟩) hh0 (fun inv13 => ?_)
      rotate_left
      · intro w hSw
        try dsimp only at hSw
        go_simp
        try with_reducible rfl
      clear inv12
      try simp only [Act.put, List.getElem_toArray, List.getElem_cons_succ, List.getElem_cons_zero, List.setIfInBounds_toArray, List.set_cons_zero, List.set_cons_succ]
      refine wpAnyZ_take (i := 13) (v := ?_) rfl (Lib.hid ⟨by as_aux_lemma => kernel_rfl, by as_aux_lemma => kernel_rfl, by as_aux_lemma => kernel_rfl, rfl⟩) (by decide) inv13 (by as_aux_lemma => kernel_rfl) (by as_aux_lemma => kernel_rfl) (fun _ _ _ h => h) (Or.inl ⟨by rfl, ?_⟩) hh0 (fun inv14 => ?_)
      rotate_left
      · intro w hSw
        try dsimp only at hSw
        go_simp
        try with_reducible rfl
      clear inv13
      try simp only [Act.put, List.getElem_toArray, List.getElem_cons_succ, List.getElem_cons_zero, List.setIfInBounds_toArray, List.set_cons_zero, List.set_cons_succ]
      refine wpAnyZ_take (i := 14) (v := ?_) rfl (Lib.hid ⟨by as_aux_lemma => kernel_rfl, by as_aux_lemma => kernel_rfl, by as_aux_lemma => kernel_rfl, rfl⟩) (by decide) inv14 (by as_aux_lemma => kernel_rfl) (by as_aux_lemma => kernel_rfl) (fun _ _ _ h => h) (Or.inl ⟨by rfl, ?_⟩) hh0 (fun inv15 => ?_)
      rotate_left
      · intro w hSw
        try dsimp only at hSw
        go_simp
        try with_reducible rfl
      clear inv14
      try simp only [Act.put, List.getElem_toArray, List.getElem_cons_succ, List.getElem_cons_zero, List.setIfInBounds_toArray, List.set_cons_zero, List.set_cons_succ]
      refine wpAnyZ_take (i := 15) (v := ?_) rfl (Lib.hid ⟨by as_aux_lemma => kernel_rfl, by as_aux_lemma => kernel_rfl, by as_aux_lemma => kernel_rfl, rfl⟩) (by decide) inv15 (by as_aux_lemma => kernel_rfl) (by as_aux_lemma => kernel_rfl) (fun _ _ _ h => h) (Or.inl ⟨by rfl, ?_⟩) hh0 (fun inv16 => ?_)
      rotate_left
      · intro w hSw
        try dsimp only at hSw
        go_simp
        try with_reducible rfl
      clear inv15
      try simp only [Act.put, List.getElem_toArray, List.getElem_cons_succ, List.getElem_cons_zero, List.setIfInBounds_toArray, List.set_cons_zero, List.set_cons_succ]
      refine wpAnyZ_take (i := 16) (v := ?_) rfl (Lib.hid ⟨by as_aux_lemma => kernel_rfl, by as_aux_lemma => kernel_rfl, by as_aux_lemma => kernel_rfl, rfl⟩) (by decide) inv16 (by as_aux_lemma => kernel_rfl) (by as_aux_lemma => kernel_rfl) (fun _ _ _ h => h) (Or.inl ⟨by rfl, ?_⟩) hh0 (fun inv17 => ?_)
      rotate_left
      · intro w hSw
        try dsimp only at hSw
        go_simp
        try with_reducible rfl
      clear inv16
      try simp only [Act.put, List.getElem_toArray, List.getElem_cons_succ, List.getElem_cons_zero, List.setIfInBounds_toArray, List.set_cons_zero, List.set_cons_succ]
      refine wpAnyZ_take (i := 17) (v := ?_) rfl (Lib.hid ⟨by as_aux_lemma => kernel_rfl, by as_aux_lemma => kernel_rfl, by as_aux_lemma => kernel_rfl, rfl⟩) (by decide) inv17 (by as_aux_lemma => kernel_rfl) (by as_aux_lemma => kernel_rfl) (fun _ _ _ h => h) (Or.inl ⟨by rfl, ?_⟩) hh0 (fun inv18 => ?_)
      rotate_left
      · intro w hSw
        try dsimp only at hSw
        go_simp
        try with_reducible rfl
      clear inv17
      try simp only [Act.put, List.getElem_toArray, List.getElem_cons_succ, List.getElem_cons_zero, List.setIfInBounds_toArray, List.set_cons_zero, List.set_cons_succ]
      refine wpAnyZ_take (i := 18) (v := ?_) rfl (Lib.hid ⟨by as_aux_lemma => kernel_rfl, by as_aux_lemma => kernel_rfl, by as_aux_lemma => kernel_rfl, rfl⟩) (by decide) inv18 (by as_aux_lemma => kernel_rfl) (by as_aux_lemma => kernel_rfl) (fun _ _ _ h => h) (Or.inl ⟨by rfl, ?_⟩) hh0 (fun inv19 => ?_)
      rotate_left
      · intro w hSw
        try dsimp only at hSw
        go_simp
        try with_reducible rfl
      clear inv18
      try simp only [Act.put, List.getElem_toArray, List.getElem_cons_succ, List.getElem_cons_zero, List.setIfInBounds_toArray, List.set_cons_zero, List.set_cons_succ]
      refine wpAnyZ_take (i := 19) (v := ?_) rfl (Lib.hid ⟨by as_aux_lemma => kernel_rfl, by as_aux_lemma => kernel_rfl, by as_aux_lemma => kernel_rfl, rfl⟩) (by decide) inv19 (by as_aux_lemma => kernel_rfl) (by as_aux_lemma => kernel_rfl) (fun _ _ _ h => h) (Or.inl ⟨by rfl, ?_⟩) hh0 (fun inv20 => ?_)
      rotate_left
      · intro w hSw
        try dsimp only at hSw
        go_simp
        try with_reducible rfl
      clear inv19
      try simp only [Act.put, List.getElem_toArray, List.getElem_cons_succ, List.getElem_cons_zero, List.setIfInBounds_toArray, List.set_cons_zero, List.set_cons_succ]
      refine wpAnyZ_take (i := 20) (v := ?_) rfl (Lib.hid ⟨by as_aux_lemma => kernel_rfl, by as_aux_lemma => kernel_rfl, by as_aux_lemma => kernel_rfl, rfl⟩) (by decide) inv20 (by as_aux_lemma => kernel_rfl) (by as_aux_lemma => kernel_rfl) (fun _ _ _ h => h) (Or.inl ⟨by rfl, ?_⟩) hh0 (fun inv21 => ?_)
      rotate_left
      · intro w hSw
        try dsimp only at hSw
        go_simp
        try with_reducible rfl
      clear inv20
      try simp only [Act.put, List.getElem_toArray, List.getElem_cons_succ, List.getElem_cons_zero, List.setIfInBounds_toArray, List.set_cons_zero, List.set_cons_succ]
      refine wpAnyZ_take (i := 21) (v := ?_) rfl (Lib.hid ⟨by as_aux_lemma => kernel_rfl, by as_aux_lemma => kernel_rfl, by as_aux_lemma => kernel_rfl, rfl⟩) (by decide) inv21 (by as_aux_lemma => kernel_rfl) (by as_aux_lemma => kernel_rfl) (fun _ _ _ h => h) (Or.inl ⟨by rfl, ?_⟩) hh0 (fun inv22 => ?_)
      rotate_left
      · intro w hSw
        try dsimp only at hSw
        go_simp
        try with_reducible rfl
      clear inv21
      try simp only [Act.put, List.getElem_toArray, List.getElem_cons_succ, List.getElem_cons_zero, List.setIfInBounds_toArray, List.set_cons_zero, List.set_cons_succ]
      refine wpAnyZ_all (rs := [22]) (by as_aux_lemma => kernel_rfl) (by simp) ?_
      intro i hi
      obtain rfl : i = 22 := by simpa using hi
      refine step_Z rfl (fun K hK => ?_)
      go_simp
      refine hK.out _ _ (fun h => absurd rfl h) ?_
      clear hK K
      try simp only [Act.put, List.getElem_toArray, List.getElem_cons_succ, List.getElem_cons_zero, List.setIfInBounds_toArray, List.set_cons_zero, List.set_cons_succ]
      refine wpAnyZ_done (by as_aux_lemma => kernel_rfl) ?_ _
      refine NoPanic.normal ?_
      obtain ⟨w3, hw3⟩ : ∃ V, (wr.setCell ⟨g, ia, none⟩ (.int .i64 (va + x))).drew = V := ⟨_, rfl⟩
      have HO3 : Hid (w3.ownsRow g 3 1 (.slice (some ⟨g, 0, none⟩) n n) n (((G.set ia (va + x)).take n).map (Value.int .i64))) := by show World.ownsRow _ _ _ _ _ _ _; rw [← hw3]; exact (row_set HOR.out (va + x)).drew
      have HB3 : Hid (Below g W w3) := by show Below _ _ _; rw [← hw3]; exact (HBB.out.setCell (p := ⟨g, ia, none⟩) (Nat.le_refl _) _).drew
      have b0 : w3.cell? ⟨g, ib, none⟩ = some (.int .i64 vb) := by rw [← hw3]; exact B1.out
      have bf := HO3.out.frozenAt ib
      rw [hw3]
      clear hw3 HOR HBB c2 d0 e0 a0 af B1
      have c2 := cellOf ((HB3.out.block _ (by rw [← HG0.out]; exact lt_of_block HR.out)).trans HR.out) 2 _ rfl
      have d1 := (HB3.out.cell (p := ⟨eb, eo + k * 3 + 1, none⟩) d1l).trans D1.out
      have e0 := (HB3.out.cell (p := ⟨lb, lo + k, none⟩) e0l).trans E0.out
      go_wp2_with fail
      refine wp_region_noPanic ?_
      refine wp_region_last (S := (fun W' : World => W'.cell? ⟨w.heap.size, 2, none⟩ = some (.slice (some ⟨eb, eo, none⟩) m ec) ∧ W'.cell? ⟨eb, eo + k * 3 + 1, none⟩ = some (.int .i64 (ib : Int)) ∧ W'.cell? ⟨lb, lo + k, none⟩ = some (.int .i64 x) ∧ W'.cell? ⟨g, ib, none⟩ = some (.int .i64 vb) ∧ W'.frozen? ⟨g, ib, none⟩ = false)) 22 (by kernel_rfl) (by decide) (fun inv0 => ?_)
      have hh0 := (⟨c2, d1, e0, b0, bf⟩ : _ ∧ _ ∧ _ ∧ _ ∧ _)
      refine wpAnyZ_take (i := 0) (v := ?_) rfl (Lib.hid ⟨by as_aux_lemma => kernel_rfl, by as_aux_lemma => kernel_rfl, by as_aux_lemma => kernel_rfl, rfl⟩) (by decide) inv0 (by as_aux_lemma => kernel_rfl) (by as_aux_lemma => kernel_rfl) (fun _ _ _ h => h) (Or.inl ⟨by rfl, ?_⟩) hh0 (fun inv1 => ?_)
      rotate_left
      · intro w hSw
        try dsimp only at hSw
        go_simp
        try with_reducible rfl
      clear inv0
      try simp only [Act.put, List.getElem_toArray, List.getElem_cons_succ, List.getElem_cons_zero, List.setIfInBounds_toArray, List.set_cons_zero, List.set_cons_succ]
      refine wpAnyZ_take (i := 1) (v := ?_) rfl (Lib.hid ⟨by as_aux_lemma => kernel_rfl, by as_aux_lemma => kernel_rfl, by as_aux_lemma => kernel_rfl, rfl⟩) (by decide) inv1 (by as_aux_lemma => kernel_rfl) (by as_aux_lemma => kernel_rfl) (fun _ _ _ h => h) (Or.inl ⟨by rfl, ?_⟩) hh0 (fun inv2 => ?_)
      rotate_left
      · intro w hSw
        try dsimp only at hSw
        go_simp
        try with_reducible rfl
      clear inv1
      try simp only [Act.put, List.getElem_toArray, List.getElem_cons_succ, List.getElem_cons_zero, List.setIfInBounds_toArray, List.set_cons_zero, List.set_cons_succ]
      refine wpAnyZ_take (i := 2) (v := ?_) rfl (Lib.hid ⟨by as_aux_lemma => kernel_rfl, by as_aux_lemma => kernel_rfl, by as_aux_lemma => kernel_rfl, rfl⟩) (by decide) inv2 (by as_aux_lemma => kernel_rfl) (by as_aux_lemma => kernel_rfl) (fun _ _ _ h => h) (Or.inl ⟨by rfl, ?_⟩) hh0 (fun inv3 => ?_)
      rotate_left
      · intro w hSw
        try dsimp only at hSw
        go_simp
        try with_reducible rfl
      clear inv2
      try simp only [Act.put, List.getElem_toArray, List.getElem_cons_succ, List.getElem_cons_zero, List.setIfInBounds_toArray, List.set_cons_zero, List.set_cons_succ]
      refine wpAnyZ_take (i := 3) (v := ?_) rfl (Lib.hid ⟨by as_aux_lemma => kernel_rfl, by as_aux_lemma => kernel_rfl, by as_aux_lemma => kernel_rfl, rfl⟩) (by decide) inv3 (by as_aux_lemma => kernel_rfl) (by as_aux_lemma => kernel_rfl) (fun _ _ _ h => h) (Or.inl ⟨by rfl, ?_⟩) hh0 (fun inv4 => ?_)
      rotate_left
      · intro w hSw
        try dsimp only at hSw
        go_simp
        try with_reducible rfl
      clear inv3
      try simp only [Act.put, List.getElem_toArray, List.getElem_cons_succ, List.getElem_cons_zero, List.setIfInBounds_toArray, List.set_cons_zero, List.set_cons_succ]
      refine wpAnyZ_take (i := 4) (v := ?_) rfl (Lib.hid ⟨by as_aux_lemma => kernel_rfl, by as_aux_lemma => kernel_rfl, by as_aux_lemma => kernel_rfl, rfl⟩) (by decide) inv4 (by as_aux_lemma => kernel_rfl) (by as_aux_lemma => kernel_rfl) (fun _ _ _ h => h) (Or.inl ⟨by rfl, ?_⟩) hh0 (fun inv5 => ?_)
      rotate_left
      · intro w hSw
        try dsimp only at hSw
        go_simp
        try with_reducible rfl
      clear inv4
      try simp only [Act.put, List.getElem_toArray, List.getElem_cons_succ, List.getElem_cons_zero, List.setIfInBounds_toArray, List.set_cons_zero, List.set_cons_succ]
      refine wpAnyZ_take (i := 5) (v := ?_) rfl (Lib.hid ⟨by as_aux_lemma => kernel_rfl, by as_aux_lemma => kernel_rfl, by as_aux_lemma => kernel_rfl, rfl⟩) (by decide) inv5 (by as_aux_lemma => kernel_rfl) (by as_aux_lemma => kernel_rfl) (fun _ _ _ h => h) (Or.inl ⟨by rfl, ?_⟩) hh0 (fun inv6 => ?_)
      rotate_left
      · intro w hSw
        try dsimp only at hSw
        go_simp
        try with_reducible rfl
      clear inv5
      try simp only [Act.put, List.getElem_toArray, List.getElem_cons_succ, List.getElem_cons_zero, List.setIfInBounds_toArray, List.set_cons_zero, List.set_cons_succ]
      refine wpAnyZ_take (i := 6) (v := ?_) rfl (Lib.hid ⟨by as_aux_lemma => kernel_rfl, by as_aux_lemma => kernel_rfl, by as_aux_lemma => kernel_rfl, rfl⟩) (by decide) inv6 (by as_aux_lemma => kernel_rfl) (by as_aux_lemma => kernel_rfl) (fun _ _ _ h => h) (Or.inl ⟨by rfl, ?_⟩) hh0 (fun inv7 => ?_)
      rotate_left
      · intro w hSw
        try dsimp only at hSw
        go_simp
        try with_reducible rfl
      clear inv6
      try simp only [Act.put, List.getElem_toArray, List.getElem_cons_succ, List.getElem_cons_zero, List.setIfInBounds_toArray, List.set_cons_zero, List.set_cons_succ]
      refine wpAnyZ_take (i := 7) (v := ?_) rfl (Lib.hid ⟨by as_aux_lemma => kernel_rfl, by as_aux_lemma => kernel_rfl, by as_aux_lemma => kernel_rfl, rfl⟩) (by decide) inv7 (by as_aux_lemma => kernel_rfl) (by as_aux_lemma => kernel_rfl) (fun _ _ _ h => h) (Or.inl ⟨by rfl, ?_⟩) hh0 (fun inv8 => ?_)
      rotate_left
      · intro w hSw
        try dsimp only at hSw
        go_simp
        try with_reducible rfl
      clear inv7
      try simp only [Act.put, List.getElem_toArray, List.getElem_cons_succ, List.getElem_cons_zero, List.setIfInBounds_toArray, List.set_cons_zero, List.set_cons_succ]
      refine wpAnyZ_take (i := 8) (v := ?_) rfl (Lib.hid ⟨by as_aux_lemma => kernel_rfl, by as_aux_lemma => kernel_rfl, by as_aux_lemma => kernel_rfl, rfl⟩) (by decide) inv8 (by as_aux_lemma => kernel_rfl) (by as_aux_lemma => kernel_rfl) (fun _ _ _ h => h) (Or.inl ⟨by rfl, ?_⟩) hh0 (fun inv9 => ?_)
      rotate_left
      · intro w hSw
        try dsimp only at hSw
        go_simp
        try with_reducible rfl
      clear inv8
      try simp only [Act.put, List.getElem_toArray, List.getElem_cons_succ, List.getElem_cons_zero, List.setIfInBounds_toArray, List.set_cons_zero, List.set_cons_succ]
      refine wpAnyZ_take (i := 9) (v := ?_) rfl (Lib.hid ⟨by as_aux_lemma => kernel_rfl, by as_aux_lemma => kernel_rfl, by as_aux_lemma => kernel_rfl, rfl⟩) (by decide) inv9 (by as_aux_lemma => kernel_rfl) (by as_aux_lemma => kernel_rfl) (fun _ _ _ h => h) (Or.inl ⟨by rfl, ?_⟩) hh0 (fun inv10 => ?_)
      rotate_left
      · intro w hSw
        try dsimp only at hSw
        go_simp
        try with_reducible rfl
      clear inv9
      try simp only [Act.put, List.getElem_toArray, List.getElem_cons_succ, List.getElem_cons_zero, List.setIfInBounds_toArray, List.set_cons_zero, List.set_cons_succ]
      refine wpAnyZ_take (i := 10) (v := ?_) rfl (Lib.hid ⟨by as_aux_lemma => kernel_rfl, by as_aux_lemma => kernel_rfl, by as_aux_lemma => kernel_rfl, rfl⟩) (by decide) inv10 (by as_aux_lemma => kernel_rfl) (by as_aux_lemma => kernel_rfl) (fun _ _ _ h => h) (Or.inl ⟨by rfl, ?_⟩) hh0 (fun inv11 => ?_)
      rotate_left
      · intro w hSw
        try dsimp only at hSw
        go_simp
        try with_reducible rfl
      clear inv10
      try simp only [Act.put, List.getElem_toArray, List.getElem_cons_succ, List.getElem_cons_zero, List.setIfInBounds_toArray, List.set_cons_zero, List.set_cons_succ]
      refine wpAnyZ_take (i := 11) (v := ?_) rfl (Lib.hid ⟨by as_aux_lemma => kernel_rfl, by as_aux_lemma => kernel_rfl, by as_aux_lemma => kernel_rfl, rfl⟩) (by decide) inv11 (by as_aux_lemma => kernel_rfl) (by as_aux_lemma => kernel_rfl) (fun _ _ _ h => h) (Or.inl ⟨by rfl, ?_⟩) hh0 (fun inv12 => ?_)
      rotate_left
      · intro w hSw
        try dsimp only at hSw
        go_simp
        try with_reducible rfl
      clear inv11
      try simp only [Act.put, List.getElem_toArray, List.getElem_cons_succ, List.getElem_cons_zero, List.setIfInBounds_toArray, List.set_cons_zero, List.set_cons_succ]
      refine wpAnyZ_take (i := 12) (v := ?_) rfl (Lib.hid ⟨by as_aux_lemma => kernel_rfl, by as_aux_lemma => kernel_rfl, by as_aux_lemma => kernel_rfl, rfl⟩) (by decide) inv12 (by as_aux_lemma => kernel_rfl) (by as_aux_lemma => kernel_rfl) (fun _ _ _ h => h) (Or.inl ⟨by rfl, ?_⟩) hh0 (fun inv13 => ?_)
      rotate_left
      · intro w hSw
        try dsimp only at hSw
        go_simp
        try with_reducible rfl
      clear inv12
      try simp only [Act.put, List.getElem_toArray, List.getElem_cons_succ, List.getElem_cons_zero, List.setIfInBounds_toArray, List.set_cons_zero, List.set_cons_succ]
      refine wpAnyZ_take (i := 13) (v := ?_) rfl (Lib.hid ⟨by as_aux_lemma => kernel_rfl, by as_aux_lemma => kernel_rfl, by as_aux_lemma => kernel_rfl, rfl⟩) (by decide) inv13 (by as_aux_lemma => kernel_rfl) (by as_aux_lemma => kernel_rfl) (fun _ _ _ h => h) (Or.inl ⟨by rfl, ?_⟩) hh0 (fun inv14 => ?_)
      rotate_left
      · intro w hSw
        try dsimp only at hSw
        go_simp
        try with_reducible rfl
      clear inv13
      try simp only [Act.put, List.getElem_toArray, List.getElem_cons_succ, List.getElem_cons_zero, List.setIfInBounds_toArray, List.set_cons_zero, List.set_cons_succ]
      refine wpAnyZ_take (i := 14) (v := ?_) rfl (Lib.hid ⟨by as_aux_lemma => kernel_rfl, by as_aux_lemma => kernel_rfl, by as_aux_lemma => kernel_rfl, rfl⟩) (by decide) inv14 (by as_aux_lemma => kernel_rfl) (by as_aux_lemma => kernel_rfl) (fun _ _ _ h => h) (Or.inl ⟨by rfl, ?_⟩) hh0 (fun inv15 => ?_)
      rotate_left
      · intro w hSw
        try dsimp only at hSw
        go_simp
        try with_reducible rfl
      clear inv14
      try simp only [Act.put, List.getElem_toArray, List.getElem_cons_succ, List.getElem_cons_zero, List.setIfInBounds_toArray, List.set_cons_zero, List.set_cons_succ]
      refine wpAnyZ_take (i := 15) (v := ?_) rfl (Lib.hid ⟨by as_aux_lemma => kernel_rfl, by as_aux_lemma => kernel_rfl, by as_aux_lemma => kernel_rfl, rfl⟩) (by decide) inv15 (by as_aux_lemma => kernel_rfl) (by as_aux_lemma => kernel_rfl) (fun _ _ _ h => h) (Or.inl ⟨by rfl, ?_⟩) hh0 (fun inv16 => ?_)
      rotate_left
      · intro w hSw
        try dsimp only at hSw
        go_simp
        try with_reducible rfl
      clear inv15
      try simp only [Act.put, List.getElem_toArray, List.getElem_cons_succ, List.getElem_cons_zero, List.setIfInBounds_toArray, List.set_cons_zero, List.set_cons_succ]
      refine wpAnyZ_take (i := 16) (v := ?_) rfl (Lib.hid ⟨by as_aux_lemma => kernel_rfl, by as_aux_lemma => kernel_rfl, by as_aux_lemma => kernel_rfl, rfl⟩) (by decide) inv16 (by as_aux_lemma => kernel_rfl) (by as_aux_lemma => kernel_rfl) (fun _ _ _ h => h) (Or.inl ⟨by rfl, ?_⟩) hh0 (fun inv17 => ?_)
      rotate_left
      · intro w hSw
        try dsimp only at hSw
        go_simp
        try with_reducible rfl
      clear inv16
      try simp only [Act.put, List.getElem_toArray, List.getElem_cons_succ, List.getElem_cons_zero, List.setIfInBounds_toArray, List.set_cons_zero, List.set_cons_succ]
      refine wpAnyZ_take (i := 17) (v := ?_) rfl (Lib.hid ⟨by as_aux_lemma => kernel_rfl, by as_aux_lemma => kernel_rfl, by as_aux_lemma => kernel_rfl, rfl⟩) (by decide) inv17 (by as_aux_lemma => kernel_rfl) (by as_aux_lemma => kernel_rfl) (fun _ _ _ h => h) (Or.inl ⟨by rfl, ?_⟩) hh0 (fun inv18 => ?_)
      rotate_left
      · intro w hSw
        try dsimp only at hSw
        go_simp
        try with_reducible rfl
      clear inv17
      try simp only [Act.put, List.getElem_toArray, List.getElem_cons_succ, List.getElem_cons_zero, List.setIfInBounds_toArray, List.set_cons_zero, List.set_cons_succ]
      refine wpAnyZ_take (i := 18) (v := ?_) rfl (Lib.hid ⟨by as_aux_lemma => kernel_rfl, by as_aux_lemma => kernel_rfl, by as_aux_lemma => kernel_rfl, rfl⟩) (by decide) inv18 (by as_aux_lemma => kernel_rfl) (by as_aux_lemma => kernel_rfl) (fun _ _ _ h => h) (Or.inl ⟨by rfl, ?_⟩) hh0 (fun inv19 => ?_)
      rotate_left
      · intro w hSw
        try dsimp only at hSw
        go_simp
        try with_reducible rfl
      clear inv18
      try simp only [Act.put, List.getElem_toArray, List.getElem_cons_succ, List.getElem_cons_zero, List.setIfInBounds_toArray, List.set_cons_zero, List.set_cons_succ]
      refine wpAnyZ_take (i := 19) (v := ?_) rfl (Lib.hid ⟨by as_aux_lemma => kernel_rfl, by as_aux_lemma => kernel_rfl, by as_aux_lemma => kernel_rfl, rfl⟩) (by decide) inv19 (by as_aux_lemma => kernel_rfl) (by as_aux_lemma => kernel_rfl) (fun _ _ _ h => h) (Or.inl ⟨by rfl, ?_⟩) hh0 (fun inv20 => ?_)
      rotate_left
      · intro w hSw
        try dsimp only at hSw
        go_simp
        try with_reducible rfl
      clear inv19
      try simp only [Act.put, List.getElem_toArray, List.getElem_cons_succ, List.getElem_cons_zero, List.setIfInBounds_toArray, List.set_cons_zero, List.set_cons_succ]
      refine wpAnyZ_take (i := 20) (v := ?_) rfl (Lib.hid ⟨by as_aux_lemma => kernel_rfl, by as_aux_lemma => kernel_rfl, by as_aux_lemma => kernel_rfl, rfl⟩) (by decide) inv20 (by as_aux_lemma => kernel_rfl) (by as_aux_lemma => kernel_rfl) (fun _ _ _ h => h) (Or.inl ⟨by rfl, ?_⟩) hh0 (fun inv21 => ?_)
      rotate_left
      · intro w hSw
        try dsimp only at hSw
        go_simp
        try with_reducible rfl
      clear inv20
      try simp only [Act.put, List.getElem_toArray, List.getElem_cons_succ, List.getElem_cons_zero, List.setIfInBounds_toArray, List.set_cons_zero, List.set_cons_succ]
      refine wpAnyZ_take (i := 21) (v := ?_) rfl (Lib.hid ⟨by as_aux_lemma => kernel_rfl, by as_aux_lemma => kernel_rfl, by as_aux_lemma => kernel_rfl, rfl⟩) (by decide) inv21 (by as_aux_lemma => kernel_rfl) (by as_aux_lemma => kernel_rfl) (fun _ _ _ h => h) (Or.inl ⟨by rfl, ?_⟩) hh0 (fun inv22 => ?_)
      rotate_left
      · intro w hSw
        try dsimp only at hSw
        go_simp
        try with_reducible rfl
      clear inv21
      try simp only [Act.put, List.getElem_toArray, List.getElem_cons_succ, List.getElem_cons_zero, List.setIfInBounds_toArray, List.set_cons_zero, List.set_cons_succ]
      refine wpAnyZ_all (rs := [22]) (by as_aux_lemma => kernel_rfl) (by simp) ?_
      intro i hi
      obtain rfl : i = 22 := by simpa using hi
      refine step_Z rfl (fun K hK => ?_)
      go_simp
      refine hK.out _ _ (fun h => absurd rfl h) ?_
      clear hK K
      try simp only [Act.put, List.getElem_toArray, List.getElem_cons_succ, List.getElem_cons_zero, List.setIfInBounds_toArray, List.set_cons_zero, List.set_cons_succ]
      refine wpAnyZ_done (by as_aux_lemma => kernel_rfl) ?_ _
      refine NoPanic.normal ?_
      have HO4 : Hid (((w3.setCell ⟨g, ib, none⟩ (.int .i64 (vb - x))).drew).ownsRow g 3 1 (.slice (some ⟨g, 0, none⟩) n n) n (((givTo c.eds l (k + 1)).take n).map (Value.int .i64))) := by
        show World.ownsRow _ _ _ _ _ _ _
        rw [HSS.out]
        exact (row_set HO3.out (vb - x)).drew
      have HB4 : Hid (Below g W (w3.setCell ⟨g, ib, none⟩ (.int .i64 (vb - x))).drew) := (HB3.out.setCell (p := ⟨g, ib, none⟩) (Nat.le_refl _) _).drew
      clear HO3 HB3 c2 d1 e0 b0 bf D0 D1 E0 HSS
      obtain ⟨w4, hw4⟩ : ∃ V, (w3.setCell ⟨g, ib, none⟩ (.int .i64 (vb - x))).drew = V := ⟨_, rfl⟩
      rw [hw4] at HO4 HB4 ⊢
      clear hw4
      go_wp2
      go_roundg (gk - 1)
      case measure => omega
      case rel => exact ⟨k + 1, by omega, by go_num, HO4, HB4⟩
    · have kI : ¬ (k : Int) < (m : Int) := by omega
      obtain rfl : k = m := by omega
      clear hlt hk
      go_wp2
      go_ret
      refine ⟨_, rfl, ?_, HB.out.trans (by have h := HBB.out; rw [← HG0.out] at h; exact h.mono HB.out.size)⟩
      have hlen : ((givTo c.eds l k).take n).length = n := by rw [List.length_take, givTo_length]; omega
      have h := HOR.out
      unfold givN
      rw [HN.out]
      exact intsAt_own (base := g) (by rw [hlen]; exact h) (by rw [hlen]; omega)
end Go.Proofs.Ythhlakodnpopmaa
namespace Go.Proofs.Ythhlakodnpopmaa
open Go Go.RowKit Go.Shelf Ed

theorem boundE_err {c : Cas} {l : List Int} (h : errC c ≠ 0) : boundE c l = (0, errC c) := by unfold boundE; rw [if_pos h]
theorem boundE_len {c : Cas} {l : List Int} (h : errC c = 0) (h2 : l.length ≠ c.eds.length) : boundE c l = (0, 3) := by unfold boundE; rw [if_neg (by simp [h]), if_pos h2]
theorem boundE_out {c : Cas} {l : List Int} (h : errC c = 0) (h2 : l.length = c.eds.length) (k : Nat) (hk : k < l.length) (hx : inB (-100000) 100000 l[k] = false) : boundE c l = (0, 7) := by
  unfold boundE
  rw [if_neg (by simp [h]), if_neg (by simp [h2]), if_pos]
  unfold inB at hx
  exact allIn_not _ _ l k hk (by simp only [Bool.and_eq_false_iff, decide_eq_false_iff_not] at hx; omega)
theorem boundE_in {c : Cas} {l : List Int} (h : errC c = 0) (h2 : l.length = c.eds.length) (hx : ∀ k (hk : k < l.length), inB (-100000) 100000 l[k] = true) : allIn (-100000) 100000 l = true ∧ PuBd l := by
  constructor
  · unfold allIn
    rw [List.all_eq_true]
    intro x hx'
    obtain ⟨k, hk, rfl⟩ := List.mem_iff_getElem.1 hx'
    exact hx k hk
  · intro i
    rcases Nat.lt_or_ge i l.length with hi | hi
    · rw [show l.getD i 0 = l[i] by simp [List.getD_eq_getElem?_getD, hi]]
      have := hx i hi
      unfold inB at this
      simp only [Bool.and_eq_true, decide_eq_true_eq] at this
      exact this
    · rw [show l.getD i 0 = 0 by simp [List.getD_eq_getElem?_getD, hi]]; omega
theorem boundE_torn {c : Cas} {l : List Int} (h : errC c = 0) (h2 : l.length = c.eds.length) (h3 : allIn (-100000) 100000 l = true) (h4 : tornK (wsC c) c.eds.length = true) : boundE c l = (0, 9) := by
  unfold boundE; rw [if_neg (by simp [h]), if_neg (by simp [h2]), if_neg (by simp [h3]), if_pos h4]
theorem boundE_ok {c : Cas} {l : List Int} (h : errC c = 0) (h2 : l.length = c.eds.length) (h3 : allIn (-100000) 100000 l = true) (h4 : tornK (wsC c) c.eds.length = false) : boundE c l = (bndC c (wsC c) (pad8 l), 0) := by
  unfold boundE; rw [if_neg (by simp [h]), if_neg (by simp [h2]), if_neg (by simp [h3]), if_neg (by simp [h4])]
theorem givTo_pad (eds : List Edg) (l : List Int) (h : l.length ≤ 8) : ∀ k, givTo eds (pad8 l) k = givTo eds l k := by
  intro k
  induction k with
  | zero => rfl
  | succ k ih => simp only [givTo, ih, pad8_get l h]
theorem bndE_one (c : Cas) (l : List Int) (k : Nat) (hk : k < c.eds.length) (h8 : c.eds.length ≤ 8) (hl : l.length ≤ 8) : bndE (wsC c) (pad8 l) (k + 1) = bndE (wsC c) (pad8 l) k + if 0 < l.getD k 0 then l.getD k 0 * (wantF c k).1 else l.getD k 0 * (wantF c k).2 := by
  simp only [bndE]
  rw [pad8_get l hl, wL_ws c k hk h8]
  generalize l.getD k 0 = y
  split
  · rw [show max y 0 = y by omega, show min y 0 = 0 by omega, Int.zero_mul, Int.add_zero]
  · rw [show max y 0 = 0 by omega, show min y 0 = y by omega, Int.zero_mul, Int.zero_add]
theorem ints_keep {w w' : World} {v : Value} {l : List Int} (h : IntsAt w v l) (hb : Below w.heap.size w w') : IntsAt w' v l := h.below hb
set_option maxRecDepth 100000 in
set_option maxHeartbeats 8000000 in
theorem rbound_any (c : Cas) (sv ev lv : Value) (l : List Int) (w : World) (hC : CasAt w c sv ev) (hL : IntsAt w lv l) :
    Calls Try.prog 31 #[.agg #[.int .i64 c.tol, sv, ev], lv] w fun e w' => e = .returned (.tuple #[.int .i64 (boundE c l).1, .int .i64 (boundE c l).2]) ∧ Below w.heap.size w w' := by
  obtain ⟨n, hn⟩ : ∃ n, c.shs.length = n := ⟨_, rfl⟩
  obtain ⟨m, hm⟩ : ∃ m, c.eds.length = m := ⟨_, rfl⟩
  obtain ⟨p, hp⟩ : ∃ p, l.length = p := ⟨_, rfl⟩
  obtain ⟨tol, htol⟩ : ∃ t, c.tol = t := ⟨_, rfl⟩
  obtain ⟨hS, hE⟩ := id hC
  obtain ⟨lm, sa, sc, rfl, _⟩ := id hS
  obtain ⟨le, ea, ec, rfl, _⟩ := id hE
  obtain ⟨ll, la, lc, rfl, _⟩ := id hL
  rw [hp] at hL ll ⊢
  rw [hn] at hC hS lm ⊢
  rw [hm] at hC hE le ⊢
  rw [htol]
  obtain ⟨W, hW⟩ : ∃ W, w.alloc (Obj.cells #[.int .i64 tol, .slice sa n sc, .slice ea m ec] 25) = W := ⟨_, rfl⟩
  have hb : Below w.heap.size w W := by rw [← hW]; exact (Below.refl _ _).alloc (Nat.le_refl _) _
  have HCK := Lib.hid (rcheck_any c _ _ W (hC.below hb))
  rw [htol] at HCK
  have HR : Hid (W.heap[w.heap.size]? = some (Obj.cells #[.int .i64 tol, .slice sa n sc, .slice ea m ec] 25)) := by show _ = _; rw [← hW]; exact heap_alloc_new w _
  have HCC := Lib.hid (hC.below hb)
  have HLL := Lib.hid (hL.below hb)
  have HW := Lib.hid hW
  have HB := Lib.hid hb
  have HN := Lib.hid hn
  have HM := Lib.hid hm
  have HP := Lib.hid hp
  have HTOL := Lib.hid htol
  have nI : (n : Int) ≤ 4611686018427387904 := by omega
  have mI : (m : Int) ≤ 4611686018427387904 := by omega
  have pI : (p : Int) ≤ 4611686018427387904 := by omega
  obtain ⟨⟨r1, r2⟩, hres⟩ : ∃ r, boundE c l = r := ⟨_, rfl⟩
  have HRS := Lib.hid hres
  rw [hres]
  simp only
  clear hW hb hS hE hL hn hm hC hp htol hres
  go_enter Try.func31, Try.ntmps31
  go_wp2_with fail
  rw [HW.out]
  have c0 := cellOf HR.out 0 _ rfl
  have c1 := cellOf HR.out 1 _ rfl
  have c2 := cellOf HR.out 2 _ rfl
  have cl := lt_of_block HR.out
  go_wp2_with fail
  refine HCK.out.mono ?_
  rintro e w1 ⟨rfl, hb1⟩
  have R1 := Lib.hid ((hb1.block _ (lt_of_block HR.out)).trans HR.out)
  have HB1 := Lib.hid (HB.out.trans (hb1.mono HB.out.size))
  have HC1 := Lib.hid (HCC.out.below hb1)
  have HL1 := Lib.hid (HLL.out.below hb1)
  clear hb1 HB HCC HLL HCK HW HR c0 c1 c2 cl
  obtain ⟨⟨k1, k2, er⟩, hk⟩ : ∃ x, checkC c = x := ⟨_, rfl⟩
  have HER : Hid (errC c = er) := by show _ = _; unfold errC; rw [hk]
  rw [hk]
  clear hk
  have c2 := cellOf R1.out 2 _ rfl
  have cl := lt_of_block R1.out
  by_cases h0 : er = 0
  · subst h0
    by_cases hnm : p = m
    · have tnm : ((p : Int) != (m : Int)) = false := by simp [hnm]
      have HNM := Lib.hid hnm
      have HV := Lib.hid (valid_of HER.out)
      clear hnm
      go_wp2_with fail
      go_loopg [8, 9] p (fun gh e i wr => ∃ (k : Nat) (er : Int), gh + k = p ∧ i = .int .i64 (k : Int) ∧ e = .int .i64 er ∧ Hid ((er = 0 ∧ ∀ j (hj : j < l.length), j < k → inB (-100000) 100000 l[j] = true) ∨ (er ≠ 0 ∧ r1 = 0 ∧ er = r2)) ∧ Hid (Below w1.heap.size w1 wr))
      case atStart => exact ⟨0, 0, by omega, rfl, rfl, Or.inl ⟨rfl, fun j _ hj => absurd hj (Nat.not_lt_zero _)⟩, Below.refl _ _⟩
      case round =>
        clear c2 cl tnm
        obtain ⟨k, er, hk, rfl, rfl, HZ, HBB⟩ := hrel
        by_cases h0 : er = 0
        · subst h0
          by_cases hlt : k < p
          · have kI : (k : Int) < (p : Int) := by omega
            have hkn : k < l.length := by rw [HP.out]; exact hlt
            obtain ⟨lb, lo, rfl, e0⟩ := (HL1.out.below HBB.out).get hkn
            have hr7 := fun h => boundE_out (c := c) (l := l) HER.out (by rw [HP.out, HM.out]; exact HNM.out) k hkn h
            rw [HRS.out] at hr7
            have HR7 := Lib.hid hr7
            have HJ : Hid (inB (-100000) 100000 l[k] = true → ∀ j (hj : j < l.length), j < k + 1 → inB (-100000) 100000 l[j] = true) := fun hx j hj hjk => by
              by_cases e : j = k
              · subst e; exact hx
              · rcases HZ.out with h | h
                · exact h.2 j hj (by omega)
                · exact absurd rfl h.1
            generalize l[k] = x at *
            clear hr7 hkn HZ
            go_wp2_with fail
            refine (rin_any x (-100000) 100000 wr).mono ?_
            rintro e w' ⟨rfl, rfl⟩
            cases hbb : inB (-100000) 100000 x
            · have hr := HR7.out hbb
              simp only [Prod.mk.injEq] at hr
              have HQ := Lib.hid hr
              clear hbb e0 hr HR7 HJ
              go_wp2
              go_roundg (gk - 1)
              case measure => omega
              case rel => exact ⟨k + 1, 7, by omega, by go_num, rfl, Or.inr ⟨by decide, HQ.out.1, HQ.out.2.symm⟩, HBB⟩
            · have HZ2 := Lib.hid (HJ.out hbb)
              clear hbb e0 HR7 HJ
              go_wp2
              go_roundg (gk - 1)
              case measure => omega
              case rel => exact ⟨k + 1, 0, by omega, by go_num, rfl, Or.inl ⟨rfl, HZ2.out⟩, HBB⟩
          · have kI : ¬ (k : Int) < (p : Int) := by omega
            obtain rfl : k = p := by omega
            have HIN := Lib.hid (boundE_in (c := c) (l := l) HER.out (by rw [HP.out, HM.out]; exact HNM.out) (fun j hj => by
              rcases HZ.out with h | h
              · exact h.2 j hj (by rw [← HP.out]; exact hj)
              · exact absurd rfl h.1))
            have HC2 := Lib.hid (HC1.out.below HBB.out)
            have HL2 := Lib.hid (HL1.out.below HBB.out)
            have R2 := Lib.hid ((HBB.out.block _ (lt_of_block R1.out)).trans R1.out)
            have HB2 := Lib.hid (HB1.out.trans (HBB.out.mono HB1.out.size))
            have HSD := rsound_any c HV.out _ _ wr HC2.out
            rw [HTOL.out] at HSD
            have HS := Lib.hid HSD
            have c0 := cellOf R2.out 0 _ rfl
            have c1 := cellOf R2.out 1 _ rfl
            have c2 := cellOf R2.out 2 _ rfl
            have cl := lt_of_block R2.out
            clear hlt hk HZ HSD HBB HC1 HL1 R1 HB1
            go_wp2_with fail
            refine HS.out.mono ?_
            rintro e w3 ⟨rfl, hb3⟩
            have HC3 := Lib.hid (HC2.out.below hb3)
            have HL3 := Lib.hid (HL2.out.below hb3)
            have R3 := Lib.hid ((hb3.block _ (lt_of_block R2.out)).trans R2.out)
            have HB3 := Lib.hid (HB2.out.trans (hb3.mono HB2.out.size))
            clear HC2 HL2 R2 HB2 HS hb3 c0 c1 c2 cl
            cases ht : tornK (wsC c) c.eds.length
            · have hr := boundE_ok HER.out (by rw [HP.out, HM.out]; exact HNM.out) HIN.out.1 ht
              rw [HRS.out] at hr
              simp only [Prod.mk.injEq] at hr
              obtain ⟨hr1, rfl⟩ := hr
              have HR1 := Lib.hid hr1
              have k8 : k ≤ 8 := by have := HV.out.m8; have := HM.out; have := HNM.out; omega
              have n5 : n ≤ 5 := by have := HV.out.n5; have := HN.out; omega
              have k8I : (k : Int) ≤ 8 := by omega
              have n5I : (n : Int) ≤ 5 := by omega
              have HWB := Lib.hid (wsC_bd c HV.out)
              have HBE := Lib.hid (bndE_bd (wsC c) (pad8 l) (wsC_bd c HV.out) (fun i => by rw [pad8_get l (by rw [HP.out]; exact k8)]; exact HIN.out.2 i))
              clear ht hr1 HRS
              go_wp2_with fail
              go_loopg [10, 11, 12, 13] k (fun gh bv i v12 v13 wr => ∃ j : Nat, gh + j = k ∧ i = .int .i64 (j : Int) ∧ bv = .int .i64 (bndE (wsC c) (pad8 l) j) ∧ Hid (Below w3.heap.size w3 wr))
              case atStart => exact ⟨0, by omega, rfl, rfl, Below.refl _ _⟩
              case round =>
                obtain ⟨j, hk, rfl, rfl, HBB⟩ := hrel
                have R4 := Lib.hid ((HBB.out.block _ (lt_of_block R3.out)).trans R3.out)
                have HL4 := Lib.hid (HL3.out.below HBB.out)
                have HC4 := Lib.hid (HC3.out.below HBB.out)
                have c0 := cellOf R4.out 0 _ rfl
                have c1 := cellOf R4.out 1 _ rfl
                have c2 := cellOf R4.out 2 _ rfl
                have cl := lt_of_block R4.out
                by_cases hlt : j < k
                · have jI : (j : Int) < (k : Int) := by omega
                  have jM : (j : Int) < (m : Int) := by have := HNM.out; omega
                  have hjm : j < c.eds.length := by rw [HM.out, ← HNM.out]; exact hlt
                  have hjl : j < l.length := by rw [HP.out]; exact hlt
                  obtain ⟨lb, lo, rfl, e0⟩ := HL4.out.get hjl
                  obtain ⟨eb, eo, pa, pc, rfl, d0, d1, d2, hpp⟩ := HC4.out.eds.get hjm
                  have hed := HV.out.ed _ (List.getElem_mem hjm)
                  have hgd : l.getD j 0 = l[j] := by simp [List.getD_eq_getElem?_getD, hjl]
                  have hxb := HIN.out.2 j
                  have hbe := HBE.out j
                  have hwb := HWB.out j
                  rw [wL_ws c j hjm HV.out.m8] at hwb
                  have hst := bndE_one c l j hjm HV.out.m8 (by rw [HP.out]; exact k8)
                  have hwk : wantF c j = wantS tol c.eds[j].pts := by unfold wantF; rw [getD_lt _ _ hjm, HTOL.out]
                  rw [hgd] at hxb hst
                  rw [hwk] at hwb hst
                  have HST := Lib.hid hst
                  have HF : Hid (∀ W', Below wr.heap.size wr W' → Calls Try.prog 56 #[.agg #[.int .i64 tol, .slice sa n sc, .slice (some ⟨eb, eo, none⟩) m ec], .agg #[.int .i64 c.eds[j].a, .int .i64 c.eds[j].b, .slice pa c.eds[j].pts.length pc]] W' fun e w' => e = .returned (.tuple #[.agg #[.int .i64 (wantS tol c.eds[j].pts).1, .int .i64 (wantS tol c.eds[j].pts).2], .bool (decide ((wantS tol c.eds[j].pts).1 ≤ (wantS tol c.eds[j].pts).2))]) ∧ Below W'.heap.size W' w') := fun W' hb => by
                    have h := rwant_any c.tol (.slice sa n sc) (.slice (some ⟨eb, eo, none⟩) m ec) (.slice pa c.eds[j].pts.length pc) c.eds[j].a c.eds[j].b c.eds[j].pts W' HV.out.t0 HV.out.t50 hed.pt hed.p1 hed.p4 (hpp.below hb)
                    rw [HTOL.out] at h
                    exact h
                  generalize wantS tol c.eds[j].pts = s at *
                  generalize c.eds[j] = d at *
                  obtain ⟨da, db, ps⟩ := d
                  obtain ⟨sl, sh⟩ := s
                  simp only at d0 d1 d2 HF HST hwb
                  generalize l[j] = x at *
                  generalize bndE (wsC c) (pad8 l) j = bj at *
                  obtain ⟨np, hnp⟩ : ∃ np, ps.length = np := ⟨_, rfl⟩
                  rw [hnp] at d2 HF
                  have hm1 := mul_in (a := x) (b := sl) (A := 100000) (B := 20000) (by omega) (by omega) (by omega) (by omega)
                  have hm2 := mul_in (a := x) (b := sh) (A := 100000) (B := 20000) (by omega) (by omega) (by omega) (by omega)
                  have s1 : IntKind.i64.wrap (x * sl) = x * sl := by rw [IntKind.wrap_i64] <;> omega
                  have s2 : IntKind.i64.wrap (x * sh) = x * sh := by rw [IntKind.wrap_i64] <;> omega
                  have s3 : IntKind.i64.wrap (bj + x * sl) = bj + x * sl := by rw [IntKind.wrap_i64] <;> omega
                  have s4 : IntKind.i64.wrap (bj + x * sh) = bj + x * sh := by rw [IntKind.wrap_i64] <;> omega
                  generalize hxl : x * sl = xsl at *
                  generalize hxh : x * sh = xsh at *
                  have E0 := Lib.hid e0
                  clear hed hpp hnp hjm hjl hgd hst hwk hm1 hm2 hwb hbe hxb e0
                  go_wp2_with fail
                  go_cut [12, 13] from 64 to 96 (fun v b wx => ∃ g, v = .pointer (some ⟨g, 0, none⟩) ∧ Hid (wx.heap[g]? = some (.cells #[.int .i64 sl, .int .i64 sh] 31 (0, 0))) ∧ Hid (Below wr.heap.size wr wx))
                  case first =>
                    have KA : ∀ W' : World, Below wr.heap.size wr W' → (W'.cell? ⟨w.heap.size, 0, none⟩ = some (.int .i64 tol) ∧ W'.cell? ⟨w.heap.size, 1, none⟩ = some (.slice sa n sc) ∧ W'.cell? ⟨w.heap.size, 2, none⟩ = some (.slice (some ⟨eb, eo, none⟩) m ec) ∧ W'.cell? ⟨eb, eo + j * 3, none⟩ = some (.int .i64 da) ∧ W'.cell? ⟨eb, eo + j * 3 + 1, none⟩ = some (.int .i64 db) ∧ W'.cell? ⟨eb, eo + j * 3 + 2, none⟩ = some (.slice pa np pc) ∧ Below wr.heap.size wr W') := fun W' hb => ⟨keepK c0 hb, keepK c1 hb, keepK c2 hb, keepK d0 hb, keepK d1 hb, keepK d2 hb, hb⟩
                    refine wp_region_noPanic ?_
                    refine wp_region_held_drew (S := (fun W' => W'.cell? ⟨w.heap.size, 0, none⟩ = some (.int .i64 tol) ∧ W'.cell? ⟨w.heap.size, 1, none⟩ = some (.slice sa n sc) ∧ W'.cell? ⟨w.heap.size, 2, none⟩ = some (.slice (some ⟨eb, eo, none⟩) m ec) ∧ W'.cell? ⟨eb, eo + j * 3, none⟩ = some (.int .i64 da) ∧ W'.cell? ⟨eb, eo + j * 3 + 1, none⟩ = some (.int .i64 db) ∧ W'.cell? ⟨eb, eo + j * 3 + 2, none⟩ = some (.slice pa np pc) ∧ Below wr.heap.size wr W')) (by kernel_rfl) ?_ (fun hh0 => ?_)
                    · exact KA _ (Below.refl _ _).drew
                    refine wpAnyH_take (i := 0) (v := ?_) rfl (by as_aux_lemma => kernel_rfl) (by as_aux_lemma => kernel_rfl) (by as_aux_lemma => kernel_rfl) (fun _ _ _ h => h) (Or.inl ⟨by rfl, ?_⟩) (by assumption) ?_
                    rotate_left
                    · intro w hSw
                      try dsimp only at hSw
                      go_simp
                      try with_reducible rfl
                    try simp only [Act.put, List.getElem_toArray, List.getElem_cons_succ, List.getElem_cons_zero, List.setIfInBounds_toArray, List.set_cons_zero, List.set_cons_succ]
                    refine wpAnyH_take (i := 1) (v := ?_) rfl (by as_aux_lemma => kernel_rfl) (by as_aux_lemma => kernel_rfl) (by as_aux_lemma => kernel_rfl) (fun _ _ _ h => h) (Or.inl ⟨by rfl, ?_⟩) (by assumption) ?_
                    rotate_left
                    · intro w hSw
                      try dsimp only at hSw
                      go_simp
                      try with_reducible rfl
                    try simp only [Act.put, List.getElem_toArray, List.getElem_cons_succ, List.getElem_cons_zero, List.setIfInBounds_toArray, List.set_cons_zero, List.set_cons_succ]
                    refine wpAnyH_take (i := 2) (v := ?_) rfl (by as_aux_lemma => kernel_rfl) (by as_aux_lemma => kernel_rfl) (by as_aux_lemma => kernel_rfl) (fun _ _ _ h => h) (Or.inl ⟨by rfl, ?_⟩) (by assumption) ?_
                    rotate_left
                    · intro w hSw
                      try dsimp only at hSw
                      go_simp
                      try with_reducible rfl
                    try simp only [Act.put, List.getElem_toArray, List.getElem_cons_succ, List.getElem_cons_zero, List.setIfInBounds_toArray, List.set_cons_zero, List.set_cons_succ]
                    refine wpAnyH_take (i := 3) (v := ?_) rfl (by as_aux_lemma => kernel_rfl) (by as_aux_lemma => kernel_rfl) (by as_aux_lemma => kernel_rfl) (fun _ _ _ h => h) (Or.inl ⟨by rfl, ?_⟩) (by assumption) ?_
                    rotate_left
                    · intro w hSw
                      try dsimp only at hSw
                      go_simp
                      try with_reducible rfl
                    try simp only [Act.put, List.getElem_toArray, List.getElem_cons_succ, List.getElem_cons_zero, List.setIfInBounds_toArray, List.set_cons_zero, List.set_cons_succ]
                    refine wpAnyH_take (i := 4) (v := ?_) rfl (by as_aux_lemma => kernel_rfl) (by as_aux_lemma => kernel_rfl) (by as_aux_lemma => kernel_rfl) (fun _ _ _ h => h) (Or.inl ⟨by rfl, ?_⟩) (by assumption) ?_
                    rotate_left
                    · intro w hSw
                      try dsimp only at hSw
                      go_simp
                      try with_reducible rfl
                    try simp only [Act.put, List.getElem_toArray, List.getElem_cons_succ, List.getElem_cons_zero, List.setIfInBounds_toArray, List.set_cons_zero, List.set_cons_succ]
                    refine wpAnyH_take (i := 5) (v := ?_) rfl (by as_aux_lemma => kernel_rfl) (by as_aux_lemma => kernel_rfl) (by as_aux_lemma => kernel_rfl) (fun _ _ _ h => h) (Or.inl ⟨by rfl, ?_⟩) (by assumption) ?_
                    rotate_left
                    · intro w hSw
                      try dsimp only at hSw
                      go_simp
                      try with_reducible rfl
                    try simp only [Act.put, List.getElem_toArray, List.getElem_cons_succ, List.getElem_cons_zero, List.setIfInBounds_toArray, List.set_cons_zero, List.set_cons_succ]
                    refine wpAnyH_ready (rs := [6, 10]) (by as_aux_lemma => kernel_rfl) (by simp) ?_
                    refine AllReadyH.cons rfl (fun K hK => ?_) (AllReadyH.cons rfl (fun K hK => ?_) AllReadyH.nil)
                    · skip
                      go_simp
                      refine (HF.out _ hh0.2.2.2.2.2.2).mono ?_
                      rintro e w8 ⟨rfl, hb8⟩
                      refine hK.out _ _ (KA _ (Below.trans hh0.2.2.2.2.2.2 (Below.mono hb8 (hh0.2.2.2.2.2.2).size))) (fun hh1 => ?_)
                      clear hK K
                      try simp only [Act.put, List.getElem_toArray, List.getElem_cons_succ, List.getElem_cons_zero, List.setIfInBounds_toArray, List.set_cons_zero, List.set_cons_succ]
                      refine wpAnyH_take (i := 7) (v := ?_) rfl (by as_aux_lemma => kernel_rfl) (by as_aux_lemma => kernel_rfl) (by as_aux_lemma => kernel_rfl) (fun _ _ _ h => h) (Or.inl ⟨by rfl, ?_⟩) (by assumption) ?_
                      rotate_left
                      · intro w hSw
                        try dsimp only at hSw
                        go_simp
                        try with_reducible rfl
                      try simp only [Act.put, List.getElem_toArray, List.getElem_cons_succ, List.getElem_cons_zero, List.setIfInBounds_toArray, List.set_cons_zero, List.set_cons_succ]
                      refine wpAnyH_take (i := 8) (v := ?_) rfl (by as_aux_lemma => kernel_rfl) (by as_aux_lemma => kernel_rfl) (by as_aux_lemma => kernel_rfl) (fun _ _ _ h => h) (Or.inl ⟨by rfl, ?_⟩) (by assumption) ?_
                      rotate_left
                      · intro w hSw
                        try dsimp only at hSw
                        go_simp
                        try with_reducible rfl
                      try simp only [Act.put, List.getElem_toArray, List.getElem_cons_succ, List.getElem_cons_zero, List.setIfInBounds_toArray, List.set_cons_zero, List.set_cons_succ]
                      refine wpAnyH_take (i := 9) (v := ?_) rfl (by as_aux_lemma => kernel_rfl) (by as_aux_lemma => kernel_rfl) (by as_aux_lemma => kernel_rfl) (fun _ _ _ h => h) (Or.inl ⟨by rfl, ?_⟩) (by assumption) ?_
                      rotate_left
                      · intro w hSw
                        try dsimp only at hSw
                        go_simp
                        try with_reducible rfl
                      try simp only [Act.put, List.getElem_toArray, List.getElem_cons_succ, List.getElem_cons_zero, List.setIfInBounds_toArray, List.set_cons_zero, List.set_cons_succ]
                      refine wpAnyH_ready (rs := [10]) (by as_aux_lemma => kernel_rfl) (by simp) ?_
                      refine AllReadyH.cons rfl (fun K hK => ?_) AllReadyH.nil
                      go_simp
                      refine hK.out _ _ (KA _ ((hh1.2.2.2.2.2.2).alloc (hh1.2.2.2.2.2.2).size _)) (fun hh2 => ?_)
                      clear hK K
                      try simp only [Act.put, List.getElem_toArray, List.getElem_cons_succ, List.getElem_cons_zero, List.setIfInBounds_toArray, List.set_cons_zero, List.set_cons_succ]
                      refine wpAnyH_ready (rs := [11]) (by as_aux_lemma => kernel_rfl) (by simp) ?_
                      refine AllReadyH.cons rfl (fun K hK => ?_) AllReadyH.nil
                      go_simp
                      refine hK.out _ _ ?_ (fun hh3 => ?_)
                      · first | exact KA _ (two_below hh2.2.2.2.2.2.2 (by omega)) | exact KA _ ((hh2.2.2.2.2.2.2).setCell (by simp; omega) _) | exact KA _ ((hh0.2.2.2.2.2.2).alloc (hh0.2.2.2.2.2.2).size _) | exact KA _ ((hh1.2.2.2.2.2.2).alloc (hh1.2.2.2.2.2.2).size _)
                      clear hK K
                      try simp only [Act.put, List.getElem_toArray, List.getElem_cons_succ, List.getElem_cons_zero, List.setIfInBounds_toArray, List.set_cons_zero, List.set_cons_succ]
                      refine wpAnyH_ready (rs := [12]) (by as_aux_lemma => kernel_rfl) (by simp) ?_
                      refine AllReadyH.cons rfl (fun K hK => ?_) AllReadyH.nil
                      go_simp
                      refine hK.out _ _ hh3 (fun hh4 => ?_)
                      clear hK K
                      try simp only [Act.put, List.getElem_toArray, List.getElem_cons_succ, List.getElem_cons_zero, List.setIfInBounds_toArray, List.set_cons_zero, List.set_cons_succ]
                      refine wpAnyH_done (by as_aux_lemma => kernel_rfl) ?_ _
                      refine NoPanic.normal ?_
                      have HBZ := Lib.hid (hh4.2.2.2.2.2.2)
                      go_wp2_with fail
                      go_meet
                      case rel => first | exact ⟨_, rfl, heap_alloc_new w8 _, HBZ⟩ | exact ⟨_, rfl, two_set z8, HBZ⟩
                    · skip
                      go_simp
                      refine hK.out _ _ (KA _ ((hh0.2.2.2.2.2.2).alloc (hh0.2.2.2.2.2.2).size _)) (fun hh1 => ?_)
                      clear hK K
                      try simp only [Act.put, List.getElem_toArray, List.getElem_cons_succ, List.getElem_cons_zero, List.setIfInBounds_toArray, List.set_cons_zero, List.set_cons_succ]
                      refine wpAnyH_ready (rs := [6]) (by as_aux_lemma => kernel_rfl) (by simp) ?_
                      refine AllReadyH.cons rfl (fun K hK => ?_) AllReadyH.nil
                      go_simp
                      refine (HF.out _ hh1.2.2.2.2.2.2).mono ?_
                      rintro e w8 ⟨rfl, hb8⟩
                      have z8 := (hb8.block wr.heap.size (by simp)).trans (heap_alloc_new wr.drew (Obj.cells #[.int .i64 0, .int .i64 0] 31))
                      have y0 := cellOf z8 0 _ rfl
                      have y1 := cellOf z8 1 _ rfl
                      have g0 := frozen_of_row _ _ 0 _ _ z8
                      have g1 := frozen_of_row _ _ 1 _ _ z8
                      have zl := lt_of_block z8
                      refine hK.out _ _ (KA _ (Below.trans hh1.2.2.2.2.2.2 (Below.mono hb8 (hh1.2.2.2.2.2.2).size))) (fun hh2 => ?_)
                      clear hK K
                      try simp only [Act.put, List.getElem_toArray, List.getElem_cons_succ, List.getElem_cons_zero, List.setIfInBounds_toArray, List.set_cons_zero, List.set_cons_succ]
                      refine wpAnyH_take (i := 7) (v := ?_) rfl (by as_aux_lemma => kernel_rfl) (by as_aux_lemma => kernel_rfl) (by as_aux_lemma => kernel_rfl) (fun _ _ _ h => h) (Or.inl ⟨by rfl, ?_⟩) (by assumption) ?_
                      rotate_left
                      · intro w hSw
                        try dsimp only at hSw
                        go_simp
                        try with_reducible rfl
                      try simp only [Act.put, List.getElem_toArray, List.getElem_cons_succ, List.getElem_cons_zero, List.setIfInBounds_toArray, List.set_cons_zero, List.set_cons_succ]
                      refine wpAnyH_take (i := 8) (v := ?_) rfl (by as_aux_lemma => kernel_rfl) (by as_aux_lemma => kernel_rfl) (by as_aux_lemma => kernel_rfl) (fun _ _ _ h => h) (Or.inl ⟨by rfl, ?_⟩) (by assumption) ?_
                      rotate_left
                      · intro w hSw
                        try dsimp only at hSw
                        go_simp
                        try with_reducible rfl
                      try simp only [Act.put, List.getElem_toArray, List.getElem_cons_succ, List.getElem_cons_zero, List.setIfInBounds_toArray, List.set_cons_zero, List.set_cons_succ]
                      refine wpAnyH_take (i := 9) (v := ?_) rfl (by as_aux_lemma => kernel_rfl) (by as_aux_lemma => kernel_rfl) (by as_aux_lemma => kernel_rfl) (fun _ _ _ h => h) (Or.inl ⟨by rfl, ?_⟩) (by assumption) ?_
                      rotate_left
                      · intro w hSw
                        try dsimp only at hSw
                        go_simp
                        try with_reducible rfl
                      try simp only [Act.put, List.getElem_toArray, List.getElem_cons_succ, List.getElem_cons_zero, List.setIfInBounds_toArray, List.set_cons_zero, List.set_cons_succ]
                      refine wpAnyH_ready (rs := [11]) (by as_aux_lemma => kernel_rfl) (by simp) ?_
                      refine AllReadyH.cons rfl (fun K hK => ?_) AllReadyH.nil
                      go_simp
                      refine hK.out _ _ ?_ (fun hh3 => ?_)
                      · first | exact KA _ (two_below hh2.2.2.2.2.2.2 (by omega)) | exact KA _ ((hh2.2.2.2.2.2.2).setCell (by simp; omega) _) | exact KA _ ((hh0.2.2.2.2.2.2).alloc (hh0.2.2.2.2.2.2).size _) | exact KA _ ((hh1.2.2.2.2.2.2).alloc (hh1.2.2.2.2.2.2).size _)
                      clear hK K
                      try simp only [Act.put, List.getElem_toArray, List.getElem_cons_succ, List.getElem_cons_zero, List.setIfInBounds_toArray, List.set_cons_zero, List.set_cons_succ]
                      refine wpAnyH_ready (rs := [12]) (by as_aux_lemma => kernel_rfl) (by simp) ?_
                      refine AllReadyH.cons rfl (fun K hK => ?_) AllReadyH.nil
                      go_simp
                      refine hK.out _ _ hh3 (fun hh4 => ?_)
                      clear hK K
                      try simp only [Act.put, List.getElem_toArray, List.getElem_cons_succ, List.getElem_cons_zero, List.setIfInBounds_toArray, List.set_cons_zero, List.set_cons_succ]
                      refine wpAnyH_done (by as_aux_lemma => kernel_rfl) ?_ _
                      refine NoPanic.normal ?_
                      have HBZ := Lib.hid (hh4.2.2.2.2.2.2)
                      go_wp2_with fail
                      go_meet
                      case rel => first | exact ⟨_, rfl, heap_alloc_new w8 _, HBZ⟩ | exact ⟨_, rfl, two_set z8, HBZ⟩
                  case rest =>
                    obtain ⟨g, rfl, hg, hbw⟩ := hcut
                    have HL8 := Lib.hid (HBB.out.trans (hbw.out.mono HBB.out.size))
                    have e0 := kpB hbw.out E0.out
                    have x0 := cellOf hg.out 0 _ rfl
                    have x1 := cellOf hg.out 1 _ rfl
                    have xl := lt_of_block hg.out
                    clear c0 c1 c2 cl d0 d1 d2 HF hbw R4 HL4 HC4 E0 hg
                    by_cases hx : 0 < x
                    · have HS2 : Hid (bndE (wsC c) (pad8 l) (j + 1) = bj + xsl) := by show _ = _; rw [HST.out, if_pos hx]
                      clear HST
                      go_wp2_with fail
                      go_quiet (fail)
                      have HBN : Hid (Below w3.heap.size w3 (wc.drewN nq)) := HL8.out.trans ⟨rfl, rfl, rfl, Nat.le_refl _, fun _ _ => rfl⟩
                      clear e0 x0 x1 xl
                      go_wp2
                      go_roundg (gk - 1)
                      case measure => omega
                      case rel => exact ⟨j + 1, by omega, by go_num, by rw [HS2.out], HBN⟩
                    · have HS2 : Hid (bndE (wsC c) (pad8 l) (j + 1) = bj + xsh) := by show _ = _; rw [HST.out, if_neg hx]
                      clear HST
                      go_wp2_with fail
                      go_quiet (fail)
                      have HBN : Hid (Below w3.heap.size w3 (wc.drewN nq)) := HL8.out.trans ⟨rfl, rfl, rfl, Nat.le_refl _, fun _ _ => rfl⟩
                      clear e0 x0 x1 xl
                      go_wp2
                      go_roundg (gk - 1)
                      case measure => omega
                      case rel => exact ⟨j + 1, by omega, by go_num, by rw [HS2.out], HBN⟩
                · have jI : ¬ (j : Int) < (k : Int) := by omega
                  have HJ : Hid (j = c.eds.length) := by show _ = _; rw [HM.out, ← HNM.out]; omega
                  have HG := rgiven_any c HV.out _ _ _ l wr HC4.out HL4.out (by rw [HP.out, HM.out]; exact HNM.out) HIN.out.2
                  rw [HTOL.out] at HG
                  have HGI := Lib.hid HG
                  have hbe := HBE.out j
                  have HBJ : Hid (bndE (wsC c) (pad8 l) j = bndE (wsC c) (pad8 l) c.eds.length) := by show _ = _; rw [HJ.out]
                  have hjk : (j : Int) ≤ 8 := by omega
                  have HSB := Lib.hid (bndS_bd c.shs HV.out.sh (givTo c.eds l c.eds.length) (fun i => by
                    have h := givTo_bd c.eds l HIN.out.2 (fun k hk => by
                      have h := HV.out.ed _ (List.getElem_mem hk)
                      rw [getD_lt _ _ hk]
                      have := h.a0; have := h.b0; have := h.ne
                      omega) c.eds.length (Nat.le_refl _) i
                    have := HV.out.m8
                    omega) (bndE (wsC c) (pad8 l) j) (by omega) (by omega))
                  have HGB : Hid (∀ i, -800000 ≤ (givTo c.eds l c.eds.length).getD i 0 ∧ (givTo c.eds l c.eds.length).getD i 0 ≤ 800000) := fun i => by
                    have h := givTo_bd c.eds l HIN.out.2 (fun k hk => by
                      have h := HV.out.ed _ (List.getElem_mem hk)
                      rw [getD_lt _ _ hk]
                      have := h.a0; have := h.b0; have := h.ne
                      omega) c.eds.length (Nat.le_refl _) i
                    have := HV.out.m8
                    omega
                  generalize bndE (wsC c) (pad8 l) j = bj at *
                  clear hlt hk hbe hjk HG HJ HWB HBE
                  go_wp2_with fail
                  refine HGI.out.mono ?_
                  rintro e w5 ⟨gv, rfl, hgi, hb5⟩
                  have R5 := Lib.hid ((hb5.block _ (lt_of_block R4.out)).trans R4.out)
                  have HC5 := Lib.hid (HC4.out.below hb5)
                  have HB5 := Lib.hid ((HB3.out.trans (HBB.out.mono HB3.out.size)).trans (hb5.mono (Nat.le_trans HB3.out.size HBB.out.size)))
                  have hlen : (givN c l c.eds.length).length = n := by unfold givN; rw [List.length_take, givTo_length, HN.out]; omega
                  obtain ⟨_, ga, gc, rfl, _⟩ := id hgi
                  rw [hlen] at hgi ⊢
                  have HGV := Lib.hid hgi
                  have HGL := Lib.hid hlen
                  clear hgi hlen HGI R4 HL4 HC4 HBB HB3 hb5 c0 c1 c2 cl
                  go_wp2_with fail
                  go_loopg [10, 15] n (fun gh bv i wr => ∃ q : Nat, gh + q = n ∧ i = .int .i64 (q : Int) ∧ bv = .int .i64 (bndS c.shs (givTo c.eds l c.eds.length) bj q) ∧ Hid (Below w5.heap.size w5 wr))
                  case atStart => exact ⟨0, by omega, rfl, rfl, Below.refl _ _⟩
                  case round =>
                    obtain ⟨q, hq, rfl, rfl, HBB⟩ := hrel
                    by_cases hlt : q < n
                    · have qI : (q : Int) < (n : Int) := by omega
                      have hqs : q < c.shs.length := by rw [HN.out]; exact hlt
                      have hqg : q < (givN c l c.eds.length).length := by rw [HGL.out]; exact hlt
                      obtain ⟨gb, go, rfl, e0⟩ := (HGV.out.below HBB.out).get hqg
                      obtain ⟨sb, so, rfl, d0, d1, d2⟩ := (HC5.out.below HBB.out).shs.get hqs
                      have c1 := cellOf ((HBB.out.block _ (lt_of_block R5.out)).trans R5.out) 1 _ rfl
                      have hge : (givN c l c.eds.length)[q] = (givTo c.eds l c.eds.length).getD q 0 := by
                        rw [show (givN c l c.eds.length)[q] = (givN c l c.eds.length).getD q 0 by simp [List.getD_eq_getElem?_getD, hqg]]
                        unfold givN
                        simp [List.getD_eq_getElem?_getD, List.getElem?_take, hqs]
                      rw [hge] at e0
                      have hsk := HV.out.sh _ (List.getElem_mem hqs)
                      have hgx := HGB.out q
                      have hbq := HSB.out q (by rw [HN.out]; omega)
                      have HST : Hid (bndS c.shs (givTo c.eds l c.eds.length) bj (q + 1) = bndS c.shs (givTo c.eds l c.eds.length) bj q - c.shs[q].most * max 0 (absI ((givTo c.eds l c.eds.length).getD q 0) - c.shs[q].wt)) := by
                        show _ = _
                        simp only [bndS]
                        rw [getD_lt _ _ hqs]
                      obtain ⟨w0, w20, m0, m6⟩ := hsk
                      generalize bndS c.shs (givTo c.eds l c.eds.length) bj q = bq at *
                      generalize (givTo c.eds l c.eds.length).getD q 0 = x at *
                      generalize c.shs[q] = s at *
                      obtain ⟨nm, wt, most⟩ := s
                      simp only at d0 d1 d2 w0 w20 m0 m6 HST
                      have HAB : Hid (∀ n, Calls Try.prog 69 #[.int .i64 x] (wr.drewN n) fun e w'' => e = .returned (.int .i64 (absI x)) ∧ ∃ m, w'' = wr.drewN m) := fun n => (rabs_any x (by omega) (wr.drewN n)).mono fun _ _ ⟨he, hm⟩ => ⟨he, n, hm.symm⟩
                      have hz : 0 ≤ absI x ∧ absI x ≤ 800000 := by unfold absI; omega
                      generalize absI x = z at *
                      obtain ⟨dd, hdd⟩ : ∃ d, z - wt = d := ⟨_, rfl⟩
                      rw [hdd] at HST
                      have s0 : IntKind.i64.wrap (z - wt) = dd := by rw [← hdd, IntKind.wrap_i64] <;> omega
                      obtain ⟨mx, hmx⟩ : ∃ d, max 0 dd = d := ⟨_, rfl⟩
                      rw [hmx] at HST
                      have hmi : (if (0 : Int) < dd then dd else 0) = mx := by rw [← hmx]; split <;> omega
                      have hmul := mul_in (a := most) (b := mx) (A := 6) (B := 800000) (by omega) (by omega) (by omega) (by omega)
                      have s1 : IntKind.i64.wrap (most * mx) = most * mx := by rw [IntKind.wrap_i64] <;> omega
                      have hqn : (q : Int) ≤ 5 := by omega
                      have s2 : IntKind.i64.wrap (bq - most * mx) = bq - most * mx := by rw [IntKind.wrap_i64] <;> omega
                      generalize hmm : most * mx = mm at *
                      clear hqs hqg hge hgx hbq hdd hmx hmul
                      go_wp2_with fail
                      go_quiet ((go_at_call 69; exact HAB.out _))
                      have HBN : Hid (Below w5.heap.size w5 (wr.drewN nq)) := HBB.out.trans ⟨rfl, rfl, rfl, Nat.le_refl _, fun _ _ => rfl⟩
                      clear d0 d1 d2 e0 c1
                      go_wp2
                      go_roundg (gk - 1)
                      case measure => omega
                      case rel => exact ⟨q + 1, by omega, by go_num, by rw [HST.out], HBN⟩
                    · have qI : ¬ (q : Int) < (n : Int) := by omega
                      obtain rfl : q = n := by omega
                      have hr := HR1.out
                      unfold bndC at hr
                      rw [givTo_pad _ _ (by rw [HP.out]; exact k8), ← HBJ.out, HN.out] at hr
                      subst hr
                      clear hlt hq
                      go_wp2
                      go_ret2
                      exact ⟨rfl, HB5.out.trans (HBB.out.mono HB5.out.size)⟩
            · have hr := boundE_torn HER.out (by rw [HP.out, HM.out]; exact HNM.out) HIN.out.1 ht
              rw [HRS.out] at hr
              simp only [Prod.mk.injEq] at hr
              obtain ⟨rfl, rfl⟩ := hr
              clear ht
              go_wp2
              go_ret2
              exact ⟨rfl, HB3.out⟩
        · have tz : (er == 0) = false := by simp [h0]
          have tz2 : (er != 0) = true := by simp [h0]
          obtain ⟨rfl, rfl⟩ : r1 = 0 ∧ er = r2 := by
            rcases HZ.out with h | h
            · exact absurd h.1 h0
            · exact h.2
          clear h0 HZ
          by_cases hlt : k < p
          · have kI : (k : Int) < (p : Int) := by omega
            go_wp2
            go_ret2
            exact ⟨rfl, HB1.out.trans (HBB.out.mono HB1.out.size)⟩
          · have kI : ¬ (k : Int) < (p : Int) := by omega
            go_wp2
            go_ret2
            exact ⟨rfl, HB1.out.trans (HBB.out.mono HB1.out.size)⟩
    · have tnm : ((p : Int) != (m : Int)) = true := by simp; omega
      have hr := boundE_len HER.out (show l.length ≠ c.eds.length by rw [HP.out, HM.out]; exact hnm)
      rw [HRS.out] at hr
      simp only [Prod.mk.injEq] at hr
      obtain ⟨rfl, rfl⟩ := hr
      clear hnm
      go_wp2_with fail
      go_loopg [8, 9] p (fun gh ee i wr => ee = .int .i64 3 ∧ i = .int .i64 0 ∧ Hid (Below w1.heap.size w1 wr))
      case atStart => exact ⟨rfl, rfl, Below.refl _ _⟩
      case round =>
        obtain ⟨rfl, rfl, HBB⟩ := hrel
        clear c2 cl tnm
        by_cases hlt : 0 < p
        · have kI : (0 : Int) < (p : Int) := by omega
          go_wp2
          go_ret2
          exact ⟨rfl, HB1.out.trans (HBB.out.mono HB1.out.size)⟩
        · have kI : ¬ (0 : Int) < (p : Int) := by omega
          clear hlt
          go_wp2
          go_ret2
          exact ⟨rfl, HB1.out.trans (HBB.out.mono HB1.out.size)⟩
  · have tz : (er == 0) = false := by simp [h0]
    have tz2 : (er != 0) = true := by simp [h0]
    have hr := boundE_err (c := c) (l := l) (by rw [HER.out]; exact h0)
    rw [HRS.out, HER.out] at hr
    simp only [Prod.mk.injEq] at hr
    obtain ⟨rfl, rfl⟩ := hr
    clear h0
    go_wp2_with fail
    go_loopg [8, 9] p (fun gh ee i wr => ee = .int .i64 r2 ∧ i = .int .i64 0 ∧ Hid (Below w1.heap.size w1 wr))
    case atStart => exact ⟨rfl, rfl, Below.refl _ _⟩
    case round =>
      obtain ⟨rfl, rfl, HBB⟩ := hrel
      clear c2 cl
      by_cases hlt : 0 < p
      · have kI : (0 : Int) < (p : Int) := by omega
        go_wp2
        go_ret2
        exact ⟨rfl, HB1.out.trans (HBB.out.mono HB1.out.size)⟩
      · have kI : ¬ (0 : Int) < (p : Int) := by omega
        clear hlt
        go_wp2
        go_ret2
        exact ⟨rfl, HB1.out.trans (HBB.out.mono HB1.out.size)⟩
end Go.Proofs.Ythhlakodnpopmaa
namespace Go.Proofs.Ythhlakodnpopmaa
open Go Go.RowKit Go.Shelf Ed

/-- An edge whose later sheet is the last one that is told, and that is not met. -/
def badB (c : Cas) (l : List Int) (i : Nat) : Bool := decide (max (c.eds.getD i default).a.toNat (c.eds.getD i default).b.toNat + 1 = l.length) && oddB c l i
def fitsC (c : Cas) (l : List Int) : Bool := (List.range c.eds.length).all fun i => !badB c l i
theorem fitsC_no {c : Cas} {l : List Int} (k : Nat) (hk : k < c.eds.length) (h : badB c l k = true) : fitsC c l = false := by
  unfold fitsC
  rw [List.all_eq_false]
  exact ⟨k, List.mem_range.2 hk, by rw [h]; simp⟩
theorem fitsC_yes {c : Cas} {l : List Int} (h : ∀ j, j < c.eds.length → badB c l j = false) : fitsC c l = true := by
  unfold fitsC
  rw [List.all_eq_true]
  intro j hj
  rw [h j (List.mem_range.1 hj)]
  rfl
set_option maxRecDepth 100000 in
set_option maxHeartbeats 8000000 in
theorem rfits_any (c : Cas) (hv : Valid c) (sv ev lv : Value) (l : List Int) (w : World) (hC : CasAt w c sv ev) (hL : IntsAt w lv l) (hl1 : 1 ≤ l.length) (hl5 : l.length ≤ 5) (hbd : ∀ i, -1000 ≤ l.getD i 0 ∧ l.getD i 0 ≤ 1000) :
    Calls Try.prog 88 #[.agg #[.int .i64 c.tol, sv, ev], lv] w fun e w' => e = .returned (.bool (fitsC c l)) ∧ Below w.heap.size w w' := by
  obtain ⟨n, hn⟩ : ∃ n, l.length = n := ⟨_, rfl⟩
  obtain ⟨m, hm⟩ : ∃ m, c.eds.length = m := ⟨_, rfl⟩
  obtain ⟨tol, htol⟩ : ∃ t, c.tol = t := ⟨_, rfl⟩
  obtain ⟨_, hE⟩ := id hC
  obtain ⟨_, ea, ec, rfl, _⟩ := id hE
  obtain ⟨_, la, lc, rfl, _⟩ := id hL
  have m8 := hv.m8
  rw [hn] at hL hl1 hl5 ⊢
  rw [hm] at hE m8 ⊢
  rw [htol]
  obtain ⟨W, hW⟩ : ∃ W, w.alloc (Obj.cells #[.int .i64 tol, sv, .slice ea m ec] 25) = W := ⟨_, rfl⟩
  have hb : Below w.heap.size w W := by rw [← hW]; exact (Below.refl _ _).alloc (Nat.le_refl _) _
  have HR : Hid (W.heap[w.heap.size]? = some (Obj.cells #[.int .i64 tol, sv, .slice ea m ec] 25)) := by show _ = _; rw [← hW]; exact heap_alloc_new w _
  have HEE := Lib.hid (hE.below hb)
  have HLL := Lib.hid (hL.below hb)
  have HW := Lib.hid hW
  have HB := Lib.hid hb
  have HV := Lib.hid hv
  have HBD := Lib.hid hbd
  have HN := Lib.hid hn
  have HM := Lib.hid hm
  have HTOL := Lib.hid htol
  have nI : (n : Int) ≤ 5 := by omega
  have mI : (m : Int) ≤ 8 := by omega
  obtain ⟨n1, hn1⟩ : ∃ z : Nat, n = z + 1 := ⟨n - 1, by omega⟩
  have sn : IntKind.i64.wrap ((n : Int) - 1) = (n1 : Int) := by rw [IntKind.wrap_i64] <;> omega
  have HN1 := Lib.hid hn1
  obtain ⟨res, hres⟩ : ∃ r, fitsC c l = r := ⟨_, rfl⟩
  have HRS := Lib.hid hres
  rw [hres]
  clear hW hb hE hL hv hbd hn hm hC htol hres hn1
  go_enter Try.func88, Try.ntmps88
  go_wp2_with fail
  rw [HW.out]
  clear sn
  go_loopg [6] m (fun gh i wr => ∃ k : Nat, gh + k = m ∧ i = .int .i64 (k : Int) ∧ Hid (∀ j, j < k → badB c l j = false) ∧ Hid (Below W.heap.size W wr))
  case atStart => exact ⟨0, by omega, rfl, fun j hj => absurd hj (Nat.not_lt_zero _), Below.refl _ _⟩
  case round =>
    obtain ⟨k, hk, rfl, HZ, HBB⟩ := hrel
    have R1 := Lib.hid ((HBB.out.block _ (lt_of_block HR.out)).trans HR.out)
    have c0 := cellOf R1.out 0 _ rfl
    have c1 := cellOf R1.out 1 _ rfl
    have c2 := cellOf R1.out 2 _ rfl
    have cl := lt_of_block R1.out
    by_cases hlt : k < m
    · have kI : (k : Int) < (m : Int) := by omega
      have hkm : k < c.eds.length := by rw [HM.out]; omega
      obtain ⟨eb, eo, pa, pc, rfl, d0, d1, d2, hpp⟩ := (HEE.out.below HBB.out).get hkm
      have hed := HV.out.ed _ (List.getElem_mem hkm)
      have hBB : max c.eds[k].a.toNat c.eds[k].b.toNat + 1 = n → badB c l k = !metK tol c.eds[k].pts (l.getD c.eds[k].a.toNat 0) (l.getD c.eds[k].b.toNat 0) := fun h => by
        unfold badB oddB
        rw [getD_lt _ _ hkm, HTOL.out, HN.out]
        simp [h]
      have hBD : ¬ max c.eds[k].a.toNat c.eds[k].b.toNat + 1 = n → badB c l k = false := fun h => by
        unfold badB
        rw [getD_lt _ _ hkm, HN.out]
        simp [h]
      obtain ⟨xa0, xan, xb0, xbn, xne, xp1, xp4, xpt⟩ := hed
      generalize c.eds[k] = d at *
      obtain ⟨da, db, ps⟩ := d
      simp only at d0 d1 d2 hpp hBB hBD xa0 xan xb0 xbn xpt xp4
      obtain ⟨np, hnp⟩ : ∃ np, ps.length = np := ⟨_, rfl⟩
      rw [hnp] at d2 hpp xp4
      obtain ⟨ia, rfl⟩ : ∃ i : Nat, da = i := ⟨da.toNat, by omega⟩
      obtain ⟨ib, rfl⟩ : ∃ i : Nat, db = i := ⟨db.toNat, by omega⟩
      simp only [Int.toNat_natCast] at hBB hBD
      have HPP := Lib.hid hpp
      have HPT : Hid (∀ p, p ∈ ps → (0 ≤ p.1 ∧ p.1 ≤ 9000) ∧ 0 ≤ p.2 ∧ p.2 ≤ 9000) := fun p hp => by have := xpt p hp; omega
      clear hpp hnp xpt xp1 xne hkm
      have np4 : np ≤ 4 := by omega
      obtain ⟨wa, hwa⟩ : ∃ wa, wr.alloc (Obj.cells #[.int .i64 (ia : Int), .int .i64 (ib : Int), .slice pa np pc] 71) = wa := ⟨_, rfl⟩
      have hba : Below wr.heap.size wr wa := by rw [← hwa]; exact (Below.refl _ _).alloc (Nat.le_refl _) _
      have HX := Lib.hid (show wa.heap[wr.heap.size]? = some (Obj.cells #[.int .i64 (ia : Int), .int .i64 (ib : Int), .slice pa np pc] 71) by rw [← hwa]; exact heap_alloc_new wr _)
      have HWA := Lib.hid hwa
      have HBA := Lib.hid (HBB.out.trans (hba.mono HBB.out.size))
      have HPA := Lib.hid (HPP.out.below hba)
      have R2 := Lib.hid ((hba.block _ (lt_of_block R1.out)).trans R1.out)
      have HLA := Lib.hid ((HLL.out.below HBB.out).below hba)
      clear hwa hba
      go_wp2_with fail
      rw [HWA.out]
      clear d0 d1 d2 c0 c1 c2 cl R1 HPP HWA
      have c0 := cellOf R2.out 0 _ rfl
      have c1 := cellOf R2.out 1 _ rfl
      have c2 := cellOf R2.out 2 _ rfl
      have x0 := cellOf HX.out 0 _ rfl
      have x1 := cellOf HX.out 1 _ rfl
      have x2 := cellOf HX.out 2 _ rfl
      obtain ⟨u, hu⟩ : ∃ u, wr.heap.size = u := ⟨_, rfl⟩
      rw [hu] at x0 x1 x2 ⊢
      have hmi : (if ia < ib then (ib : Int) else (ia : Int)) = ((max ia ib : Nat) : Int) := by split <;> omega
      obtain ⟨mx, hmx⟩ : ∃ z, max ia ib = z := ⟨_, rfl⟩
      rw [hmx] at hmi hBB hBD
      by_cases hlast : mx = n1
      · have iaL : ia < l.length := by have := HN.out; have := HN1.out; omega
        have ibL : ib < l.length := by have := HN.out; have := HN1.out; omega
        obtain ⟨lb, lo, heq, e0⟩ := HLA.out.get iaL
        subst heq
        obtain ⟨lb', lo', e, e1⟩ := HLA.out.get ibL
        injection e with e
        injection e with e2 e3
        subst e2 e3
        have hxa := HBD.out ia
        have hxb := HBD.out ib
        rw [show l.getD ia 0 = l[ia] by simp [List.getD_eq_getElem?_getD, iaL]] at hxa hBB
        rw [show l.getD ib 0 = l[ib] by simp [List.getD_eq_getElem?_getD, ibL]] at hxb hBB
        have iaI : (ia : Int) < (n : Int) := by have := HN.out; omega
        have ibI : (ib : Int) < (n : Int) := by have := HN.out; omega
        generalize l[ia] = xa at *
        generalize l[ib] = xb at *
        have tq : ((mx : Int) == (n1 : Int)) = true := by simp [hlast]
        have hBC : badB c l k = !metK tol ps xa xb := by
          exact hBB (by have := HN1.out; omega)
        have HF : Hid (∀ W', Below wa.heap.size wa W' → Calls Try.prog 84 #[.agg #[.int .i64 tol, sv, .slice (some ⟨eb, eo, none⟩) m ec], .agg #[.int .i64 (ia : Int), .int .i64 (ib : Int), .slice pa np pc], .int .i64 xa, .int .i64 xb] W' fun e w' => e = .returned (.bool (metK tol ps xa xb)) ∧ Below W'.heap.size W' w') := fun W' hb => rmet_any tol sv _ _ _ _ xa xb ps W' (by omega) (by omega) HPT.out (HPA.out.below hb)
        obtain ⟨bm, hbm⟩ : ∃ b, metK tol ps xa xb = b := ⟨_, rfl⟩
        rw [hbm] at HF hBC
        have HBC := Lib.hid hBC
        clear hbm hBC hBB hBD hmx hlast iaL ibL hxa hxb
        have KA : ∀ W' : World, Below wa.heap.size wa W' → (W'.cell? ⟨w.heap.size, 0, none⟩ = some (.int .i64 tol) ∧ W'.cell? ⟨w.heap.size, 1, none⟩ = some (sv) ∧ W'.cell? ⟨w.heap.size, 2, none⟩ = some (.slice (some ⟨eb, eo, none⟩) m ec) ∧ W'.cell? ⟨u, 0, none⟩ = some (.int .i64 (ia : Int)) ∧ W'.cell? ⟨u, 1, none⟩ = some (.int .i64 (ib : Int)) ∧ W'.cell? ⟨u, 2, none⟩ = some (.slice pa np pc) ∧ W'.cell? ⟨lb, lo + ia, none⟩ = some (.int .i64 xa) ∧ W'.cell? ⟨lb, lo + ib, none⟩ = some (.int .i64 xb) ∧ Below wa.heap.size wa W') := fun W' hb => ⟨keepK c0 hb, keepK c1 hb, keepK c2 hb, keepK x0 hb, keepK x1 hb, keepK x2 hb, keepK e0 hb, keepK e1 hb, hb⟩
        refine wp_region_noPanic ?_
        refine wp_region_held_drew (S := (fun W' => W'.cell? ⟨w.heap.size, 0, none⟩ = some (.int .i64 tol) ∧ W'.cell? ⟨w.heap.size, 1, none⟩ = some (sv) ∧ W'.cell? ⟨w.heap.size, 2, none⟩ = some (.slice (some ⟨eb, eo, none⟩) m ec) ∧ W'.cell? ⟨u, 0, none⟩ = some (.int .i64 (ia : Int)) ∧ W'.cell? ⟨u, 1, none⟩ = some (.int .i64 (ib : Int)) ∧ W'.cell? ⟨u, 2, none⟩ = some (.slice pa np pc) ∧ W'.cell? ⟨lb, lo + ia, none⟩ = some (.int .i64 xa) ∧ W'.cell? ⟨lb, lo + ib, none⟩ = some (.int .i64 xb) ∧ Below wa.heap.size wa W')) (by kernel_rfl) ?_ (fun hh0 => ?_)
        · exact KA _ (Below.refl _ _).drew
        refine wpAnyH_take (i := 0) (v := ?_) rfl (by as_aux_lemma => kernel_rfl) (by as_aux_lemma => kernel_rfl) (by as_aux_lemma => kernel_rfl) (fun _ _ _ h => h) (Or.inl ⟨by rfl, ?_⟩) (by assumption) ?_
        rotate_left
        · intro w hSw
          try dsimp only at hSw
          go_simp
          try with_reducible rfl
        try simp only [Act.put, List.getElem_toArray, List.getElem_cons_succ, List.getElem_cons_zero, List.setIfInBounds_toArray, List.set_cons_zero, List.set_cons_succ]
        refine wpAnyH_take (i := 1) (v := ?_) rfl (by as_aux_lemma => kernel_rfl) (by as_aux_lemma => kernel_rfl) (by as_aux_lemma => kernel_rfl) (fun _ _ _ h => h) (Or.inl ⟨by rfl, ?_⟩) (by assumption) ?_
        rotate_left
        · intro w hSw
          try dsimp only at hSw
          go_simp
          try with_reducible rfl
        try simp only [Act.put, List.getElem_toArray, List.getElem_cons_succ, List.getElem_cons_zero, List.setIfInBounds_toArray, List.set_cons_zero, List.set_cons_succ]
        refine wpAnyH_take (i := 2) (v := ?_) rfl (by as_aux_lemma => kernel_rfl) (by as_aux_lemma => kernel_rfl) (by as_aux_lemma => kernel_rfl) (fun _ _ _ h => h) (Or.inl ⟨by rfl, ?_⟩) (by assumption) ?_
        rotate_left
        · intro w hSw
          try dsimp only at hSw
          go_simp
          try with_reducible rfl
        try simp only [Act.put, List.getElem_toArray, List.getElem_cons_succ, List.getElem_cons_zero, List.setIfInBounds_toArray, List.set_cons_zero, List.set_cons_succ]
        refine wpAnyH_take (i := 3) (v := ?_) rfl (by as_aux_lemma => kernel_rfl) (by as_aux_lemma => kernel_rfl) (by as_aux_lemma => kernel_rfl) (fun _ _ _ h => h) (Or.inl ⟨by rfl, ?_⟩) (by assumption) ?_
        rotate_left
        · intro w hSw
          try dsimp only at hSw
          go_simp
          try with_reducible rfl
        try simp only [Act.put, List.getElem_toArray, List.getElem_cons_succ, List.getElem_cons_zero, List.setIfInBounds_toArray, List.set_cons_zero, List.set_cons_succ]
        refine wpAnyH_take (i := 4) (v := ?_) rfl (by as_aux_lemma => kernel_rfl) (by as_aux_lemma => kernel_rfl) (by as_aux_lemma => kernel_rfl) (fun _ _ _ h => h) (Or.inl ⟨by rfl, ?_⟩) (by assumption) ?_
        rotate_left
        · intro w hSw
          try dsimp only at hSw
          go_simp
          try with_reducible rfl
        try simp only [Act.put, List.getElem_toArray, List.getElem_cons_succ, List.getElem_cons_zero, List.setIfInBounds_toArray, List.set_cons_zero, List.set_cons_succ]
        refine wpAnyH_take (i := 5) (v := ?_) rfl (by as_aux_lemma => kernel_rfl) (by as_aux_lemma => kernel_rfl) (by as_aux_lemma => kernel_rfl) (fun _ _ _ h => h) (Or.inl ⟨by rfl, ?_⟩) (by assumption) ?_
        rotate_left
        · intro w hSw
          try dsimp only at hSw
          go_simp
          try with_reducible rfl
        try simp only [Act.put, List.getElem_toArray, List.getElem_cons_succ, List.getElem_cons_zero, List.setIfInBounds_toArray, List.set_cons_zero, List.set_cons_succ]
        refine wpAnyH_take (i := 6) (v := ?_) rfl (by as_aux_lemma => kernel_rfl) (by as_aux_lemma => kernel_rfl) (by as_aux_lemma => kernel_rfl) (fun _ _ _ h => h) (Or.inl ⟨by rfl, ?_⟩) (by assumption) ?_
        rotate_left
        · intro w hSw
          try dsimp only at hSw
          go_simp
          try with_reducible rfl
        try simp only [Act.put, List.getElem_toArray, List.getElem_cons_succ, List.getElem_cons_zero, List.setIfInBounds_toArray, List.set_cons_zero, List.set_cons_succ]
        refine wpAnyH_take (i := 7) (v := ?_) rfl (by as_aux_lemma => kernel_rfl) (by as_aux_lemma => kernel_rfl) (by as_aux_lemma => kernel_rfl) (fun _ _ _ h => h) (Or.inl ⟨by rfl, ?_⟩) (by assumption) ?_
        rotate_left
        · intro w hSw
          try dsimp only at hSw
          go_simp
          try with_reducible rfl
        try simp only [Act.put, List.getElem_toArray, List.getElem_cons_succ, List.getElem_cons_zero, List.setIfInBounds_toArray, List.set_cons_zero, List.set_cons_succ]
        refine wpAnyH_take (i := 8) (v := ?_) rfl (by as_aux_lemma => kernel_rfl) (by as_aux_lemma => kernel_rfl) (by as_aux_lemma => kernel_rfl) (fun _ _ _ h => h) (Or.inl ⟨by rfl, ?_⟩) (by assumption) ?_
        rotate_left
        · intro w hSw
          try dsimp only at hSw
          go_simp
          try with_reducible rfl
        try simp only [Act.put, List.getElem_toArray, List.getElem_cons_succ, List.getElem_cons_zero, List.setIfInBounds_toArray, List.set_cons_zero, List.set_cons_succ]
        refine wpAnyH_take (i := 9) (v := ?_) rfl (by as_aux_lemma => kernel_rfl) (by as_aux_lemma => kernel_rfl) (by as_aux_lemma => kernel_rfl) (fun _ _ _ h => h) (Or.inl ⟨by rfl, ?_⟩) (by assumption) ?_
        rotate_left
        · intro w hSw
          try dsimp only at hSw
          go_simp
          try with_reducible rfl
        try simp only [Act.put, List.getElem_toArray, List.getElem_cons_succ, List.getElem_cons_zero, List.setIfInBounds_toArray, List.set_cons_zero, List.set_cons_succ]
        refine wpAnyH_take (i := 10) (v := ?_) rfl (by as_aux_lemma => kernel_rfl) (by as_aux_lemma => kernel_rfl) (by as_aux_lemma => kernel_rfl) (fun _ _ _ h => h) (Or.inl ⟨by rfl, ?_⟩) (by assumption) ?_
        rotate_left
        · intro w hSw
          try dsimp only at hSw
          go_simp
          try with_reducible rfl
        try simp only [Act.put, List.getElem_toArray, List.getElem_cons_succ, List.getElem_cons_zero, List.setIfInBounds_toArray, List.set_cons_zero, List.set_cons_succ]
        refine wpAnyH_take (i := 11) (v := ?_) rfl (by as_aux_lemma => kernel_rfl) (by as_aux_lemma => kernel_rfl) (by as_aux_lemma => kernel_rfl) (fun _ _ _ h => h) (Or.inl ⟨by rfl, ?_⟩) (by assumption) ?_
        rotate_left
        · intro w hSw
          try dsimp only at hSw
          go_simp
          try with_reducible rfl
        try simp only [Act.put, List.getElem_toArray, List.getElem_cons_succ, List.getElem_cons_zero, List.setIfInBounds_toArray, List.set_cons_zero, List.set_cons_succ]
        refine wpAnyH_take (i := 12) (v := ?_) rfl (by as_aux_lemma => kernel_rfl) (by as_aux_lemma => kernel_rfl) (by as_aux_lemma => kernel_rfl) (fun _ _ _ h => h) (Or.inl ⟨by rfl, ?_⟩) (by assumption) ?_
        rotate_left
        · intro w hSw
          try dsimp only at hSw
          go_simp
          try with_reducible rfl
        try simp only [Act.put, List.getElem_toArray, List.getElem_cons_succ, List.getElem_cons_zero, List.setIfInBounds_toArray, List.set_cons_zero, List.set_cons_succ]
        refine wpAnyH_take (i := 13) (v := ?_) rfl (by as_aux_lemma => kernel_rfl) (by as_aux_lemma => kernel_rfl) (by as_aux_lemma => kernel_rfl) (fun _ _ _ h => h) (Or.inl ⟨by rfl, ?_⟩) (by assumption) ?_
        rotate_left
        · intro w hSw
          try dsimp only at hSw
          go_simp
          try with_reducible rfl
        try simp only [Act.put, List.getElem_toArray, List.getElem_cons_succ, List.getElem_cons_zero, List.setIfInBounds_toArray, List.set_cons_zero, List.set_cons_succ]
        refine wpAnyH_take (i := 14) (v := ?_) rfl (by as_aux_lemma => kernel_rfl) (by as_aux_lemma => kernel_rfl) (by as_aux_lemma => kernel_rfl) (fun _ _ _ h => h) (Or.inl ⟨by rfl, ?_⟩) (by assumption) ?_
        rotate_left
        · intro w hSw
          try dsimp only at hSw
          go_simp
          try with_reducible rfl
        try simp only [Act.put, List.getElem_toArray, List.getElem_cons_succ, List.getElem_cons_zero, List.setIfInBounds_toArray, List.set_cons_zero, List.set_cons_succ]
        refine wpAnyH_take (i := 15) (v := ?_) rfl (by as_aux_lemma => kernel_rfl) (by as_aux_lemma => kernel_rfl) (by as_aux_lemma => kernel_rfl) (fun _ _ _ h => h) (Or.inl ⟨by rfl, ?_⟩) (by assumption) ?_
        rotate_left
        · intro w hSw
          try dsimp only at hSw
          go_simp
          try with_reducible rfl
        try simp only [Act.put, List.getElem_toArray, List.getElem_cons_succ, List.getElem_cons_zero, List.setIfInBounds_toArray, List.set_cons_zero, List.set_cons_succ]
        refine wpAnyH_take (i := 16) (v := ?_) rfl (by as_aux_lemma => kernel_rfl) (by as_aux_lemma => kernel_rfl) (by as_aux_lemma => kernel_rfl) (fun _ _ _ h => h) (Or.inl ⟨by rfl, ?_⟩) (by assumption) ?_
        rotate_left
        · intro w hSw
          try dsimp only at hSw
          go_simp
          try with_reducible rfl
        try simp only [Act.put, List.getElem_toArray, List.getElem_cons_succ, List.getElem_cons_zero, List.setIfInBounds_toArray, List.set_cons_zero, List.set_cons_succ]
        refine wpAnyH_take (i := 17) (v := ?_) rfl (by as_aux_lemma => kernel_rfl) (by as_aux_lemma => kernel_rfl) (by as_aux_lemma => kernel_rfl) (fun _ _ _ h => h) (Or.inl ⟨by rfl, ?_⟩) (by assumption) ?_
        rotate_left
        · intro w hSw
          try dsimp only at hSw
          go_simp
          try with_reducible rfl
        try simp only [Act.put, List.getElem_toArray, List.getElem_cons_succ, List.getElem_cons_zero, List.setIfInBounds_toArray, List.set_cons_zero, List.set_cons_succ]
        refine wpAnyH_take (i := 18) (v := ?_) rfl (by as_aux_lemma => kernel_rfl) (by as_aux_lemma => kernel_rfl) (by as_aux_lemma => kernel_rfl) (fun _ _ _ h => h) (Or.inl ⟨by rfl, ?_⟩) (by assumption) ?_
        rotate_left
        · intro w hSw
          try dsimp only at hSw
          go_simp
          try with_reducible rfl
        try simp only [Act.put, List.getElem_toArray, List.getElem_cons_succ, List.getElem_cons_zero, List.setIfInBounds_toArray, List.set_cons_zero, List.set_cons_succ]
        refine wpAnyH_take (i := 19) (v := ?_) rfl (by as_aux_lemma => kernel_rfl) (by as_aux_lemma => kernel_rfl) (by as_aux_lemma => kernel_rfl) (fun _ _ _ h => h) (Or.inl ⟨by rfl, ?_⟩) (by assumption) ?_
        rotate_left
        · intro w hSw
          try dsimp only at hSw
          go_simp
          try with_reducible rfl
        try simp only [Act.put, List.getElem_toArray, List.getElem_cons_succ, List.getElem_cons_zero, List.setIfInBounds_toArray, List.set_cons_zero, List.set_cons_succ]
        refine wpAnyH_ready (rs := [20]) (by as_aux_lemma => kernel_rfl) (by simp) ?_
        refine AllReadyH.cons rfl (fun K hK => ?_) AllReadyH.nil
        go_simp
        refine (HF.out _ hh0.2.2.2.2.2.2.2.2).mono ?_
        rintro e w8 ⟨rfl, hb8⟩
        refine hK.out _ _ (KA _ (Below.trans hh0.2.2.2.2.2.2.2.2 (Below.mono hb8 (hh0.2.2.2.2.2.2.2.2).size))) (fun hh1 => ?_)
        clear hK K
        try simp only [Act.put, List.getElem_toArray, List.getElem_cons_succ, List.getElem_cons_zero, List.setIfInBounds_toArray, List.set_cons_zero, List.set_cons_succ]
        refine wpAnyH_take (i := 21) (v := ?_) rfl (by as_aux_lemma => kernel_rfl) (by as_aux_lemma => kernel_rfl) (by as_aux_lemma => kernel_rfl) (fun _ _ _ h => h) (Or.inl ⟨by rfl, ?_⟩) (by assumption) ?_
        rotate_left
        · intro w hSw
          try dsimp only at hSw
          go_simp
          try with_reducible rfl
        try simp only [Act.put, List.getElem_toArray, List.getElem_cons_succ, List.getElem_cons_zero, List.setIfInBounds_toArray, List.set_cons_zero, List.set_cons_succ]
        refine wpAnyH_take (i := 22) (v := ?_) rfl (by as_aux_lemma => kernel_rfl) (by as_aux_lemma => kernel_rfl) (by as_aux_lemma => kernel_rfl) (fun _ _ _ h => h) (Or.inl ⟨by rfl, ?_⟩) (by assumption) ?_
        rotate_left
        · intro w hSw
          try dsimp only at hSw
          go_simp
          try with_reducible rfl
        try simp only [Act.put, List.getElem_toArray, List.getElem_cons_succ, List.getElem_cons_zero, List.setIfInBounds_toArray, List.set_cons_zero, List.set_cons_succ]
        refine wpAnyH_done (by as_aux_lemma => kernel_rfl) ?_ _
        refine NoPanic.normal ?_
        have HBZ := Lib.hid (hh1.2.2.2.2.2.2.2.2)
        have HL8 := Lib.hid (HBA.out.trans (HBZ.out.mono HBA.out.size))
        clear KA c0 c1 c2 x0 x1 x2 e0 e1 tq hmi HF
        cases bm
        · have hr := fitsC_no (c := c) (l := l) k (by rw [HM.out]; omega) HBC.out
          rw [HRS.out] at hr
          subst hr
          go_wp2
          go_ret
          exact ⟨rfl, HB.out.trans (HL8.out.mono HB.out.size)⟩
        · have HZ2 : Hid (∀ j, j < k + 1 → badB c l j = false) := fun j hj => by
            by_cases e : j = k
            · subst e; exact HBC.out
            · exact HZ.out j (by omega)
          clear HZ HBC
          go_wp2
          go_roundg (gk - 1)
          case measure => omega
          case rel => exact ⟨k + 1, by omega, by go_num, HZ2, HL8⟩
      · have tq : ((mx : Int) == (n1 : Int)) = false := by simp; omega
        have hBC : badB c l k = false := by
          exact hBD (by have := HN1.out; omega)
        have HZ2 : Hid (∀ j, j < k + 1 → badB c l j = false) := fun j hj => by
          by_cases e : j = k
          · subst e; exact hBC
          · exact HZ.out j (by omega)
        clear HZ hBC hBB hBD hmx hlast
        have KA : ∀ W' : World, Below wa.heap.size wa W' → (W'.cell? ⟨w.heap.size, 0, none⟩ = some (.int .i64 tol) ∧ W'.cell? ⟨w.heap.size, 1, none⟩ = some (sv) ∧ W'.cell? ⟨w.heap.size, 2, none⟩ = some (.slice (some ⟨eb, eo, none⟩) m ec) ∧ W'.cell? ⟨u, 0, none⟩ = some (.int .i64 (ia : Int)) ∧ W'.cell? ⟨u, 1, none⟩ = some (.int .i64 (ib : Int)) ∧ W'.cell? ⟨u, 2, none⟩ = some (.slice pa np pc) ∧ Below wa.heap.size wa W') := fun W' hb => ⟨keepK c0 hb, keepK c1 hb, keepK c2 hb, keepK x0 hb, keepK x1 hb, keepK x2 hb, hb⟩
        refine wp_region_noPanic ?_
        refine wp_region_held_drew (S := (fun W' => W'.cell? ⟨w.heap.size, 0, none⟩ = some (.int .i64 tol) ∧ W'.cell? ⟨w.heap.size, 1, none⟩ = some (sv) ∧ W'.cell? ⟨w.heap.size, 2, none⟩ = some (.slice (some ⟨eb, eo, none⟩) m ec) ∧ W'.cell? ⟨u, 0, none⟩ = some (.int .i64 (ia : Int)) ∧ W'.cell? ⟨u, 1, none⟩ = some (.int .i64 (ib : Int)) ∧ W'.cell? ⟨u, 2, none⟩ = some (.slice pa np pc) ∧ Below wa.heap.size wa W')) (by kernel_rfl) ?_ (fun hh0 => ?_)
        · exact KA _ (Below.refl _ _).drew
        refine wpAnyH_take (i := 0) (v := ?_) rfl (by as_aux_lemma => kernel_rfl) (by as_aux_lemma => kernel_rfl) (by as_aux_lemma => kernel_rfl) (fun _ _ _ h => h) (Or.inl ⟨by rfl, ?_⟩) (by assumption) ?_
        rotate_left
        · intro w hSw
          try dsimp only at hSw
          go_simp
          try with_reducible rfl
        try simp only [Act.put, List.getElem_toArray, List.getElem_cons_succ, List.getElem_cons_zero, List.setIfInBounds_toArray, List.set_cons_zero, List.set_cons_succ]
        refine wpAnyH_take (i := 1) (v := ?_) rfl (by as_aux_lemma => kernel_rfl) (by as_aux_lemma => kernel_rfl) (by as_aux_lemma => kernel_rfl) (fun _ _ _ h => h) (Or.inl ⟨by rfl, ?_⟩) (by assumption) ?_
        rotate_left
        · intro w hSw
          try dsimp only at hSw
          go_simp
          try with_reducible rfl
        try simp only [Act.put, List.getElem_toArray, List.getElem_cons_succ, List.getElem_cons_zero, List.setIfInBounds_toArray, List.set_cons_zero, List.set_cons_succ]
        refine wpAnyH_take (i := 2) (v := ?_) rfl (by as_aux_lemma => kernel_rfl) (by as_aux_lemma => kernel_rfl) (by as_aux_lemma => kernel_rfl) (fun _ _ _ h => h) (Or.inl ⟨by rfl, ?_⟩) (by assumption) ?_
        rotate_left
        · intro w hSw
          try dsimp only at hSw
          go_simp
          try with_reducible rfl
        try simp only [Act.put, List.getElem_toArray, List.getElem_cons_succ, List.getElem_cons_zero, List.setIfInBounds_toArray, List.set_cons_zero, List.set_cons_succ]
        refine wpAnyH_take (i := 3) (v := ?_) rfl (by as_aux_lemma => kernel_rfl) (by as_aux_lemma => kernel_rfl) (by as_aux_lemma => kernel_rfl) (fun _ _ _ h => h) (Or.inl ⟨by rfl, ?_⟩) (by assumption) ?_
        rotate_left
        · intro w hSw
          try dsimp only at hSw
          go_simp
          try with_reducible rfl
        try simp only [Act.put, List.getElem_toArray, List.getElem_cons_succ, List.getElem_cons_zero, List.setIfInBounds_toArray, List.set_cons_zero, List.set_cons_succ]
        refine wpAnyH_take (i := 4) (v := ?_) rfl (by as_aux_lemma => kernel_rfl) (by as_aux_lemma => kernel_rfl) (by as_aux_lemma => kernel_rfl) (fun _ _ _ h => h) (Or.inl ⟨by rfl, ?_⟩) (by assumption) ?_
        rotate_left
        · intro w hSw
          try dsimp only at hSw
          go_simp
          try with_reducible rfl
        try simp only [Act.put, List.getElem_toArray, List.getElem_cons_succ, List.getElem_cons_zero, List.setIfInBounds_toArray, List.set_cons_zero, List.set_cons_succ]
        refine wpAnyH_take (i := 5) (v := ?_) rfl (by as_aux_lemma => kernel_rfl) (by as_aux_lemma => kernel_rfl) (by as_aux_lemma => kernel_rfl) (fun _ _ _ h => h) (Or.inl ⟨by rfl, ?_⟩) (by assumption) ?_
        rotate_left
        · intro w hSw
          try dsimp only at hSw
          go_simp
          try with_reducible rfl
        try simp only [Act.put, List.getElem_toArray, List.getElem_cons_succ, List.getElem_cons_zero, List.setIfInBounds_toArray, List.set_cons_zero, List.set_cons_succ]
        refine wpAnyH_take (i := 6) (v := ?_) rfl (by as_aux_lemma => kernel_rfl) (by as_aux_lemma => kernel_rfl) (by as_aux_lemma => kernel_rfl) (fun _ _ _ h => h) (Or.inl ⟨by rfl, ?_⟩) (by assumption) ?_
        rotate_left
        · intro w hSw
          try dsimp only at hSw
          go_simp
          try with_reducible rfl
        try simp only [Act.put, List.getElem_toArray, List.getElem_cons_succ, List.getElem_cons_zero, List.setIfInBounds_toArray, List.set_cons_zero, List.set_cons_succ]
        refine wpAnyH_take (i := 7) (v := ?_) rfl (by as_aux_lemma => kernel_rfl) (by as_aux_lemma => kernel_rfl) (by as_aux_lemma => kernel_rfl) (fun _ _ _ h => h) (Or.inl ⟨by rfl, ?_⟩) (by assumption) ?_
        rotate_left
        · intro w hSw
          try dsimp only at hSw
          go_simp
          try with_reducible rfl
        try simp only [Act.put, List.getElem_toArray, List.getElem_cons_succ, List.getElem_cons_zero, List.setIfInBounds_toArray, List.set_cons_zero, List.set_cons_succ]
        refine wpAnyH_take (i := 8) (v := undef) rfl (by as_aux_lemma => kernel_rfl) (by as_aux_lemma => kernel_rfl) (by as_aux_lemma => kernel_rfl) (fun _ _ _ h => h) (Or.inr ⟨by rfl, rfl⟩) (by assumption) ?_
        try simp only [Act.put, List.getElem_toArray, List.getElem_cons_succ, List.getElem_cons_zero, List.setIfInBounds_toArray, List.set_cons_zero, List.set_cons_succ]
        refine wpAnyH_take (i := 9) (v := undef) rfl (by as_aux_lemma => kernel_rfl) (by as_aux_lemma => kernel_rfl) (by as_aux_lemma => kernel_rfl) (fun _ _ _ h => h) (Or.inr ⟨by rfl, rfl⟩) (by assumption) ?_
        try simp only [Act.put, List.getElem_toArray, List.getElem_cons_succ, List.getElem_cons_zero, List.setIfInBounds_toArray, List.set_cons_zero, List.set_cons_succ]
        refine wpAnyH_take (i := 10) (v := undef) rfl (by as_aux_lemma => kernel_rfl) (by as_aux_lemma => kernel_rfl) (by as_aux_lemma => kernel_rfl) (fun _ _ _ h => h) (Or.inr ⟨by rfl, rfl⟩) (by assumption) ?_
        try simp only [Act.put, List.getElem_toArray, List.getElem_cons_succ, List.getElem_cons_zero, List.setIfInBounds_toArray, List.set_cons_zero, List.set_cons_succ]
        refine wpAnyH_take (i := 11) (v := undef) rfl (by as_aux_lemma => kernel_rfl) (by as_aux_lemma => kernel_rfl) (by as_aux_lemma => kernel_rfl) (fun _ _ _ h => h) (Or.inr ⟨by rfl, rfl⟩) (by assumption) ?_
        try simp only [Act.put, List.getElem_toArray, List.getElem_cons_succ, List.getElem_cons_zero, List.setIfInBounds_toArray, List.set_cons_zero, List.set_cons_succ]
        refine wpAnyH_take (i := 12) (v := undef) rfl (by as_aux_lemma => kernel_rfl) (by as_aux_lemma => kernel_rfl) (by as_aux_lemma => kernel_rfl) (fun _ _ _ h => h) (Or.inr ⟨by rfl, rfl⟩) (by assumption) ?_
        try simp only [Act.put, List.getElem_toArray, List.getElem_cons_succ, List.getElem_cons_zero, List.setIfInBounds_toArray, List.set_cons_zero, List.set_cons_succ]
        refine wpAnyH_take (i := 13) (v := undef) rfl (by as_aux_lemma => kernel_rfl) (by as_aux_lemma => kernel_rfl) (by as_aux_lemma => kernel_rfl) (fun _ _ _ h => h) (Or.inr ⟨by rfl, rfl⟩) (by assumption) ?_
        try simp only [Act.put, List.getElem_toArray, List.getElem_cons_succ, List.getElem_cons_zero, List.setIfInBounds_toArray, List.set_cons_zero, List.set_cons_succ]
        refine wpAnyH_take (i := 14) (v := undef) rfl (by as_aux_lemma => kernel_rfl) (by as_aux_lemma => kernel_rfl) (by as_aux_lemma => kernel_rfl) (fun _ _ _ h => h) (Or.inr ⟨by rfl, rfl⟩) (by assumption) ?_
        try simp only [Act.put, List.getElem_toArray, List.getElem_cons_succ, List.getElem_cons_zero, List.setIfInBounds_toArray, List.set_cons_zero, List.set_cons_succ]
        refine wpAnyH_take (i := 15) (v := undef) rfl (by as_aux_lemma => kernel_rfl) (by as_aux_lemma => kernel_rfl) (by as_aux_lemma => kernel_rfl) (fun _ _ _ h => h) (Or.inr ⟨by rfl, rfl⟩) (by assumption) ?_
        try simp only [Act.put, List.getElem_toArray, List.getElem_cons_succ, List.getElem_cons_zero, List.setIfInBounds_toArray, List.set_cons_zero, List.set_cons_succ]
        refine wpAnyH_take (i := 16) (v := undef) rfl (by as_aux_lemma => kernel_rfl) (by as_aux_lemma => kernel_rfl) (by as_aux_lemma => kernel_rfl) (fun _ _ _ h => h) (Or.inr ⟨by rfl, rfl⟩) (by assumption) ?_
        try simp only [Act.put, List.getElem_toArray, List.getElem_cons_succ, List.getElem_cons_zero, List.setIfInBounds_toArray, List.set_cons_zero, List.set_cons_succ]
        refine wpAnyH_take (i := 17) (v := undef) rfl (by as_aux_lemma => kernel_rfl) (by as_aux_lemma => kernel_rfl) (by as_aux_lemma => kernel_rfl) (fun _ _ _ h => h) (Or.inr ⟨by rfl, rfl⟩) (by assumption) ?_
        try simp only [Act.put, List.getElem_toArray, List.getElem_cons_succ, List.getElem_cons_zero, List.setIfInBounds_toArray, List.set_cons_zero, List.set_cons_succ]
        refine wpAnyH_take (i := 18) (v := undef) rfl (by as_aux_lemma => kernel_rfl) (by as_aux_lemma => kernel_rfl) (by as_aux_lemma => kernel_rfl) (fun _ _ _ h => h) (Or.inr ⟨by rfl, rfl⟩) (by assumption) ?_
        try simp only [Act.put, List.getElem_toArray, List.getElem_cons_succ, List.getElem_cons_zero, List.setIfInBounds_toArray, List.set_cons_zero, List.set_cons_succ]
        refine wpAnyH_take (i := 19) (v := undef) rfl (by as_aux_lemma => kernel_rfl) (by as_aux_lemma => kernel_rfl) (by as_aux_lemma => kernel_rfl) (fun _ _ _ h => h) (Or.inr ⟨by rfl, rfl⟩) (by assumption) ?_
        try simp only [Act.put, List.getElem_toArray, List.getElem_cons_succ, List.getElem_cons_zero, List.setIfInBounds_toArray, List.set_cons_zero, List.set_cons_succ]
        refine wpAnyH_take (i := 20) (v := undef) rfl (by as_aux_lemma => kernel_rfl) (by as_aux_lemma => kernel_rfl) (by as_aux_lemma => kernel_rfl) (fun _ _ _ h => h) (Or.inr ⟨by rfl, rfl⟩) (by assumption) ?_
        try simp only [Act.put, List.getElem_toArray, List.getElem_cons_succ, List.getElem_cons_zero, List.setIfInBounds_toArray, List.set_cons_zero, List.set_cons_succ]
        refine wpAnyH_take (i := 21) (v := undef) rfl (by as_aux_lemma => kernel_rfl) (by as_aux_lemma => kernel_rfl) (by as_aux_lemma => kernel_rfl) (fun _ _ _ h => h) (Or.inr ⟨by rfl, rfl⟩) (by assumption) ?_
        try simp only [Act.put, List.getElem_toArray, List.getElem_cons_succ, List.getElem_cons_zero, List.setIfInBounds_toArray, List.set_cons_zero, List.set_cons_succ]
        refine wpAnyH_take (i := 22) (v := ?_) rfl (by as_aux_lemma => kernel_rfl) (by as_aux_lemma => kernel_rfl) (by as_aux_lemma => kernel_rfl) (fun _ _ _ h => h) (Or.inl ⟨by rfl, ?_⟩) (by assumption) ?_
        rotate_left
        · intro w hSw
          try dsimp only at hSw
          go_simp
          try with_reducible rfl
        try simp only [Act.put, List.getElem_toArray, List.getElem_cons_succ, List.getElem_cons_zero, List.setIfInBounds_toArray, List.set_cons_zero, List.set_cons_succ]
        refine wpAnyH_done (by as_aux_lemma => kernel_rfl) ?_ _
        refine NoPanic.normal ?_
        have HBZ := Lib.hid (hh0.2.2.2.2.2.2)
        have HL8 := Lib.hid (HBA.out.trans (HBZ.out.mono HBA.out.size))
        clear KA c0 c1 c2 x0 x1 x2 tq hmi
        go_wp2
        go_roundg (gk - 1)
        case measure => omega
        case rel => exact ⟨k + 1, by omega, by go_num, HZ2, HL8⟩
    · have kI : ¬ (k : Int) < (m : Int) := by omega
      obtain rfl : k = m := by omega
      have hr := fitsC_yes (c := c) (l := l) (by rw [HM.out]; exact HZ.out)
      rw [HRS.out] at hr
      subst hr
      clear hlt hk
      go_wp2
      go_ret
      exact ⟨rfl, HB.out.trans (HBB.out.mono HB.out.size)⟩
end Go.Proofs.Ythhlakodnpopmaa
namespace Go.Proofs.Ythhlakodnpopmaa
open Go Go.RowKit Go.Shelf Ed

/-- Whether there are changes that agree, and begin so: so many numbers are left. -/
def someM (c : Cas) : Nat → List Int → Bool
  | 0, _ => true
  | r + 1, l => (List.range (2 * (c.shs.getD l.length default).most + 1).toNat).any fun k => fitsC c (l ++ [(k : Int) - (c.shs.getD l.length default).most]) && someM c r (l ++ [(k : Int) - (c.shs.getD l.length default).most])
theorem own_none (w : World) (e : TypeId) (s : Nat) : (w.alloc (.cells #[] e)).ownsRow w.heap.size e s (.slice (some ⟨w.heap.size, 0, none⟩) 0 0) 0 [] :=
  ⟨by simp, .inr ⟨w.heap.size, 0, _, rfl, Nat.le_refl _, heap_alloc_new w _, Nat.le_refl _, by decide, by simp, by simp⟩⟩
theorem wpl_ints {ops : Array Oper} {rest : List Oper} {o : Oper} {a : Act} {Q : Exit → Act → World → Prop} {w : World} (hgd : o.guard = none) (s x : Operand)
    (ho : o.op = .call { callee := .builtin .append, args := #[s, x], argTypes := #[26, 26] })
    (base n : Nat) (v sv : Value) (xs l : List Int) (hn : n = xs.length) (hs : a.eval s = v) (hx : a.eval x = sv) (hown : w.ownsRow base 3 1 v n (xs.map (Value.int .i64))) (hl : IntsAt w sv l) (hb : base ≤ w.heap.size)
    (hlen : xs.length + l.length ≤ 1000)
    (h : ∀ v' w', w'.ownsRow base 3 1 v' (n + l.length) ((xs ++ l).map (Value.int .i64)) → w.grownBy w' v.ownBlock → wpList Try.prog ops Q rest (a.put o.dst v') w') : wpList Try.prog ops Q (o :: rest) a w := by
  refine wpList_plain hgd fun K hK => ?_
  obtain ⟨v', w', hr, h2, h3⟩ := run_ints w o.type base n v sv xs l hn hown hl hb hlen
  unfold Oper.wp execOp
  simp only [ho, resolve, invoke, builtin, Sem.run_bind, Sem.run_pure, Result.andThen_ok, List.map_toArray, List.map_cons, List.map_nil, hs, hx, hr]
  exact hK _ _ (h v' w' h2 h3)
theorem someM_yes {c : Cas} {r : Nat} {l : List Int} (k : Nat) (hk : k < (2 * (c.shs.getD l.length default).most + 1).toNat) (h1 : fitsC c (l ++ [(k : Int) - (c.shs.getD l.length default).most]) = true) (h2 : someM c r (l ++ [(k : Int) - (c.shs.getD l.length default).most]) = true) : someM c (r + 1) l = true := by
  simp only [someM]
  rw [List.any_eq_true]
  exact ⟨k, List.mem_range.2 hk, by rw [h1, h2]; rfl⟩
theorem someM_no {c : Cas} {r : Nat} {l : List Int} (h : ∀ k, k < (2 * (c.shs.getD l.length default).most + 1).toNat → fitsC c (l ++ [(k : Int) - (c.shs.getD l.length default).most]) = true → someM c r (l ++ [(k : Int) - (c.shs.getD l.length default).most]) = false) : someM c (r + 1) l = false := by
  simp only [someM]
  rw [List.any_eq_false]
  intro k hk
  have h1 := h k (List.mem_range.1 hk)
  cases hf : fitsC c (l ++ [(k : Int) - (c.shs.getD l.length default).most])
  · simp
  · rw [h1 hf]; simp
theorem snoc_bd {l : List Int} {x : Int} (h : ∀ i, -1000 ≤ l.getD i 0 ∧ l.getD i 0 ≤ 1000) (hx : -1000 ≤ x ∧ x ≤ 1000) (i : Nat) : -1000 ≤ (l ++ [x]).getD i 0 ∧ (l ++ [x]).getD i 0 ≤ 1000 := by
  rcases Nat.lt_trichotomy i l.length with hi | hi | hi
  · have := h i
    rw [List.getD_eq_getElem?_getD, List.getElem?_append_left hi, ← List.getD_eq_getElem?_getD]
    exact this
  · subst hi
    rw [List.getD_eq_getElem?_getD, List.getElem?_append_right (Nat.le_refl _)]
    simpa using hx
  · rw [List.getD_eq_getElem?_getD, List.getElem?_eq_none (by simp; omega)]
    simp
set_option maxRecDepth 100000 in
set_option maxHeartbeats 8000000 in
theorem rsome_any (c : Cas) (hv : Valid c) (sv ev : Value) : ∀ (r : Nat) (l : List Int) (lv : Value) (w : World), l.length + r = c.shs.length → (∀ i, -1000 ≤ l.getD i 0 ∧ l.getD i 0 ≤ 1000) → CasAt w c sv ev → IntsAt w lv l →
    Calls Try.prog 97 #[.agg #[.int .i64 c.tol, sv, ev], lv] w fun e w' => e = .returned (.bool (someM c r l)) ∧ Below w.heap.size w w' := by
  intro r
  induction r with
  | zero =>
    intro l lv w hr hbd hC hL
    obtain ⟨sa, n, sc, rfl, hn⟩ : ∃ a n cc, sv = .slice a n cc ∧ n = c.shs.length := by obtain ⟨_, a, cap, h, _⟩ := hC.shs; exact ⟨_, _, _, h, rfl⟩
    obtain ⟨la, q, lc, rfl, hq⟩ : ∃ a n cc, lv = .slice a n cc ∧ n = l.length := by obtain ⟨_, a, cap, h, _⟩ := hL; exact ⟨_, _, _, h, rfl⟩
    have tq : ((q : Int) == (n : Int)) = true := by simp; omega
    show Calls _ _ _ _ fun e w' => e = .returned (.bool true) ∧ _
    clear hbd hC hL hr hn hq
    go_enter Try.func97, Try.ntmps97
    go_wp2
    go_ret
    exact ⟨rfl, by go_grown⟩
  | succ r ih =>
    intro l lv w hr hbd hC hL
    obtain ⟨n, hn⟩ : ∃ n, c.shs.length = n := ⟨_, rfl⟩
    obtain ⟨q, hq⟩ : ∃ q, l.length = q := ⟨_, rfl⟩
    obtain ⟨tol, htol⟩ : ∃ t, c.tol = t := ⟨_, rfl⟩
    have hS := hC.shs
    obtain ⟨_, sa, sc, rfl, _⟩ := id hS
    obtain ⟨_, la, lc, rfl, _⟩ := id hL
    have n5 := hv.n5
    have hqn : q < c.shs.length := by omega
    have hsk := hv.sh _ (List.getElem_mem hqn)
    have hmo : (c.shs.getD l.length default).most = c.shs[q].most := by subst hq; rw [getD_lt _ _ hqn]
    obtain ⟨_, _, m0, m6⟩ := hsk
    obtain ⟨most, hmost⟩ : ∃ z, c.shs[q].most = z := ⟨_, rfl⟩
    rw [hmost] at m0 m6 hmo
    have HMO := Lib.hid hmo
    obtain ⟨K, hK⟩ : ∃ K, (2 * most + 1).toNat = K := ⟨_, rfl⟩
    have HYES : Hid (∀ k, k < K → fitsC c (l ++ [(k : Int) - most]) = true → someM c r (l ++ [(k : Int) - most]) = true → someM c (r + 1) l = true) := fun k hk h1 h2 => someM_yes k (by rw [hmo, hK]; exact hk) (by rw [hmo]; exact h1) (by rw [hmo]; exact h2)
    have HNO : Hid ((∀ k, k < K → fitsC c (l ++ [(k : Int) - most]) = true → someM c r (l ++ [(k : Int) - most]) = false) → someM c (r + 1) l = false) := fun h => someM_no (by rw [hmo, hK]; exact h)
    rw [hq] at hL ⊢
    rw [hn] at hS n5 hC ih ⊢
    obtain ⟨W, hW⟩ : ∃ W, w.alloc (Obj.cells #[.int .i64 tol, .slice sa n sc, ev] 25) = W := ⟨_, rfl⟩
    have hb : Below w.heap.size w W := by rw [← hW]; exact (Below.refl _ _).alloc (Nat.le_refl _) _
    have HR : Hid (W.heap[w.heap.size]? = some (Obj.cells #[.int .i64 tol, .slice sa n sc, ev] 25)) := by show _ = _; rw [← hW]; exact heap_alloc_new w _
    obtain ⟨sb, so, hsa, d0, d1, d2⟩ := hS.get hqn
    have sbl := World.block_lt_of_cell? w _ d2
    subst hsa
    rw [hmost] at d2
    have HC := Lib.hid (hC.below hb)
    have HL := Lib.hid (hL.below hb)
    have HW := Lib.hid hW
    have HB := Lib.hid hb
    have HV := Lib.hid hv
    have HBD := Lib.hid hbd
    have HIH := Lib.hid ih
    have HTOL := Lib.hid htol
    have HQ := Lib.hid hq
    have HRN : Hid (q + 1 + r = n) := by show _ = _; omega
    have q5 : q < 5 := by omega
    have qI : (q : Int) < (n : Int) := by omega
    have tqn : ((q : Int) == (n : Int)) = false := by rw [beq_eq_false_iff_ne]; omega
    obtain ⟨nm, hnm⟩ : ∃ z, -most = z := ⟨_, rfl⟩
    have sneg : IntKind.i64.wrap (-most) = nm := by rw [← hnm, IntKind.wrap_i64] <;> omega
    have HKM : Hid ((K : Int) = 2 * most + 1) := by show _ = _; omega
    have HNM := Lib.hid hnm
    have K13 : K ≤ 13 := by omega
    have nm6 : -6 ≤ nm := by omega
    have nm0 : nm ≤ 0 := by omega
    rw [htol]
    clear hW hb hS hC hL hv hbd ih hmo hmost hK hr hn hq htol d0 d1 hnm
    obtain ⟨res, hres⟩ : ∃ z, someM c (r + 1) l = z := ⟨_, rfl⟩
    rw [hres] at HYES HNO ⊢
    clear hres
    go_enter Try.func97, Try.ntmps97
    go_wp2_with fail
    rw [HW.out]
    clear sneg tqn d2 sbl
    go_loopg [6] K (fun gh i wr => ∃ k : Nat, gh + k = K ∧ i = .int .i64 (nm + (k : Int)) ∧ Hid (∀ j, j < k → fitsC c (l ++ [(j : Int) - most]) = true → someM c r (l ++ [(j : Int) - most]) = false) ∧ Hid (Below W.heap.size W wr))
    case atStart => exact ⟨0, by omega, by simp, fun j hj => absurd hj (Nat.not_lt_zero _), Below.refl _ _⟩
    case round =>
      obtain ⟨k, hk, rfl, HZ, HBB⟩ := hrel
      have hkm := HKM.out
      have hnmm := HNM.out
      obtain ⟨x, hx⟩ : ∃ x, nm + (k : Int) = x := ⟨_, rfl⟩
      rw [hx]
      have hxk : (k : Int) - most = x := by omega
      by_cases hlt : k < K
      · have xI : x ≤ most := by omega
        have x6 : -6 ≤ x := by omega
        have R1 := Lib.hid ((HBB.out.block _ (lt_of_block HR.out)).trans HR.out)
        have C1 := Lib.hid (HC.out.below HBB.out)
        have L1 := Lib.hid (HL.out.below HBB.out)
        have BZ := HBB.out.size
        have HXK := Lib.hid hxk
        have HX := Lib.hid hx
        clear hkm hnmm hxk hx
        have hba : Below wr.heap.size wr (wr.alloc (Obj.cells #[] 3)) := (Below.refl _ _).alloc (Nat.le_refl _) _
        have hown := own_none wr 3 1
        have hsz : wr.heap.size ≤ (wr.alloc (Obj.cells #[] 3)).heap.size := by simp
        have L1a := Lib.hid (L1.out.below hba)
        go_wp2_with (at_builtin; refine wpl_ints rfl _ _ rfl wr.heap.size 0 _ _ [] l rfl rfl rfl hown L1a.out hsz (by have := HQ.out; simp; omega) ?_)
        intro v1 w5 hown5 hg5
        rw [HQ.out] at hown5
        have B5 := Lib.hid (hba.grown hg5 hsz (fun g hg => by have := (hown.lt g hg).1; exact this))
        obtain ⟨va, vc, rfl⟩ := own_slice hown5
        have H5 := Lib.hid hown5
        have hb6 : Below w5.heap.size w5 (w5.alloc (Obj.cells #[.int .i64 x] 3)) := (Below.refl _ _).alloc (Nat.le_refl _) _
        have hs5 : wr.heap.size ≤ w5.heap.size := B5.out.size
        have hs6 : wr.heap.size ≤ (w5.alloc (Obj.cells #[.int .i64 x] 3)).heap.size := by simp; omega
        clear hown5 hg5 hown L1a hba hsz
        go_wp2_with (at_builtin; refine wpl_app1 rfl _ _ rfl wr.heap.size q _ _ w5.heap.size x rfl rfl (H5.out.alloc _) (cellOf (heap_alloc_new w5 (Obj.cells #[.int .i64 x] 3)) 0 _ rfl) (by omega) hs6 ?_)
        intro v2 w7 hown7 hg7 _
        have B7 := Lib.hid ((B5.out.trans (hb6.mono hs5)).grown hg7 hs6 (fun g hg => by have := (H5.out.lt g hg).1; exact this))
        obtain ⟨va2, vc2, rfl⟩ := own_slice hown7
        have hl7 : (l ++ [x]).length = q + 1 := by simp [HQ.out]
        have I7 := Lib.hid (intsAt_own (l := l ++ [x]) (by rw [hl7, List.map_append]; exact hown7) (by omega))
        have R7 := Lib.hid ((B7.out.block _ (lt_of_block R1.out)).trans R1.out)
        have C7 := Lib.hid (C1.out.below B7.out)
        have BB7 := Lib.hid (HBB.out.trans (B7.out.mono BZ))
        have hfit := rfits_any c HV.out _ _ _ (l ++ [x]) w7 C7.out I7.out (by omega) (by omega) (snoc_bd HBD.out (by omega))
        rw [HTOL.out, ] at hfit
        have HF := Lib.hid hfit
        clear hown7 hg7 H5 hb6 hs5 hs6 B5 hl7 hfit R1 C1 L1 B7 HBB BZ
        have c0 := cellOf R7.out 0 _ rfl
        have c1 := cellOf R7.out 1 _ rfl
        have c2 := cellOf R7.out 2 _ rfl
        have cl := lt_of_block R7.out
        go_wp2_with fail
        refine HF.out.mono ?_
        rintro e w8 ⟨rfl, hb8⟩
        have R8 := Lib.hid ((hb8.block _ (lt_of_block R7.out)).trans R7.out)
        have C8 := Lib.hid (C7.out.below hb8)
        have I8 := Lib.hid (I7.out.below hb8)
        have BB8 := Lib.hid (BB7.out.trans (hb8.mono BB7.out.size))
        clear HF R7 C7 I7 BB7 hb8 c0 c1 c2 cl
        have c0 := cellOf R8.out 0 _ rfl
        have c1 := cellOf R8.out 1 _ rfl
        have c2 := cellOf R8.out 2 _ rfl
        have cl := lt_of_block R8.out
        have sx1 : IntKind.i64.wrap (x + 1) = x + 1 := by rw [IntKind.wrap_i64] <;> omega
        cases hfb : fitsC c (l ++ [x])
        · have HZ2 : Hid (∀ j, j < k + 1 → fitsC c (l ++ [(j : Int) - most]) = true → someM c r (l ++ [(j : Int) - most]) = false) := fun j hj h => by
            by_cases e : j = k
            · subst e; rw [HXK.out, hfb] at h; cases h
            · exact HZ.out j (by omega) h
          clear hfb HZ
          go_wp2_with fail
          go_roundg (gk - 1)
          case measure => omega
          case rel => exact ⟨k + 1, by omega, by rw [show nm + ((k + 1 : Nat) : Int) = x + 1 by have := HX.out; omega], HZ2, BB8⟩
        · have HFB := Lib.hid hfb
          have hs := HIH.out (l ++ [x]) _ w8 (by have := HRN.out; rw [List.length_append, HQ.out]; simp; omega) (snoc_bd HBD.out (by omega)) C8.out I8.out
          rw [HTOL.out] at hs
          have HS := Lib.hid hs
          clear hfb hs
          go_wp2_with fail
          refine HS.out.mono ?_
          rintro e w9 ⟨rfl, hb9⟩
          have BB9 := Lib.hid (BB8.out.trans (hb9.mono BB8.out.size))
          clear HS R8 C8 I8 BB8 hb9 c0 c1 c2 cl
          cases hsb : someM c r (l ++ [x])
          · have HZ2 : Hid (∀ j, j < k + 1 → fitsC c (l ++ [(j : Int) - most]) = true → someM c r (l ++ [(j : Int) - most]) = false) := fun j hj h => by
              by_cases e : j = k
              · subst e; rw [HXK.out]; exact hsb
              · exact HZ.out j (by omega) h
            clear hsb HZ
            go_wp2_with fail
            go_roundg (gk - 1)
            case measure => omega
            case rel => exact ⟨k + 1, by omega, by rw [show nm + ((k + 1 : Nat) : Int) = x + 1 by have := HX.out; omega], HZ2, BB9⟩
          · have hr := HYES.out k hlt (by rw [HXK.out]; exact HFB.out) (by rw [HXK.out]; exact hsb)
            subst hr
            clear hsb
            go_wp2_with fail
            go_ret
            exact ⟨rfl, HB.out.trans (BB9.out.mono HB.out.size)⟩
      · have xI : ¬ x ≤ most := by omega
        obtain rfl : k = K := by omega
        have hr := HNO.out HZ.out
        subst hr
        clear hlt hk hkm hnmm hxk hx
        go_wp2_with fail
        go_ret
        exact ⟨rfl, HB.out.trans (HBB.out.mono HB.out.size)⟩
end Go.Proofs.Ythhlakodnpopmaa
namespace Go.Proofs.Ythhlakodnpopmaa
open Go Go.RowKit Go.Shelf Ed

theorem own_apartL {w : World} {b1 b2 s1 s2 n1 n2 : Nat} {v1 v2 : Value} {x1 x2 : List Value} (h1 : w.ownsRow b1 3 s1 v1 n1 x1) (h2 : w.ownsRow b2 26 s2 v2 n2 x2) : v1.ownBlock = none ∨ v1.ownBlock ≠ v2.ownBlock := by
  rcases e : v1.ownBlock with _ | g
  · exact .inl rfl
  · refine .inr fun e2 => ?_
    obtain ⟨c1, q1⟩ := own_tag h1 e
    obtain ⟨c2, q2⟩ := own_tag h2 e2.symm
    rw [q1] at q2
    injection q2 with q
    injection q with _ q
    exact absurd q (by decide)
/-- A row of lists of the call's own, each in a row of its own. -/
structure LsIn (B : Nat) (w : World) (v : Value) (cur : List Value) (L : List (List Int)) : Prop where
  outer : w.ownsRow B 26 1 v L.length cur
  inn : ∀ k (h : k < L.length), ∃ vk, cur[k]? = some vk ∧ w.ownsRow B 3 1 vk L[k].length (L[k].map (Value.int .i64))
theorem LsIn.up {B : Nat} {w w' : World} {v : Value} {cur : List Value} {L : List (List Int)} (h : LsIn B w v cur L) (hb : Below w.heap.size w w') : LsIn B w' v cur L :=
  ⟨own_below h.outer hb, fun k hk => by
    obtain ⟨vk, h1, h2⟩ := h.inn k hk
    exact ⟨vk, h1, own_below h2 hb⟩⟩
theorem LsIn.base {B B' : Nat} {w : World} {v : Value} {cur : List Value} {L : List (List Int)} (h : LsIn B w v cur L) (hB : B' ≤ B) : LsIn B' w v cur L :=
  ⟨own_base h.outer hB, fun k hk => by
    obtain ⟨vk, h1, h2⟩ := h.inn k hk
    exact ⟨vk, h1, own_base h2 hB⟩⟩
theorem LsIn.nil (B : Nat) (w : World) : LsIn B w (.slice none 0 0) [] [] := ⟨World.ownsRow_nil _ _ _ _, fun k hk => by simp at hk⟩
theorem LsIn.ones {B : Nat} {w : World} {v : Value} {cur : List Value} {L : List (List Int)} (h : LsIn B w v cur L) : ∀ u ∈ cur, u.oneCell' = true := by
  intro u hu
  obtain ⟨k, hk, rfl⟩ := List.mem_iff_getElem.1 hu
  have hkL : k < L.length := by have := h.outer.1; omega
  obtain ⟨vk, h1, h2⟩ := h.inn k hkL
  obtain ⟨sa, sc, rfl⟩ := own_slice h2
  rw [List.getElem?_eq_getElem hk] at h1
  injection h1 with h1
  rw [h1]
  rfl
theorem LsIn.one {w : World} {B : Nat} (hB : B ≤ w.heap.size) {bv : Value} {l : List Int} (h : w.ownsRow B 3 1 bv l.length (l.map (Value.int .i64))) : LsIn B (w.alloc (.cells #[bv] 26)) (.slice (some ⟨w.heap.size, 0, none⟩) 1 1) [bv] [l] := by
  refine ⟨⟨rfl, .inr ⟨w.heap.size, 1, _, rfl, hB, heap_alloc_new w _, Nat.le_refl _, by decide, rfl, rfl⟩⟩, fun k hk => ?_⟩
  obtain rfl : k = 0 := by simpa using hk
  exact ⟨_, rfl, h.alloc _⟩
theorem LsIn.more {B : Nat} {w w' : World} {v u v' : Value} {cur cur3 : List Value} {L L3 : List (List Int)} (h : LsIn B w v cur L) (h3 : LsIn B w u cur3 L3) (hg : w.grownBy w' v.ownBlock) (ho : w'.ownsRow B 26 1 v' (L.length + L3.length) (cur ++ cur3)) :
    LsIn B w' v' (cur ++ cur3) (L ++ L3) := by
  have hcl : cur.length = L.length := by have := h.outer.1; omega
  refine ⟨by rw [List.length_append]; exact ho, fun k hk => ?_⟩
  by_cases e : k < L.length
  · obtain ⟨vk, q1, q2⟩ := h.inn k e
    rw [List.getElem_append_left e]
    exact ⟨vk, by rw [List.getElem?_append_left (by omega)]; exact q1, q2.kept hg (own_apartL q2 h.outer)⟩
  · have hk3 : k - L.length < L3.length := by simp at hk; omega
    obtain ⟨vk, q1, q2⟩ := h3.inn (k - L.length) hk3
    rw [List.getElem_append_right (by omega)]
    exact ⟨vk, by rw [List.getElem?_append_right (by omega), hcl]; exact q1, q2.kept hg (own_apartL q2 h.outer)⟩
theorem LsIn.cell {B : Nat} {w : World} {v : Value} {cur : List Value} {L : List (List Int)} (h : LsIn B w v cur L) {k : Nat} (hk : k < L.length) :
    ∃ (g c : Nat) (sa : Option Addr) (sc : Nat), v = .slice (some ⟨g, 0, none⟩) L.length c ∧ w.cell? ⟨g, k, none⟩ = some (.slice sa L[k].length sc) ∧ w.ownsRow B 3 1 (.slice sa L[k].length sc) L[k].length (L[k].map (Value.int .i64)) := by
  have h' := h.outer
  obtain ⟨vk, h1, h2⟩ := h.inn k hk
  rcases h'.2 with ⟨_, e⟩ | ⟨g, cap, cu, rfl, _⟩
  · omega
  · obtain ⟨sa, sc, rfl⟩ := own_slice h2
    exact ⟨g, cap, sa, sc, rfl, (h'.cellAt k (by omega)).trans h1, h2⟩
theorem listInfo : (Try.prog.info? 26).map (fun i => (i.zero, i.size, i.bytes)) = some (some (.slice none 0 0), 1, 24) := by kernel_rfl
theorem wpl_lists {ops : Array Oper} {rest : List Oper} {o : Oper} {a : Act} {Q : Exit → Act → World → Prop} {w : World} (hgd : o.guard = none) (s x : Operand)
    (ho : o.op = .call { callee := .builtin .append, args := #[s, x], argTypes := #[117, 117] })
    (B : Nat) (v u : Value) (cur cur3 : List Value) (L L3 : List (List Int)) (hs : a.eval s = v) (hx : a.eval x = u) (h1 : LsIn B w v cur L) (h3 : LsIn B w u cur3 L3) (hb : B ≤ w.heap.size) (hlen : L.length + L3.length ≤ 1000000000)
    (h : ∀ v' w', LsIn B w' v' (cur ++ cur3) (L ++ L3) → w.grownBy w' v.ownBlock → wpList Try.prog ops Q rest (a.put o.dst v') w') : wpList Try.prog ops Q (o :: rest) a w := by
  refine wpList_plain hgd fun K hK => ?_
  obtain ⟨i0, hi⟩ := info_of_underlying Try.underlying26
  have HI : i0.zero = some (.slice none 0 0) ∧ i0.size = 1 ∧ i0.bytes = 24 := by
    have h := listInfo
    rw [hi] at h
    simp at h
    exact h
  have hown := h1.outer
  have main : ∃ v' w', (Builtin.append_ #[117, 117] o.type #[v, u]).run Try.prog w = .ok v' w' ∧ LsIn B w' v' (cur ++ cur3) (L ++ L3) ∧ w.grownBy w' v.ownBlock := by
    rcases h3.outer.2 with ⟨hu, h0⟩ | ⟨g, cap, cu, hu, _⟩
    · have hL3 : L3 = [] := List.length_eq_zero_iff.1 h0
      subst hL3 hu
      have hc3 : cur3 = [] := by have := h3.outer.1; simpa using this
      subst hc3
      have hrun : (Builtin.append_ #[117, 117] o.type #[v, .slice none 0 0]).run Try.prog w = .ok v w := by
        rcases hown.2 with ⟨rfl, h0⟩ | ⟨g, cap, cur, rfl, _, _, h1, _⟩
        · simp [Builtin.append_, run_underlying Try.underlying117, sizeOf, typeInfo, hi, Builtin.lenOf, Builtin.firstCells]
        · simp [Builtin.append_, run_underlying Try.underlying117, sizeOf, typeInfo, hi, Builtin.lenOf, Builtin.firstCells, h1, storeCells]
      exact ⟨v, w, hrun, by rw [List.append_nil, List.append_nil]; exact h1, grown_refl w _⟩
    · subst hu
      have hcl : cur3.length = L3.length := by have := h3.outer.1; omega
      have hcells : ∀ j z, cur3[j]? = some z → w.cell? ((⟨g, 0, none⟩ : Addr).add j) = some z := by
        intro j z hz
        have hj : j < cur3.length := (List.getElem?_eq_some_iff.1 hz).1
        rw [Go.WideShapes.add_plain, Nat.zero_add, h3.outer.cellAt j (by omega)]
        exact hz
      obtain ⟨v', w', hr, h2, h4, _, _⟩ := run_append_own_at (P := Try.prog) w B 117 o.type 26 i0 _ 1 24 Try.underlying117 hi HI.1 HI.2.1 HI.2.2 rfl (by decide) v L.length cur hown ⟨g, 0, none⟩ L3.length cap cur3 (by omega) hcells
        h3.ones (by unfold maxLen; omega) (by omega) hb
      exact ⟨v', w', hr, h1.more h3 h4 h2, h4⟩
  obtain ⟨v', w', hr, h2, h4⟩ := main
  unfold Oper.wp execOp
  simp only [ho, resolve, invoke, builtin, Sem.run_bind, Sem.run_pure, Result.andThen_ok, List.map_toArray, List.map_cons, List.map_nil, hs, hx, hr]
  exact hK _ _ (h v' w' h2 h4)
/-- All ascending lists of so many numbers below n that begin so, in order. -/
def fromL (l : List Int) : Nat := if l = [] then 0 else (l.getD (l.length - 1) 0 + 1).toNat
def lstM (n : Nat) : Nat → List Int → List (List Int)
  | 0, l => [l]
  | m + 1, l => (List.range (n - fromL l)).flatMap fun d => lstM n m (l ++ [((fromL l + d : Nat) : Int)])
def lstQ (n m : Nat) (l : List Int) (k : Nat) : List (List Int) := (List.range k).flatMap fun d => lstM n m (l ++ [((fromL l + d : Nat) : Int)])
theorem lstQ_succ (n m : Nat) (l : List Int) (k : Nat) : lstQ n m l (k + 1) = lstQ n m l k ++ lstM n m (l ++ [((fromL l + k : Nat) : Int)]) := by
  unfold lstQ
  rw [List.range_succ, List.flatMap_append]
  simp
theorem lstM_len (n : Nat) (hn : n ≤ 8) : ∀ m l, (lstM n m l).length ≤ 8 ^ m := by
  intro m
  induction m with
  | zero => intro l; simp [lstM]
  | succ m ih =>
    intro l
    have key : ∀ k, (lstQ n m l k).length ≤ k * 8 ^ m := by
      intro k
      induction k with
      | zero => simp [lstQ]
      | succ k ihk =>
        rw [lstQ_succ, List.length_append, Nat.succ_mul]
        have := ih (l ++ [((fromL l + k : Nat) : Int)])
        omega
    have h1 := key (n - fromL l)
    have h2 : (n - fromL l) * 8 ^ m ≤ 8 * 8 ^ m := Nat.mul_le_mul_right _ (by omega)
    rw [Nat.pow_succ, Nat.mul_comm]
    exact Nat.le_trans h1 h2
theorem lstQ_len (n : Nat) (hn : n ≤ 8) (m : Nat) (hm : m ≤ 8) (l : List Int) (k : Nat) (hk : k ≤ 8) : (lstQ n m l k).length ≤ 150000000 := by
  have key : ∀ k, (lstQ n m l k).length ≤ k * 8 ^ m := by
    intro k
    induction k with
    | zero => simp [lstQ]
    | succ k ihk =>
      rw [lstQ_succ, List.length_append, Nat.succ_mul]
      have := lstM_len n hn m (l ++ [((fromL l + k : Nat) : Int)])
      omega
  have h1 := key k
  have h2 : 8 ^ m ≤ 8 ^ 8 := Nat.pow_le_pow_right (by decide) hm
  have h3 : k * 8 ^ m ≤ 8 * 8 ^ 8 := Nat.mul_le_mul hk h2
  omega
set_option maxRecDepth 100000 in
set_option maxHeartbeats 8000000 in
theorem rlists_any (n : Nat) (hn : n ≤ 8) : ∀ (m : Nat) (l : List Int) (bv : Value) (w : World) (B : Nat), m ≤ 8 → B ≤ w.heap.size → w.ownsRow B 3 1 bv l.length (l.map (Value.int .i64)) → l.length + m ≤ 16 → (∀ x, x ∈ l → 0 ≤ x ∧ x < 8) →
    Calls Try.prog 73 #[bv, .int .i64 (m : Int), .int .i64 (n : Int)] w fun e w' => ∃ v cur, e = .returned v ∧ LsIn B w' v cur (lstM n m l) ∧ Below w.heap.size w w' := by
  intro m
  induction m with
  | zero =>
    intro l bv w B _ hB hown _ _
    have hb : Below w.heap.size w (w.alloc (.cells #[bv] 26)) := (Below.refl _ _).alloc (Nat.le_refl _) _
    have HL := Lib.hid (LsIn.one hB hown)
    have HB := Lib.hid hb
    obtain ⟨sa, sc, rfl⟩ := own_slice hown
    clear hown hb
    go_enter Try.func73, Try.ntmps73
    go_wp2
    go_ret
    exact ⟨_, _, rfl, HL.out, HB.out⟩
  | succ m ih =>
    intro l bv w B hm hB hown hlm hx
    obtain ⟨q, hq⟩ : ∃ q, l.length = q := ⟨_, rfl⟩
    obtain ⟨sa, sc, rfl⟩ := own_slice hown
    have HO := Lib.hid hown
    have HXS := Lib.hid hx
    have HIH := Lib.hid ih
    have HQ := Lib.hid hq
    have HI0 := Lib.hid (intsAt_own (l := l) hown (by omega))
    obtain ⟨f, hf⟩ : ∃ f, fromL l = f := ⟨_, rfl⟩
    have HFF := Lib.hid hf
    have hf8 : f ≤ 8 := by
      rw [← hf]
      unfold fromL
      split
      · omega
      · rename_i hne
        have hlp : 0 < l.length := List.length_pos_iff.2 hne
        have hmem : l.getD (l.length - 1) 0 ∈ l := by rw [List.getD_eq_getElem?_getD, List.getElem?_eq_getElem (by omega)]; exact List.getElem_mem _
        have := hx _ hmem
        omega
    have tz : (((m + 1 : Nat) : Int) == 0) = false := by rw [beq_eq_false_iff_ne]; omega
    have sm : IntKind.i64.wrap (((m + 1 : Nat) : Int) - 1) = (m : Int) := by rw [IntKind.wrap_i64] <;> omega
    obtain ⟨m1, hm1⟩ : ∃ z : Int, ((m + 1 : Nat) : Int) = z := ⟨_, rfl⟩
    rw [hm1] at tz sm ⊢
    rw [hq] at HO HI0 hlm ⊢
    obtain ⟨N, hN⟩ : ∃ N, n - f = N := ⟨_, rfl⟩
    have HRES : Hid (lstM n (m + 1) l = lstQ n m l N) := by show _ = _; rw [← hN, ← hf]; rfl
    rw [HRES.out]
    have q16 : q ≤ 16 := by omega
    have nI : (n : Int) ≤ 8 := by omega
    have m8 : m ≤ 8 := by omega
    clear hown hx ih hf hm1 hq
    have loop : ∀ (a : Act), True := fun _ => trivial
    clear loop
    go_enter Try.func73, Try.ntmps73
    by_cases h0 : q = 0
    · have tq : ¬ (0 : Int) < (q : Int) := by omega
      have f0 : f = 0 := by
        rw [← HFF.out]
        unfold fromL
        rw [if_pos (List.length_eq_zero_iff.1 (by rw [HQ.out]; exact h0))]
      subst f0
      have H00 := Lib.hid h0
      have tq2 : decide (0 < q) = false := by simp; omega
      clear tq h0
      go_wp2_with fail
      clear tz tq2
      have own0 : Hid (LsIn w.heap.size w (.slice none 0 0) [] (lstQ n m l 0)) := LsIn.nil _ _
      go_loopg [8, 9] N (fun gh ov i wr => ∃ (k : Nat) (na : Option Addr) (ln nc : Nat) (cur : List Value), gh + k = N ∧ i = .int .i64 ((0 + k : Nat) : Int) ∧ ov = .slice na ln nc ∧ Hid (LsIn w.heap.size wr (.slice na ln nc) cur (lstQ n m l k)) ∧ Hid (Below w.heap.size w wr))
      case atStart => exact ⟨0, none, 0, 0, [], by omega, by simp, rfl, own0, Below.refl _ _⟩
      case round =>
        clear own0
        obtain ⟨k, na, ln, nc, cur, hk, rfl, rfl, HLS, HBB⟩ := hrel
        obtain ⟨X, hX⟩ : ∃ z, 0 + k = z := ⟨_, rfl⟩
        rw [hX]
        have BZ := HBB.out.size
        by_cases hlt : k < N
        · have xI : (X : Int) < (n : Int) := by omega
          have xn : X < n := by omega
          have sx1 : IntKind.i64.wrap ((X : Int) + 1) = ((X + 1 : Nat) : Int) := by rw [IntKind.wrap_i64] <;> omega
          have HX := Lib.hid hX
          have hba : Below wr.heap.size wr (wr.alloc (Obj.cells #[] 3)) := (Below.refl _ _).alloc (Nat.le_refl _) _
          have hown := own_none wr 3 1
          have hsz : wr.heap.size ≤ (wr.alloc (Obj.cells #[] 3)).heap.size := by simp
          have L1a := Lib.hid ((HI0.out.below HBB.out).below hba)
          clear hX
          go_wp2_with (at_builtin; refine wpl_ints rfl _ _ rfl wr.heap.size 0 _ _ [] l rfl rfl rfl hown L1a.out hsz (by have := HQ.out; simp; omega) ?_)
          intro v1 w5 hown5 hg5
          rw [HQ.out] at hown5
          have B5 := Lib.hid (hba.grown hg5 hsz (fun g hg => by have := (hown.lt g hg).1; exact this))
          obtain ⟨va, vc, rfl⟩ := own_slice hown5
          have H5 := Lib.hid hown5
          have hb6 : Below w5.heap.size w5 (w5.alloc (Obj.cells #[.int .i64 (X : Int)] 3)) := (Below.refl _ _).alloc (Nat.le_refl _) _
          have hs5 : wr.heap.size ≤ w5.heap.size := B5.out.size
          have hs6 : wr.heap.size ≤ (w5.alloc (Obj.cells #[.int .i64 (X : Int)] 3)).heap.size := by simp; omega
          clear hown5 hg5 hown L1a hba hsz
          go_wp2_with (at_builtin; refine wpl_app1 rfl _ _ rfl wr.heap.size q _ _ w5.heap.size (X : Int) rfl rfl (H5.out.alloc _) (cellOf (heap_alloc_new w5 (Obj.cells #[.int .i64 (X : Int)] 3)) 0 _ rfl) (by omega) hs6 ?_)
          intro v2 w7 hown7 hg7 _
          have B7 := Lib.hid ((B5.out.trans (hb6.mono hs5)).grown hg7 hs6 (fun g hg => by have := (H5.out.lt g hg).1; exact this))
          obtain ⟨va2, vc2, rfl⟩ := own_slice hown7
          have hl7 : (l ++ [(X : Int)]).length = q + 1 := by simp [HQ.out]
          have hcall := HIH.out (l ++ [(X : Int)]) _ w7 wr.heap.size m8 B7.out.size (by rw [hl7, List.map_append]; exact hown7) (by rw [hl7]; omega) (fun x hx => by
            rcases List.mem_append.1 hx with h | h
            · exact HXS.out x h
            · simp at h; omega)
          have HCL := Lib.hid hcall
          clear hown7 hg7 H5 hb6 hs5 hs6 B5 hl7 hcall
          go_wp2_with fail
          refine HCL.out.mono ?_
          rintro e w9 ⟨v3, cur3, rfl, h3, hb9⟩
          have B9 := Lib.hid (B7.out.trans (hb9.mono B7.out.size))
          obtain ⟨ua, uc, rfl⟩ := own_slice h3.outer
          have H3 := Lib.hid (h3.base BZ)
          have H1 := Lib.hid (HLS.out.up B9.out)
          have BB9 := Lib.hid (HBB.out.trans (B9.out.mono BZ))
          have hln := lstQ_len n hn m m8 l k (by omega)
          have hlm2 := lstM_len n hn m (l ++ [(X : Int)])
          have hp8 : 8 ^ m ≤ 8 ^ 8 := Nat.pow_le_pow_right (by decide) m8
          have hle9 : (lstQ n m l k).length + (lstM n m (l ++ [(X : Int)])).length ≤ 1000000000 := by omega
          have hs9 : w.heap.size ≤ w9.heap.size := BB9.out.size
          clear h3 hb9 HCL B7 B9 HLS HBB hln hlm2 hp8
          go_wp2_with (at_builtin; go_must (refine wpl_lists rfl _ _ rfl w.heap.size _ _ cur cur3 (lstQ n m l k) (lstM n m (l ++ [(X : Int)])) rfl rfl H1.out H3.out hs9 hle9 ?_))
          intro v4 w10 h4 hg4
          have BB10 := Lib.hid (BB9.out.grown hg4 hs9 (fun g hg => (H1.out.outer.lt g hg).1))
          obtain ⟨na4, nc4, rfl⟩ := own_slice h4.outer
          have H4 : Hid (LsIn w.heap.size w10 (.slice na4 (lstQ n m l k ++ lstM n m (l ++ [(X : Int)])).length nc4) (cur ++ cur3) (lstQ n m l (k + 1))) := by
            show LsIn _ _ _ _ _
            rw [lstQ_succ, HFF.out, HX.out]
            exact h4
          generalize (lstQ n m l k ++ lstM n m (l ++ [(X : Int)])).length = l4 at *
          clear h4 hg4 H1 H3 hle9 hs9 BB9
          go_wp2
          go_roundg (gk - 1)
          case measure => omega
          case rel => exact ⟨k + 1, na4, l4, nc4, _, by omega, by rw [show 0 + (k + 1) = X + 1 by have := HX.out; omega]; go_num, rfl, H4, BB10⟩
        · have xI : ¬ (X : Int) < (n : Int) := by omega
          obtain rfl : k = N := by omega
          clear hlt hk hX
          go_wp2
          go_ret
          first | exact ⟨_, _, rfl, HLS.out.base hB, HBB.out⟩ | exact ⟨_, rfl, ⟨_, HLS.out.base hB⟩, HBB.out⟩
    · have tq : (0 : Int) < (q : Int) := by omega
      obtain ⟨q1, hq1⟩ : ∃ z : Nat, q = z + 1 := ⟨q - 1, by omega⟩
      have hq1l : q1 < l.length := by rw [HQ.out]; omega
      obtain ⟨lb, lo, rfl, e0⟩ := HI0.out.get hq1l
      have hxl := HXS.out _ (List.getElem_mem hq1l)
      have hfx : ((f : Nat) : Int) = l[q1] + 1 := by
        rw [← HFF.out]
        unfold fromL
        rw [if_neg (fun e => h0 (by rw [← HQ.out, e]; rfl)), HQ.out, show q - 1 = q1 by omega, show l.getD q1 0 = l[q1] by simp [List.getD_eq_getElem?_getD, hq1l]]
        omega
      generalize l[q1] = y at *
      have sq : IntKind.i64.wrap ((q : Int) - 1) = (q1 : Int) := by rw [IntKind.wrap_i64] <;> omega
      have sy : IntKind.i64.wrap (y + 1) = (f : Int) := by rw [IntKind.wrap_i64] <;> omega
      have q1I : (q1 : Int) < (q : Int) := by omega
      clear hfx hxl hq1l hq1
      have tq2 : decide (0 < q) = true := by simp; omega
      go_wp2_with fail
      have H00 := Lib.hid h0
      clear tz tq tq2 sq sy q1I e0 h0
      have own0 : Hid (LsIn w.heap.size w (.slice none 0 0) [] (lstQ n m l 0)) := LsIn.nil _ _
      go_loopg [8, 9] N (fun gh ov i wr => ∃ (k : Nat) (na : Option Addr) (ln nc : Nat) (cur : List Value), gh + k = N ∧ i = .int .i64 ((f + k : Nat) : Int) ∧ ov = .slice na ln nc ∧ Hid (LsIn w.heap.size wr (.slice na ln nc) cur (lstQ n m l k)) ∧ Hid (Below w.heap.size w wr))
      case atStart => exact ⟨0, none, 0, 0, [], by omega, by simp, rfl, own0, Below.refl _ _⟩
      case round =>
        clear own0
        obtain ⟨k, na, ln, nc, cur, hk, rfl, rfl, HLS, HBB⟩ := hrel
        obtain ⟨X, hX⟩ : ∃ z, f + k = z := ⟨_, rfl⟩
        rw [hX]
        have BZ := HBB.out.size
        by_cases hlt : k < N
        · have xI : (X : Int) < (n : Int) := by omega
          have xn : X < n := by omega
          have sx1 : IntKind.i64.wrap ((X : Int) + 1) = ((X + 1 : Nat) : Int) := by rw [IntKind.wrap_i64] <;> omega
          have HX := Lib.hid hX
          have hba : Below wr.heap.size wr (wr.alloc (Obj.cells #[] 3)) := (Below.refl _ _).alloc (Nat.le_refl _) _
          have hown := own_none wr 3 1
          have hsz : wr.heap.size ≤ (wr.alloc (Obj.cells #[] 3)).heap.size := by simp
          have L1a := Lib.hid ((HI0.out.below HBB.out).below hba)
          clear hX
          go_wp2_with (at_builtin; refine wpl_ints rfl _ _ rfl wr.heap.size 0 _ _ [] l rfl rfl rfl hown L1a.out hsz (by have := HQ.out; simp; omega) ?_)
          intro v1 w5 hown5 hg5
          rw [HQ.out] at hown5
          have B5 := Lib.hid (hba.grown hg5 hsz (fun g hg => by have := (hown.lt g hg).1; exact this))
          obtain ⟨va, vc, rfl⟩ := own_slice hown5
          have H5 := Lib.hid hown5
          have hb6 : Below w5.heap.size w5 (w5.alloc (Obj.cells #[.int .i64 (X : Int)] 3)) := (Below.refl _ _).alloc (Nat.le_refl _) _
          have hs5 : wr.heap.size ≤ w5.heap.size := B5.out.size
          have hs6 : wr.heap.size ≤ (w5.alloc (Obj.cells #[.int .i64 (X : Int)] 3)).heap.size := by simp; omega
          clear hown5 hg5 hown L1a hba hsz
          go_wp2_with (at_builtin; refine wpl_app1 rfl _ _ rfl wr.heap.size q _ _ w5.heap.size (X : Int) rfl rfl (H5.out.alloc _) (cellOf (heap_alloc_new w5 (Obj.cells #[.int .i64 (X : Int)] 3)) 0 _ rfl) (by omega) hs6 ?_)
          intro v2 w7 hown7 hg7 _
          have B7 := Lib.hid ((B5.out.trans (hb6.mono hs5)).grown hg7 hs6 (fun g hg => by have := (H5.out.lt g hg).1; exact this))
          obtain ⟨va2, vc2, rfl⟩ := own_slice hown7
          have hl7 : (l ++ [(X : Int)]).length = q + 1 := by simp [HQ.out]
          have hcall := HIH.out (l ++ [(X : Int)]) _ w7 wr.heap.size m8 B7.out.size (by rw [hl7, List.map_append]; exact hown7) (by rw [hl7]; omega) (fun x hx => by
            rcases List.mem_append.1 hx with h | h
            · exact HXS.out x h
            · simp at h; omega)
          have HCL := Lib.hid hcall
          clear hown7 hg7 H5 hb6 hs5 hs6 B5 hl7 hcall
          go_wp2_with fail
          refine HCL.out.mono ?_
          rintro e w9 ⟨v3, cur3, rfl, h3, hb9⟩
          have B9 := Lib.hid (B7.out.trans (hb9.mono B7.out.size))
          obtain ⟨ua, uc, rfl⟩ := own_slice h3.outer
          have H3 := Lib.hid (h3.base BZ)
          have H1 := Lib.hid (HLS.out.up B9.out)
          have BB9 := Lib.hid (HBB.out.trans (B9.out.mono BZ))
          have hln := lstQ_len n hn m m8 l k (by omega)
          have hlm2 := lstM_len n hn m (l ++ [(X : Int)])
          have hp8 : 8 ^ m ≤ 8 ^ 8 := Nat.pow_le_pow_right (by decide) m8
          have hle9 : (lstQ n m l k).length + (lstM n m (l ++ [(X : Int)])).length ≤ 1000000000 := by omega
          have hs9 : w.heap.size ≤ w9.heap.size := BB9.out.size
          clear h3 hb9 HCL B7 B9 HLS HBB hln hlm2 hp8
          go_wp2_with (at_builtin; go_must (refine wpl_lists rfl _ _ rfl w.heap.size _ _ cur cur3 (lstQ n m l k) (lstM n m (l ++ [(X : Int)])) rfl rfl H1.out H3.out hs9 hle9 ?_))
          intro v4 w10 h4 hg4
          have BB10 := Lib.hid (BB9.out.grown hg4 hs9 (fun g hg => (H1.out.outer.lt g hg).1))
          obtain ⟨na4, nc4, rfl⟩ := own_slice h4.outer
          have H4 : Hid (LsIn w.heap.size w10 (.slice na4 (lstQ n m l k ++ lstM n m (l ++ [(X : Int)])).length nc4) (cur ++ cur3) (lstQ n m l (k + 1))) := by
            show LsIn _ _ _ _ _
            rw [lstQ_succ, HFF.out, HX.out]
            exact h4
          generalize (lstQ n m l k ++ lstM n m (l ++ [(X : Int)])).length = l4 at *
          clear h4 hg4 H1 H3 hle9 hs9 BB9
          go_wp2
          go_roundg (gk - 1)
          case measure => omega
          case rel => exact ⟨k + 1, na4, l4, nc4, _, by omega, by rw [show f + (k + 1) = X + 1 by have := HX.out; omega]; go_num, rfl, H4, BB10⟩
        · have xI : ¬ (X : Int) < (n : Int) := by omega
          obtain rfl : k = N := by omega
          clear hlt hk hX
          go_wp2
          go_ret
          first | exact ⟨_, _, rfl, HLS.out.base hB, HBB.out⟩ | exact ⟨_, rfl, ⟨_, HLS.out.base hB⟩, HBB.out⟩
end Go.Proofs.Ythhlakodnpopmaa
namespace Go.Proofs.Ythhlakodnpopmaa
open Go Go.RowKit Go.Shelf Ed

/-! ## some -/
theorem odd_pre {c : Cas} {l t : List Int} {i : Nat} (h : (c.eds.getD i default).a.toNat < l.length ∧ (c.eds.getD i default).b.toNat < l.length) : oddB c (l ++ t) i = oddB c l i := by
  have e : ∀ j, j < l.length → (l ++ t).getD j 0 = l.getD j 0 := fun j hj => by
    rw [List.getD_eq_getElem?_getD, List.getD_eq_getElem?_getD, List.getElem?_append_left hj]
  unfold oddB
  rw [e _ h.1, e _ h.2]
theorem fits_iff (c : Cas) (l : List Int) : fitsC c l = true ↔ ∀ i, i < c.eds.length → max (c.eds.getD i default).a.toNat (c.eds.getD i default).b.toNat + 1 = l.length → oddB c l i = false := by
  unfold fitsC
  rw [List.all_eq_true]
  constructor
  · intro h i hi hm
    have h1 := h i (List.mem_range.2 hi)
    unfold badB at h1
    rw [decide_eq_true hm, Bool.true_and] at h1
    cases hq : oddB c l i
    · rfl
    · rw [hq] at h1; cases h1
  · intro h i hi
    have hi' := List.mem_range.1 hi
    unfold badB
    by_cases e : max (c.eds.getD i default).a.toNat (c.eds.getD i default).b.toNat + 1 = l.length
    · rw [decide_eq_true e, h i hi' e]; rfl
    · rw [decide_eq_false e]; rfl
theorem someM_spec (c : Cas) (hv : Valid c) : ∀ (r : Nat) (l : List Int), l.length + r = c.shs.length → (someM c r l = true ↔ ∃ t : List Int, t.length = r ∧ (∀ i, i < r → -(c.shs.getD (l.length + i) default).most ≤ t.getD i 0 ∧ t.getD i 0 ≤ (c.shs.getD (l.length + i) default).most) ∧
    ∀ i, i < c.eds.length → l.length ≤ max (c.eds.getD i default).a.toNat (c.eds.getD i default).b.toNat → oddB c (l ++ t) i = false) := by
  intro r
  induction r with
  | zero =>
    intro l hl
    constructor
    · intro _
      refine ⟨[], rfl, fun i hi => absurd hi (Nat.not_lt_zero _), fun i hi hm => ?_⟩
      have hed := hv.ed _ (List.getElem_mem hi)
      rw [getD_lt _ _ hi] at hm
      have := hed.an; have := hed.bn; have := hed.a0; have := hed.b0
      omega
    · intro _; rfl
  | succ r ih =>
    intro l hl
    have hll : l.length < c.shs.length := by omega
    have hm0 := (hv.sh _ (List.getElem_mem hll)).m0
    have hl1 : ∀ x : Int, (l ++ [x]).length = l.length + 1 := fun x => by simp
    have hmm : (c.shs.getD l.length default).most = c.shs[l.length].most := by rw [getD_lt _ _ hll]
    constructor
    · intro h
      simp only [someM] at h
      rw [List.any_eq_true] at h
      obtain ⟨k, hk, hx⟩ := h
      rw [Bool.and_eq_true] at hx
      obtain ⟨h1, h2⟩ := hx
      have hk' := List.mem_range.1 hk
      generalize hxx : (k : Int) - (c.shs.getD l.length default).most = x at *
      obtain ⟨t, ht1, ht2, ht3⟩ := (ih (l ++ [x]) (by rw [hl1]; omega)).1 h2
      refine ⟨x :: t, by simp [ht1], fun i hi => ?_, fun i hi hm => ?_⟩
      · cases i with
        | zero => simp only [Nat.add_zero, List.getD_cons_zero]; omega
        | succ i =>
          have := ht2 i (by omega)
          rw [hl1] at this
          simp only [List.getD_cons_succ]
          rw [show l.length + (i + 1) = l.length + 1 + i by omega]
          exact this
      · rw [show l ++ x :: t = (l ++ [x]) ++ t by simp]
        by_cases e : l.length + 1 ≤ max (c.eds.getD i default).a.toNat (c.eds.getD i default).b.toNat
        · exact ht3 i hi (by rw [hl1]; exact e)
        · rw [odd_pre (by rw [hl1]; omega)]
          exact (fits_iff c _).1 h1 i hi (by rw [hl1]; omega)
    · rintro ⟨t, ht1, ht2, ht3⟩
      cases t with
      | nil => simp at ht1
      | cons x t =>
        have hx := ht2 0 (by omega)
        simp only [Nat.add_zero, List.getD_cons_zero] at hx
        have hkk : ((x + (c.shs.getD l.length default).most).toNat : Int) - (c.shs.getD l.length default).most = x := by omega
        refine someM_yes (x + (c.shs.getD l.length default).most).toNat (by omega) ?_ ?_
        · rw [hkk]
          rw [fits_iff]
          intro i hi hm
          rw [hl1] at hm
          have := ht3 i hi (by omega)
          rw [show l ++ x :: t = (l ++ [x]) ++ t by simp, odd_pre (by rw [hl1]; omega)] at this
          exact this
        · rw [hkk]
          refine (ih (l ++ [x]) (by rw [hl1]; omega)).2 ⟨t, by simpa using ht1, fun i hi => ?_, fun i hi hm => ?_⟩
          · have := ht2 (i + 1) (by omega)
            simp only [List.getD_cons_succ] at this
            rw [hl1, show l.length + 1 + i = l.length + (i + 1) by omega]
            exact this
          · rw [hl1] at hm
            have := ht3 i hi (by omega)
            rw [show l ++ x :: t = (l ++ [x]) ++ t by simp] at this
            exact this
theorem some_iff (c : Cas) (h : errC c = 0) : someM c c.shs.length [] = true ↔ ∃ y, Ag (sysA c) y := by
  have hv := valid_of h
  have h5 := hv.n5
  rw [someM_spec c hv c.shs.length [] (by simp)]
  have hodd : ∀ t : List Int, (∀ i, i < c.eds.length → oddB c t i = false) ↔ oddR c t < 0 := by
    intro t
    unfold oddR
    constructor
    · intro hz
      have := firstB_no (oddB c t) c.eds.length hz
      omega
    · intro hz i hi
      cases hq : oddB c t i
      · rfl
      · have := (firstB_iff (oddB c t) c.eds.length).2 ⟨i, hi, hq⟩
        omega
  constructor
  · rintro ⟨t, h1, h2, h3⟩
    have ha : agreeB c t = true := by
      unfold agreeB
      rw [Bool.and_eq_true, decide_eq_true_eq, decide_eq_true_eq]
      refine ⟨chgE_in h h1 fun k hk => ?_, (hodd t).1 fun i hi => ?_⟩
      · have := h2 k (by omega)
        unfold inM inB
        simp only [List.length_nil, Nat.zero_add] at this
        simp only [Bool.and_eq_true, decide_eq_true_eq]
        exact this
      · have := h3 i hi (by simp)
        simpa using this
    exact ⟨_, ((agree_iff c h t).1 ha).2⟩
  · rintro ⟨y, hy⟩
    have hg : ∀ i, i < c.shs.length → ((List.range c.shs.length).map y).getD i 0 = y i := fun i hi => by simp [List.getD_eq_getElem?_getD, hi]
    have hl : ((List.range c.shs.length).map y).length = c.shs.length := by simp
    have hy2 : Ag (sysA c) (fun i => ((List.range c.shs.length).map y).getD i 0) := hy.congr (sys_fine c hv _) fun i hi => (hg i hi).symm
    have ha := (agree_iff c h ((List.range c.shs.length).map y)).2 ⟨hl, hy2⟩
    unfold agreeB at ha
    rw [Bool.and_eq_true, decide_eq_true_eq, decide_eq_true_eq] at ha
    refine ⟨(List.range c.shs.length).map y, hl, fun i hi => ?_, fun i hi _ => ?_⟩
    · have := hy2.bx i hi
      simp only [List.length_nil, Nat.zero_add]
      exact this
    · rw [List.nil_append]
      exact (hodd _).2 ha.2 i hi
/-! ## The order of lists -/
theorem cmpS_self (a : Int) : cmpS a a = 0 := by unfold cmpS; simp
theorem cmpL_self : ∀ l : List Int, cmpL l l = 0 := by
  intro l
  induction l with
  | nil => rfl
  | cons a l ih => simp [cmpL, cmpS_self, ih]
theorem cmpL_trans : ∀ a b c : List Int, cmpL a b < 0 → cmpL b c < 0 → cmpL a c < 0 := by
  intro a
  induction a with
  | nil =>
    intro b c h1 h2
    cases c with
    | nil => cases b <;> simp [cmpL] at h1 h2
    | cons => simp [cmpL]
  | cons x a ih =>
    intro b c h1 h2
    cases b with
    | nil => simp [cmpL] at h1
    | cons y b =>
      cases c with
      | nil => simp [cmpL] at h2
      | cons z c =>
        simp only [cmpL] at h1 h2 ⊢
        by_cases e1 : cmpS x y = 0
        · rw [if_pos e1] at h1
          by_cases e2 : cmpS y z = 0
          · rw [if_pos e2] at h2
            rw [if_pos (by unfold cmpS at *; split at e1 <;> split at e2 <;> split <;> (try split at e1) <;> (try split at e2) <;> (try split) <;> omega)]
            exact ih b c h1 h2
          · rw [if_neg e2] at h2
            have hxz : cmpS x z = cmpS y z := by
              have : x = y := by unfold cmpS at e1; split at e1 <;> (try split at e1) <;> omega
              rw [this]
            rw [hxz, if_neg e2]
            exact h2
        · rw [if_neg e1] at h1
          have hxy : x < y := by unfold cmpS at h1; split at h1 <;> (try split at h1) <;> omega
          by_cases e2 : cmpS y z = 0
          · have : y = z := by unfold cmpS at e2; split at e2 <;> (try split at e2) <;> omega
            subst this
            rw [if_neg e1]; exact h1
          · rw [if_neg e2] at h2
            have hyz : y < z := by unfold cmpS at h2; split at h2 <;> (try split at h2) <;> omega
            have hxz : cmpS x z = -1 := by unfold cmpS; rw [if_pos (by omega)]
            rw [hxz, if_neg (by decide)]; decide
theorem cmpL_eq : ∀ a b : List Int, cmpL a b = 0 → a = b := by
  intro a
  induction a with
  | nil => intro b h; cases b <;> simp [cmpL] at h ⊢
  | cons x a ih =>
    intro b h
    cases b with
    | nil => simp [cmpL] at h
    | cons y b =>
      simp only [cmpL] at h
      by_cases e : cmpS x y = 0
      · rw [if_pos e] at h
        have : x = y := by unfold cmpS at e; split at e <;> (try split at e) <;> omega
        rw [this, ih b h]
      · rw [if_neg e] at h; exact absurd h e
theorem cmpL_swap : ∀ a b : List Int, 0 < cmpL a b → cmpL b a < 0 := by
  intro a
  induction a with
  | nil => intro b h; cases b <;> simp [cmpL] at h
  | cons x a ih =>
    intro b h
    cases b with
    | nil => simp [cmpL]
    | cons y b =>
      simp only [cmpL] at h ⊢
      by_cases e : cmpS x y = 0
      · rw [if_pos e] at h
        have : x = y := by unfold cmpS at e; split at e <;> (try split at e) <;> omega
        rw [if_pos (by rw [this]; exact cmpS_self y)]
        exact ih b h
      · rw [if_neg e] at h
        have hxy : y < x := by unfold cmpS at h; split at h <;> (try split at h) <;> omega
        have : cmpS y x = -1 := by unfold cmpS; rw [if_pos hxy]
        rw [this, if_neg (by decide)]; decide
theorem few_trans {a b c : List Int} (h1 : fewE a b = true) (h2 : fewE b c = true) : fewE a c = true := by
  unfold fewE at *
  simp only [Bool.or_eq_true, Bool.and_eq_true, decide_eq_true_eq] at *
  rcases h1 with h1 | ⟨h1, h1'⟩ <;> rcases h2 with h2 | ⟨h2, h2'⟩
  · left; omega
  · left; omega
  · left; omega
  · right; exact ⟨by omega, cmpL_trans _ _ _ h1' h2'⟩
theorem few_self (a : List Int) : fewE a a = false := by
  unfold fewE
  rw [cmpL_self]
  simp
theorem few_total {a b : List Int} (h1 : fewE a b = false) (h2 : fewE b a = false) : a = b := by
  unfold fewE at *
  simp only [Bool.or_eq_false_iff, Bool.and_eq_false_iff, decide_eq_false_iff_not] at *
  have hl : a.length = b.length := by omega
  apply cmpL_eq
  rcases h1.2 with h | h
  · exact absurd hl h
  · rcases h2.2 with g | g
    · exact absurd hl.symm g
    · rcases Int.lt_trichotomy (cmpL a b) 0 with k | k | k
      · exact absurd k h
      · exact k
      · exact absurd (cmpL_swap a b k) g
theorem best_min (z : List Int) : ∀ l : List (List Int), (l = [] ∧ bestS fewE z l = (z, true)) ∨ ((bestS fewE z l).2 = false ∧ (bestS fewE z l).1 ∈ l ∧ ∀ b, b ∈ l → fewE b (bestS fewE z l).1 = false) := by
  have key : ∀ (n : Nat) (l : List (List Int)), l.length = n → (l = [] ∧ bestS fewE z l = (z, true)) ∨ ((bestS fewE z l).2 = false ∧ (bestS fewE z l).1 ∈ l ∧ ∀ b, b ∈ l → fewE b (bestS fewE z l).1 = false) := by
    intro n
    induction n with
    | zero => intro l hl; left; have := List.length_eq_zero_iff.1 hl; subst this; exact ⟨rfl, rfl⟩
    | succ n ih' =>
      intro l hl
      have hne : l ≠ [] := fun e => by rw [e] at hl; simp at hl
      have hd := List.dropLast_concat_getLast hne
      have ih := ih' l.dropLast (by simp; omega)
      generalize l.getLast hne = x at hd
      generalize l.dropLast = l' at hd ih
      subst hd
      right
      rw [bestS_snoc]
      rcases ih with ⟨hl, hb⟩ | ⟨h1, h2, h3⟩
      · rw [hb]
        simp only [Bool.true_or, if_true]
        refine ⟨trivial, by simp, fun b hb' => ?_⟩
        rw [hl] at hb'
        simp at hb'
        subst hb'
        exact few_self _
      · rw [h1]
        cases hx : fewE x (bestS fewE z l').1
        · simp only [Bool.or_self, Bool.false_eq_true, if_false]
          refine ⟨h1, List.mem_append_left _ h2, fun b hb => ?_⟩
          rcases List.mem_append.1 hb with h | h
          · exact h3 b h
          · simp at h; subst h; exact hx
        · simp only [Bool.or_true, if_true]
          refine ⟨trivial, by simp, fun b hb => ?_⟩
          rcases List.mem_append.1 hb with h | h
          · cases hq : fewE b x
            · rfl
            · have := few_trans hq hx
              rw [h3 b h] at this
              cases this
          · simp at h; subst h; exact few_self _
  exact fun l => key l.length l rfl
/-! ## The lists -/
/-- Numbers that ascend, from one on, below another one. -/
def Chn (n : Nat) : Nat → List Int → Prop
  | _, [] => True
  | f, x :: t => ∃ d : Nat, x = (d : Int) ∧ f ≤ d ∧ d < n ∧ Chn n (d + 1) t
theorem fromL_snoc (l : List Int) (x : Nat) : fromL (l ++ [(x : Int)]) = x + 1 := by
  unfold fromL
  rw [if_neg (by simp)]
  have : (l ++ [(x : Int)]).getD ((l ++ [(x : Int)]).length - 1) 0 = x := by
    rw [List.getD_eq_getElem?_getD, show (l ++ [(x : Int)]).length - 1 = l.length by simp, List.getElem?_append_right (Nat.le_refl _)]
    simp
  rw [this]
  omega
theorem lstM_mem (n : Nat) : ∀ (k : Nat) (l b : List Int), b ∈ lstM n k l ↔ ∃ t, b = l ++ t ∧ t.length = k ∧ Chn n (fromL l) t := by
  intro k
  induction k with
  | zero =>
    intro l b
    simp only [lstM, List.mem_singleton]
    constructor
    · rintro rfl; exact ⟨[], by simp, rfl, trivial⟩
    · rintro ⟨t, rfl, ht, _⟩
      have := List.length_eq_zero_iff.1 ht
      subst this
      simp
  | succ k ih =>
    intro l b
    simp only [lstM, List.mem_flatMap, List.mem_range]
    constructor
    · rintro ⟨d, hd, hb⟩
      obtain ⟨t, rfl, ht, hc⟩ := (ih _ _).1 hb
      rw [fromL_snoc] at hc
      exact ⟨((fromL l + d : Nat) : Int) :: t, by simp, by simp [ht], fromL l + d, rfl, by omega, by omega, hc⟩
    · rintro ⟨t, rfl, ht, hc⟩
      cases t with
      | nil => simp at ht
      | cons x t =>
        obtain ⟨d, rfl, h1, h2, h3⟩ := hc
        refine ⟨d - fromL l, by omega, (ih _ _).2 ⟨t, ?_, by simpa using ht, ?_⟩⟩
        · rw [show fromL l + (d - fromL l) = d by omega]; simp
        · rw [show fromL l + (d - fromL l) = d by omega, fromL_snoc]; exact h3
theorem cmpL_app (l : List Int) (a b : Int) (s t : List Int) (h : a < b) : cmpL (l ++ a :: s) (l ++ b :: t) < 0 := by
  induction l with
  | nil =>
    have e : cmpS a b = -1 := by unfold cmpS; rw [if_pos h]
    simp [cmpL, e]
  | cons x l ih =>
    simp only [List.cons_append, cmpL]
    rw [if_pos (cmpS_self x)]
    exact ih
theorem lstM_sorted (n : Nat) : ∀ (k : Nat) (l : List Int), (lstM n k l).Pairwise (fun a b => cmpL a b < 0) := by
  intro k
  induction k with
  | zero => intro l; simp [lstM]
  | succ k ih =>
    intro l
    simp only [lstM]
    rw [List.pairwise_flatMap]
    refine ⟨fun d _ => ih _, List.pairwise_lt_range.imp fun {d1 d2} hd x hx y hy => ?_⟩
    obtain ⟨t1, rfl, _, _⟩ := (lstM_mem n k _ _).1 hx
    obtain ⟨t2, rfl, _, _⟩ := (lstM_mem n k _ _).1 hy
    rw [List.append_assoc, List.append_assoc]
    exact cmpL_app l _ _ t1 t2 (by omega)
theorem chn_of (n : Nat) : ∀ (js : List Nat) (f : Nat), js.Pairwise (· < ·) → (∀ j, j ∈ js → f ≤ j ∧ j < n) → Chn n f (js.map fun (j : Nat) => (j : Int)) := by
  intro js
  induction js with
  | nil => intro f _ _; trivial
  | cons j js ih =>
    intro f hp hb
    rw [List.pairwise_cons] at hp
    have hj := hb j (List.mem_cons_self ..)
    exact ⟨j, rfl, hj.1, hj.2, ih (j + 1) hp.2 fun i hi => ⟨hp.1 i hi, (hb i (List.mem_cons_of_mem _ hi)).2⟩⟩
theorem lsI_chn (s m : Nat) : Chn m 0 (lsI s m) := by
  unfold lsI lstK
  refine chn_of m _ 0 ((List.pairwise_lt_range (n := m)).filter _) fun j hj => ?_
  have := List.mem_range.1 (List.mem_filter.1 hj).1
  omega
theorem chn_mem {n : Nat} : ∀ (t : List Int) (f : Nat), Chn n f t → ∀ x, x ∈ t → (f : Int) ≤ x ∧ x < n := by
  intro t
  induction t with
  | nil => intro f _ x hx; simp at hx
  | cons y t ih =>
    rintro f ⟨d, rfl, h1, h2, h3⟩ x hx
    rcases List.mem_cons.1 hx with rfl | hx
    · omega
    · have := ih (d + 1) h3 x hx
      omega
theorem chn_ext {n : Nat} : ∀ (s t : List Int) (f : Nat), Chn n f s → Chn n f t → (∀ x, x ∈ s ↔ x ∈ t) → s = t := by
  intro s
  induction s with
  | nil =>
    intro t f _ _ h
    cases t with
    | nil => rfl
    | cons y t => exact absurd ((h y).2 (List.mem_cons_self ..)) (by simp)
  | cons x s ih =>
    intro t f hs ht h
    cases t with
    | nil => exact absurd ((h x).1 (List.mem_cons_self ..)) (by simp)
    | cons y t =>
      obtain ⟨d, rfl, h1, h2, h3⟩ := hs
      obtain ⟨e, rfl, g1, g2, g3⟩ := ht
      have hx := (h (d : Int)).1 (List.mem_cons_self ..)
      have hy := (h (e : Int)).2 (List.mem_cons_self ..)
      have hde : d = e := by
        rcases List.mem_cons.1 hx with k1 | k1
        · omega
        · rcases List.mem_cons.1 hy with k2 | k2
          · omega
          · have := chn_mem t (e + 1) g3 _ k1
            have := chn_mem s (d + 1) h3 _ k2
            omega
      subst hde
      congr 1
      refine ih t (d + 1) h3 g3 fun z => ?_
      constructor
      · intro hz
        have hb := chn_mem s (d + 1) h3 z hz
        rcases List.mem_cons.1 ((h z).1 (List.mem_cons_of_mem _ hz)) with k | k
        · omega
        · exact k
      · intro hz
        have hb := chn_mem t (d + 1) g3 z hz
        rcases List.mem_cons.1 ((h z).2 (List.mem_cons_of_mem _ hz)) with k | k
        · omega
        · exact k
theorem lsI_mem2 (s m i : Nat) (hi : i < m) : decide ((i : Int) ∈ lsI s m) = s.testBit i := by
  unfold lsI lstK
  rw [Bool.eq_iff_iff, decide_eq_true_eq]
  constructor
  · intro h
    obtain ⟨j, hj, e⟩ := List.mem_map.1 h
    have := (List.mem_filter.1 hj).2
    have hij : j = i := by omega
    subst hij
    exact this
  · intro h
    exact List.mem_map.2 ⟨i, List.mem_filter.2 ⟨List.mem_range.2 hi, h⟩, rfl⟩
theorem chn_set (m : Nat) (t : List Int) (h : Chn m 0 t) : ∃ s, s < 2 ^ m ∧ lsI s m = t := by
  obtain ⟨s, hs, hb⟩ := set_of (fun i => decide ((i : Int) ∈ t)) m
  refine ⟨s, hs, chn_ext _ _ 0 (lsI_chn s m) h fun x => ?_⟩
  constructor
  · intro hx
    have hr := chn_mem _ 0 (lsI_chn s m) x hx
    have h1 := lsI_mem2 s m x.toNat (by omega)
    rw [hb _ (by omega), show ((x.toNat : Nat) : Int) = x by omega] at h1
    rw [decide_eq_true hx] at h1
    exact of_decide_eq_true h1.symm
  · intro hx
    have hr := chn_mem _ 0 h x hx
    have h1 := lsI_mem2 s m x.toNat (by omega)
    rw [hb _ (by omega), show ((x.toNat : Nat) : Int) = x by omega] at h1
    rw [decide_eq_true hx] at h1
    exact of_decide_eq_true h1
theorem canS_ext (c : Cas) (s t : Nat) (h : lsI s c.eds.length = lsI t c.eds.length) : canS c s = canS c t := by
  have hb : ∀ i, i < c.eds.length → s.testBit i = t.testBit i := fun i hi => by rw [← lsI_mem2 s _ i hi, ← lsI_mem2 t _ i hi, h]
  have hr : resK s c.eds.length = resK t c.eds.length := by
    unfold resK
    apply List.filter_congr
    intro j hj
    rw [hb j (List.mem_range.1 hj)]
  have hl : lessC c s = lessC c t := by unfold lessC; rw [hr]
  unfold canS
  rw [hl]
/-- The first list that will do is what Without answers. -/
theorem first_is (c : Cas) (h : errC c = 0) (k : Nat) (L : List (List Int)) (hL : lstM c.eds.length k [] = L) (j s : Nat) (hj : j < L.length) (hs : lsI s c.eds.length = L[j]) (hok : canS c s = true)
    (h1 : ∀ many, many < k → ∀ b, b ∈ lstM c.eds.length many [] → ∀ t, lsI t c.eds.length = b → canS c t = false)
    (h2 : ∀ i (hi : i < L.length), i < j → ∀ t, lsI t c.eds.length = L[i] → canS c t = false) : withoutE c = (L[j], 0) := by
  unfold withoutE
  rw [if_neg (by simp [h])]
  have hspare : ∀ b, b ∈ spareL c ↔ ∃ t, t < 2 ^ c.eds.length ∧ canS c t = true ∧ lsI t c.eds.length = b := by
    intro b
    unfold spareL spareTo
    rw [List.mem_filterMap]
    constructor
    · rintro ⟨t, ht, hb⟩
      cases hc : canS c t
      · rw [hc] at hb; simp at hb
      · rw [hc] at hb; simp at hb; exact ⟨t, (setsL_mem _ _).1 ht, hc, hb⟩
    · rintro ⟨t, ht, hc, hb⟩
      exact ⟨t, (setsL_mem _ _).2 ht, by rw [hc]; simp [hb]⟩
  have hLj : L[j] ∈ lstM c.eds.length k [] := by rw [hL]; exact List.getElem_mem hj
  obtain ⟨tj, e1, e2, e3⟩ := (lstM_mem _ _ _ _).1 hLj
  rw [List.nil_append] at e1
  have hlen : L[j].length = k := by rw [e1]; exact e2
  obtain ⟨s0, hs0, hs1⟩ := chn_set c.eds.length L[j] (by rw [e1]; exact e3)
  have hs2 : canS c s0 = true := by rw [canS_ext c s0 s (by rw [hs1, hs])]; exact hok
  have hmem : L[j] ∈ spareL c := (hspare _).2 ⟨s0, hs0, hs2, hs1⟩
  have hsort := lstM_sorted c.eds.length k []
  rw [hL] at hsort
  have hmin : ∀ b, b ∈ spareL c → fewE b L[j] = false := by
    intro b hb
    obtain ⟨t, ht, hc, rfl⟩ := (hspare b).1 hb
    cases hf : fewE (lsI t c.eds.length) L[j]
    · rfl
    · exfalso
      unfold fewE at hf
      simp only [Bool.or_eq_true, Bool.and_eq_true, decide_eq_true_eq] at hf
      have hin : ∀ q, (lsI t c.eds.length).length = q → lsI t c.eds.length ∈ lstM c.eds.length q [] := fun q hq => (lstM_mem _ _ _ _).2 ⟨lsI t c.eds.length, by simp, hq, by have := lsI_chn t c.eds.length; simpa [fromL] using this⟩
      rcases hf with hf | ⟨hf1, hf2⟩
      · have := h1 _ (by rw [hlen] at hf; exact hf) _ (hin _ rfl) t rfl
        rw [hc] at this; cases this
      · have hbL := hin k (by rw [hf1, hlen])
        rw [hL] at hbL
        obtain ⟨i, hi, hie⟩ := List.mem_iff_getElem.1 hbL
        rcases Nat.lt_trichotomy i j with q | q | q
        · have := h2 i hi q t hie.symm
          rw [hc] at this; cases this
        · subst q
          rw [← hie, cmpL_self] at hf2
          omega
        · have hji := List.pairwise_iff_getElem.1 hsort j i hj hi q
          rw [hie] at hji
          have := cmpL_trans _ _ _ hf2 hji
          rw [cmpL_self] at this
          omega
  unfold withoutC
  rcases best_min [] (spareL c) with ⟨hn, _⟩ | ⟨_, b2, b3⟩
  · rw [hn] at hmem; simp at hmem
  · have := few_total (hmin _ b2) (b3 _ hmem)
    rw [this]
/-- Some list will do. -/
theorem first_some (c : Cas) (h : errC c = 0) (hno : ∀ many, many ≤ c.eds.length → ∀ b, b ∈ lstM c.eds.length many [] → ∀ t, lsI t c.eds.length = b → canS c t = false) : False := by
  have hv := valid_of h
  have hall : canS c (2 ^ c.eds.length - 1) = true := by
    rw [canS_iff c hv]
    have hl := less_valid c hv (2 ^ c.eds.length - 1)
    have he : (lessC c (2 ^ c.eds.length - 1)).eds = [] := by
      show (resK _ _).map _ = []
      have : resK (2 ^ c.eds.length - 1) c.eds.length = [] := by
        unfold resK
        rw [List.filter_eq_nil_iff]
        intro j hj
        have := List.mem_range.1 hj
        rw [Nat.testBit_two_pow_sub_one]
        simp [this]
      rw [this]; rfl
    refine ⟨fun _ => 0, ⟨fun i hi => ?_, fun e hem => ?_⟩⟩
    · have h0 : 0 ≤ (sysA (lessC c (2 ^ c.eds.length - 1))).most i := (sys_fine _ hl (wsC (lessC c (2 ^ c.eds.length - 1)))).m0 i hi
      show -(sysA (lessC c (2 ^ c.eds.length - 1))).most i ≤ 0 ∧ 0 ≤ (sysA (lessC c (2 ^ c.eds.length - 1))).most i
      omega
    · simp only [sysC, he, List.length_nil, List.range_zero, List.map_nil] at hem
      simp at hem
  have hlen : (lsI (2 ^ c.eds.length - 1) c.eds.length).length ≤ c.eds.length := by
    unfold lsI
    rw [List.length_map]
    exact lstK_le _ _
  have := hno _ hlen _ ((lstM_mem _ _ _ _).2 ⟨lsI (2 ^ c.eds.length - 1) c.eds.length, (List.nil_append _).symm, rfl, by rw [show fromL [] = 0 from rfl]; exact lsI_chn _ _⟩) _ rfl
  rw [hall] at this
  cases this
end Go.Proofs.Ythhlakodnpopmaa
namespace Go.Proofs.Ythhlakodnpopmaa
open Go Go.RowKit Go.Shelf Ed

set_option maxRecDepth 100000 in
set_option maxHeartbeats 4000000 in
theorem rSome_any (c : Cas) (hv : Valid c) (sv ev : Value) (w : World) (hC : CasAt w c sv ev) :
    Calls Try.prog 74 #[.agg #[.int .i64 c.tol, sv, ev]] w fun e w' => e = .returned (.bool (someM c c.shs.length [])) ∧ Below w.heap.size w w' := by
  obtain ⟨sa, n, sc, rfl⟩ : ∃ a n cc, sv = .slice a n cc := by obtain ⟨_, a, cap, h, _⟩ := hC.shs; exact ⟨_, _, _, h⟩
  obtain ⟨ea, m, ec, rfl⟩ : ∃ a n cc, ev = .slice a n cc := by obtain ⟨_, a, cap, h, _⟩ := hC.eds; exact ⟨_, _, _, h⟩
  obtain ⟨tol, htol⟩ : ∃ t, c.tol = t := ⟨_, rfl⟩
  obtain ⟨W, hW⟩ : ∃ W, w.alloc (Obj.cells #[.int .i64 tol, .slice sa n sc, .slice ea m ec] 25) = W := ⟨_, rfl⟩
  have hb : Below w.heap.size w W := by rw [← hW]; exact (Below.refl _ _).alloc (Nat.le_refl _) _
  have hs := rsome_any c hv _ _ c.shs.length [] (.slice none 0 0) W (by simp) (fun i => by simp) (hC.below hb) ⟨by simp, none, 0, rfl, Nat.le_refl _, fun h => absurd rfl h⟩
  rw [htol] at hs ⊢
  have HS := Lib.hid hs
  have HW := Lib.hid hW
  have HB := Lib.hid hb
  generalize someM c c.shs.length [] = res at *
  clear hs hW hb hC htol hv
  go_enter Try.func74, Try.ntmps74
  go_wp2_with fail
  rw [HW.out]
  refine HS.out.mono ?_
  rintro e w1 ⟨rfl, hb1⟩
  have HB1 := Lib.hid (HB.out.trans (hb1.mono HB.out.size))
  clear hb1 HB HS HW
  go_wp2_with fail
  go_ret
  exact ⟨rfl, HB1.out⟩
set_option maxRecDepth 100000 in
set_option maxHeartbeats 8000000 in
theorem rwithout_any (c : Cas) (sv ev : Value) (w : World) (hC : CasAt w c sv ev) :
    Calls Try.prog 33 #[.agg #[.int .i64 c.tol, sv, ev]] w fun e w' => ∃ v, e = .returned (.tuple #[v, .int .i64 (withoutE c).2]) ∧ IntsAt w' v (withoutE c).1 ∧ Below w.heap.size w w' := by
  obtain ⟨sa, n, sc, rfl⟩ : ∃ a n cc, sv = .slice a n cc := by obtain ⟨_, a, cap, h, _⟩ := hC.shs; exact ⟨_, _, _, h⟩
  obtain ⟨ea, m, ec, rfl, hm⟩ : ∃ a n cc, ev = .slice a n cc ∧ n = c.eds.length := by obtain ⟨_, a, cap, h, _⟩ := hC.eds; exact ⟨_, _, _, h, rfl⟩
  obtain ⟨tol, htol⟩ : ∃ t, c.tol = t := ⟨_, rfl⟩
  obtain ⟨W, hW⟩ : ∃ W, w.alloc (Obj.cells #[.int .i64 tol, .slice sa n sc, .slice ea m ec] 25) = W := ⟨_, rfl⟩
  have hb : Below w.heap.size w W := by rw [← hW]; exact (Below.refl _ _).alloc (Nat.le_refl _) _
  have hck := rcheck_any c _ _ W (hC.below hb)
  rw [htol] at hck ⊢
  have HCK := Lib.hid hck
  have HR : Hid (W.heap[w.heap.size]? = some (Obj.cells #[.int .i64 tol, .slice sa n sc, .slice ea m ec] 25)) := by show _ = _; rw [← hW]; exact heap_alloc_new w _
  have HC := Lib.hid (hC.below hb)
  have HW := Lib.hid hW
  have HB := Lib.hid hb
  have HM := Lib.hid hm
  have HTOL := Lib.hid htol
  have mlim : (m : Int) ≤ 4611686018427387904 := by have := hC.eds.1; omega
  clear hW hb hC hm htol hck
  go_enter Try.func33, Try.ntmps33
  go_wp2_with fail
  rw [HW.out]
  have c0 := cellOf HR.out 0 _ rfl
  have c1 := cellOf HR.out 1 _ rfl
  have c2 := cellOf HR.out 2 _ rfl
  have cl := lt_of_block HR.out
  go_wp2_with fail
  refine HCK.out.mono ?_
  rintro e w1 ⟨rfl, hb1⟩
  have R1 := Lib.hid ((hb1.block _ (lt_of_block HR.out)).trans HR.out)
  have C1 := Lib.hid (HC.out.below hb1)
  have B1 := Lib.hid (HB.out.trans (hb1.mono HB.out.size))
  clear hb1 HB HC HCK HW HR c0 c1 c2 cl
  obtain ⟨⟨k1, k2, er⟩, hk⟩ : ∃ x, checkC c = x := ⟨_, rfl⟩
  have HER : Hid (errC c = er) := by show _ = _; unfold errC; rw [hk]
  rw [hk]
  clear hk
  have hnil : ∀ V : World, IntsAt V (.slice none 0 0) [] := fun V => ⟨by simp, none, 0, rfl, Nat.le_refl _, fun h => absurd rfl h⟩
  have HNIL := Lib.hid hnil
  clear hnil
  by_cases h0 : er = 0
  · subst h0
    have HV := Lib.hid (valid_of HER.out)
    have m8 : m ≤ 8 := by rw [HM.out]; exact HV.out.m8
    have mI : (m : Int) ≤ 8 := by omega
    go_wp2_with fail
    go_loopg [7] (m + 1) (fun g v wr => ∃ k : Nat, g + k = m + 1 ∧ v = .int .i64 k ∧ Hid (∀ many, many < k → ∀ b, b ∈ lstM m many [] → ∀ t, lsI t m = b → canS c t = false) ∧ Hid (Below w1.heap.size w1 wr))
    case atStart => exact ⟨0, by omega, rfl, fun many h => absurd h (Nat.not_lt_zero _), Below.refl _ _⟩
    case round =>
      obtain ⟨k, hk, rfl, HZ, HBB⟩ := hrel
      have R2 := Lib.hid ((HBB.out.block _ (lt_of_block R1.out)).trans R1.out)
      have c2 := cellOf R2.out 2 _ rfl
      have cl := lt_of_block R2.out
      have BZ := HBB.out.size
      by_cases hkm : k ≤ m
      · have kI : (k : Int) ≤ (m : Int) := by omega
        have HLC := Lib.hid (rlists_any m m8 k [] (.slice none 0 0) wr wr.heap.size (by omega) (Nat.le_refl _) (World.ownsRow_nil _ _ _ _) (by simp; omega) (fun x hx => by simp at hx))
        go_wp2_with fail
        refine HLC.out.mono ?_
        rintro e w5 ⟨v5, cur, rfl, hls, hb5⟩
        obtain ⟨L, hL⟩ : ∃ L, lstM m k [] = L := ⟨_, rfl⟩
        rw [hL] at hls
        have HLL := Lib.hid hL
        obtain ⟨ga, gc, rfl⟩ := own_slice hls.outer
        obtain ⟨ln, hln⟩ : ∃ z, L.length = z := ⟨_, rfl⟩
        have hll : ln ≤ 16777216 := by
          have h1 := lstM_len m m8 k []
          have h2 : 8 ^ k ≤ 8 ^ 8 := Nat.pow_le_pow_right (by decide) (by omega)
          rw [hL, hln] at h1
          omega
        have HLS := Lib.hid hls
        rw [hln] at HLS ⊢
        have HLN := Lib.hid hln
        have lnI : (ln : Int) ≤ 16777216 := by omega
        have HB5 := Lib.hid (HBB.out.trans (hb5.mono BZ))
        obtain ⟨wo, hwo⟩ : ∃ wo, wo = wr := ⟨_, rfl⟩
        subst hwo
        obtain ⟨gk2, hgk⟩ : ∃ g', g' + k + 1 = m + 1 := ⟨m - k, by omega⟩
        clear hls hL hb5 HLC c2 cl hln
        go_wp2_with fail
        go_loopg [9] ln (fun g v wi => ∃ j : Nat, g + j = ln ∧ v = .int .i64 j ∧ Hid (∀ i (hi : i < L.length), i < j → ∀ t, lsI t m = L[i] → canS c t = false) ∧ Hid (Below w5.heap.size w5 wi))
        case atStart => exact ⟨0, by omega, rfl, fun i hi h => absurd h (Nat.not_lt_zero _), Below.refl _ _⟩
        case round =>
          obtain ⟨j, hj, rfl, HY, HBI⟩ := hrel
          by_cases hjl : j < ln
          · have jI : (j : Int) < (ln : Int) := by omega
            have hjL : j < L.length := by rw [HLN.out]; exact hjl
            have B6 := Lib.hid (HB5.out.trans (HBI.out.mono HB5.out.size))
            have R3 := Lib.hid ((B6.out.block _ (lt_of_block R1.out)).trans R1.out)
            have C3 := Lib.hid (C1.out.below B6.out)
            have LS3 := Lib.hid (HLS.out.up HBI.out)
            obtain ⟨lg, lcap, la, lc, heq, d0, hown⟩ := LS3.out.cell hjL
            injection heq with heq heq1 heq2
            subst heq heq2
            clear heq1
            have HIN := Lib.hid (intsAt_own hown (by
              have h : L[j] ∈ lstM m k [] := by rw [HLL.out]; exact List.getElem_mem hjL
              obtain ⟨t, e1, e2, _⟩ := (lstM_mem _ _ _ _).1 h
              have : L[j].length = k := by rw [show L[j] = [] ++ t from e1]; simpa using e2
              omega))
            have hch : Chn m 0 L[j] := by
              have h : L[j] ∈ lstM m k [] := by rw [HLL.out]; exact List.getElem_mem hjL
              obtain ⟨t, e1, _, e3⟩ := (lstM_mem _ _ _ _).1 h
              have e1' : L[j] = t := e1
              rw [e1']
              exact e3
            obtain ⟨s, hs, hls⟩ := chn_set m L[j] hch
            have HLSI := Lib.hid hls
            have HLE := Lib.hid (less_err c HER.out s)
            have HLT : Hid ((lessC c s).tol = tol) := HTOL.out
            have HSB : Hid (someM (lessC c s) (lessC c s).shs.length [] = canS c s) := by
              show _ = _
              rw [Bool.eq_iff_iff, some_iff _ HLE.out, canS_iff c HV.out]
            have hless : ∀ W', Below wr.heap.size wr W' → Calls Try.prog 43 #[.agg #[.int .i64 tol, .slice sa n sc, .slice ea m ec], .slice la L[j].length lc] W' fun e w' => ∃ ev', e = .returned (.agg #[.int .i64 tol, .slice sa n sc, ev']) ∧ CasAt w' (lessC c s) (.slice sa n sc) ev' ∧ Below W'.heap.size W' w' := fun W' hb => by
              have h := rless_any c HV.out.m8 _ _ _ L[j] s W' (C3.out.below hb) (HIN.out.below hb) (fun i hi => by rw [← hls]; exact lsI_mem2 s m i (by rw [HM.out]; exact hi))
              rw [HTOL.out] at h
              exact h
            have HF := Lib.hid hless
            have HFI : Hid (canS c s = true → withoutE c = (L[j], 0)) := fun hok => first_is c HER.out k L (by rw [← HM.out]; exact HLL.out) j s hjL (by rw [← HM.out]; exact hls) hok (by rw [← HM.out]; exact HZ.out) (by rw [← HM.out]; exact HY.out)
            have HEX : Hid (∀ t, lsI t m = L[j] → canS c t = canS c s) := fun t ht => canS_ext c t s (by rw [← HM.out, ht, hls])
            obtain ⟨lj, hlj⟩ : ∃ z, L[j].length = z := ⟨_, rfl⟩
            rw [hlj] at d0 HF HIN
            have HLJ := Lib.hid hlj
            have c0 := cellOf R3.out 0 _ rfl
            have c1 := cellOf R3.out 1 _ rfl
            have c2 := cellOf R3.out 2 _ rfl
            have cl := lt_of_block R3.out
            have D0 := Lib.hid d0
            clear hch hls hless hown hs hlj
            go_wp2_with fail
            have KA : ∀ W' : World, Below wr.heap.size wr W' → (W'.cell? ⟨w.heap.size, 0, none⟩ = some (.int .i64 tol) ∧ W'.cell? ⟨w.heap.size, 1, none⟩ = some (.slice sa n sc) ∧ W'.cell? ⟨w.heap.size, 2, none⟩ = some (.slice ea m ec) ∧ W'.cell? ⟨lg, j, none⟩ = some (.slice la lj lc) ∧ Below wr.heap.size wr W') := fun W' hb => ⟨keepK c0 hb, keepK c1 hb, keepK c2 hb, keepK d0 hb, hb⟩
            refine wp_region_noPanic ?_
            refine wp_region_held_drew (S := (fun W' => W'.cell? ⟨w.heap.size, 0, none⟩ = some (.int .i64 tol) ∧ W'.cell? ⟨w.heap.size, 1, none⟩ = some (.slice sa n sc) ∧ W'.cell? ⟨w.heap.size, 2, none⟩ = some (.slice ea m ec) ∧ W'.cell? ⟨lg, j, none⟩ = some (.slice la lj lc) ∧ Below wr.heap.size wr W')) (by kernel_rfl) ?_ (fun hh0 => ?_)
            · exact KA _ (Below.refl _ _).drew
            refine wpAnyH_take (i := 0) (v := ?_) rfl (by as_aux_lemma => kernel_rfl) (by as_aux_lemma => kernel_rfl) (by as_aux_lemma => kernel_rfl) (fun _ _ _ h => h) (Or.inl ⟨by rfl, ?_⟩) (by assumption) ?_
            rotate_left
            · intro w hSw
              try dsimp only at hSw
              go_simp
              try with_reducible rfl
            try simp only [Act.put, List.getElem_toArray, List.getElem_cons_succ, List.getElem_cons_zero, List.setIfInBounds_toArray, List.set_cons_zero, List.set_cons_succ]
            refine wpAnyH_take (i := 1) (v := ?_) rfl (by as_aux_lemma => kernel_rfl) (by as_aux_lemma => kernel_rfl) (by as_aux_lemma => kernel_rfl) (fun _ _ _ h => h) (Or.inl ⟨by rfl, ?_⟩) (by assumption) ?_
            rotate_left
            · intro w hSw
              try dsimp only at hSw
              go_simp
              try with_reducible rfl
            try simp only [Act.put, List.getElem_toArray, List.getElem_cons_succ, List.getElem_cons_zero, List.setIfInBounds_toArray, List.set_cons_zero, List.set_cons_succ]
            refine wpAnyH_take (i := 2) (v := ?_) rfl (by as_aux_lemma => kernel_rfl) (by as_aux_lemma => kernel_rfl) (by as_aux_lemma => kernel_rfl) (fun _ _ _ h => h) (Or.inl ⟨by rfl, ?_⟩) (by assumption) ?_
            rotate_left
            · intro w hSw
              try dsimp only at hSw
              go_simp
              try with_reducible rfl
            try simp only [Act.put, List.getElem_toArray, List.getElem_cons_succ, List.getElem_cons_zero, List.setIfInBounds_toArray, List.set_cons_zero, List.set_cons_succ]
            refine wpAnyH_take (i := 3) (v := ?_) rfl (by as_aux_lemma => kernel_rfl) (by as_aux_lemma => kernel_rfl) (by as_aux_lemma => kernel_rfl) (fun _ _ _ h => h) (Or.inl ⟨by rfl, ?_⟩) (by assumption) ?_
            rotate_left
            · intro w hSw
              try dsimp only at hSw
              go_simp
              try with_reducible rfl
            try simp only [Act.put, List.getElem_toArray, List.getElem_cons_succ, List.getElem_cons_zero, List.setIfInBounds_toArray, List.set_cons_zero, List.set_cons_succ]
            refine wpAnyH_take (i := 4) (v := ?_) rfl (by as_aux_lemma => kernel_rfl) (by as_aux_lemma => kernel_rfl) (by as_aux_lemma => kernel_rfl) (fun _ _ _ h => h) (Or.inl ⟨by rfl, ?_⟩) (by assumption) ?_
            rotate_left
            · intro w hSw
              try dsimp only at hSw
              go_simp
              try with_reducible rfl
            try simp only [Act.put, List.getElem_toArray, List.getElem_cons_succ, List.getElem_cons_zero, List.setIfInBounds_toArray, List.set_cons_zero, List.set_cons_succ]
            refine wpAnyH_ready (rs := [5]) (by as_aux_lemma => kernel_rfl) (by simp) ?_
            refine AllReadyH.cons rfl (fun K hK => ?_) AllReadyH.nil
            go_simp
            refine (HF.out _ hh0.2.2.2.2).mono ?_
            rintro e w8 ⟨ev8, rfl, hD8, hb8⟩
            obtain ⟨fa8, fn8, fc8, rfl⟩ : ∃ a n cc, ev8 = .slice a n cc := by obtain ⟨_, a, cap, h, _⟩ := hD8.eds; exact ⟨_, _, _, h⟩
            refine hK.out _ _ (KA _ (Below.trans hh0.2.2.2.2 (Below.mono hb8 (hh0.2.2.2.2).size))) (fun hh1 => ?_)
            clear hK K
            try simp only [Act.put, List.getElem_toArray, List.getElem_cons_succ, List.getElem_cons_zero, List.setIfInBounds_toArray, List.set_cons_zero, List.set_cons_succ]
            refine wpAnyH_ready (rs := [6]) (by as_aux_lemma => kernel_rfl) (by simp) ?_
            refine AllReadyH.cons rfl (fun K hK => ?_) AllReadyH.nil
            go_simp
            have hsm := rSome_any (lessC c s) (valid_of HLE.out) _ _ _ hD8
            rw [HLT.out, HSB.out] at hsm
            refine hsm.mono ?_
            clear hsm
            rintro e w9 ⟨rfl, hb9⟩
            refine hK.out _ _ (KA _ (Below.trans hh1.2.2.2.2 (Below.mono hb9 (hh1.2.2.2.2).size))) (fun hh2 => ?_)
            clear hK K
            try simp only [Act.put, List.getElem_toArray, List.getElem_cons_succ, List.getElem_cons_zero, List.setIfInBounds_toArray, List.set_cons_zero, List.set_cons_succ]
            refine wpAnyH_done (by as_aux_lemma => kernel_rfl) ?_ _
            refine NoPanic.normal ?_
            have HBZ := Lib.hid (hh2.2.2.2.2)
            have B9 := Lib.hid (HBI.out.trans (HBZ.out.mono HBI.out.size))
            have d0 := kpB HBZ.out D0.out
            clear KA c0 c1 c2 cl HF
            cases hok : canS c s
            · have HY2 : Hid (∀ i (hi : i < L.length), i < j + 1 → ∀ t, lsI t m = L[i] → canS c t = false) := fun i hi h t ht => by
                by_cases e : i = j
                · subst e; rw [HEX.out t ht]; exact hok
                · exact HY.out i hi (by omega) t ht
              clear hok HY d0
              go_wp2_with fail
              go_roundg (gk - 1)
              case measure => omega
              case rel => exact ⟨j + 1, by omega, by go_num, HY2, B9⟩
            · have hw := HFI.out hok
              have HWE := Lib.hid hw
              clear hok hw
              go_wp2_with fail
              go_ret2
              have hi := HIN.out.below HBZ.out
              rw [HWE.out]
              exact ⟨_, rfl, hi, B1.out.trans ((HB5.out.trans (B9.out.mono HB5.out.size)).mono B1.out.size)⟩
          · have jI : ¬ (j : Int) < (ln : Int) := by omega
            have HZ2 : Hid (∀ many, many < k + 1 → ∀ b, b ∈ lstM m many [] → ∀ t, lsI t m = b → canS c t = false) := fun many hmk b hb t ht => by
              by_cases e : many = k
              · subst e
                rw [HLL.out] at hb
                obtain ⟨i, hi, hie⟩ := List.mem_iff_getElem.1 hb
                exact HY.out i hi (by have := HLN.out; omega) t (by rw [ht, hie])
              · exact HZ.out many (by omega) b hb t ht
            have B9 := Lib.hid (HB5.out.trans (HBI.out.mono HB5.out.size))
            clear HZ HY hjl hj
            go_wp2_with fail
            go_roundg gk2
            case measure => omega
            case rel => exact ⟨k + 1, by omega, by go_num, HZ2, B9⟩
      · exfalso
        exact first_some c HER.out fun many hmany b hb t ht => HZ.out many (by have := HM.out; omega) b (by rw [HM.out]; exact hb) t (by rw [HM.out]; exact ht)
  · have tz : (er != 0) = true := by simp [h0]
    have hwe : withoutE c = ([], er) := by unfold withoutE; rw [if_pos (by rw [HER.out]; exact h0), HER.out]
    have HWE := Lib.hid hwe
    clear h0 hwe
    go_wp2_with fail
    go_ret2
    rw [HWE.out]
    exact ⟨_, rfl, HNIL.out _, B1.out⟩
end Go.Proofs.Ythhlakodnpopmaa
namespace Go.Proofs.Ythhlakodnpopmaa
open Go Go.RowKit Go.Shelf Ed

set_option maxRecDepth 100000 in
set_option maxHeartbeats 8000000 in
theorem lbounds_any (c : Cas) (sv ev pv : Value) (l : List Int) (w : World) (hC : CasAt w c sv ev) (hL : IntsAt w pv l) :
    Calls Try.prog 5 #[.agg #[.int .i64 c.tol, sv, ev], pv] w fun e w' => e = .returned (.bool true) ∧ Below w.heap.size w w' := by
  obtain ⟨sa, n, sc, rfl⟩ : ∃ a n cc, sv = .slice a n cc := by obtain ⟨_, a, cap, h, _⟩ := hC.shs; exact ⟨_, _, _, h⟩
  obtain ⟨ea, m, ec, rfl⟩ : ∃ a n cc, ev = .slice a n cc := by obtain ⟨_, a, cap, h, _⟩ := hC.eds; exact ⟨_, _, _, h⟩
  obtain ⟨pa, p, pc, rfl⟩ : ∃ a n cc, pv = .slice a n cc := by obtain ⟨_, a, cap, h, _⟩ := hL; exact ⟨_, _, _, h⟩
  obtain ⟨tol, htol⟩ : ∃ t, c.tol = t := ⟨_, rfl⟩
  have HTOL := Lib.hid htol
  obtain ⟨W, hW⟩ : ∃ W, w.alloc (Obj.cells #[.int .i64 tol, .slice sa n sc, .slice ea m ec] 25) = W := ⟨_, rfl⟩
  have hb : Below w.heap.size w W := by rw [← hW]; exact (Below.refl _ _).alloc (Nat.le_refl _) _
  have HR : Hid (W.heap[w.heap.size]? = some (Obj.cells #[.int .i64 tol, .slice sa n sc, .slice ea m ec] 25)) := by show _ = _; rw [← hW]; exact heap_alloc_new w _
  have HC := Lib.hid (hC.below hb)
  have HL := Lib.hid (hL.below hb)
  have HW := Lib.hid hW
  have HB := Lib.hid hb
  obtain ⟨⟨bv, be⟩, hbe⟩ : ∃ r, boundE c l = r := ⟨_, rfl⟩
  have HBE := Lib.hid hbe
  obtain ⟨⟨wl, we⟩, hwe⟩ : ∃ r, withoutE c = r := ⟨_, rfl⟩
  have HWE := Lib.hid hwe
  have t1 : (bv != bv) = false := by simp
  have t2 : (be != be) = false := by simp
  have t3 : (we == we) = true := by simp
  rw [htol]
  clear hW hb hC hL htol hbe hwe
  go_enter Try.func5, Try.ntmps5
  go_wp2_with fail
  rw [HW.out]
  clear HW
  have r0 := cellOf HR.out 0 _ rfl
  have r1 := cellOf HR.out 1 _ rfl
  have r2 := cellOf HR.out 2 _ rfl
  have rl := lt_of_block HR.out
  go_wp2_with fail
  clear r0 r1 r2 rl
  have hcall := boundT_any c _ _ _ l W HC.out HL.out
  rw [HTOL.out] at hcall
  refine hcall.mono ?_
  clear hcall
  rintro e w1 ⟨rfl, hb⟩
  have HR' := Lib.hid ((hb.block _ (lt_of_block HR.out)).trans HR.out)
  have HC' := Lib.hid (HC.out.below hb)
  have HL' := Lib.hid (HL.out.below hb)
  have HB' := Lib.hid (HB.out.trans (hb.mono HB.out.size))
  clear HR
  have HR := HR'
  clear HR'
  clear HC
  have HC := HC'
  clear HC'
  clear HL
  have HL := HL'
  clear HL'
  clear HB
  have HB := HB'
  clear HB'
  clear hb
  rw [HBE.out]
  simp only
  have r0 := cellOf HR.out 0 _ rfl
  have r1 := cellOf HR.out 1 _ rfl
  have r2 := cellOf HR.out 2 _ rfl
  have rl := lt_of_block HR.out
  go_wp2_with fail
  clear r0 r1 r2 rl
  have hcall := rbound_any c _ _ _ l w1 HC.out HL.out
  rw [HTOL.out] at hcall
  refine hcall.mono ?_
  clear hcall
  rintro e w2 ⟨rfl, hb⟩
  have HR' := Lib.hid ((hb.block _ (lt_of_block HR.out)).trans HR.out)
  have HC' := Lib.hid (HC.out.below hb)
  have HL' := Lib.hid (HL.out.below hb)
  have HB' := Lib.hid (HB.out.trans (hb.mono HB.out.size))
  clear HR
  have HR := HR'
  clear HR'
  clear HC
  have HC := HC'
  clear HC'
  clear HL
  have HL := HL'
  clear HL'
  clear HB
  have HB := HB'
  clear HB'
  clear hb
  rw [HBE.out]
  simp only
  have r0 := cellOf HR.out 0 _ rfl
  have r1 := cellOf HR.out 1 _ rfl
  have r2 := cellOf HR.out 2 _ rfl
  have rl := lt_of_block HR.out
  go_wp2_with fail
  clear r0 r1 r2 rl
  have hcall := without1_any c _ _ w2 HC.out
  rw [HTOL.out] at hcall
  refine hcall.mono ?_
  clear hcall
  rintro e w3 ⟨lv, rfl, hI, hb⟩
  have HR' := Lib.hid ((hb.block _ (lt_of_block HR.out)).trans HR.out)
  have HC' := Lib.hid (HC.out.below hb)
  have HL' := Lib.hid (HL.out.below hb)
  have HB' := Lib.hid (HB.out.trans (hb.mono HB.out.size))
  clear HR
  have HR := HR'
  clear HR'
  clear HC
  have HC := HC'
  clear HC'
  clear HL
  have HL := HL'
  clear HL'
  clear HB
  have HB := HB'
  clear HB'
  clear hb
  rw [HWE.out] at hI ⊢
  simp only at hI ⊢
  have HI := Lib.hid hI
  clear hI
  have r0 := cellOf HR.out 0 _ rfl
  have r1 := cellOf HR.out 1 _ rfl
  have r2 := cellOf HR.out 2 _ rfl
  have rl := lt_of_block HR.out
  go_wp2_with fail
  clear r0 r1 r2 rl
  have hcall := rwithout_any c _ _ w3 HC.out
  rw [HTOL.out] at hcall
  refine hcall.mono ?_
  clear hcall
  rintro e w4 ⟨kv, rfl, hI, hb⟩
  have HR' := Lib.hid ((hb.block _ (lt_of_block HR.out)).trans HR.out)
  have HC' := Lib.hid (HC.out.below hb)
  have HL' := Lib.hid (HL.out.below hb)
  have HB' := Lib.hid (HB.out.trans (hb.mono HB.out.size))
  have HI' := Lib.hid (HI.out.below hb)
  clear HR
  have HR := HR'
  clear HR'
  clear HC
  have HC := HC'
  clear HC'
  clear HL
  have HL := HL'
  clear HL'
  clear HB
  have HB := HB'
  clear HB'
  clear HI
  have HI := HI'
  clear HI'
  clear hb
  rw [HWE.out] at hI ⊢
  simp only at hI ⊢
  have HJ := Lib.hid hI
  clear hI
  have r0 := cellOf HR.out 0 _ rfl
  have r1 := cellOf HR.out 1 _ rfl
  have r2 := cellOf HR.out 2 _ rfl
  have rl := lt_of_block HR.out
  go_wp2_with fail
  clear r0 r1 r2 rl
  have hcall := ints_eq _ _ wl w4 HI.out HJ.out
  refine hcall.mono ?_
  clear hcall
  rintro e w5 ⟨rfl, hb⟩
  have HR' := Lib.hid ((hb.block _ (lt_of_block HR.out)).trans HR.out)
  have HC' := Lib.hid (HC.out.below hb)
  have HL' := Lib.hid (HL.out.below hb)
  have HB' := Lib.hid (HB.out.trans (hb.mono HB.out.size))
  have HI' := Lib.hid (HI.out.below hb)
  have HJ' := Lib.hid (HJ.out.below hb)
  clear HR
  have HR := HR'
  clear HR'
  clear HC
  have HC := HC'
  clear HC'
  clear HL
  have HL := HL'
  clear HL'
  clear HB
  have HB := HB'
  clear HB'
  clear HI
  have HI := HI'
  clear HI'
  clear HJ
  have HJ := HJ'
  clear HJ'
  clear hb
  have r0 := cellOf HR.out 0 _ rfl
  have r1 := cellOf HR.out 1 _ rfl
  have r2 := cellOf HR.out 2 _ rfl
  have rl := lt_of_block HR.out
  go_wp2_with fail
  clear r0 r1 r2 rl
  refine (awake_any w5).mono ?_
  rintro e wz ⟨rfl, hb⟩
  have HBF := Lib.hid (HB.out.trans (hb.mono HB.out.size))
  clear hb
  go_wp2_with fail
  go_ret
  exact ⟨rfl, HBF.out⟩
end Go.Proofs.Ythhlakodnpopmaa
namespace Go.Proofs.Ythhlakodnpopmaa
namespace ClaimEdgeBounds
open Go.ChangeShapes Go.WideShapes Go.ChangeAt Go.RowKit

theorem own : ownKnob Try.prog.godebug = none := by kernel_rfl
theorem laidOutP : laidOutB Try.prog = true := by kernel_rfl

set_option maxRecDepth 100000 in
theorem contract (H : Type) (enc : TypeId × Value → H) (W : World) (base : Nat) (args : Array Value) (ds gs : List (DataW H)) (before : List MemPlace)
    (hval : ∀ (j : Nat) t v, Try.f5.params[j]? = some t → args[j]? = some v → Value.okWide Try.prog W .any base t v)
    (hW : DataW.Whole enc Try.prog Try.f5.params.toList Rows.edgeBoundsSpec.vars false W args.toList ds gs before)
    (hsz : (DataW.weightsEach Try.prog (Try.f5.params.toList ++ Rows.edgeBoundsSpec.plain.varTypes Try.prog) (ds ++ gs)).all (· ≤ reachBytes) = true) :
    Calls Try.prog 5 args W fun e W' => ∃ v, e = .returned v ∧ Rows.edgeBoundsSpec.post enc Try.prog Try.f5 false true false false W args v W' := by
  have hW' := hW
  obtain ⟨p, q, hA0, hV, rfl, hfz, hnd⟩ := hW
  have hA : DataW.TrodAll enc Try.prog W 0 (fun _ => true) true Try.f5.params.toList args.toList ds p := hA0
  rw [Try.params5] at hA hval hsz
  obtain ⟨v0, vs0, d0, ds0, p0, q0, hargs, rfl, rfl, h0, r0⟩ := trodAll_cons hA
  obtain ⟨v1, vs1, d1, ds1, p1, q1, rfl, rfl, rfl, h1, r1⟩ := trodAll_cons r0
  obtain ⟨rfl, rfl, rfl⟩ := trodAll_nil r1
  obtain rfl : args = #[v0, v1] := by cases args; simp_all
  obtain ⟨rfl, rfl⟩ := trodVars_none hV
  have w0 : ∀ x ∈ d0.weights Try.prog 25, x ≤ reachBytes := fun x hx => of_decide_eq_true (List.all_eq_true.1 hsz _ (DataW.weights_mem_each (j := 0) (t := 25) (d := d0) rfl rfl x hx))
  obtain ⟨c0, sv0, ev0, rfl, hC0⟩ := open_case (hval 0 25 v0 rfl rfl) h0 w0
  have w1 : ∀ x ∈ d1.weights Try.prog 26, x ≤ reachBytes := fun x hx => of_decide_eq_true (List.all_eq_true.1 hsz _ (DataW.weights_mem_each (j := 1) (t := 26) (d := d1) rfl rfl x hx))
  obtain ⟨l1, hL1⟩ := open_ints (hval 1 26 v1 rfl rfl) h1 w1
  clear hA0
  refine (lbounds_any c0 sv0 ev0 v1 l1 W hC0 hL1).mono fun e W' ⟨he, hb⟩ => ?_
  subst he
  exact ⟨_, rfl, post_law laidOutP (by rw [Try.params5]; intro t ht; simp at ht; rcases ht with rfl | rfl <;> exact ⟨by kernel_rfl, of_decide_eq_true (by kernel_rfl)⟩) rfl rfl Try.underlying4 rfl hW' hb⟩

set_option maxRecDepth 100000 in
theorem lifted (os : Os) (started : os.Started) (H : Type) (enc : TypeId × Value → H) :
    ReturnsInHanded {} Try.checked os 5 .any (Rows.edgeBoundsSpec.pre6 enc Try.prog Try.f5 Rows.edgeBoundsRow.domain false) (Rows.edgeBoundsSpec.post enc Try.prog Try.f5 false true false false) := by
  refine returnsInHanded_of_change_sized (C := Try.checked) own started (by kernel_rfl) Try.func5
    (ChangeSpec.witness6 (enc := enc) (C := Try.checked) false ⟨#[], #[.agg #[.int .i64 0, .slice none 0 0, .slice none 0 0], .slice none 0 0], []⟩ 8 (by kernel_rfl) (by kernel_rfl) (by kernel_rfl) (by kernel_rfl)) ?_
  intro W base args ds gs before hval hW _ hsz _
  exact contract H enc W base args ds gs before hval hW hsz

theorem over : Rows.EdgeBoundsSaid :=
  OpenClaim.holds_of_wide 5 Try.f5 rfl rfl rfl rfl rfl rfl rfl ⟨rfl, rfl, rfl, rfl, rfl⟩ rfl rfl rfl rfl rfl (by kernel_rfl) Try.func5 (by kernel_rfl)
    (of_decide_eq_true (by kernel_rfl)) (by unfold Func.isWrapper; first | (rw [if_pos (by decide +kernel)]; kernel_rfl) | (rw [if_neg (by decide +kernel)]; exact ⟨rfl, rfl⟩))
    (fun os started H enc _ => lifted os started H enc)
end ClaimEdgeBounds

theorem edgeBounds_holds : Rows.EdgeBoundsSaid := ClaimEdgeBounds.over
end Go.Proofs.Ythhlakodnpopmaa
