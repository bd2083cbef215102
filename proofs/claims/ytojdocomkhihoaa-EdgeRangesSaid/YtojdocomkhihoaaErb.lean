/- The reference of package edge: All. -/
import Derived.Test.YtojdocomkhihoaaEar
import Derived.Maps.AppendAt
import Derived.Test.YtojdocomkhihoaaRff
import Derived.BigQuiet
import Derived.Test.YtojdocomkhihoaaLrm
import Derived.Deep.DeepCutAuto
set_option linter.unusedSimpArgs false
set_option linter.unusedVariables false
namespace Go.Proofs.Ytojdocomkhihoaa
open Go Go.RowKit Ed Go.ChangeShapes Go.WideShapes Go.Deep Go.Joins

def I16At (w : World) (v : Value) (l : List Int) : Prop :=
  l.length ≤ 4611686018427387904 ∧ ∃ a cap, v = .slice a l.length cap ∧ (l ≠ [] → ∃ b o, a = some ⟨b, o, none⟩ ∧ ∀ k, k < l.length → w.cell? ⟨b, o + k, none⟩ = some (.int .i16 (l.getD k 0)) ∧ -32768 ≤ l.getD k 0 ∧ l.getD k 0 ≤ 32767)
theorem I16At.below {w w' : World} {v : Value} {l : List Int} (h : I16At w v l) (hb : Below w.heap.size w w') : I16At w' v l := by
  obtain ⟨h1, a, cap, rfl, h2⟩ := h
  refine ⟨h1, a, cap, rfl, fun hne => ?_⟩
  obtain ⟨b, o, rfl, hc⟩ := h2 hne
  exact ⟨b, o, rfl, fun k hk => ⟨(hb.cell (p := ⟨b, o + k, none⟩) (World.block_lt_of_cell? w _ (hc k hk).1)).trans (hc k hk).1, (hc k hk).2⟩⟩
/-- What a law reads at an index, round and round. -/
def turnI (l : List Int) (n : Nat) : Int := if l = [] then 0 else l.getD (n % l.length) 0
theorem turnI_bd {w : World} {v : Value} {l : List Int} (h : I16At w v l) (n : Nat) : -32768 ≤ turnI l n ∧ turnI l n ≤ 32767 := by
  unfold turnI
  split
  · omega
  · rename_i hne
    obtain ⟨_, a, cap, _, h2⟩ := h
    obtain ⟨b, o, _, hc⟩ := h2 hne
    exact (hc (n % l.length) (Nat.mod_lt _ (List.length_pos_iff.2 hne))).2
theorem cellsI16 : Try.prog.cellsOf 54 = 1 := by kernel_rfl
theorem bytesI16 : Try.prog.bytesOf 54 = 2 := by kernel_rfl
section
variable {H : Type} {enc : TypeId × Value → H} {W : World} {sp : Nat → Bool} {base : Nat} {v : Value} {d : DataW H} {p : List MemPlace}
set_option maxRecDepth 100000 in
theorem open_i16s (hok : Value.okWide Try.prog W .any base 52 v) (h : DataW.Trod enc Try.prog W 0 sp true 52 v d p) (hw : ∀ x ∈ d.weights Try.prog 52, x ≤ reachBytes) :
    ∃ l : List Int, I16At W v l := by
  obtain ⟨a0, len0, cap0, rfl⟩ := okWide_slice Try.underlying52 hok
  obtain ⟨fuel, hf⟩ := h
  have hf' : DataW.trod enc Try.prog W 0 sp true fuel 52 [.slice a0 len0 cap0] = some (d, p) := hf
  rcases open_slice1 Try.underlying52 cellsI16 hf' with ⟨hcs, _⟩ | ⟨a, len, cap, m, n', V, D, Pl, hcs, _, hl, hm, hmm, hx, hel⟩
  · simp only [List.cons.injEq, Value.slice.injEq, and_true] at hcs
    obtain ⟨rfl, rfl, rfl⟩ := hcs
    exact ⟨[], by simp, none, 0, rfl, fun h => absurd rfl h⟩
  · simp only [List.cons.injEq, Value.slice.injEq, and_true] at hcs
    obtain ⟨rfl, rfl, rfl⟩ := hcs
    have hlm : len0 ≤ m := by rw [hmm]; split <;> omega
    have hd : d = .slice ((List.range len0).map D) ((List.range (m - len0)).map fun j => D (len0 + j)) := congrArg Prod.fst hx
    have hb : len0 * 2 ≤ reachBytes := by
      have := hw ((((List.range len0).map D).length + ((List.range (m - len0)).map fun j => D (len0 + j)).length) * 2) (by rw [hd]; simp [DataW.weights, Try.underlying52, bytesI16])
      simp only [List.length_map, List.length_range] at this
      omega
    have hr : reachBytes = 140737488351232 := rfl
    obtain ⟨f, hfl⟩ := choose_lt (α := Int) (n := len0) (p := fun i x => W.cell? (a.add i) = some (.int .i16 x) ∧ -32768 ≤ x ∧ x ≤ 32767) (fun i hi => by
      obtain ⟨h1, h2⟩ := hel i (by omega)
      obtain ⟨k, e, _, w⟩ := DataW.trod_int Try.underlying54 h2
      simp only [List.cons.injEq, and_true] at e
      have bd := bounds_i16 w
      exact ⟨k, by rw [h1, e], bd⟩)
    refine ⟨(List.range len0).map f, by simp; omega, some a, cap0, by simp, fun hne => ?_⟩
    have h0 : 0 < len0 := by
      rcases Nat.eq_zero_or_pos len0 with h | h
      · subst h; exact absurd rfl hne
      · exact h
    obtain ⟨b, o, spot⟩ := a
    have hspot : spot = none := by simpa [Addr.add] using World.cell?_spot (hfl 0 h0).1
    subst hspot
    refine ⟨b, o, rfl, fun k hk => ?_⟩
    have hk' : k < len0 := by simpa using hk
    have hc := hfl k hk'
    rw [add_plain] at hc
    simpa [List.getD_eq_getElem?_getD, hk'] using hc
end
end Go.Proofs.Ytojdocomkhihoaa
namespace Go.Proofs.Ytojdocomkhihoaa
open Go Go.RowKit Go.Shelf Ed

def onK (l : List Int) (k : Nat) : List Int := (List.range k).map (turnI l)
theorem onK_succ (l : List Int) (k : Nat) : onK l (k + 1) = onK l k ++ [turnI l k] := by simp [onK, List.range_succ]
theorem onK_length (l : List Int) (k : Nat) : (onK l k).length = k := by simp [onK]
theorem onK_get (l : List Int) (n k : Nat) (h : k < n) : (onK l n).getD k 0 = turnI l k := by simp [onK, List.getD_eq_getElem?_getD, h]
theorem run_app1 (w : World) (ty : TypeId) (base n : Nat) (v : Value) (xs : List Value) (g : Nat) (x : Int) (hown : w.ownsRow base 3 1 v n xs) (hc : w.cell? ⟨g, 0, none⟩ = some (.int .i64 x)) (hn : n ≤ 1000) (hb : base ≤ w.heap.size) :
    ∃ v' w', (Builtin.append_ #[26, 26] ty #[v, .slice (some ⟨g, 0, none⟩) 1 1]).run Try.prog w = .ok v' w' ∧ w'.ownsRow base 3 1 v' (n + 1) (xs ++ [.int .i64 x]) ∧ w.grownBy w' v.ownBlock ∧ (v'.ownBlock = v.ownBlock ∨ v'.ownBlock = some w.heap.size) := by
  obtain ⟨i0, hi⟩ := info_of_underlying Try.underlying3
  have HI : i0.zero = some (.int .i64 0) ∧ i0.size = 1 ∧ i0.bytes = 8 := by
    have h := intInfo
    rw [hi] at h
    simp at h
    exact h
  obtain ⟨v', w', h1, h2, h3, _, h5⟩ := run_append_own_at (P := Try.prog) w base 26 ty 3 i0 _ 1 8 Try.underlying26 hi HI.1 HI.2.1 HI.2.2 rfl (by decide) v n xs hown ⟨g, 0, none⟩ 1 1 [.int .i64 x] rfl
    (by
      intro j u hj
      match j, hj with
      | 0, hj => simp at hj; subst hj; exact hc
      | j + 1, hj => simp at hj) (by intro u hu; simp at hu; subst hu; rfl) (by unfold maxLen; omega) (by omega) hb
  exact ⟨v', w', h1, h2, h3, h5⟩
theorem wpl_app1 {ops : Array Oper} {rest : List Oper} {o : Oper} {a : Act} {Q : Exit → Act → World → Prop} {w : World} (hgd : o.guard = none) (s x : Operand)
    (ho : o.op = .call { callee := .builtin .append, args := #[s, x], argTypes := #[26, 26] })
    (base n : Nat) (v : Value) (xs : List Value) (g : Nat) (y : Int) (hs : a.eval s = v) (hx : a.eval x = .slice (some ⟨g, 0, none⟩) 1 1) (hown : w.ownsRow base 3 1 v n xs) (hc : w.cell? ⟨g, 0, none⟩ = some (.int .i64 y)) (hn : n ≤ 1000) (hb : base ≤ w.heap.size)
    (h : ∀ v' w', w'.ownsRow base 3 1 v' (n + 1) (xs ++ [.int .i64 y]) → w.grownBy w' v.ownBlock → (v'.ownBlock = v.ownBlock ∨ v'.ownBlock = some w.heap.size) → wpList Try.prog ops Q rest (a.put o.dst v') w') : wpList Try.prog ops Q (o :: rest) a w := by
  refine wpList_plain hgd fun K hK => ?_
  obtain ⟨v', w', hr, h2, h3, h4⟩ := run_app1 w o.type base n v xs g y hown hc hn hb
  unfold Oper.wp execOp
  simp only [ho, resolve, invoke, builtin, Sem.run_bind, Sem.run_pure, Result.andThen_ok, List.map_toArray, List.map_cons, List.map_nil, hs, hx, hr]
  exact hK _ _ (h v' w' h2 h3 h4)
/-- Rows that lie in different blocks. -/
def Dis (a b : Option Nat) : Prop := ∀ q, a = some q → b ≠ some q
theorem Dis.or {a b : Option Nat} (h : Dis a b) : b = none ∨ b ≠ a := by
  cases b with
  | none => exact .inl rfl
  | some q => exact .inr fun e => h q e.symm rfl
theorem Dis.symm {a b : Option Nat} (h : Dis a b) : Dis b a := fun q hq e => h q e hq
theorem Dis.next {a b c : Option Nat} {n : Nat} (h : Dis a b) (hc : c = a ∨ c = some n) (hb : ∀ q, b = some q → q < n) : Dis c b := by
  intro q hq e
  rcases hc with rfl | rfl
  · exact h q hq e
  · have := hb q e
    simp only [Option.some.injEq] at hq
    omega
end Go.Proofs.Ytojdocomkhihoaa
namespace Go.Proofs.Ytojdocomkhihoaa
open Go Go.RowKit Go.Shelf Ed

/-- An edge whose later sheet is the last one that is told, and that is not met. -/
def badB (c : Cas) (l : List Int) (i : Nat) : Bool := decide (max (c.eds.getD i default).a.toNat (c.eds.getD i default).b.toNat + 1 = l.length) && oddB c l i
def fitsC (c : Cas) (l : List Int) : Bool := (List.range c.eds.length).all fun i => !badB c l i
theorem fitsC_no {c : Cas} {l : List Int} (k : Nat) (hk : k < c.eds.length) (h : badB c l k = true) : fitsC c l = false := by
  unfold fitsC
  rw [List.all_eq_false]
  exact ⟨k, List.mem_range.2 hk, by rw [h]; simp⟩
theorem fitsC_yes {c : Cas} {l : List Int} (h : ∀ j, j < c.eds.length → badB c l j = false) : fitsC c l = true := by
  unfold fitsC
  rw [List.all_eq_true]
  intro j hj
  rw [h j (List.mem_range.1 hj)]
  rfl
set_option maxRecDepth 100000 in
set_option maxHeartbeats 8000000 in
theorem rfits_any (c : Cas) (hv : Valid c) (sv ev lv : Value) (l : List Int) (w : World) (hC : CasAt w c sv ev) (hL : IntsAt w lv l) (hl1 : 1 ≤ l.length) (hl5 : l.length ≤ 5) (hbd : ∀ i, -1000 ≤ l.getD i 0 ∧ l.getD i 0 ≤ 1000) :
    Calls Try.prog 88 #[.agg #[.int .i64 c.tol, sv, ev], lv] w fun e w' => e = .returned (.bool (fitsC c l)) ∧ Below w.heap.size w w' := by
  obtain ⟨n, hn⟩ : ∃ n, l.length = n := ⟨_, rfl⟩
  obtain ⟨m, hm⟩ : ∃ m, c.eds.length = m := ⟨_, rfl⟩
  obtain ⟨tol, htol⟩ : ∃ t, c.tol = t := ⟨_, rfl⟩
  obtain ⟨_, hE⟩ := id hC
  obtain ⟨_, ea, ec, rfl, _⟩ := id hE
  obtain ⟨_, la, lc, rfl, _⟩ := id hL
  have m8 := hv.m8
  rw [hn] at hL hl1 hl5 ⊢
  rw [hm] at hE m8 ⊢
  rw [htol]
  obtain ⟨W, hW⟩ : ∃ W, w.alloc (Obj.cells #[.int .i64 tol, sv, .slice ea m ec] 25) = W := ⟨_, rfl⟩
  have hb : Below w.heap.size w W := by rw [← hW]; exact (Below.refl _ _).alloc (Nat.le_refl _) _
  have HR : Hid (W.heap[w.heap.size]? = some (Obj.cells #[.int .i64 tol, sv, .slice ea m ec] 25)) := by show _ = _; rw [← hW]; exact heap_alloc_new w _
  have HEE := Lib.hid (hE.below hb)
  have HLL := Lib.hid (hL.below hb)
  have HW := Lib.hid hW
  have HB := Lib.hid hb
  have HV := Lib.hid hv
  have HBD := Lib.hid hbd
  have HN := Lib.hid hn
  have HM := Lib.hid hm
  have HTOL := Lib.hid htol
  have nI : (n : Int) ≤ 5 := by omega
  have mI : (m : Int) ≤ 8 := by omega
  obtain ⟨n1, hn1⟩ : ∃ z : Nat, n = z + 1 := ⟨n - 1, by omega⟩
  have sn : IntKind.i64.wrap ((n : Int) - 1) = (n1 : Int) := by rw [IntKind.wrap_i64] <;> omega
  have HN1 := Lib.hid hn1
  obtain ⟨res, hres⟩ : ∃ r, fitsC c l = r := ⟨_, rfl⟩
  have HRS := Lib.hid hres
  rw [hres]
  clear hW hb hE hL hv hbd hn hm hC htol hres hn1
  go_enter Try.func88, Try.ntmps88
  go_wp2_with fail
  rw [HW.out]
  clear sn
  go_loopg [6] m (fun gh i wr => ∃ k : Nat, gh + k = m ∧ i = .int .i64 (k : Int) ∧ Hid (∀ j, j < k → badB c l j = false) ∧ Hid (Below W.heap.size W wr))
  case atStart => exact ⟨0, by omega, rfl, fun j hj => absurd hj (Nat.not_lt_zero _), Below.refl _ _⟩
  case round =>
    obtain ⟨k, hk, rfl, HZ, HBB⟩ := hrel
    have R1 := Lib.hid ((HBB.out.block _ (lt_of_block HR.out)).trans HR.out)
    have c0 := cellOf R1.out 0 _ rfl
    have c1 := cellOf R1.out 1 _ rfl
    have c2 := cellOf R1.out 2 _ rfl
    have cl := lt_of_block R1.out
    by_cases hlt : k < m
    · have kI : (k : Int) < (m : Int) := by omega
      have hkm : k < c.eds.length := by rw [HM.out]; omega
      obtain ⟨eb, eo, pa, pc, rfl, d0, d1, d2, hpp⟩ := (HEE.out.below HBB.out).get hkm
      have hed := HV.out.ed _ (List.getElem_mem hkm)
      have hBB : max c.eds[k].a.toNat c.eds[k].b.toNat + 1 = n → badB c l k = !metK tol c.eds[k].pts (l.getD c.eds[k].a.toNat 0) (l.getD c.eds[k].b.toNat 0) := fun h => by
        unfold badB oddB
        rw [getD_lt _ _ hkm, HTOL.out, HN.out]
        simp [h]
      have hBD : ¬ max c.eds[k].a.toNat c.eds[k].b.toNat + 1 = n → badB c l k = false := fun h => by
        unfold badB
        rw [getD_lt _ _ hkm, HN.out]
        simp [h]
      obtain ⟨xa0, xan, xb0, xbn, xne, xp1, xp4, xpt⟩ := hed
      generalize c.eds[k] = d at *
      obtain ⟨da, db, ps⟩ := d
      simp only at d0 d1 d2 hpp hBB hBD xa0 xan xb0 xbn xpt xp4
      obtain ⟨np, hnp⟩ : ∃ np, ps.length = np := ⟨_, rfl⟩
      rw [hnp] at d2 hpp xp4
      obtain ⟨ia, rfl⟩ : ∃ i : Nat, da = i := ⟨da.toNat, by omega⟩
      obtain ⟨ib, rfl⟩ : ∃ i : Nat, db = i := ⟨db.toNat, by omega⟩
      simp only [Int.toNat_natCast] at hBB hBD
      have HPP := Lib.hid hpp
      have HPT : Hid (∀ p, p ∈ ps → (0 ≤ p.1 ∧ p.1 ≤ 9000) ∧ 0 ≤ p.2 ∧ p.2 ≤ 9000) := fun p hp => by have := xpt p hp; omega
      clear hpp hnp xpt xp1 xne hkm
      have np4 : np ≤ 4 := by omega
      obtain ⟨wa, hwa⟩ : ∃ wa, wr.alloc (Obj.cells #[.int .i64 (ia : Int), .int .i64 (ib : Int), .slice pa np pc] 71) = wa := ⟨_, rfl⟩
      have hba : Below wr.heap.size wr wa := by rw [← hwa]; exact (Below.refl _ _).alloc (Nat.le_refl _) _
      have HX := Lib.hid (show wa.heap[wr.heap.size]? = some (Obj.cells #[.int .i64 (ia : Int), .int .i64 (ib : Int), .slice pa np pc] 71) by rw [← hwa]; exact heap_alloc_new wr _)
      have HWA := Lib.hid hwa
      have HBA := Lib.hid (HBB.out.trans (hba.mono HBB.out.size))
      have HPA := Lib.hid (HPP.out.below hba)
      have R2 := Lib.hid ((hba.block _ (lt_of_block R1.out)).trans R1.out)
      have HLA := Lib.hid ((HLL.out.below HBB.out).below hba)
      clear hwa hba
      go_wp2_with fail
      rw [HWA.out]
      clear d0 d1 d2 c0 c1 c2 cl R1 HPP HWA
      have c0 := cellOf R2.out 0 _ rfl
      have c1 := cellOf R2.out 1 _ rfl
      have c2 := cellOf R2.out 2 _ rfl
      have x0 := cellOf HX.out 0 _ rfl
      have x1 := cellOf HX.out 1 _ rfl
      have x2 := cellOf HX.out 2 _ rfl
      obtain ⟨u, hu⟩ : ∃ u, wr.heap.size = u := ⟨_, rfl⟩
      rw [hu] at x0 x1 x2 ⊢
      have hmi : (if ia < ib then (ib : Int) else (ia : Int)) = ((max ia ib : Nat) : Int) := by split <;> omega
      obtain ⟨mx, hmx⟩ : ∃ z, max ia ib = z := ⟨_, rfl⟩
      rw [hmx] at hmi hBB hBD
      by_cases hlast : mx = n1
      · have iaL : ia < l.length := by have := HN.out; have := HN1.out; omega
        have ibL : ib < l.length := by have := HN.out; have := HN1.out; omega
        obtain ⟨lb, lo, heq, e0⟩ := HLA.out.get iaL
        subst heq
        obtain ⟨lb', lo', e, e1⟩ := HLA.out.get ibL
        injection e with e
        injection e with e2 e3
        subst e2 e3
        have hxa := HBD.out ia
        have hxb := HBD.out ib
        rw [show l.getD ia 0 = l[ia] by simp [List.getD_eq_getElem?_getD, iaL]] at hxa hBB
        rw [show l.getD ib 0 = l[ib] by simp [List.getD_eq_getElem?_getD, ibL]] at hxb hBB
        have iaI : (ia : Int) < (n : Int) := by have := HN.out; omega
        have ibI : (ib : Int) < (n : Int) := by have := HN.out; omega
        generalize l[ia] = xa at *
        generalize l[ib] = xb at *
        have tq : ((mx : Int) == (n1 : Int)) = true := by simp [hlast]
        have hBC : badB c l k = !metK tol ps xa xb := by
          exact hBB (by have := HN1.out; omega)
        have HF : Hid (∀ W', Below wa.heap.size wa W' → Calls Try.prog 84 #[.agg #[.int .i64 tol, sv, .slice (some ⟨eb, eo, none⟩) m ec], .agg #[.int .i64 (ia : Int), .int .i64 (ib : Int), .slice pa np pc], .int .i64 xa, .int .i64 xb] W' fun e w' => e = .returned (.bool (metK tol ps xa xb)) ∧ Below W'.heap.size W' w') := fun W' hb => rmet_any tol sv _ _ _ _ xa xb ps W' (by omega) (by omega) HPT.out (HPA.out.below hb)
        obtain ⟨bm, hbm⟩ : ∃ b, metK tol ps xa xb = b := ⟨_, rfl⟩
        rw [hbm] at HF hBC
        have HBC := Lib.hid hBC
        clear hbm hBC hBB hBD hmx hlast iaL ibL hxa hxb
        have KA : ∀ W' : World, Below wa.heap.size wa W' → (W'.cell? ⟨w.heap.size, 0, none⟩ = some (.int .i64 tol) ∧ W'.cell? ⟨w.heap.size, 1, none⟩ = some (sv) ∧ W'.cell? ⟨w.heap.size, 2, none⟩ = some (.slice (some ⟨eb, eo, none⟩) m ec) ∧ W'.cell? ⟨u, 0, none⟩ = some (.int .i64 (ia : Int)) ∧ W'.cell? ⟨u, 1, none⟩ = some (.int .i64 (ib : Int)) ∧ W'.cell? ⟨u, 2, none⟩ = some (.slice pa np pc) ∧ W'.cell? ⟨lb, lo + ia, none⟩ = some (.int .i64 xa) ∧ W'.cell? ⟨lb, lo + ib, none⟩ = some (.int .i64 xb) ∧ Below wa.heap.size wa W') := fun W' hb => ⟨keepK c0 hb, keepK c1 hb, keepK c2 hb, keepK x0 hb, keepK x1 hb, keepK x2 hb, keepK e0 hb, keepK e1 hb, hb⟩
        refine wp_region_noPanic ?_
        refine wp_region_held_drew (S := (fun W' => W'.cell? ⟨w.heap.size, 0, none⟩ = some (.int .i64 tol) ∧ W'.cell? ⟨w.heap.size, 1, none⟩ = some (sv) ∧ W'.cell? ⟨w.heap.size, 2, none⟩ = some (.slice (some ⟨eb, eo, none⟩) m ec) ∧ W'.cell? ⟨u, 0, none⟩ = some (.int .i64 (ia : Int)) ∧ W'.cell? ⟨u, 1, none⟩ = some (.int .i64 (ib : Int)) ∧ W'.cell? ⟨u, 2, none⟩ = some (.slice pa np pc) ∧ W'.cell? ⟨lb, lo + ia, none⟩ = some (.int .i64 xa) ∧ W'.cell? ⟨lb, lo + ib, none⟩ = some (.int .i64 xb) ∧ Below wa.heap.size wa W')) (by kernel_rfl) ?_ (fun hh0 => ?_)
        · exact KA _ (Below.refl _ _).drew
        refine wpAnyH_take (i := 0) (v := ?_) rfl (by as_aux_lemma => kernel_rfl) (by as_aux_lemma => kernel_rfl) (by as_aux_lemma => kernel_rfl) (fun _ _ _ h => h) (Or.inl ⟨by rfl, ?_⟩) (by assumption) ?_
        rotate_left
        · intro w hSw
          try dsimp only at hSw
          go_simp
          try with_reducible rfl
        try simp only [Act.put, List.getElem_toArray, List.getElem_cons_succ, List.getElem_cons_zero, List.setIfInBounds_toArray, List.set_cons_zero, List.set_cons_succ]
        refine wpAnyH_take (i := 1) (v := ?_) rfl (by as_aux_lemma => kernel_rfl) (by as_aux_lemma => kernel_rfl) (by as_aux_lemma => kernel_rfl) (fun _ _ _ h => h) (Or.inl ⟨by rfl, ?_⟩) (by assumption) ?_
        rotate_left
        · intro w hSw
          try dsimp only at hSw
          go_simp
          try with_reducible rfl
        try simp only [Act.put, List.getElem_toArray, List.getElem_cons_succ, List.getElem_cons_zero, List.setIfInBounds_toArray, List.set_cons_zero, List.set_cons_succ]
        refine wpAnyH_take (i := 2) (v := ?_) rfl (by as_aux_lemma => kernel_rfl) (by as_aux_lemma => kernel_rfl) (by as_aux_lemma => kernel_rfl) (fun _ _ _ h => h) (Or.inl ⟨by rfl, ?_⟩) (by assumption) ?_
        rotate_left
        · intro w hSw
          try dsimp only at hSw
          go_simp
          try with_reducible rfl
        try simp only [Act.put, List.getElem_toArray, List.getElem_cons_succ, List.getElem_cons_zero, List.setIfInBounds_toArray, List.set_cons_zero, List.set_cons_succ]
        refine wpAnyH_take (i := 3) (v := ?_) rfl (by as_aux_lemma => kernel_rfl) (by as_aux_lemma => kernel_rfl) (by as_aux_lemma => kernel_rfl) (fun _ _ _ h => h) (Or.inl ⟨by rfl, ?_⟩) (by assumption) ?_
        rotate_left
        · intro w hSw
          try dsimp only at hSw
          go_simp
          try with_reducible rfl
        try simp only [Act.put, List.getElem_toArray, List.getElem_cons_succ, List.getElem_cons_zero, List.setIfInBounds_toArray, List.set_cons_zero, List.set_cons_succ]
        refine wpAnyH_take (i := 4) (v := ?_) rfl (by as_aux_lemma => kernel_rfl) (by as_aux_lemma => kernel_rfl) (by as_aux_lemma => kernel_rfl) (fun _ _ _ h => h) (Or.inl ⟨by rfl, ?_⟩) (by assumption) ?_
        rotate_left
        · intro w hSw
          try dsimp only at hSw
          go_simp
          try with_reducible rfl
        try simp only [Act.put, List.getElem_toArray, List.getElem_cons_succ, List.getElem_cons_zero, List.setIfInBounds_toArray, List.set_cons_zero, List.set_cons_succ]
        refine wpAnyH_take (i := 5) (v := ?_) rfl (by as_aux_lemma => kernel_rfl) (by as_aux_lemma => kernel_rfl) (by as_aux_lemma => kernel_rfl) (fun _ _ _ h => h) (Or.inl ⟨by rfl, ?_⟩) (by assumption) ?_
        rotate_left
        · intro w hSw
          try dsimp only at hSw
          go_simp
          try with_reducible rfl
        try simp only [Act.put, List.getElem_toArray, List.getElem_cons_succ, List.getElem_cons_zero, List.setIfInBounds_toArray, List.set_cons_zero, List.set_cons_succ]
        refine wpAnyH_take (i := 6) (v := ?_) rfl (by as_aux_lemma => kernel_rfl) (by as_aux_lemma => kernel_rfl) (by as_aux_lemma => kernel_rfl) (fun _ _ _ h => h) (Or.inl ⟨by rfl, ?_⟩) (by assumption) ?_
        rotate_left
        · intro w hSw
          try dsimp only at hSw
          go_simp
          try with_reducible rfl
        try simp only [Act.put, List.getElem_toArray, List.getElem_cons_succ, List.getElem_cons_zero, List.setIfInBounds_toArray, List.set_cons_zero, List.set_cons_succ]
        refine wpAnyH_take (i := 7) (v := ?_) rfl (by as_aux_lemma => kernel_rfl) (by as_aux_lemma => kernel_rfl) (by as_aux_lemma => kernel_rfl) (fun _ _ _ h => h) (Or.inl ⟨by rfl, ?_⟩) (by assumption) ?_
        rotate_left
        · intro w hSw
          try dsimp only at hSw
          go_simp
          try with_reducible rfl
        try simp only [Act.put, List.getElem_toArray, List.getElem_cons_succ, List.getElem_cons_zero, List.setIfInBounds_toArray, List.set_cons_zero, List.set_cons_succ]
        refine wpAnyH_take (i := 8) (v := ?_) rfl (by as_aux_lemma => kernel_rfl) (by as_aux_lemma => kernel_rfl) (by as_aux_lemma => kernel_rfl) (fun _ _ _ h => h) (Or.inl ⟨by rfl, ?_⟩) (by assumption) ?_
        rotate_left
        · intro w hSw
          try dsimp only at hSw
          go_simp
          try with_reducible rfl
        try simp only [Act.put, List.getElem_toArray, List.getElem_cons_succ, List.getElem_cons_zero, List.setIfInBounds_toArray, List.set_cons_zero, List.set_cons_succ]
        refine wpAnyH_take (i := 9) (v := ?_) rfl (by as_aux_lemma => kernel_rfl) (by as_aux_lemma => kernel_rfl) (by as_aux_lemma => kernel_rfl) (fun _ _ _ h => h) (Or.inl ⟨by rfl, ?_⟩) (by assumption) ?_
        rotate_left
        · intro w hSw
          try dsimp only at hSw
          go_simp
          try with_reducible rfl
        try simp only [Act.put, List.getElem_toArray, List.getElem_cons_succ, List.getElem_cons_zero, List.setIfInBounds_toArray, List.set_cons_zero, List.set_cons_succ]
        refine wpAnyH_take (i := 10) (v := ?_) rfl (by as_aux_lemma => kernel_rfl) (by as_aux_lemma => kernel_rfl) (by as_aux_lemma => kernel_rfl) (fun _ _ _ h => h) (Or.inl ⟨by rfl, ?_⟩) (by assumption) ?_
        rotate_left
        · intro w hSw
          try dsimp only at hSw
          go_simp
          try with_reducible rfl
        try simp only [Act.put, List.getElem_toArray, List.getElem_cons_succ, List.getElem_cons_zero, List.setIfInBounds_toArray, List.set_cons_zero, List.set_cons_succ]
        refine wpAnyH_take (i := 11) (v := ?_) rfl (by as_aux_lemma => kernel_rfl) (by as_aux_lemma => kernel_rfl) (by as_aux_lemma => kernel_rfl) (fun _ _ _ h => h) (Or.inl ⟨by rfl, ?_⟩) (by assumption) ?_
        rotate_left
        · intro w hSw
          try dsimp only at hSw
          go_simp
          try with_reducible rfl
        try simp only [Act.put, List.getElem_toArray, List.getElem_cons_succ, List.getElem_cons_zero, List.setIfInBounds_toArray, List.set_cons_zero, List.set_cons_succ]
        refine wpAnyH_take (i := 12) (v := ?_) rfl (by as_aux_lemma => kernel_rfl) (by as_aux_lemma => kernel_rfl) (by as_aux_lemma => kernel_rfl) (fun _ _ _ h => h) (Or.inl ⟨by rfl, ?_⟩) (by assumption) ?_
        rotate_left
        · intro w hSw
          try dsimp only at hSw
          go_simp
          try with_reducible rfl
        try simp only [Act.put, List.getElem_toArray, List.getElem_cons_succ, List.getElem_cons_zero, List.setIfInBounds_toArray, List.set_cons_zero, List.set_cons_succ]
        refine wpAnyH_take (i := 13) (v := ?_) rfl (by as_aux_lemma => kernel_rfl) (by as_aux_lemma => kernel_rfl) (by as_aux_lemma => kernel_rfl) (fun _ _ _ h => h) (Or.inl ⟨by rfl, ?_⟩) (by assumption) ?_
        rotate_left
        · intro w hSw
          try dsimp only at hSw
          go_simp
          try with_reducible rfl
        try simp only [Act.put, List.getElem_toArray, List.getElem_cons_succ, List.getElem_cons_zero, List.setIfInBounds_toArray, List.set_cons_zero, List.set_cons_succ]
        refine wpAnyH_take (i := 14) (v := ?_) rfl (by as_aux_lemma => kernel_rfl) (by as_aux_lemma => kernel_rfl) (by as_aux_lemma => kernel_rfl) (fun _ _ _ h => h) (Or.inl ⟨by rfl, ?_⟩) (by assumption) ?_
        rotate_left
        · intro w hSw
          try dsimp only at hSw
          go_simp
          try with_reducible rfl
        try simp only [Act.put, List.getElem_toArray, List.getElem_cons_succ, List.getElem_cons_zero, List.setIfInBounds_toArray, List.set_cons_zero, List.set_cons_succ]
        refine wpAnyH_take (i := 15) (v := ?_) rfl (by as_aux_lemma => kernel_rfl) (by as_aux_lemma => kernel_rfl) (by as_aux_lemma => kernel_rfl) (fun _ _ _ h => h) (Or.inl ⟨by rfl, ?_⟩) (by assumption) ?_
        rotate_left
        · intro w hSw
          try dsimp only at hSw
          go_simp
          try with_reducible rfl
        try simp only [Act.put, List.getElem_toArray, List.getElem_cons_succ, List.getElem_cons_zero, List.setIfInBounds_toArray, List.set_cons_zero, List.set_cons_succ]
        refine wpAnyH_take (i := 16) (v := ?_) rfl (by as_aux_lemma => kernel_rfl) (by as_aux_lemma => kernel_rfl) (by as_aux_lemma => kernel_rfl) (fun _ _ _ h => h) (Or.inl ⟨by rfl, ?_⟩) (by assumption) ?_
        rotate_left
        · intro w hSw
          try dsimp only at hSw
          go_simp
          try with_reducible rfl
        try simp only [Act.put, List.getElem_toArray, List.getElem_cons_succ, List.getElem_cons_zero, List.setIfInBounds_toArray, List.set_cons_zero, List.set_cons_succ]
        refine wpAnyH_take (i := 17) (v := ?_) rfl (by as_aux_lemma => kernel_rfl) (by as_aux_lemma => kernel_rfl) (by as_aux_lemma => kernel_rfl) (fun _ _ _ h => h) (Or.inl ⟨by rfl, ?_⟩) (by assumption) ?_
        rotate_left
        · intro w hSw
          try dsimp only at hSw
          go_simp
          try with_reducible rfl
        try simp only [Act.put, List.getElem_toArray, List.getElem_cons_succ, List.getElem_cons_zero, List.setIfInBounds_toArray, List.set_cons_zero, List.set_cons_succ]
        refine wpAnyH_take (i := 18) (v := ?_) rfl (by as_aux_lemma => kernel_rfl) (by as_aux_lemma => kernel_rfl) (by as_aux_lemma => kernel_rfl) (fun _ _ _ h => h) (Or.inl ⟨by rfl, ?_⟩) (by assumption) ?_
        rotate_left
        · intro w hSw
          try dsimp only at hSw
          go_simp
          try with_reducible rfl
        try simp only [Act.put, List.getElem_toArray, List.getElem_cons_succ, List.getElem_cons_zero, List.setIfInBounds_toArray, List.set_cons_zero, List.set_cons_succ]
        refine wpAnyH_take (i := 19) (v := ?_) rfl (by as_aux_lemma => kernel_rfl) (by as_aux_lemma => kernel_rfl) (by as_aux_lemma => kernel_rfl) (fun _ _ _ h => h) (Or.inl ⟨by rfl, ?_⟩) (by assumption) ?_
        rotate_left
        · intro w hSw
          try dsimp only at hSw
          go_simp
          try with_reducible rfl
        try simp only [Act.put, List.getElem_toArray, List.getElem_cons_succ, List.getElem_cons_zero, List.setIfInBounds_toArray, List.set_cons_zero, List.set_cons_succ]
        refine wpAnyH_ready (rs := [20]) (by as_aux_lemma => kernel_rfl) (by simp) ?_
        refine AllReadyH.cons rfl (fun K hK => ?_) AllReadyH.nil
        go_simp
        refine (HF.out _ hh0.2.2.2.2.2.2.2.2).mono ?_
        rintro e w8 ⟨rfl, hb8⟩
        refine hK.out _ _ (KA _ (Below.trans hh0.2.2.2.2.2.2.2.2 (Below.mono hb8 (hh0.2.2.2.2.2.2.2.2).size))) (fun hh1 => ?_)
        clear hK K
        try simp only [Act.put, List.getElem_toArray, List.getElem_cons_succ, List.getElem_cons_zero, List.setIfInBounds_toArray, List.set_cons_zero, List.set_cons_succ]
        refine wpAnyH_take (i := 21) (v := ?_) rfl (by as_aux_lemma => kernel_rfl) (by as_aux_lemma => kernel_rfl) (by as_aux_lemma => kernel_rfl) (fun _ _ _ h => h) (Or.inl ⟨by rfl, ?_⟩) (by assumption) ?_
        rotate_left
        · intro w hSw
          try dsimp only at hSw
          go_simp
          try with_reducible rfl
        try simp only [Act.put, List.getElem_toArray, List.getElem_cons_succ, List.getElem_cons_zero, List.setIfInBounds_toArray, List.set_cons_zero, List.set_cons_succ]
        refine wpAnyH_take (i := 22) (v := ?_) rfl (by as_aux_lemma => kernel_rfl) (by as_aux_lemma => kernel_rfl) (by as_aux_lemma => kernel_rfl) (fun _ _ _ h => h) (Or.inl ⟨by rfl, ?_⟩) (by assumption) ?_
        rotate_left
        · intro w hSw
          try dsimp only at hSw
          go_simp
          try with_reducible rfl
        try simp only [Act.put, List.getElem_toArray, List.getElem_cons_succ, List.getElem_cons_zero, List.setIfInBounds_toArray, List.set_cons_zero, List.set_cons_succ]
        refine wpAnyH_done (by as_aux_lemma => kernel_rfl) ?_ _
        refine NoPanic.normal ?_
        have HBZ := Lib.hid (hh1.2.2.2.2.2.2.2.2)
        have HL8 := Lib.hid (HBA.out.trans (HBZ.out.mono HBA.out.size))
        clear KA c0 c1 c2 x0 x1 x2 e0 e1 tq hmi HF
        cases bm
        · have hr := fitsC_no (c := c) (l := l) k (by rw [HM.out]; omega) HBC.out
          rw [HRS.out] at hr
          subst hr
          go_wp2
          go_ret
          exact ⟨rfl, HB.out.trans (HL8.out.mono HB.out.size)⟩
        · have HZ2 : Hid (∀ j, j < k + 1 → badB c l j = false) := fun j hj => by
            by_cases e : j = k
            · subst e; exact HBC.out
            · exact HZ.out j (by omega)
          clear HZ HBC
          go_wp2
          go_roundg (gk - 1)
          case measure => omega
          case rel => exact ⟨k + 1, by omega, by go_num, HZ2, HL8⟩
      · have tq : ((mx : Int) == (n1 : Int)) = false := by simp; omega
        have hBC : badB c l k = false := by
          exact hBD (by have := HN1.out; omega)
        have HZ2 : Hid (∀ j, j < k + 1 → badB c l j = false) := fun j hj => by
          by_cases e : j = k
          · subst e; exact hBC
          · exact HZ.out j (by omega)
        clear HZ hBC hBB hBD hmx hlast
        have KA : ∀ W' : World, Below wa.heap.size wa W' → (W'.cell? ⟨w.heap.size, 0, none⟩ = some (.int .i64 tol) ∧ W'.cell? ⟨w.heap.size, 1, none⟩ = some (sv) ∧ W'.cell? ⟨w.heap.size, 2, none⟩ = some (.slice (some ⟨eb, eo, none⟩) m ec) ∧ W'.cell? ⟨u, 0, none⟩ = some (.int .i64 (ia : Int)) ∧ W'.cell? ⟨u, 1, none⟩ = some (.int .i64 (ib : Int)) ∧ W'.cell? ⟨u, 2, none⟩ = some (.slice pa np pc) ∧ Below wa.heap.size wa W') := fun W' hb => ⟨keepK c0 hb, keepK c1 hb, keepK c2 hb, keepK x0 hb, keepK x1 hb, keepK x2 hb, hb⟩
        refine wp_region_noPanic ?_
        refine wp_region_held_drew (S := (fun W' => W'.cell? ⟨w.heap.size, 0, none⟩ = some (.int .i64 tol) ∧ W'.cell? ⟨w.heap.size, 1, none⟩ = some (sv) ∧ W'.cell? ⟨w.heap.size, 2, none⟩ = some (.slice (some ⟨eb, eo, none⟩) m ec) ∧ W'.cell? ⟨u, 0, none⟩ = some (.int .i64 (ia : Int)) ∧ W'.cell? ⟨u, 1, none⟩ = some (.int .i64 (ib : Int)) ∧ W'.cell? ⟨u, 2, none⟩ = some (.slice pa np pc) ∧ Below wa.heap.size wa W')) (by kernel_rfl) ?_ (fun hh0 => ?_)
        · exact KA _ (Below.refl _ _).drew
        refine wpAnyH_take (i := 0) (v := ?_) rfl (by as_aux_lemma => kernel_rfl) (by as_aux_lemma => kernel_rfl) (by as_aux_lemma => kernel_rfl) (fun _ _ _ h => h) (Or.inl ⟨by rfl, ?_⟩) (by assumption) ?_
        rotate_left
        · intro w hSw
          try dsimp only at hSw
          go_simp
          try with_reducible rfl
        try simp only [Act.put, List.getElem_toArray, List.getElem_cons_succ, List.getElem_cons_zero, List.setIfInBounds_toArray, List.set_cons_zero, List.set_cons_succ]
        refine wpAnyH_take (i := 1) (v := ?_) rfl (by as_aux_lemma => kernel_rfl) (by as_aux_lemma => kernel_rfl) (by as_aux_lemma => kernel_rfl) (fun _ _ _ h => h) (Or.inl ⟨by rfl, ?_⟩) (by assumption) ?_
        rotate_left
        · intro w hSw
          try dsimp only at hSw
          go_simp
          try with_reducible rfl
        try simp only [Act.put, List.getElem_toArray, List.getElem_cons_succ, List.getElem_cons_zero, List.setIfInBounds_toArray, List.set_cons_zero, List.set_cons_succ]
        refine wpAnyH_take (i := 2) (v := ?_) rfl (by as_aux_lemma => kernel_rfl) (by as_aux_lemma => kernel_rfl) (by as_aux_lemma => kernel_rfl) (fun _ _ _ h => h) (Or.inl ⟨by rfl, ?_⟩) (by assumption) ?_
        rotate_left
        · intro w hSw
          try dsimp only at hSw
          go_simp
          try with_reducible rfl
        try simp only [Act.put, List.getElem_toArray, List.getElem_cons_succ, List.getElem_cons_zero, List.setIfInBounds_toArray, List.set_cons_zero, List.set_cons_succ]
        refine wpAnyH_take (i := 3) (v := ?_) rfl (by as_aux_lemma => kernel_rfl) (by as_aux_lemma => kernel_rfl) (by as_aux_lemma => kernel_rfl) (fun _ _ _ h => h) (Or.inl ⟨by rfl, ?_⟩) (by assumption) ?_
        rotate_left
        · intro w hSw
          try dsimp only at hSw
          go_simp
          try with_reducible rfl
        try simp only [Act.put, List.getElem_toArray, List.getElem_cons_succ, List.getElem_cons_zero, List.setIfInBounds_toArray, List.set_cons_zero, List.set_cons_succ]
        refine wpAnyH_take (i := 4) (v := ?_) rfl (by as_aux_lemma => kernel_rfl) (by as_aux_lemma => kernel_rfl) (by as_aux_lemma => kernel_rfl) (fun _ _ _ h => h) (Or.inl ⟨by rfl, ?_⟩) (by assumption) ?_
        rotate_left
        · intro w hSw
          try dsimp only at hSw
          go_simp
          try with_reducible rfl
        try simp only [Act.put, List.getElem_toArray, List.getElem_cons_succ, List.getElem_cons_zero, List.setIfInBounds_toArray, List.set_cons_zero, List.set_cons_succ]
        refine wpAnyH_take (i := 5) (v := ?_) rfl (by as_aux_lemma => kernel_rfl) (by as_aux_lemma => kernel_rfl) (by as_aux_lemma => kernel_rfl) (fun _ _ _ h => h) (Or.inl ⟨by rfl, ?_⟩) (by assumption) ?_
        rotate_left
        · intro w hSw
          try dsimp only at hSw
          go_simp
          try with_reducible rfl
        try simp only [Act.put, List.getElem_toArray, List.getElem_cons_succ, List.getElem_cons_zero, List.setIfInBounds_toArray, List.set_cons_zero, List.set_cons_succ]
        refine wpAnyH_take (i := 6) (v := ?_) rfl (by as_aux_lemma => kernel_rfl) (by as_aux_lemma => kernel_rfl) (by as_aux_lemma => kernel_rfl) (fun _ _ _ h => h) (Or.inl ⟨by rfl, ?_⟩) (by assumption) ?_
        rotate_left
        · intro w hSw
          try dsimp only at hSw
          go_simp
          try with_reducible rfl
        try simp only [Act.put, List.getElem_toArray, List.getElem_cons_succ, List.getElem_cons_zero, List.setIfInBounds_toArray, List.set_cons_zero, List.set_cons_succ]
        refine wpAnyH_take (i := 7) (v := ?_) rfl (by as_aux_lemma => kernel_rfl) (by as_aux_lemma => kernel_rfl) (by as_aux_lemma => kernel_rfl) (fun _ _ _ h => h) (Or.inl ⟨by rfl, ?_⟩) (by assumption) ?_
        rotate_left
        · intro w hSw
          try dsimp only at hSw
          go_simp
          try with_reducible rfl
        try simp only [Act.put, List.getElem_toArray, List.getElem_cons_succ, List.getElem_cons_zero, List.setIfInBounds_toArray, List.set_cons_zero, List.set_cons_succ]
        refine wpAnyH_take (i := 8) (v := undef) rfl (by as_aux_lemma => kernel_rfl) (by as_aux_lemma => kernel_rfl) (by as_aux_lemma => kernel_rfl) (fun _ _ _ h => h) (Or.inr ⟨by rfl, rfl⟩) (by assumption) ?_
        try simp only [Act.put, List.getElem_toArray, List.getElem_cons_succ, List.getElem_cons_zero, List.setIfInBounds_toArray, List.set_cons_zero, List.set_cons_succ]
        refine wpAnyH_take (i := 9) (v := undef) rfl (by as_aux_lemma => kernel_rfl) (by as_aux_lemma => kernel_rfl) (by as_aux_lemma => kernel_rfl) (fun _ _ _ h => h) (Or.inr ⟨by rfl, rfl⟩) (by assumption) ?_
        try simp only [Act.put, List.getElem_toArray, List.getElem_cons_succ, List.getElem_cons_zero, List.setIfInBounds_toArray, List.set_cons_zero, List.set_cons_succ]
        refine wpAnyH_take (i := 10) (v := undef) rfl (by as_aux_lemma => kernel_rfl) (by as_aux_lemma => kernel_rfl) (by as_aux_lemma => kernel_rfl) (fun _ _ _ h => h) (Or.inr ⟨by rfl, rfl⟩) (by assumption) ?_
        try simp only [Act.put, List.getElem_toArray, List.getElem_cons_succ, List.getElem_cons_zero, List.setIfInBounds_toArray, List.set_cons_zero, List.set_cons_succ]
        refine wpAnyH_take (i := 11) (v := undef) rfl (by as_aux_lemma => kernel_rfl) (by as_aux_lemma => kernel_rfl) (by as_aux_lemma => kernel_rfl) (fun _ _ _ h => h) (Or.inr ⟨by rfl, rfl⟩) (by assumption) ?_
        try simp only [Act.put, List.getElem_toArray, List.getElem_cons_succ, List.getElem_cons_zero, List.setIfInBounds_toArray, List.set_cons_zero, List.set_cons_succ]
        refine wpAnyH_take (i := 12) (v := undef) rfl (by as_aux_lemma => kernel_rfl) (by as_aux_lemma => kernel_rfl) (by as_aux_lemma => kernel_rfl) (fun _ _ _ h => h) (Or.inr ⟨by rfl, rfl⟩) (by assumption) ?_
        try simp only [Act.put, List.getElem_toArray, List.getElem_cons_succ, List.getElem_cons_zero, List.setIfInBounds_toArray, List.set_cons_zero, List.set_cons_succ]
        refine wpAnyH_take (i := 13) (v := undef) rfl (by as_aux_lemma => kernel_rfl) (by as_aux_lemma => kernel_rfl) (by as_aux_lemma => kernel_rfl) (fun _ _ _ h => h) (Or.inr ⟨by rfl, rfl⟩) (by assumption) ?_
        try simp only [Act.put, List.getElem_toArray, List.getElem_cons_succ, List.getElem_cons_zero, List.setIfInBounds_toArray, List.set_cons_zero, List.set_cons_succ]
        refine wpAnyH_take (i := 14) (v := undef) rfl (by as_aux_lemma => kernel_rfl) (by as_aux_lemma => kernel_rfl) (by as_aux_lemma => kernel_rfl) (fun _ _ _ h => h) (Or.inr ⟨by rfl, rfl⟩) (by assumption) ?_
        try simp only [Act.put, List.getElem_toArray, List.getElem_cons_succ, List.getElem_cons_zero, List.setIfInBounds_toArray, List.set_cons_zero, List.set_cons_succ]
        refine wpAnyH_take (i := 15) (v := undef) rfl (by as_aux_lemma => kernel_rfl) (by as_aux_lemma => kernel_rfl) (by as_aux_lemma => kernel_rfl) (fun _ _ _ h => h) (Or.inr ⟨by rfl, rfl⟩) (by assumption) ?_
        try simp only [Act.put, List.getElem_toArray, List.getElem_cons_succ, List.getElem_cons_zero, List.setIfInBounds_toArray, List.set_cons_zero, List.set_cons_succ]
        refine wpAnyH_take (i := 16) (v := undef) rfl (by as_aux_lemma => kernel_rfl) (by as_aux_lemma => kernel_rfl) (by as_aux_lemma => kernel_rfl) (fun _ _ _ h => h) (Or.inr ⟨by rfl, rfl⟩) (by assumption) ?_
        try simp only [Act.put, List.getElem_toArray, List.getElem_cons_succ, List.getElem_cons_zero, List.setIfInBounds_toArray, List.set_cons_zero, List.set_cons_succ]
        refine wpAnyH_take (i := 17) (v := undef) rfl (by as_aux_lemma => kernel_rfl) (by as_aux_lemma => kernel_rfl) (by as_aux_lemma => kernel_rfl) (fun _ _ _ h => h) (Or.inr ⟨by rfl, rfl⟩) (by assumption) ?_
        try simp only [Act.put, List.getElem_toArray, List.getElem_cons_succ, List.getElem_cons_zero, List.setIfInBounds_toArray, List.set_cons_zero, List.set_cons_succ]
        refine wpAnyH_take (i := 18) (v := undef) rfl (by as_aux_lemma => kernel_rfl) (by as_aux_lemma => kernel_rfl) (by as_aux_lemma => kernel_rfl) (fun _ _ _ h => h) (Or.inr ⟨by rfl, rfl⟩) (by assumption) ?_
        try simp only [Act.put, List.getElem_toArray, List.getElem_cons_succ, List.getElem_cons_zero, List.setIfInBounds_toArray, List.set_cons_zero, List.set_cons_succ]
        refine wpAnyH_take (i := 19) (v := undef) rfl (by as_aux_lemma => kernel_rfl) (by as_aux_lemma => kernel_rfl) (by as_aux_lemma => kernel_rfl) (fun _ _ _ h => h) (Or.inr ⟨by rfl, rfl⟩) (by assumption) ?_
        try simp only [Act.put, List.getElem_toArray, List.getElem_cons_succ, List.getElem_cons_zero, List.setIfInBounds_toArray, List.set_cons_zero, List.set_cons_succ]
        refine wpAnyH_take (i := 20) (v := undef) rfl (by as_aux_lemma => kernel_rfl) (by as_aux_lemma => kernel_rfl) (by as_aux_lemma => kernel_rfl) (fun _ _ _ h => h) (Or.inr ⟨by rfl, rfl⟩) (by assumption) ?_
        try simp only [Act.put, List.getElem_toArray, List.getElem_cons_succ, List.getElem_cons_zero, List.setIfInBounds_toArray, List.set_cons_zero, List.set_cons_succ]
        refine wpAnyH_take (i := 21) (v := undef) rfl (by as_aux_lemma => kernel_rfl) (by as_aux_lemma => kernel_rfl) (by as_aux_lemma => kernel_rfl) (fun _ _ _ h => h) (Or.inr ⟨by rfl, rfl⟩) (by assumption) ?_
        try simp only [Act.put, List.getElem_toArray, List.getElem_cons_succ, List.getElem_cons_zero, List.setIfInBounds_toArray, List.set_cons_zero, List.set_cons_succ]
        refine wpAnyH_take (i := 22) (v := ?_) rfl (by as_aux_lemma => kernel_rfl) (by as_aux_lemma => kernel_rfl) (by as_aux_lemma => kernel_rfl) (fun _ _ _ h => h) (Or.inl ⟨by rfl, ?_⟩) (by assumption) ?_
        rotate_left
        · intro w hSw
          try dsimp only at hSw
          go_simp
          try with_reducible rfl
        try simp only [Act.put, List.getElem_toArray, List.getElem_cons_succ, List.getElem_cons_zero, List.setIfInBounds_toArray, List.set_cons_zero, List.set_cons_succ]
        refine wpAnyH_done (by as_aux_lemma => kernel_rfl) ?_ _
        refine NoPanic.normal ?_
        have HBZ := Lib.hid (hh0.2.2.2.2.2.2)
        have HL8 := Lib.hid (HBA.out.trans (HBZ.out.mono HBA.out.size))
        clear KA c0 c1 c2 x0 x1 x2 tq hmi
        go_wp2
        go_roundg (gk - 1)
        case measure => omega
        case rel => exact ⟨k + 1, by omega, by go_num, HZ2, HL8⟩
    · have kI : ¬ (k : Int) < (m : Int) := by omega
      obtain rfl : k = m := by omega
      have hr := fitsC_yes (c := c) (l := l) (by rw [HM.out]; exact HZ.out)
      rw [HRS.out] at hr
      subst hr
      clear hlt hk
      go_wp2
      go_ret
      exact ⟨rfl, HB.out.trans (HBB.out.mono HB.out.size)⟩
end Go.Proofs.Ytojdocomkhihoaa
namespace Go.Proofs.Ytojdocomkhihoaa
open Go Go.RowKit Go.Shelf Ed

/-- Whether there are changes that agree, and begin so: so many numbers are left. -/
def someM (c : Cas) : Nat → List Int → Bool
  | 0, _ => true
  | r + 1, l => (List.range (2 * (c.shs.getD l.length default).most + 1).toNat).any fun k => fitsC c (l ++ [(k : Int) - (c.shs.getD l.length default).most]) && someM c r (l ++ [(k : Int) - (c.shs.getD l.length default).most])
theorem own_none (w : World) (e : TypeId) (s : Nat) : (w.alloc (.cells #[] e)).ownsRow w.heap.size e s (.slice (some ⟨w.heap.size, 0, none⟩) 0 0) 0 [] :=
  ⟨by simp, .inr ⟨w.heap.size, 0, _, rfl, Nat.le_refl _, heap_alloc_new w _, Nat.le_refl _, by decide, by simp, by simp⟩⟩
theorem wpl_ints {ops : Array Oper} {rest : List Oper} {o : Oper} {a : Act} {Q : Exit → Act → World → Prop} {w : World} (hgd : o.guard = none) (s x : Operand)
    (ho : o.op = .call { callee := .builtin .append, args := #[s, x], argTypes := #[26, 26] })
    (base n : Nat) (v sv : Value) (xs l : List Int) (hn : n = xs.length) (hs : a.eval s = v) (hx : a.eval x = sv) (hown : w.ownsRow base 3 1 v n (xs.map (Value.int .i64))) (hl : IntsAt w sv l) (hb : base ≤ w.heap.size)
    (hlen : xs.length + l.length ≤ 1000)
    (h : ∀ v' w', w'.ownsRow base 3 1 v' (n + l.length) ((xs ++ l).map (Value.int .i64)) → w.grownBy w' v.ownBlock → wpList Try.prog ops Q rest (a.put o.dst v') w') : wpList Try.prog ops Q (o :: rest) a w := by
  refine wpList_plain hgd fun K hK => ?_
  obtain ⟨v', w', hr, h2, h3⟩ := run_ints w o.type base n v sv xs l hn hown hl hb hlen
  unfold Oper.wp execOp
  simp only [ho, resolve, invoke, builtin, Sem.run_bind, Sem.run_pure, Result.andThen_ok, List.map_toArray, List.map_cons, List.map_nil, hs, hx, hr]
  exact hK _ _ (h v' w' h2 h3)
theorem someM_yes {c : Cas} {r : Nat} {l : List Int} (k : Nat) (hk : k < (2 * (c.shs.getD l.length default).most + 1).toNat) (h1 : fitsC c (l ++ [(k : Int) - (c.shs.getD l.length default).most]) = true) (h2 : someM c r (l ++ [(k : Int) - (c.shs.getD l.length default).most]) = true) : someM c (r + 1) l = true := by
  simp only [someM]
  rw [List.any_eq_true]
  exact ⟨k, List.mem_range.2 hk, by rw [h1, h2]; rfl⟩
theorem someM_no {c : Cas} {r : Nat} {l : List Int} (h : ∀ k, k < (2 * (c.shs.getD l.length default).most + 1).toNat → fitsC c (l ++ [(k : Int) - (c.shs.getD l.length default).most]) = true → someM c r (l ++ [(k : Int) - (c.shs.getD l.length default).most]) = false) : someM c (r + 1) l = false := by
  simp only [someM]
  rw [List.any_eq_false]
  intro k hk
  have h1 := h k (List.mem_range.1 hk)
  cases hf : fitsC c (l ++ [(k : Int) - (c.shs.getD l.length default).most])
  · simp
  · rw [h1 hf]; simp
theorem snoc_bd {l : List Int} {x : Int} (h : ∀ i, -1000 ≤ l.getD i 0 ∧ l.getD i 0 ≤ 1000) (hx : -1000 ≤ x ∧ x ≤ 1000) (i : Nat) : -1000 ≤ (l ++ [x]).getD i 0 ∧ (l ++ [x]).getD i 0 ≤ 1000 := by
  rcases Nat.lt_trichotomy i l.length with hi | hi | hi
  · have := h i
    rw [List.getD_eq_getElem?_getD, List.getElem?_append_left hi, ← List.getD_eq_getElem?_getD]
    exact this
  · subst hi
    rw [List.getD_eq_getElem?_getD, List.getElem?_append_right (Nat.le_refl _)]
    simpa using hx
  · rw [List.getD_eq_getElem?_getD, List.getElem?_eq_none (by simp; omega)]
    simp
set_option maxRecDepth 100000 in
set_option maxHeartbeats 8000000 in
theorem rsome_any (c : Cas) (hv : Valid c) (sv ev : Value) : ∀ (r : Nat) (l : List Int) (lv : Value) (w : World), l.length + r = c.shs.length → (∀ i, -1000 ≤ l.getD i 0 ∧ l.getD i 0 ≤ 1000) → CasAt w c sv ev → IntsAt w lv l →
    Calls Try.prog 97 #[.agg #[.int .i64 c.tol, sv, ev], lv] w fun e w' => e = .returned (.bool (someM c r l)) ∧ Below w.heap.size w w' := by
  intro r
  induction r with
  | zero =>
    intro l lv w hr hbd hC hL
    obtain ⟨sa, n, sc, rfl, hn⟩ : ∃ a n cc, sv = .slice a n cc ∧ n = c.shs.length := by obtain ⟨_, a, cap, h, _⟩ := hC.shs; exact ⟨_, _, _, h, rfl⟩
    obtain ⟨la, q, lc, rfl, hq⟩ : ∃ a n cc, lv = .slice a n cc ∧ n = l.length := by obtain ⟨_, a, cap, h, _⟩ := hL; exact ⟨_, _, _, h, rfl⟩
    have tq : ((q : Int) == (n : Int)) = true := by simp; omega
    show Calls _ _ _ _ fun e w' => e = .returned (.bool true) ∧ _
    clear hbd hC hL hr hn hq
    go_enter Try.func97, Try.ntmps97
    go_wp2
    go_ret
    exact ⟨rfl, by go_grown⟩
  | succ r ih =>
    intro l lv w hr hbd hC hL
    obtain ⟨n, hn⟩ : ∃ n, c.shs.length = n := ⟨_, rfl⟩
    obtain ⟨q, hq⟩ : ∃ q, l.length = q := ⟨_, rfl⟩
    obtain ⟨tol, htol⟩ : ∃ t, c.tol = t := ⟨_, rfl⟩
    have hS := hC.shs
    obtain ⟨_, sa, sc, rfl, _⟩ := id hS
    obtain ⟨_, la, lc, rfl, _⟩ := id hL
    have n5 := hv.n5
    have hqn : q < c.shs.length := by omega
    have hsk := hv.sh _ (List.getElem_mem hqn)
    have hmo : (c.shs.getD l.length default).most = c.shs[q].most := by subst hq; rw [getD_lt _ _ hqn]
    obtain ⟨_, _, m0, m6⟩ := hsk
    obtain ⟨most, hmost⟩ : ∃ z, c.shs[q].most = z := ⟨_, rfl⟩
    rw [hmost] at m0 m6 hmo
    have HMO := Lib.hid hmo
    obtain ⟨K, hK⟩ : ∃ K, (2 * most + 1).toNat = K := ⟨_, rfl⟩
    have HYES : Hid (∀ k, k < K → fitsC c (l ++ [(k : Int) - most]) = true → someM c r (l ++ [(k : Int) - most]) = true → someM c (r + 1) l = true) := fun k hk h1 h2 => someM_yes k (by rw [hmo, hK]; exact hk) (by rw [hmo]; exact h1) (by rw [hmo]; exact h2)
    have HNO : Hid ((∀ k, k < K → fitsC c (l ++ [(k : Int) - most]) = true → someM c r (l ++ [(k : Int) - most]) = false) → someM c (r + 1) l = false) := fun h => someM_no (by rw [hmo, hK]; exact h)
    rw [hq] at hL ⊢
    rw [hn] at hS n5 hC ih ⊢
    obtain ⟨W, hW⟩ : ∃ W, w.alloc (Obj.cells #[.int .i64 tol, .slice sa n sc, ev] 25) = W := ⟨_, rfl⟩
    have hb : Below w.heap.size w W := by rw [← hW]; exact (Below.refl _ _).alloc (Nat.le_refl _) _
    have HR : Hid (W.heap[w.heap.size]? = some (Obj.cells #[.int .i64 tol, .slice sa n sc, ev] 25)) := by show _ = _; rw [← hW]; exact heap_alloc_new w _
    obtain ⟨sb, so, hsa, d0, d1, d2⟩ := hS.get hqn
    have sbl := World.block_lt_of_cell? w _ d2
    subst hsa
    rw [hmost] at d2
    have HC := Lib.hid (hC.below hb)
    have HL := Lib.hid (hL.below hb)
    have HW := Lib.hid hW
    have HB := Lib.hid hb
    have HV := Lib.hid hv
    have HBD := Lib.hid hbd
    have HIH := Lib.hid ih
    have HTOL := Lib.hid htol
    have HQ := Lib.hid hq
    have HRN : Hid (q + 1 + r = n) := by show _ = _; omega
    have q5 : q < 5 := by omega
    have qI : (q : Int) < (n : Int) := by omega
    have tqn : ((q : Int) == (n : Int)) = false := by rw [beq_eq_false_iff_ne]; omega
    obtain ⟨nm, hnm⟩ : ∃ z, -most = z := ⟨_, rfl⟩
    have sneg : IntKind.i64.wrap (-most) = nm := by rw [← hnm, IntKind.wrap_i64] <;> omega
    have HKM : Hid ((K : Int) = 2 * most + 1) := by show _ = _; omega
    have HNM := Lib.hid hnm
    have K13 : K ≤ 13 := by omega
    have nm6 : -6 ≤ nm := by omega
    have nm0 : nm ≤ 0 := by omega
    rw [htol]
    clear hW hb hS hC hL hv hbd ih hmo hmost hK hr hn hq htol d0 d1 hnm
    obtain ⟨res, hres⟩ : ∃ z, someM c (r + 1) l = z := ⟨_, rfl⟩
    rw [hres] at HYES HNO ⊢
    clear hres
    go_enter Try.func97, Try.ntmps97
    go_wp2_with fail
    rw [HW.out]
    clear sneg tqn d2 sbl
    go_loopg [6] K (fun gh i wr => ∃ k : Nat, gh + k = K ∧ i = .int .i64 (nm + (k : Int)) ∧ Hid (∀ j, j < k → fitsC c (l ++ [(j : Int) - most]) = true → someM c r (l ++ [(j : Int) - most]) = false) ∧ Hid (Below W.heap.size W wr))
    case atStart => exact ⟨0, by omega, by simp, fun j hj => absurd hj (Nat.not_lt_zero _), Below.refl _ _⟩
    case round =>
      obtain ⟨k, hk, rfl, HZ, HBB⟩ := hrel
      have hkm := HKM.out
      have hnmm := HNM.out
      obtain ⟨x, hx⟩ : ∃ x, nm + (k : Int) = x := ⟨_, rfl⟩
      rw [hx]
      have hxk : (k : Int) - most = x := by omega
      by_cases hlt : k < K
      · have xI : x ≤ most := by omega
        have x6 : -6 ≤ x := by omega
        have R1 := Lib.hid ((HBB.out.block _ (lt_of_block HR.out)).trans HR.out)
        have C1 := Lib.hid (HC.out.below HBB.out)
        have L1 := Lib.hid (HL.out.below HBB.out)
        have BZ := HBB.out.size
        have HXK := Lib.hid hxk
        have HX := Lib.hid hx
        clear hkm hnmm hxk hx
        have hba : Below wr.heap.size wr (wr.alloc (Obj.cells #[] 3)) := (Below.refl _ _).alloc (Nat.le_refl _) _
        have hown := own_none wr 3 1
        have hsz : wr.heap.size ≤ (wr.alloc (Obj.cells #[] 3)).heap.size := by simp
        have L1a := Lib.hid (L1.out.below hba)
        go_wp2_with (at_builtin; refine wpl_ints rfl _ _ rfl wr.heap.size 0 _ _ [] l rfl rfl rfl hown L1a.out hsz (by have := HQ.out; simp; omega) ?_)
        intro v1 w5 hown5 hg5
        rw [HQ.out] at hown5
        have B5 := Lib.hid (hba.grown hg5 hsz (fun g hg => by have := (hown.lt g hg).1; exact this))
        obtain ⟨va, vc, rfl⟩ := own_slice hown5
        have H5 := Lib.hid hown5
        have hb6 : Below w5.heap.size w5 (w5.alloc (Obj.cells #[.int .i64 x] 3)) := (Below.refl _ _).alloc (Nat.le_refl _) _
        have hs5 : wr.heap.size ≤ w5.heap.size := B5.out.size
        have hs6 : wr.heap.size ≤ (w5.alloc (Obj.cells #[.int .i64 x] 3)).heap.size := by simp; omega
        clear hown5 hg5 hown L1a hba hsz
        go_wp2_with (at_builtin; refine wpl_app1 rfl _ _ rfl wr.heap.size q _ _ w5.heap.size x rfl rfl (H5.out.alloc _) (cellOf (heap_alloc_new w5 (Obj.cells #[.int .i64 x] 3)) 0 _ rfl) (by omega) hs6 ?_)
        intro v2 w7 hown7 hg7 _
        have B7 := Lib.hid ((B5.out.trans (hb6.mono hs5)).grown hg7 hs6 (fun g hg => by have := (H5.out.lt g hg).1; exact this))
        obtain ⟨va2, vc2, rfl⟩ := own_slice hown7
        have hl7 : (l ++ [x]).length = q + 1 := by simp [HQ.out]
        have I7 := Lib.hid (intsAt_own (l := l ++ [x]) (by rw [hl7, List.map_append]; exact hown7) (by omega))
        have R7 := Lib.hid ((B7.out.block _ (lt_of_block R1.out)).trans R1.out)
        have C7 := Lib.hid (C1.out.below B7.out)
        have BB7 := Lib.hid (HBB.out.trans (B7.out.mono BZ))
        have hfit := rfits_any c HV.out _ _ _ (l ++ [x]) w7 C7.out I7.out (by omega) (by omega) (snoc_bd HBD.out (by omega))
        rw [HTOL.out, ] at hfit
        have HF := Lib.hid hfit
        clear hown7 hg7 H5 hb6 hs5 hs6 B5 hl7 hfit R1 C1 L1 B7 HBB BZ
        have c0 := cellOf R7.out 0 _ rfl
        have c1 := cellOf R7.out 1 _ rfl
        have c2 := cellOf R7.out 2 _ rfl
        have cl := lt_of_block R7.out
        go_wp2_with fail
        refine HF.out.mono ?_
        rintro e w8 ⟨rfl, hb8⟩
        have R8 := Lib.hid ((hb8.block _ (lt_of_block R7.out)).trans R7.out)
        have C8 := Lib.hid (C7.out.below hb8)
        have I8 := Lib.hid (I7.out.below hb8)
        have BB8 := Lib.hid (BB7.out.trans (hb8.mono BB7.out.size))
        clear HF R7 C7 I7 BB7 hb8 c0 c1 c2 cl
        have c0 := cellOf R8.out 0 _ rfl
        have c1 := cellOf R8.out 1 _ rfl
        have c2 := cellOf R8.out 2 _ rfl
        have cl := lt_of_block R8.out
        have sx1 : IntKind.i64.wrap (x + 1) = x + 1 := by rw [IntKind.wrap_i64] <;> omega
        cases hfb : fitsC c (l ++ [x])
        · have HZ2 : Hid (∀ j, j < k + 1 → fitsC c (l ++ [(j : Int) - most]) = true → someM c r (l ++ [(j : Int) - most]) = false) := fun j hj h => by
            by_cases e : j = k
            · subst e; rw [HXK.out, hfb] at h; cases h
            · exact HZ.out j (by omega) h
          clear hfb HZ
          go_wp2_with fail
          go_roundg (gk - 1)
          case measure => omega
          case rel => exact ⟨k + 1, by omega, by rw [show nm + ((k + 1 : Nat) : Int) = x + 1 by have := HX.out; omega], HZ2, BB8⟩
        · have HFB := Lib.hid hfb
          have hs := HIH.out (l ++ [x]) _ w8 (by have := HRN.out; rw [List.length_append, HQ.out]; simp; omega) (snoc_bd HBD.out (by omega)) C8.out I8.out
          rw [HTOL.out] at hs
          have HS := Lib.hid hs
          clear hfb hs
          go_wp2_with fail
          refine HS.out.mono ?_
          rintro e w9 ⟨rfl, hb9⟩
          have BB9 := Lib.hid (BB8.out.trans (hb9.mono BB8.out.size))
          clear HS R8 C8 I8 BB8 hb9 c0 c1 c2 cl
          cases hsb : someM c r (l ++ [x])
          · have HZ2 : Hid (∀ j, j < k + 1 → fitsC c (l ++ [(j : Int) - most]) = true → someM c r (l ++ [(j : Int) - most]) = false) := fun j hj h => by
              by_cases e : j = k
              · subst e; rw [HXK.out]; exact hsb
              · exact HZ.out j (by omega) h
            clear hsb HZ
            go_wp2_with fail
            go_roundg (gk - 1)
            case measure => omega
            case rel => exact ⟨k + 1, by omega, by rw [show nm + ((k + 1 : Nat) : Int) = x + 1 by have := HX.out; omega], HZ2, BB9⟩
          · have hr := HYES.out k hlt (by rw [HXK.out]; exact HFB.out) (by rw [HXK.out]; exact hsb)
            subst hr
            clear hsb
            go_wp2_with fail
            go_ret
            exact ⟨rfl, HB.out.trans (BB9.out.mono HB.out.size)⟩
      · have xI : ¬ x ≤ most := by omega
        obtain rfl : k = K := by omega
        have hr := HNO.out HZ.out
        subst hr
        clear hlt hk hkm hnmm hxk hx
        go_wp2_with fail
        go_ret
        exact ⟨rfl, HB.out.trans (HBB.out.mono HB.out.size)⟩
end Go.Proofs.Ytojdocomkhihoaa
namespace Go.Proofs.Ytojdocomkhihoaa
open Go Go.RowKit Go.Shelf Ed

theorem own_apartL {w : World} {b1 b2 s1 s2 n1 n2 : Nat} {v1 v2 : Value} {x1 x2 : List Value} (h1 : w.ownsRow b1 3 s1 v1 n1 x1) (h2 : w.ownsRow b2 26 s2 v2 n2 x2) : v1.ownBlock = none ∨ v1.ownBlock ≠ v2.ownBlock := by
  rcases e : v1.ownBlock with _ | g
  · exact .inl rfl
  · refine .inr fun e2 => ?_
    obtain ⟨c1, q1⟩ := own_tag h1 e
    obtain ⟨c2, q2⟩ := own_tag h2 e2.symm
    rw [q1] at q2
    injection q2 with q
    injection q with _ q
    exact absurd q (by decide)
/-- A row of lists of the call's own, each in a row of its own. -/
structure LsIn (B : Nat) (w : World) (v : Value) (cur : List Value) (L : List (List Int)) : Prop where
  outer : w.ownsRow B 26 1 v L.length cur
  inn : ∀ k (h : k < L.length), ∃ vk, cur[k]? = some vk ∧ w.ownsRow B 3 1 vk L[k].length (L[k].map (Value.int .i64))
theorem LsIn.up {B : Nat} {w w' : World} {v : Value} {cur : List Value} {L : List (List Int)} (h : LsIn B w v cur L) (hb : Below w.heap.size w w') : LsIn B w' v cur L :=
  ⟨own_below h.outer hb, fun k hk => by
    obtain ⟨vk, h1, h2⟩ := h.inn k hk
    exact ⟨vk, h1, own_below h2 hb⟩⟩
theorem LsIn.base {B B' : Nat} {w : World} {v : Value} {cur : List Value} {L : List (List Int)} (h : LsIn B w v cur L) (hB : B' ≤ B) : LsIn B' w v cur L :=
  ⟨own_base h.outer hB, fun k hk => by
    obtain ⟨vk, h1, h2⟩ := h.inn k hk
    exact ⟨vk, h1, own_base h2 hB⟩⟩
theorem LsIn.nil (B : Nat) (w : World) : LsIn B w (.slice none 0 0) [] [] := ⟨World.ownsRow_nil _ _ _ _, fun k hk => by simp at hk⟩
theorem LsIn.ones {B : Nat} {w : World} {v : Value} {cur : List Value} {L : List (List Int)} (h : LsIn B w v cur L) : ∀ u ∈ cur, u.oneCell' = true := by
  intro u hu
  obtain ⟨k, hk, rfl⟩ := List.mem_iff_getElem.1 hu
  have hkL : k < L.length := by have := h.outer.1; omega
  obtain ⟨vk, h1, h2⟩ := h.inn k hkL
  obtain ⟨sa, sc, rfl⟩ := own_slice h2
  rw [List.getElem?_eq_getElem hk] at h1
  injection h1 with h1
  rw [h1]
  rfl
theorem LsIn.one {w : World} {B : Nat} (hB : B ≤ w.heap.size) {bv : Value} {l : List Int} (h : w.ownsRow B 3 1 bv l.length (l.map (Value.int .i64))) : LsIn B (w.alloc (.cells #[bv] 26)) (.slice (some ⟨w.heap.size, 0, none⟩) 1 1) [bv] [l] := by
  refine ⟨⟨rfl, .inr ⟨w.heap.size, 1, _, rfl, hB, heap_alloc_new w _, Nat.le_refl _, by decide, rfl, rfl⟩⟩, fun k hk => ?_⟩
  obtain rfl : k = 0 := by simpa using hk
  exact ⟨_, rfl, h.alloc _⟩
theorem LsIn.more {B : Nat} {w w' : World} {v u v' : Value} {cur cur3 : List Value} {L L3 : List (List Int)} (h : LsIn B w v cur L) (h3 : LsIn B w u cur3 L3) (hg : w.grownBy w' v.ownBlock) (ho : w'.ownsRow B 26 1 v' (L.length + L3.length) (cur ++ cur3)) :
    LsIn B w' v' (cur ++ cur3) (L ++ L3) := by
  have hcl : cur.length = L.length := by have := h.outer.1; omega
  refine ⟨by rw [List.length_append]; exact ho, fun k hk => ?_⟩
  by_cases e : k < L.length
  · obtain ⟨vk, q1, q2⟩ := h.inn k e
    rw [List.getElem_append_left e]
    exact ⟨vk, by rw [List.getElem?_append_left (by omega)]; exact q1, q2.kept hg (own_apartL q2 h.outer)⟩
  · have hk3 : k - L.length < L3.length := by simp at hk; omega
    obtain ⟨vk, q1, q2⟩ := h3.inn (k - L.length) hk3
    rw [List.getElem_append_right (by omega)]
    exact ⟨vk, by rw [List.getElem?_append_right (by omega), hcl]; exact q1, q2.kept hg (own_apartL q2 h.outer)⟩
theorem LsIn.cell {B : Nat} {w : World} {v : Value} {cur : List Value} {L : List (List Int)} (h : LsIn B w v cur L) {k : Nat} (hk : k < L.length) :
    ∃ (g c : Nat) (sa : Option Addr) (sc : Nat), v = .slice (some ⟨g, 0, none⟩) L.length c ∧ w.cell? ⟨g, k, none⟩ = some (.slice sa L[k].length sc) ∧ w.ownsRow B 3 1 (.slice sa L[k].length sc) L[k].length (L[k].map (Value.int .i64)) := by
  have h' := h.outer
  obtain ⟨vk, h1, h2⟩ := h.inn k hk
  rcases h'.2 with ⟨_, e⟩ | ⟨g, cap, cu, rfl, _⟩
  · omega
  · obtain ⟨sa, sc, rfl⟩ := own_slice h2
    exact ⟨g, cap, sa, sc, rfl, (h'.cellAt k (by omega)).trans h1, h2⟩
theorem listInfo : (Try.prog.info? 26).map (fun i => (i.zero, i.size, i.bytes)) = some (some (.slice none 0 0), 1, 24) := by kernel_rfl
theorem wpl_lists {ops : Array Oper} {rest : List Oper} {o : Oper} {a : Act} {Q : Exit → Act → World → Prop} {w : World} (hgd : o.guard = none) (s x : Operand)
    (ho : o.op = .call { callee := .builtin .append, args := #[s, x], argTypes := #[117, 117] })
    (B : Nat) (v u : Value) (cur cur3 : List Value) (L L3 : List (List Int)) (hs : a.eval s = v) (hx : a.eval x = u) (h1 : LsIn B w v cur L) (h3 : LsIn B w u cur3 L3) (hb : B ≤ w.heap.size) (hlen : L.length + L3.length ≤ 1000000000)
    (h : ∀ v' w', LsIn B w' v' (cur ++ cur3) (L ++ L3) → w.grownBy w' v.ownBlock → wpList Try.prog ops Q rest (a.put o.dst v') w') : wpList Try.prog ops Q (o :: rest) a w := by
  refine wpList_plain hgd fun K hK => ?_
  obtain ⟨i0, hi⟩ := info_of_underlying Try.underlying26
  have HI : i0.zero = some (.slice none 0 0) ∧ i0.size = 1 ∧ i0.bytes = 24 := by
    have h := listInfo
    rw [hi] at h
    simp at h
    exact h
  have hown := h1.outer
  have main : ∃ v' w', (Builtin.append_ #[117, 117] o.type #[v, u]).run Try.prog w = .ok v' w' ∧ LsIn B w' v' (cur ++ cur3) (L ++ L3) ∧ w.grownBy w' v.ownBlock := by
    rcases h3.outer.2 with ⟨hu, h0⟩ | ⟨g, cap, cu, hu, _⟩
    · have hL3 : L3 = [] := List.length_eq_zero_iff.1 h0
      subst hL3 hu
      have hc3 : cur3 = [] := by have := h3.outer.1; simpa using this
      subst hc3
      have hrun : (Builtin.append_ #[117, 117] o.type #[v, .slice none 0 0]).run Try.prog w = .ok v w := by
        rcases hown.2 with ⟨rfl, h0⟩ | ⟨g, cap, cur, rfl, _, _, h1, _⟩
        · simp [Builtin.append_, run_underlying Try.underlying117, sizeOf, typeInfo, hi, Builtin.lenOf, Builtin.firstCells]
        · simp [Builtin.append_, run_underlying Try.underlying117, sizeOf, typeInfo, hi, Builtin.lenOf, Builtin.firstCells, h1, storeCells]
      exact ⟨v, w, hrun, by rw [List.append_nil, List.append_nil]; exact h1, grown_refl w _⟩
    · subst hu
      have hcl : cur3.length = L3.length := by have := h3.outer.1; omega
      have hcells : ∀ j z, cur3[j]? = some z → w.cell? ((⟨g, 0, none⟩ : Addr).add j) = some z := by
        intro j z hz
        have hj : j < cur3.length := (List.getElem?_eq_some_iff.1 hz).1
        rw [Go.WideShapes.add_plain, Nat.zero_add, h3.outer.cellAt j (by omega)]
        exact hz
      obtain ⟨v', w', hr, h2, h4, _, _⟩ := run_append_own_at (P := Try.prog) w B 117 o.type 26 i0 _ 1 24 Try.underlying117 hi HI.1 HI.2.1 HI.2.2 rfl (by decide) v L.length cur hown ⟨g, 0, none⟩ L3.length cap cur3 (by omega) hcells
        h3.ones (by unfold maxLen; omega) (by omega) hb
      exact ⟨v', w', hr, h1.more h3 h4 h2, h4⟩
  obtain ⟨v', w', hr, h2, h4⟩ := main
  unfold Oper.wp execOp
  simp only [ho, resolve, invoke, builtin, Sem.run_bind, Sem.run_pure, Result.andThen_ok, List.map_toArray, List.map_cons, List.map_nil, hs, hx, hr]
  exact hK _ _ (h v' w' h2 h4)
/-- All ascending lists of so many numbers below n that begin so, in order. -/
def fromL (l : List Int) : Nat := if l = [] then 0 else (l.getD (l.length - 1) 0 + 1).toNat
def lstM (n : Nat) : Nat → List Int → List (List Int)
  | 0, l => [l]
  | m + 1, l => (List.range (n - fromL l)).flatMap fun d => lstM n m (l ++ [((fromL l + d : Nat) : Int)])
def lstQ (n m : Nat) (l : List Int) (k : Nat) : List (List Int) := (List.range k).flatMap fun d => lstM n m (l ++ [((fromL l + d : Nat) : Int)])
theorem lstQ_succ (n m : Nat) (l : List Int) (k : Nat) : lstQ n m l (k + 1) = lstQ n m l k ++ lstM n m (l ++ [((fromL l + k : Nat) : Int)]) := by
  unfold lstQ
  rw [List.range_succ, List.flatMap_append]
  simp
theorem lstM_len (n : Nat) (hn : n ≤ 8) : ∀ m l, (lstM n m l).length ≤ 8 ^ m := by
  intro m
  induction m with
  | zero => intro l; simp [lstM]
  | succ m ih =>
    intro l
    have key : ∀ k, (lstQ n m l k).length ≤ k * 8 ^ m := by
      intro k
      induction k with
      | zero => simp [lstQ]
      | succ k ihk =>
        rw [lstQ_succ, List.length_append, Nat.succ_mul]
        have := ih (l ++ [((fromL l + k : Nat) : Int)])
        omega
    have h1 := key (n - fromL l)
    have h2 : (n - fromL l) * 8 ^ m ≤ 8 * 8 ^ m := Nat.mul_le_mul_right _ (by omega)
    rw [Nat.pow_succ, Nat.mul_comm]
    exact Nat.le_trans h1 h2
theorem lstQ_len (n : Nat) (hn : n ≤ 8) (m : Nat) (hm : m ≤ 8) (l : List Int) (k : Nat) (hk : k ≤ 8) : (lstQ n m l k).length ≤ 150000000 := by
  have key : ∀ k, (lstQ n m l k).length ≤ k * 8 ^ m := by
    intro k
    induction k with
    | zero => simp [lstQ]
    | succ k ihk =>
      rw [lstQ_succ, List.length_append, Nat.succ_mul]
      have := lstM_len n hn m (l ++ [((fromL l + k : Nat) : Int)])
      omega
  have h1 := key k
  have h2 : 8 ^ m ≤ 8 ^ 8 := Nat.pow_le_pow_right (by decide) hm
  have h3 : k * 8 ^ m ≤ 8 * 8 ^ 8 := Nat.mul_le_mul hk h2
  omega
set_option maxRecDepth 100000 in
set_option maxHeartbeats 8000000 in
theorem rlists_any (n : Nat) (hn : n ≤ 8) : ∀ (m : Nat) (l : List Int) (bv : Value) (w : World) (B : Nat), m ≤ 8 → B ≤ w.heap.size → w.ownsRow B 3 1 bv l.length (l.map (Value.int .i64)) → l.length + m ≤ 16 → (∀ x, x ∈ l → 0 ≤ x ∧ x < 8) →
    Calls Try.prog 73 #[bv, .int .i64 (m : Int), .int .i64 (n : Int)] w fun e w' => ∃ v cur, e = .returned v ∧ LsIn B w' v cur (lstM n m l) ∧ Below w.heap.size w w' := by
  intro m
  induction m with
  | zero =>
    intro l bv w B _ hB hown _ _
    have hb : Below w.heap.size w (w.alloc (.cells #[bv] 26)) := (Below.refl _ _).alloc (Nat.le_refl _) _
    have HL := Lib.hid (LsIn.one hB hown)
    have HB := Lib.hid hb
    obtain ⟨sa, sc, rfl⟩ := own_slice hown
    clear hown hb
    go_enter Try.func73, Try.ntmps73
    go_wp2
    go_ret
    exact ⟨_, _, rfl, HL.out, HB.out⟩
  | succ m ih =>
    intro l bv w B hm hB hown hlm hx
    obtain ⟨q, hq⟩ : ∃ q, l.length = q := ⟨_, rfl⟩
    obtain ⟨sa, sc, rfl⟩ := own_slice hown
    have HO := Lib.hid hown
    have HXS := Lib.hid hx
    have HIH := Lib.hid ih
    have HQ := Lib.hid hq
    have HI0 := Lib.hid (intsAt_own (l := l) hown (by omega))
    obtain ⟨f, hf⟩ : ∃ f, fromL l = f := ⟨_, rfl⟩
    have HFF := Lib.hid hf
    have hf8 : f ≤ 8 := by
      rw [← hf]
      unfold fromL
      split
      · omega
      · rename_i hne
        have hlp : 0 < l.length := List.length_pos_iff.2 hne
        have hmem : l.getD (l.length - 1) 0 ∈ l := by rw [List.getD_eq_getElem?_getD, List.getElem?_eq_getElem (by omega)]; exact List.getElem_mem _
        have := hx _ hmem
        omega
    have tz : (((m + 1 : Nat) : Int) == 0) = false := by rw [beq_eq_false_iff_ne]; omega
    have sm : IntKind.i64.wrap (((m + 1 : Nat) : Int) - 1) = (m : Int) := by rw [IntKind.wrap_i64] <;> omega
    obtain ⟨m1, hm1⟩ : ∃ z : Int, ((m + 1 : Nat) : Int) = z := ⟨_, rfl⟩
    rw [hm1] at tz sm ⊢
    rw [hq] at HO HI0 hlm ⊢
    obtain ⟨N, hN⟩ : ∃ N, n - f = N := ⟨_, rfl⟩
    have HRES : Hid (lstM n (m + 1) l = lstQ n m l N) := by show _ = _; rw [← hN, ← hf]; rfl
    rw [HRES.out]
    have q16 : q ≤ 16 := by omega
    have nI : (n : Int) ≤ 8 := by omega
    have m8 : m ≤ 8 := by omega
    clear hown hx ih hf hm1 hq
    have loop : ∀ (a : Act), True := fun _ => trivial
    clear loop
    go_enter Try.func73, Try.ntmps73
    by_cases h0 : q = 0
    · have tq : ¬ (0 : Int) < (q : Int) := by omega
      have f0 : f = 0 := by
        rw [← HFF.out]
        unfold fromL
        rw [if_pos (List.length_eq_zero_iff.1 (by rw [HQ.out]; exact h0))]
      subst f0
      have H00 := Lib.hid h0
      have tq2 : decide (0 < q) = false := by simp; omega
      clear tq h0
      go_wp2_with fail
      clear tz tq2
      have own0 : Hid (LsIn w.heap.size w (.slice none 0 0) [] (lstQ n m l 0)) := LsIn.nil _ _
      go_loopg [8, 9] N (fun gh ov i wr => ∃ (k : Nat) (na : Option Addr) (ln nc : Nat) (cur : List Value), gh + k = N ∧ i = .int .i64 ((0 + k : Nat) : Int) ∧ ov = .slice na ln nc ∧ Hid (LsIn w.heap.size wr (.slice na ln nc) cur (lstQ n m l k)) ∧ Hid (Below w.heap.size w wr))
      case atStart => exact ⟨0, none, 0, 0, [], by omega, by simp, rfl, own0, Below.refl _ _⟩
      case round =>
        clear own0
        obtain ⟨k, na, ln, nc, cur, hk, rfl, rfl, HLS, HBB⟩ := hrel
        obtain ⟨X, hX⟩ : ∃ z, 0 + k = z := ⟨_, rfl⟩
        rw [hX]
        have BZ := HBB.out.size
        by_cases hlt : k < N
        · have xI : (X : Int) < (n : Int) := by omega
          have xn : X < n := by omega
          have sx1 : IntKind.i64.wrap ((X : Int) + 1) = ((X + 1 : Nat) : Int) := by rw [IntKind.wrap_i64] <;> omega
          have HX := Lib.hid hX
          have hba : Below wr.heap.size wr (wr.alloc (Obj.cells #[] 3)) := (Below.refl _ _).alloc (Nat.le_refl _) _
          have hown := own_none wr 3 1
          have hsz : wr.heap.size ≤ (wr.alloc (Obj.cells #[] 3)).heap.size := by simp
          have L1a := Lib.hid ((HI0.out.below HBB.out).below hba)
          clear hX
          go_wp2_with (at_builtin; refine wpl_ints rfl _ _ rfl wr.heap.size 0 _ _ [] l rfl rfl rfl hown L1a.out hsz (by have := HQ.out; simp; omega) ?_)
          intro v1 w5 hown5 hg5
          rw [HQ.out] at hown5
          have B5 := Lib.hid (hba.grown hg5 hsz (fun g hg => by have := (hown.lt g hg).1; exact this))
          obtain ⟨va, vc, rfl⟩ := own_slice hown5
          have H5 := Lib.hid hown5
          have hb6 : Below w5.heap.size w5 (w5.alloc (Obj.cells #[.int .i64 (X : Int)] 3)) := (Below.refl _ _).alloc (Nat.le_refl _) _
          have hs5 : wr.heap.size ≤ w5.heap.size := B5.out.size
          have hs6 : wr.heap.size ≤ (w5.alloc (Obj.cells #[.int .i64 (X : Int)] 3)).heap.size := by simp; omega
          clear hown5 hg5 hown L1a hba hsz
          go_wp2_with (at_builtin; refine wpl_app1 rfl _ _ rfl wr.heap.size q _ _ w5.heap.size (X : Int) rfl rfl (H5.out.alloc _) (cellOf (heap_alloc_new w5 (Obj.cells #[.int .i64 (X : Int)] 3)) 0 _ rfl) (by omega) hs6 ?_)
          intro v2 w7 hown7 hg7 _
          have B7 := Lib.hid ((B5.out.trans (hb6.mono hs5)).grown hg7 hs6 (fun g hg => by have := (H5.out.lt g hg).1; exact this))
          obtain ⟨va2, vc2, rfl⟩ := own_slice hown7
          have hl7 : (l ++ [(X : Int)]).length = q + 1 := by simp [HQ.out]
          have hcall := HIH.out (l ++ [(X : Int)]) _ w7 wr.heap.size m8 B7.out.size (by rw [hl7, List.map_append]; exact hown7) (by rw [hl7]; omega) (fun x hx => by
            rcases List.mem_append.1 hx with h | h
            · exact HXS.out x h
            · simp at h; omega)
          have HCL := Lib.hid hcall
          clear hown7 hg7 H5 hb6 hs5 hs6 B5 hl7 hcall
          go_wp2_with fail
          refine HCL.out.mono ?_
          rintro e w9 ⟨v3, cur3, rfl, h3, hb9⟩
          have B9 := Lib.hid (B7.out.trans (hb9.mono B7.out.size))
          obtain ⟨ua, uc, rfl⟩ := own_slice h3.outer
          have H3 := Lib.hid (h3.base BZ)
          have H1 := Lib.hid (HLS.out.up B9.out)
          have BB9 := Lib.hid (HBB.out.trans (B9.out.mono BZ))
          have hln := lstQ_len n hn m m8 l k (by omega)
          have hlm2 := lstM_len n hn m (l ++ [(X : Int)])
          have hp8 : 8 ^ m ≤ 8 ^ 8 := Nat.pow_le_pow_right (by decide) m8
          have hle9 : (lstQ n m l k).length + (lstM n m (l ++ [(X : Int)])).length ≤ 1000000000 := by omega
          have hs9 : w.heap.size ≤ w9.heap.size := BB9.out.size
          clear h3 hb9 HCL B7 B9 HLS HBB hln hlm2 hp8
          go_wp2_with (at_builtin; go_must (refine wpl_lists rfl _ _ rfl w.heap.size _ _ cur cur3 (lstQ n m l k) (lstM n m (l ++ [(X : Int)])) rfl rfl H1.out H3.out hs9 hle9 ?_))
          intro v4 w10 h4 hg4
          have BB10 := Lib.hid (BB9.out.grown hg4 hs9 (fun g hg => (H1.out.outer.lt g hg).1))
          obtain ⟨na4, nc4, rfl⟩ := own_slice h4.outer
          have H4 : Hid (LsIn w.heap.size w10 (.slice na4 (lstQ n m l k ++ lstM n m (l ++ [(X : Int)])).length nc4) (cur ++ cur3) (lstQ n m l (k + 1))) := by
            show LsIn _ _ _ _ _
            rw [lstQ_succ, HFF.out, HX.out]
            exact h4
          generalize (lstQ n m l k ++ lstM n m (l ++ [(X : Int)])).length = l4 at *
          clear h4 hg4 H1 H3 hle9 hs9 BB9
          go_wp2
          go_roundg (gk - 1)
          case measure => omega
          case rel => exact ⟨k + 1, na4, l4, nc4, _, by omega, by rw [show 0 + (k + 1) = X + 1 by have := HX.out; omega]; go_num, rfl, H4, BB10⟩
        · have xI : ¬ (X : Int) < (n : Int) := by omega
          obtain rfl : k = N := by omega
          clear hlt hk hX
          go_wp2
          go_ret
          first | exact ⟨_, _, rfl, HLS.out.base hB, HBB.out⟩ | exact ⟨_, rfl, ⟨_, HLS.out.base hB⟩, HBB.out⟩
    · have tq : (0 : Int) < (q : Int) := by omega
      obtain ⟨q1, hq1⟩ : ∃ z : Nat, q = z + 1 := ⟨q - 1, by omega⟩
      have hq1l : q1 < l.length := by rw [HQ.out]; omega
      obtain ⟨lb, lo, rfl, e0⟩ := HI0.out.get hq1l
      have hxl := HXS.out _ (List.getElem_mem hq1l)
      have hfx : ((f : Nat) : Int) = l[q1] + 1 := by
        rw [← HFF.out]
        unfold fromL
        rw [if_neg (fun e => h0 (by rw [← HQ.out, e]; rfl)), HQ.out, show q - 1 = q1 by omega, show l.getD q1 0 = l[q1] by simp [List.getD_eq_getElem?_getD, hq1l]]
        omega
      generalize l[q1] = y at *
      have sq : IntKind.i64.wrap ((q : Int) - 1) = (q1 : Int) := by rw [IntKind.wrap_i64] <;> omega
      have sy : IntKind.i64.wrap (y + 1) = (f : Int) := by rw [IntKind.wrap_i64] <;> omega
      have q1I : (q1 : Int) < (q : Int) := by omega
      clear hfx hxl hq1l hq1
      have tq2 : decide (0 < q) = true := by simp; omega
      go_wp2_with fail
      have H00 := Lib.hid h0
      clear tz tq tq2 sq sy q1I e0 h0
      have own0 : Hid (LsIn w.heap.size w (.slice none 0 0) [] (lstQ n m l 0)) := LsIn.nil _ _
      go_loopg [8, 9] N (fun gh ov i wr => ∃ (k : Nat) (na : Option Addr) (ln nc : Nat) (cur : List Value), gh + k = N ∧ i = .int .i64 ((f + k : Nat) : Int) ∧ ov = .slice na ln nc ∧ Hid (LsIn w.heap.size wr (.slice na ln nc) cur (lstQ n m l k)) ∧ Hid (Below w.heap.size w wr))
      case atStart => exact ⟨0, none, 0, 0, [], by omega, by simp, rfl, own0, Below.refl _ _⟩
      case round =>
        clear own0
        obtain ⟨k, na, ln, nc, cur, hk, rfl, rfl, HLS, HBB⟩ := hrel
        obtain ⟨X, hX⟩ : ∃ z, f + k = z := ⟨_, rfl⟩
        rw [hX]
        have BZ := HBB.out.size
        by_cases hlt : k < N
        · have xI : (X : Int) < (n : Int) := by omega
          have xn : X < n := by omega
          have sx1 : IntKind.i64.wrap ((X : Int) + 1) = ((X + 1 : Nat) : Int) := by rw [IntKind.wrap_i64] <;> omega
          have HX := Lib.hid hX
          have hba : Below wr.heap.size wr (wr.alloc (Obj.cells #[] 3)) := (Below.refl _ _).alloc (Nat.le_refl _) _
          have hown := own_none wr 3 1
          have hsz : wr.heap.size ≤ (wr.alloc (Obj.cells #[] 3)).heap.size := by simp
          have L1a := Lib.hid ((HI0.out.below HBB.out).below hba)
          clear hX
          go_wp2_with (at_builtin; refine wpl_ints rfl _ _ rfl wr.heap.size 0 _ _ [] l rfl rfl rfl hown L1a.out hsz (by have := HQ.out; simp; omega) ?_)
          intro v1 w5 hown5 hg5
          rw [HQ.out] at hown5
          have B5 := Lib.hid (hba.grown hg5 hsz (fun g hg => by have := (hown.lt g hg).1; exact this))
          obtain ⟨va, vc, rfl⟩ := own_slice hown5
          have H5 := Lib.hid hown5
          have hb6 : Below w5.heap.size w5 (w5.alloc (Obj.cells #[.int .i64 (X : Int)] 3)) := (Below.refl _ _).alloc (Nat.le_refl _) _
          have hs5 : wr.heap.size ≤ w5.heap.size := B5.out.size
          have hs6 : wr.heap.size ≤ (w5.alloc (Obj.cells #[.int .i64 (X : Int)] 3)).heap.size := by simp; omega
          clear hown5 hg5 hown L1a hba hsz
          go_wp2_with (at_builtin; refine wpl_app1 rfl _ _ rfl wr.heap.size q _ _ w5.heap.size (X : Int) rfl rfl (H5.out.alloc _) (cellOf (heap_alloc_new w5 (Obj.cells #[.int .i64 (X : Int)] 3)) 0 _ rfl) (by omega) hs6 ?_)
          intro v2 w7 hown7 hg7 _
          have B7 := Lib.hid ((B5.out.trans (hb6.mono hs5)).grown hg7 hs6 (fun g hg => by have := (H5.out.lt g hg).1; exact this))
          obtain ⟨va2, vc2, rfl⟩ := own_slice hown7
          have hl7 : (l ++ [(X : Int)]).length = q + 1 := by simp [HQ.out]
          have hcall := HIH.out (l ++ [(X : Int)]) _ w7 wr.heap.size m8 B7.out.size (by rw [hl7, List.map_append]; exact hown7) (by rw [hl7]; omega) (fun x hx => by
            rcases List.mem_append.1 hx with h | h
            · exact HXS.out x h
            · simp at h; omega)
          have HCL := Lib.hid hcall
          clear hown7 hg7 H5 hb6 hs5 hs6 B5 hl7 hcall
          go_wp2_with fail
          refine HCL.out.mono ?_
          rintro e w9 ⟨v3, cur3, rfl, h3, hb9⟩
          have B9 := Lib.hid (B7.out.trans (hb9.mono B7.out.size))
          obtain ⟨ua, uc, rfl⟩ := own_slice h3.outer
          have H3 := Lib.hid (h3.base BZ)
          have H1 := Lib.hid (HLS.out.up B9.out)
          have BB9 := Lib.hid (HBB.out.trans (B9.out.mono BZ))
          have hln := lstQ_len n hn m m8 l k (by omega)
          have hlm2 := lstM_len n hn m (l ++ [(X : Int)])
          have hp8 : 8 ^ m ≤ 8 ^ 8 := Nat.pow_le_pow_right (by decide) m8
          have hle9 : (lstQ n m l k).length + (lstM n m (l ++ [(X : Int)])).length ≤ 1000000000 := by omega
          have hs9 : w.heap.size ≤ w9.heap.size := BB9.out.size
          clear h3 hb9 HCL B7 B9 HLS HBB hln hlm2 hp8
          go_wp2_with (at_builtin; go_must (refine wpl_lists rfl _ _ rfl w.heap.size _ _ cur cur3 (lstQ n m l k) (lstM n m (l ++ [(X : Int)])) rfl rfl H1.out H3.out hs9 hle9 ?_))
          intro v4 w10 h4 hg4
          have BB10 := Lib.hid (BB9.out.grown hg4 hs9 (fun g hg => (H1.out.outer.lt g hg).1))
          obtain ⟨na4, nc4, rfl⟩ := own_slice h4.outer
          have H4 : Hid (LsIn w.heap.size w10 (.slice na4 (lstQ n m l k ++ lstM n m (l ++ [(X : Int)])).length nc4) (cur ++ cur3) (lstQ n m l (k + 1))) := by
            show LsIn _ _ _ _ _
            rw [lstQ_succ, HFF.out, HX.out]
            exact h4
          generalize (lstQ n m l k ++ lstM n m (l ++ [(X : Int)])).length = l4 at *
          clear h4 hg4 H1 H3 hle9 hs9 BB9
          go_wp2
          go_roundg (gk - 1)
          case measure => omega
          case rel => exact ⟨k + 1, na4, l4, nc4, _, by omega, by rw [show f + (k + 1) = X + 1 by have := HX.out; omega]; go_num, rfl, H4, BB10⟩
        · have xI : ¬ (X : Int) < (n : Int) := by omega
          obtain rfl : k = N := by omega
          clear hlt hk hX
          go_wp2
          go_ret
          first | exact ⟨_, _, rfl, HLS.out.base hB, HBB.out⟩ | exact ⟨_, rfl, ⟨_, HLS.out.base hB⟩, HBB.out⟩
end Go.Proofs.Ytojdocomkhihoaa
namespace Go.Proofs.Ytojdocomkhihoaa
open Go Go.RowKit Go.Shelf Ed

/-! ## some -/
theorem odd_pre {c : Cas} {l t : List Int} {i : Nat} (h : (c.eds.getD i default).a.toNat < l.length ∧ (c.eds.getD i default).b.toNat < l.length) : oddB c (l ++ t) i = oddB c l i := by
  have e : ∀ j, j < l.length → (l ++ t).getD j 0 = l.getD j 0 := fun j hj => by
    rw [List.getD_eq_getElem?_getD, List.getD_eq_getElem?_getD, List.getElem?_append_left hj]
  unfold oddB
  rw [e _ h.1, e _ h.2]
theorem fits_iff (c : Cas) (l : List Int) : fitsC c l = true ↔ ∀ i, i < c.eds.length → max (c.eds.getD i default).a.toNat (c.eds.getD i default).b.toNat + 1 = l.length → oddB c l i = false := by
  unfold fitsC
  rw [List.all_eq_true]
  constructor
  · intro h i hi hm
    have h1 := h i (List.mem_range.2 hi)
    unfold badB at h1
    rw [decide_eq_true hm, Bool.true_and] at h1
    cases hq : oddB c l i
    · rfl
    · rw [hq] at h1; cases h1
  · intro h i hi
    have hi' := List.mem_range.1 hi
    unfold badB
    by_cases e : max (c.eds.getD i default).a.toNat (c.eds.getD i default).b.toNat + 1 = l.length
    · rw [decide_eq_true e, h i hi' e]; rfl
    · rw [decide_eq_false e]; rfl
theorem someM_spec (c : Cas) (hv : Valid c) : ∀ (r : Nat) (l : List Int), l.length + r = c.shs.length → (someM c r l = true ↔ ∃ t : List Int, t.length = r ∧ (∀ i, i < r → -(c.shs.getD (l.length + i) default).most ≤ t.getD i 0 ∧ t.getD i 0 ≤ (c.shs.getD (l.length + i) default).most) ∧
    ∀ i, i < c.eds.length → l.length ≤ max (c.eds.getD i default).a.toNat (c.eds.getD i default).b.toNat → oddB c (l ++ t) i = false) := by
  intro r
  induction r with
  | zero =>
    intro l hl
    constructor
    · intro _
      refine ⟨[], rfl, fun i hi => absurd hi (Nat.not_lt_zero _), fun i hi hm => ?_⟩
      have hed := hv.ed _ (List.getElem_mem hi)
      rw [getD_lt _ _ hi] at hm
      have := hed.an; have := hed.bn; have := hed.a0; have := hed.b0
      omega
    · intro _; rfl
  | succ r ih =>
    intro l hl
    have hll : l.length < c.shs.length := by omega
    have hm0 := (hv.sh _ (List.getElem_mem hll)).m0
    have hl1 : ∀ x : Int, (l ++ [x]).length = l.length + 1 := fun x => by simp
    have hmm : (c.shs.getD l.length default).most = c.shs[l.length].most := by rw [getD_lt _ _ hll]
    constructor
    · intro h
      simp only [someM] at h
      rw [List.any_eq_true] at h
      obtain ⟨k, hk, hx⟩ := h
      rw [Bool.and_eq_true] at hx
      obtain ⟨h1, h2⟩ := hx
      have hk' := List.mem_range.1 hk
      generalize hxx : (k : Int) - (c.shs.getD l.length default).most = x at *
      obtain ⟨t, ht1, ht2, ht3⟩ := (ih (l ++ [x]) (by rw [hl1]; omega)).1 h2
      refine ⟨x :: t, by simp [ht1], fun i hi => ?_, fun i hi hm => ?_⟩
      · cases i with
        | zero => simp only [Nat.add_zero, List.getD_cons_zero]; omega
        | succ i =>
          have := ht2 i (by omega)
          rw [hl1] at this
          simp only [List.getD_cons_succ]
          rw [show l.length + (i + 1) = l.length + 1 + i by omega]
          exact this
      · rw [show l ++ x :: t = (l ++ [x]) ++ t by simp]
        by_cases e : l.length + 1 ≤ max (c.eds.getD i default).a.toNat (c.eds.getD i default).b.toNat
        · exact ht3 i hi (by rw [hl1]; exact e)
        · rw [odd_pre (by rw [hl1]; omega)]
          exact (fits_iff c _).1 h1 i hi (by rw [hl1]; omega)
    · rintro ⟨t, ht1, ht2, ht3⟩
      cases t with
      | nil => simp at ht1
      | cons x t =>
        have hx := ht2 0 (by omega)
        simp only [Nat.add_zero, List.getD_cons_zero] at hx
        have hkk : ((x + (c.shs.getD l.length default).most).toNat : Int) - (c.shs.getD l.length default).most = x := by omega
        refine someM_yes (x + (c.shs.getD l.length default).most).toNat (by omega) ?_ ?_
        · rw [hkk]
          rw [fits_iff]
          intro i hi hm
          rw [hl1] at hm
          have := ht3 i hi (by omega)
          rw [show l ++ x :: t = (l ++ [x]) ++ t by simp, odd_pre (by rw [hl1]; omega)] at this
          exact this
        · rw [hkk]
          refine (ih (l ++ [x]) (by rw [hl1]; omega)).2 ⟨t, by simpa using ht1, fun i hi => ?_, fun i hi hm => ?_⟩
          · have := ht2 (i + 1) (by omega)
            simp only [List.getD_cons_succ] at this
            rw [hl1, show l.length + 1 + i = l.length + (i + 1) by omega]
            exact this
          · rw [hl1] at hm
            have := ht3 i hi (by omega)
            rw [show l ++ x :: t = (l ++ [x]) ++ t by simp] at this
            exact this
theorem some_iff (c : Cas) (h : errC c = 0) : someM c c.shs.length [] = true ↔ ∃ y, Ag (sysA c) y := by
  have hv := valid_of h
  have h5 := hv.n5
  rw [someM_spec c hv c.shs.length [] (by simp)]
  have hodd : ∀ t : List Int, (∀ i, i < c.eds.length → oddB c t i = false) ↔ oddR c t < 0 := by
    intro t
    unfold oddR
    constructor
    · intro hz
      have := firstB_no (oddB c t) c.eds.length hz
      omega
    · intro hz i hi
      cases hq : oddB c t i
      · rfl
      · have := (firstB_iff (oddB c t) c.eds.length).2 ⟨i, hi, hq⟩
        omega
  constructor
  · rintro ⟨t, h1, h2, h3⟩
    have ha : agreeB c t = true := by
      unfold agreeB
      rw [Bool.and_eq_true, decide_eq_true_eq, decide_eq_true_eq]
      refine ⟨chgE_in h h1 fun k hk => ?_, (hodd t).1 fun i hi => ?_⟩
      · have := h2 k (by omega)
        unfold inM inB
        simp only [List.length_nil, Nat.zero_add] at this
        simp only [Bool.and_eq_true, decide_eq_true_eq]
        exact this
      · have := h3 i hi (by simp)
        simpa using this
    exact ⟨_, ((agree_iff c h t).1 ha).2⟩
  · rintro ⟨y, hy⟩
    have hg : ∀ i, i < c.shs.length → ((List.range c.shs.length).map y).getD i 0 = y i := fun i hi => by simp [List.getD_eq_getElem?_getD, hi]
    have hl : ((List.range c.shs.length).map y).length = c.shs.length := by simp
    have hy2 : Ag (sysA c) (fun i => ((List.range c.shs.length).map y).getD i 0) := hy.congr (sys_fine c hv _) fun i hi => (hg i hi).symm
    have ha := (agree_iff c h ((List.range c.shs.length).map y)).2 ⟨hl, hy2⟩
    unfold agreeB at ha
    rw [Bool.and_eq_true, decide_eq_true_eq, decide_eq_true_eq] at ha
    refine ⟨(List.range c.shs.length).map y, hl, fun i hi => ?_, fun i hi _ => ?_⟩
    · have := hy2.bx i hi
      simp only [List.length_nil, Nat.zero_add]
      exact this
    · rw [List.nil_append]
      exact (hodd _).2 ha.2 i hi
/-! ## The order of lists -/
theorem cmpS_self (a : Int) : cmpS a a = 0 := by unfold cmpS; simp
theorem cmpL_self : ∀ l : List Int, cmpL l l = 0 := by
  intro l
  induction l with
  | nil => rfl
  | cons a l ih => simp [cmpL, cmpS_self, ih]
theorem cmpL_trans : ∀ a b c : List Int, cmpL a b < 0 → cmpL b c < 0 → cmpL a c < 0 := by
  intro a
  induction a with
  | nil =>
    intro b c h1 h2
    cases c with
    | nil => cases b <;> simp [cmpL] at h1 h2
    | cons => simp [cmpL]
  | cons x a ih =>
    intro b c h1 h2
    cases b with
    | nil => simp [cmpL] at h1
    | cons y b =>
      cases c with
      | nil => simp [cmpL] at h2
      | cons z c =>
        simp only [cmpL] at h1 h2 ⊢
        by_cases e1 : cmpS x y = 0
        · rw [if_pos e1] at h1
          by_cases e2 : cmpS y z = 0
          · rw [if_pos e2] at h2
            rw [if_pos (by unfold cmpS at *; split at e1 <;> split at e2 <;> split <;> (try split at e1) <;> (try split at e2) <;> (try split) <;> omega)]
            exact ih b c h1 h2
          · rw [if_neg e2] at h2
            have hxz : cmpS x z = cmpS y z := by
              have : x = y := by unfold cmpS at e1; split at e1 <;> (try split at e1) <;> omega
              rw [this]
            rw [hxz, if_neg e2]
            exact h2
        · rw [if_neg e1] at h1
          have hxy : x < y := by unfold cmpS at h1; split at h1 <;> (try split at h1) <;> omega
          by_cases e2 : cmpS y z = 0
          · have : y = z := by unfold cmpS at e2; split at e2 <;> (try split at e2) <;> omega
            subst this
            rw [if_neg e1]; exact h1
          · rw [if_neg e2] at h2
            have hyz : y < z := by unfold cmpS at h2; split at h2 <;> (try split at h2) <;> omega
            have hxz : cmpS x z = -1 := by unfold cmpS; rw [if_pos (by omega)]
            rw [hxz, if_neg (by decide)]; decide
theorem cmpL_eq : ∀ a b : List Int, cmpL a b = 0 → a = b := by
  intro a
  induction a with
  | nil => intro b h; cases b <;> simp [cmpL] at h ⊢
  | cons x a ih =>
    intro b h
    cases b with
    | nil => simp [cmpL] at h
    | cons y b =>
      simp only [cmpL] at h
      by_cases e : cmpS x y = 0
      · rw [if_pos e] at h
        have : x = y := by unfold cmpS at e; split at e <;> (try split at e) <;> omega
        rw [this, ih b h]
      · rw [if_neg e] at h; exact absurd h e
theorem cmpL_swap : ∀ a b : List Int, 0 < cmpL a b → cmpL b a < 0 := by
  intro a
  induction a with
  | nil => intro b h; cases b <;> simp [cmpL] at h
  | cons x a ih =>
    intro b h
    cases b with
    | nil => simp [cmpL]
    | cons y b =>
      simp only [cmpL] at h ⊢
      by_cases e : cmpS x y = 0
      · rw [if_pos e] at h
        have : x = y := by unfold cmpS at e; split at e <;> (try split at e) <;> omega
        rw [if_pos (by rw [this]; exact cmpS_self y)]
        exact ih b h
      · rw [if_neg e] at h
        have hxy : y < x := by unfold cmpS at h; split at h <;> (try split at h) <;> omega
        have : cmpS y x = -1 := by unfold cmpS; rw [if_pos hxy]
        rw [this, if_neg (by decide)]; decide
theorem few_trans {a b c : List Int} (h1 : fewE a b = true) (h2 : fewE b c = true) : fewE a c = true := by
  unfold fewE at *
  simp only [Bool.or_eq_true, Bool.and_eq_true, decide_eq_true_eq] at *
  rcases h1 with h1 | ⟨h1, h1'⟩ <;> rcases h2 with h2 | ⟨h2, h2'⟩
  · left; omega
  · left; omega
  · left; omega
  · right; exact ⟨by omega, cmpL_trans _ _ _ h1' h2'⟩
theorem few_self (a : List Int) : fewE a a = false := by
  unfold fewE
  rw [cmpL_self]
  simp
theorem few_total {a b : List Int} (h1 : fewE a b = false) (h2 : fewE b a = false) : a = b := by
  unfold fewE at *
  simp only [Bool.or_eq_false_iff, Bool.and_eq_false_iff, decide_eq_false_iff_not] at *
  have hl : a.length = b.length := by omega
  apply cmpL_eq
  rcases h1.2 with h | h
  · exact absurd hl h
  · rcases h2.2 with g | g
    · exact absurd hl.symm g
    · rcases Int.lt_trichotomy (cmpL a b) 0 with k | k | k
      · exact absurd k h
      · exact k
      · exact absurd (cmpL_swap a b k) g
theorem best_min (z : List Int) : ∀ l : List (List Int), (l = [] ∧ bestS fewE z l = (z, true)) ∨ ((bestS fewE z l).2 = false ∧ (bestS fewE z l).1 ∈ l ∧ ∀ b, b ∈ l → fewE b (bestS fewE z l).1 = false) := by
  have key : ∀ (n : Nat) (l : List (List Int)), l.length = n → (l = [] ∧ bestS fewE z l = (z, true)) ∨ ((bestS fewE z l).2 = false ∧ (bestS fewE z l).1 ∈ l ∧ ∀ b, b ∈ l → fewE b (bestS fewE z l).1 = false) := by
    intro n
    induction n with
    | zero => intro l hl; left; have := List.length_eq_zero_iff.1 hl; subst this; exact ⟨rfl, rfl⟩
    | succ n ih' =>
      intro l hl
      have hne : l ≠ [] := fun e => by rw [e] at hl; simp at hl
      have hd := List.dropLast_concat_getLast hne
      have ih := ih' l.dropLast (by simp; omega)
      generalize l.getLast hne = x at hd
      generalize l.dropLast = l' at hd ih
      subst hd
      right
      rw [bestS_snoc]
      rcases ih with ⟨hl, hb⟩ | ⟨h1, h2, h3⟩
      · rw [hb]
        simp only [Bool.true_or, if_true]
        refine ⟨trivial, by simp, fun b hb' => ?_⟩
        rw [hl] at hb'
        simp at hb'
        subst hb'
        exact few_self _
      · rw [h1]
        cases hx : fewE x (bestS fewE z l').1
        · simp only [Bool.or_self, Bool.false_eq_true, if_false]
          refine ⟨h1, List.mem_append_left _ h2, fun b hb => ?_⟩
          rcases List.mem_append.1 hb with h | h
          · exact h3 b h
          · simp at h; subst h; exact hx
        · simp only [Bool.or_true, if_true]
          refine ⟨trivial, by simp, fun b hb => ?_⟩
          rcases List.mem_append.1 hb with h | h
          · cases hq : fewE b x
            · rfl
            · have := few_trans hq hx
              rw [h3 b h] at this
              cases this
          · simp at h; subst h; exact few_self _
  exact fun l => key l.length l rfl
/-! ## The lists -/
/-- Numbers that ascend, from one on, below another one. -/
def Chn (n : Nat) : Nat → List Int → Prop
  | _, [] => True
  | f, x :: t => ∃ d : Nat, x = (d : Int) ∧ f ≤ d ∧ d < n ∧ Chn n (d + 1) t
theorem fromL_snoc (l : List Int) (x : Nat) : fromL (l ++ [(x : Int)]) = x + 1 := by
  unfold fromL
  rw [if_neg (by simp)]
  have : (l ++ [(x : Int)]).getD ((l ++ [(x : Int)]).length - 1) 0 = x := by
    rw [List.getD_eq_getElem?_getD, show (l ++ [(x : Int)]).length - 1 = l.length by simp, List.getElem?_append_right (Nat.le_refl _)]
    simp
  rw [this]
  omega
theorem lstM_mem (n : Nat) : ∀ (k : Nat) (l b : List Int), b ∈ lstM n k l ↔ ∃ t, b = l ++ t ∧ t.length = k ∧ Chn n (fromL l) t := by
  intro k
  induction k with
  | zero =>
    intro l b
    simp only [lstM, List.mem_singleton]
    constructor
    · rintro rfl; exact ⟨[], by simp, rfl, trivial⟩
    · rintro ⟨t, rfl, ht, _⟩
      have := List.length_eq_zero_iff.1 ht
      subst this
      simp
  | succ k ih =>
    intro l b
    simp only [lstM, List.mem_flatMap, List.mem_range]
    constructor
    · rintro ⟨d, hd, hb⟩
      obtain ⟨t, rfl, ht, hc⟩ := (ih _ _).1 hb
      rw [fromL_snoc] at hc
      exact ⟨((fromL l + d : Nat) : Int) :: t, by simp, by simp [ht], fromL l + d, rfl, by omega, by omega, hc⟩
    · rintro ⟨t, rfl, ht, hc⟩
      cases t with
      | nil => simp at ht
      | cons x t =>
        obtain ⟨d, rfl, h1, h2, h3⟩ := hc
        refine ⟨d - fromL l, by omega, (ih _ _).2 ⟨t, ?_, by simpa using ht, ?_⟩⟩
        · rw [show fromL l + (d - fromL l) = d by omega]; simp
        · rw [show fromL l + (d - fromL l) = d by omega, fromL_snoc]; exact h3
theorem cmpL_app (l : List Int) (a b : Int) (s t : List Int) (h : a < b) : cmpL (l ++ a :: s) (l ++ b :: t) < 0 := by
  induction l with
  | nil =>
    have e : cmpS a b = -1 := by unfold cmpS; rw [if_pos h]
    simp [cmpL, e]
  | cons x l ih =>
    simp only [List.cons_append, cmpL]
    rw [if_pos (cmpS_self x)]
    exact ih
theorem lstM_sorted (n : Nat) : ∀ (k : Nat) (l : List Int), (lstM n k l).Pairwise (fun a b => cmpL a b < 0) := by
  intro k
  induction k with
  | zero => intro l; simp [lstM]
  | succ k ih =>
    intro l
    simp only [lstM]
    rw [List.pairwise_flatMap]
    refine ⟨fun d _ => ih _, List.pairwise_lt_range.imp fun {d1 d2} hd x hx y hy => ?_⟩
    obtain ⟨t1, rfl, _, _⟩ := (lstM_mem n k _ _).1 hx
    obtain ⟨t2, rfl, _, _⟩ := (lstM_mem n k _ _).1 hy
    rw [List.append_assoc, List.append_assoc]
    exact cmpL_app l _ _ t1 t2 (by omega)
theorem chn_of (n : Nat) : ∀ (js : List Nat) (f : Nat), js.Pairwise (· < ·) → (∀ j, j ∈ js → f ≤ j ∧ j < n) → Chn n f (js.map fun (j : Nat) => (j : Int)) := by
  intro js
  induction js with
  | nil => intro f _ _; trivial
  | cons j js ih =>
    intro f hp hb
    rw [List.pairwise_cons] at hp
    have hj := hb j (List.mem_cons_self ..)
    exact ⟨j, rfl, hj.1, hj.2, ih (j + 1) hp.2 fun i hi => ⟨hp.1 i hi, (hb i (List.mem_cons_of_mem _ hi)).2⟩⟩
theorem lsI_chn (s m : Nat) : Chn m 0 (lsI s m) := by
  unfold lsI lstK
  refine chn_of m _ 0 ((List.pairwise_lt_range (n := m)).filter _) fun j hj => ?_
  have := List.mem_range.1 (List.mem_filter.1 hj).1
  omega
theorem chn_mem {n : Nat} : ∀ (t : List Int) (f : Nat), Chn n f t → ∀ x, x ∈ t → (f : Int) ≤ x ∧ x < n := by
  intro t
  induction t with
  | nil => intro f _ x hx; simp at hx
  | cons y t ih =>
    rintro f ⟨d, rfl, h1, h2, h3⟩ x hx
    rcases List.mem_cons.1 hx with rfl | hx
    · omega
    · have := ih (d + 1) h3 x hx
      omega
theorem chn_ext {n : Nat} : ∀ (s t : List Int) (f : Nat), Chn n f s → Chn n f t → (∀ x, x ∈ s ↔ x ∈ t) → s = t := by
  intro s
  induction s with
  | nil =>
    intro t f _ _ h
    cases t with
    | nil => rfl
    | cons y t => exact absurd ((h y).2 (List.mem_cons_self ..)) (by simp)
  | cons x s ih =>
    intro t f hs ht h
    cases t with
    | nil => exact absurd ((h x).1 (List.mem_cons_self ..)) (by simp)
    | cons y t =>
      obtain ⟨d, rfl, h1, h2, h3⟩ := hs
      obtain ⟨e, rfl, g1, g2, g3⟩ := ht
      have hx := (h (d : Int)).1 (List.mem_cons_self ..)
      have hy := (h (e : Int)).2 (List.mem_cons_self ..)
      have hde : d = e := by
        rcases List.mem_cons.1 hx with k1 | k1
        · omega
        · rcases List.mem_cons.1 hy with k2 | k2
          · omega
          · have := chn_mem t (e + 1) g3 _ k1
            have := chn_mem s (d + 1) h3 _ k2
            omega
      subst hde
      congr 1
      refine ih t (d + 1) h3 g3 fun z => ?_
      constructor
      · intro hz
        have hb := chn_mem s (d + 1) h3 z hz
        rcases List.mem_cons.1 ((h z).1 (List.mem_cons_of_mem _ hz)) with k | k
        · omega
        · exact k
      · intro hz
        have hb := chn_mem t (d + 1) g3 z hz
        rcases List.mem_cons.1 ((h z).2 (List.mem_cons_of_mem _ hz)) with k | k
        · omega
        · exact k
theorem lsI_mem2 (s m i : Nat) (hi : i < m) : decide ((i : Int) ∈ lsI s m) = s.testBit i := by
  unfold lsI lstK
  rw [Bool.eq_iff_iff, decide_eq_true_eq]
  constructor
  · intro h
    obtain ⟨j, hj, e⟩ := List.mem_map.1 h
    have := (List.mem_filter.1 hj).2
    have hij : j = i := by omega
    subst hij
    exact this
  · intro h
    exact List.mem_map.2 ⟨i, List.mem_filter.2 ⟨List.mem_range.2 hi, h⟩, rfl⟩
theorem chn_set (m : Nat) (t : List Int) (h : Chn m 0 t) : ∃ s, s < 2 ^ m ∧ lsI s m = t := by
  obtain ⟨s, hs, hb⟩ := set_of (fun i => decide ((i : Int) ∈ t)) m
  refine ⟨s, hs, chn_ext _ _ 0 (lsI_chn s m) h fun x => ?_⟩
  constructor
  · intro hx
    have hr := chn_mem _ 0 (lsI_chn s m) x hx
    have h1 := lsI_mem2 s m x.toNat (by omega)
    rw [hb _ (by omega), show ((x.toNat : Nat) : Int) = x by omega] at h1
    rw [decide_eq_true hx] at h1
    exact of_decide_eq_true h1.symm
  · intro hx
    have hr := chn_mem _ 0 h x hx
    have h1 := lsI_mem2 s m x.toNat (by omega)
    rw [hb _ (by omega), show ((x.toNat : Nat) : Int) = x by omega] at h1
    rw [decide_eq_true hx] at h1
    exact of_decide_eq_true h1
theorem canS_ext (c : Cas) (s t : Nat) (h : lsI s c.eds.length = lsI t c.eds.length) : canS c s = canS c t := by
  have hb : ∀ i, i < c.eds.length → s.testBit i = t.testBit i := fun i hi => by rw [← lsI_mem2 s _ i hi, ← lsI_mem2 t _ i hi, h]
  have hr : resK s c.eds.length = resK t c.eds.length := by
    unfold resK
    apply List.filter_congr
    intro j hj
    rw [hb j (List.mem_range.1 hj)]
  have hl : lessC c s = lessC c t := by unfold lessC; rw [hr]
  unfold canS
  rw [hl]
/-- The first list that will do is what Without answers. -/
theorem first_is (c : Cas) (h : errC c = 0) (k : Nat) (L : List (List Int)) (hL : lstM c.eds.length k [] = L) (j s : Nat) (hj : j < L.length) (hs : lsI s c.eds.length = L[j]) (hok : canS c s = true)
    (h1 : ∀ many, many < k → ∀ b, b ∈ lstM c.eds.length many [] → ∀ t, lsI t c.eds.length = b → canS c t = false)
    (h2 : ∀ i (hi : i < L.length), i < j → ∀ t, lsI t c.eds.length = L[i] → canS c t = false) : withoutE c = (L[j], 0) := by
  unfold withoutE
  rw [if_neg (by simp [h])]
  have hspare : ∀ b, b ∈ spareL c ↔ ∃ t, t < 2 ^ c.eds.length ∧ canS c t = true ∧ lsI t c.eds.length = b := by
    intro b
    unfold spareL spareTo
    rw [List.mem_filterMap]
    constructor
    · rintro ⟨t, ht, hb⟩
      cases hc : canS c t
      · rw [hc] at hb; simp at hb
      · rw [hc] at hb; simp at hb; exact ⟨t, (setsL_mem _ _).1 ht, hc, hb⟩
    · rintro ⟨t, ht, hc, hb⟩
      exact ⟨t, (setsL_mem _ _).2 ht, by rw [hc]; simp [hb]⟩
  have hLj : L[j] ∈ lstM c.eds.length k [] := by rw [hL]; exact List.getElem_mem hj
  obtain ⟨tj, e1, e2, e3⟩ := (lstM_mem _ _ _ _).1 hLj
  rw [List.nil_append] at e1
  have hlen : L[j].length = k := by rw [e1]; exact e2
  obtain ⟨s0, hs0, hs1⟩ := chn_set c.eds.length L[j] (by rw [e1]; exact e3)
  have hs2 : canS c s0 = true := by rw [canS_ext c s0 s (by rw [hs1, hs])]; exact hok
  have hmem : L[j] ∈ spareL c := (hspare _).2 ⟨s0, hs0, hs2, hs1⟩
  have hsort := lstM_sorted c.eds.length k []
  rw [hL] at hsort
  have hmin : ∀ b, b ∈ spareL c → fewE b L[j] = false := by
    intro b hb
    obtain ⟨t, ht, hc, rfl⟩ := (hspare b).1 hb
    cases hf : fewE (lsI t c.eds.length) L[j]
    · rfl
    · exfalso
      unfold fewE at hf
      simp only [Bool.or_eq_true, Bool.and_eq_true, decide_eq_true_eq] at hf
      have hin : ∀ q, (lsI t c.eds.length).length = q → lsI t c.eds.length ∈ lstM c.eds.length q [] := fun q hq => (lstM_mem _ _ _ _).2 ⟨lsI t c.eds.length, by simp, hq, by have := lsI_chn t c.eds.length; simpa [fromL] using this⟩
      rcases hf with hf | ⟨hf1, hf2⟩
      · have := h1 _ (by rw [hlen] at hf; exact hf) _ (hin _ rfl) t rfl
        rw [hc] at this; cases this
      · have hbL := hin k (by rw [hf1, hlen])
        rw [hL] at hbL
        obtain ⟨i, hi, hie⟩ := List.mem_iff_getElem.1 hbL
        rcases Nat.lt_trichotomy i j with q | q | q
        · have := h2 i hi q t hie.symm
          rw [hc] at this; cases this
        · subst q
          rw [← hie, cmpL_self] at hf2
          omega
        · have hji := List.pairwise_iff_getElem.1 hsort j i hj hi q
          rw [hie] at hji
          have := cmpL_trans _ _ _ hf2 hji
          rw [cmpL_self] at this
          omega
  unfold withoutC
  rcases best_min [] (spareL c) with ⟨hn, _⟩ | ⟨_, b2, b3⟩
  · rw [hn] at hmem; simp at hmem
  · have := few_total (hmin _ b2) (b3 _ hmem)
    rw [this]
/-- Some list will do. -/
theorem first_some (c : Cas) (h : errC c = 0) (hno : ∀ many, many ≤ c.eds.length → ∀ b, b ∈ lstM c.eds.length many [] → ∀ t, lsI t c.eds.length = b → canS c t = false) : False := by
  have hv := valid_of h
  have hall : canS c (2 ^ c.eds.length - 1) = true := by
    rw [canS_iff c hv]
    have hl := less_valid c hv (2 ^ c.eds.length - 1)
    have he : (lessC c (2 ^ c.eds.length - 1)).eds = [] := by
      show (resK _ _).map _ = []
      have : resK (2 ^ c.eds.length - 1) c.eds.length = [] := by
        unfold resK
        rw [List.filter_eq_nil_iff]
        intro j hj
        have := List.mem_range.1 hj
        rw [Nat.testBit_two_pow_sub_one]
        simp [this]
      rw [this]; rfl
    refine ⟨fun _ => 0, ⟨fun i hi => ?_, fun e hem => ?_⟩⟩
    · have h0 : 0 ≤ (sysA (lessC c (2 ^ c.eds.length - 1))).most i := (sys_fine _ hl (wsC (lessC c (2 ^ c.eds.length - 1)))).m0 i hi
      show -(sysA (lessC c (2 ^ c.eds.length - 1))).most i ≤ 0 ∧ 0 ≤ (sysA (lessC c (2 ^ c.eds.length - 1))).most i
      omega
    · simp only [sysC, he, List.length_nil, List.range_zero, List.map_nil] at hem
      simp at hem
  have hlen : (lsI (2 ^ c.eds.length - 1) c.eds.length).length ≤ c.eds.length := by
    unfold lsI
    rw [List.length_map]
    exact lstK_le _ _
  have := hno _ hlen _ ((lstM_mem _ _ _ _).2 ⟨lsI (2 ^ c.eds.length - 1) c.eds.length, (List.nil_append _).symm, rfl, by rw [show fromL [] = 0 from rfl]; exact lsI_chn _ _⟩) _ rfl
  rw [hall] at this
  cases this
end Go.Proofs.Ytojdocomkhihoaa
namespace Go.Proofs.Ytojdocomkhihoaa
open Go Go.RowKit Go.Shelf Ed

/-- Numbers that go on from l so that all agree. -/
structure Ext (c : Cas) (r : Nat) (l t : List Int) : Prop where
  len : t.length = r
  bd : ∀ i, i < r → -(c.shs.getD (l.length + i) default).most ≤ t.getD i 0 ∧ t.getD i 0 ≤ (c.shs.getD (l.length + i) default).most
  ed : ∀ i, i < c.eds.length → l.length ≤ max (c.eds.getD i default).a.toNat (c.eds.getD i default).b.toNat → oddB c (l ++ t) i = false
def costL (c : Cas) (l : List Int) : Int := costK c.shs l l.length
abbrev Fnd := Option (List Int × Int × Int)
def joinF (c : Cas) : Fnd → Fnd → Fnd
  | a, none => a
  | none, some x => some x
  | some o, some x => some (if costL c x.1 < costL c o.1 then x.1 else o.1, min o.2.1 x.2.1, max o.2.2 x.2.2)
/-- What All finds of the first k numbers behind l. -/
def allQ (c : Cas) (f : List Int → Fnd) (l : List Int) (most : Int) : Nat → Fnd
  | 0 => none
  | k + 1 => joinF c (allQ c f l most k) (if fitsC c (l ++ [(k : Int) - most]) = true then f (l ++ [(k : Int) - most]) else none)
def allM (c : Cas) (sheet : Nat) : Nat → List Int → Fnd
  | 0, l => some (l, l.getD sheet 0, l.getD sheet 0)
  | r + 1, l => allQ c (allM c sheet r) l (c.shs.getD l.length default).most (2 * (c.shs.getD l.length default).most + 1).toNat
/-- What is found of some lists. -/
structure FndOk (c : Cas) (sheet : Nat) (P : List Int → Prop) (o : List Int × Int × Int) : Prop where
  mem : P o.1
  least : ∀ b, P b → costL c o.1 ≤ costL c b
  first : ∀ b, P b → costL c b = costL c o.1 → b = o.1 ∨ cmpL o.1 b < 0
  bd : ∀ b, P b → o.2.1 ≤ b.getD sheet 0 ∧ b.getD sheet 0 ≤ o.2.2
  lo : ∃ b, P b ∧ b.getD sheet 0 = o.2.1
  hi : ∃ b, P b ∧ b.getD sheet 0 = o.2.2
def FndIs (c : Cas) (sheet : Nat) (P : List Int → Prop) : Fnd → Prop
  | none => ∀ b, ¬ P b
  | some o => FndOk c sheet P o
theorem FndIs.congr {c : Cas} {sheet : Nat} {P Q : List Int → Prop} (h : ∀ b, P b ↔ Q b) {o : Fnd} (hp : FndIs c sheet P o) : FndIs c sheet Q o := by
  have : P = Q := funext fun b => propext (h b)
  rw [← this]
  exact hp
theorem FndIs.join {c : Cas} {sheet : Nat} {P Q : List Int → Prop} {a x : Fnd} (hlt : ∀ b d, P b → Q d → cmpL b d < 0) (ha : FndIs c sheet P a) (hx : FndIs c sheet Q x) : FndIs c sheet (fun b => P b ∨ Q b) (joinF c a x) := by
  cases x with
  | none =>
    have e : joinF c a none = a := by cases a <;> rfl
    rw [e]
    exact ha.congr fun b => ⟨.inl, fun h => h.elim id fun q => absurd q (hx b)⟩
  | some x =>
    cases a with
    | none => exact hx.congr fun b => ⟨.inr, fun h => h.elim (fun p => absurd p (ha b)) id⟩
    | some o =>
      show FndOk c sheet _ (if costL c x.1 < costL c o.1 then x.1 else o.1, min o.2.1 x.2.1, max o.2.2 x.2.2)
      have ho : FndOk c sheet P o := ha
      have hx : FndOk c sheet Q x := hx
      have hbd : ∀ b, P b ∨ Q b → min o.2.1 x.2.1 ≤ b.getD sheet 0 ∧ b.getD sheet 0 ≤ max o.2.2 x.2.2 := by
        rintro b (h | h)
        · have := ho.bd b h; omega
        · have := hx.bd b h; omega
      have hlo : ∃ b, (P b ∨ Q b) ∧ b.getD sheet 0 = min o.2.1 x.2.1 := by
        obtain ⟨b1, p1, e1⟩ := ho.lo
        obtain ⟨b2, p2, e2⟩ := hx.lo
        by_cases h : o.2.1 ≤ x.2.1
        · exact ⟨b1, .inl p1, by omega⟩
        · exact ⟨b2, .inr p2, by omega⟩
      have hhi : ∃ b, (P b ∨ Q b) ∧ b.getD sheet 0 = max o.2.2 x.2.2 := by
        obtain ⟨b1, p1, e1⟩ := ho.hi
        obtain ⟨b2, p2, e2⟩ := hx.hi
        by_cases h : x.2.2 ≤ o.2.2
        · exact ⟨b1, .inl p1, by omega⟩
        · exact ⟨b2, .inr p2, by omega⟩
      by_cases hc : costL c x.1 < costL c o.1
      · rw [if_pos hc]
        refine ⟨.inr hx.mem, ?_, ?_, hbd, hlo, hhi⟩
        · rintro b (h | h)
          · have := ho.least b h; simp only; omega
          · exact hx.least b h
        · rintro b (h | h) e
          · have := ho.least b h; simp only at e; omega
          · exact hx.first b h e
      · rw [if_neg hc]
        refine ⟨.inl ho.mem, ?_, ?_, hbd, hlo, hhi⟩
        · rintro b (h | h)
          · exact ho.least b h
          · have := hx.least b h; simp only; omega
        · rintro b (h | h) e
          · exact ho.first b h e
          · exact .inr (hlt _ _ ho.mem h)
theorem Ext.step {c : Cas} {r : Nat} {l : List Int} {x : Int} {t : List Int} (hx : -(c.shs.getD l.length default).most ≤ x ∧ x ≤ (c.shs.getD l.length default).most) (hf : fitsC c (l ++ [x]) = true) (h : Ext c r (l ++ [x]) t) : Ext c (r + 1) l (x :: t) := by
  have hl1 : (l ++ [x]).length = l.length + 1 := by simp
  refine ⟨by simp [h.len], fun i hi => ?_, fun i hi hm => ?_⟩
  · cases i with
    | zero => simp only [Nat.add_zero, List.getD_cons_zero]; exact hx
    | succ i =>
      have := h.bd i (by omega)
      rw [hl1] at this
      simp only [List.getD_cons_succ]
      rw [show l.length + (i + 1) = l.length + 1 + i by omega]
      exact this
  · rw [show l ++ x :: t = (l ++ [x]) ++ t by simp]
    by_cases e : l.length + 1 ≤ max (c.eds.getD i default).a.toNat (c.eds.getD i default).b.toNat
    · exact h.ed i hi (by rw [hl1]; exact e)
    · rw [odd_pre (by rw [hl1]; omega)]
      exact (fits_iff c _).1 hf i hi (by rw [hl1]; omega)
theorem Ext.unstep {c : Cas} {r : Nat} {l : List Int} {x : Int} {t : List Int} (h : Ext c (r + 1) l (x :: t)) : (-(c.shs.getD l.length default).most ≤ x ∧ x ≤ (c.shs.getD l.length default).most) ∧ fitsC c (l ++ [x]) = true ∧ Ext c r (l ++ [x]) t := by
  have hl1 : (l ++ [x]).length = l.length + 1 := by simp
  have h0 := h.bd 0 (by omega)
  simp only [Nat.add_zero, List.getD_cons_zero] at h0
  refine ⟨h0, ?_, by have := h.len; simpa using this, fun i hi => ?_, fun i hi hm => ?_⟩
  · rw [fits_iff]
    intro i hi hm
    rw [hl1] at hm
    have := h.ed i hi (by omega)
    rw [show l ++ x :: t = (l ++ [x]) ++ t by simp, odd_pre (by rw [hl1]; omega)] at this
    exact this
  · have := h.bd (i + 1) (by omega)
    simp only [List.getD_cons_succ] at this
    rw [hl1, show l.length + 1 + i = l.length + (i + 1) by omega]
    exact this
  · rw [hl1] at hm
    have := h.ed i hi (by omega)
    rw [show l ++ x :: t = (l ++ [x]) ++ t by simp] at this
    exact this
theorem allM_spec (c : Cas) (hv : Valid c) (sheet : Nat) : ∀ (r : Nat) (l : List Int), l.length + r = c.shs.length → FndIs c sheet (fun b => ∃ t, Ext c r l t ∧ b = l ++ t) (allM c sheet r l) := by
  intro r
  induction r with
  | zero =>
    intro l hl
    have hall : ∀ b, (∃ t, Ext c 0 l t ∧ b = l ++ t) → b = l := by
      rintro b ⟨t, ht, rfl⟩
      have := List.length_eq_zero_iff.1 ht.len
      subst this
      simp
    have hme : ∃ t, Ext c 0 l t ∧ l = l ++ t := by
      refine ⟨[], ⟨rfl, fun i hi => absurd hi (Nat.not_lt_zero _), fun i hi hm => ?_⟩, by simp⟩
      have hed := hv.ed _ (List.getElem_mem hi)
      rw [getD_lt _ _ hi] at hm
      have := hed.an; have := hed.bn; have := hed.a0; have := hed.b0
      omega
    exact ⟨hme, fun b hb => by rw [hall b hb]; exact Int.le_refl _, fun b hb _ => .inl (hall b hb), fun b hb => by rw [hall b hb]; exact ⟨Int.le_refl _, Int.le_refl _⟩, ⟨l, hme, rfl⟩, ⟨l, hme, rfl⟩⟩
  | succ r ih =>
    intro l hl
    have hll : l.length < c.shs.length := by omega
    have hm0 := (hv.sh _ (List.getElem_mem hll)).m0
    have hmm : (c.shs.getD l.length default).most = c.shs[l.length].most := by rw [getD_lt _ _ hll]
    obtain ⟨most, hmo⟩ : ∃ z, (c.shs.getD l.length default).most = z := ⟨_, rfl⟩
    have key : ∀ k, k ≤ (2 * most + 1).toNat → FndIs c sheet (fun b => ∃ j t, j < k ∧ fitsC c (l ++ [((j : Nat) : Int) - most]) = true ∧ Ext c r (l ++ [((j : Nat) : Int) - most]) t ∧ b = l ++ (((j : Nat) : Int) - most) :: t) (allQ c (allM c sheet r) l most k) := by
      intro k
      induction k with
      | zero =>
        intro _
        rintro b ⟨j, t, hj, _⟩
        omega
      | succ k ihk =>
        intro hk
        have h1 := ihk (by omega)
        have h2 : FndIs c sheet (fun b => fitsC c (l ++ [(k : Int) - most]) = true ∧ ∃ t, Ext c r (l ++ [(k : Int) - most]) t ∧ b = l ++ ((k : Int) - most) :: t) (if fitsC c (l ++ [(k : Int) - most]) = true then allM c sheet r (l ++ [(k : Int) - most]) else none) := by
          by_cases hf : fitsC c (l ++ [(k : Int) - most]) = true
          · rw [if_pos hf]
            refine (ih (l ++ [(k : Int) - most]) (by simp; omega)).congr fun b => ?_
            constructor
            · rintro ⟨t, ht, rfl⟩; exact ⟨hf, t, ht, by simp⟩
            · rintro ⟨_, t, ht, rfl⟩; exact ⟨t, ht, by simp⟩
          · rw [if_neg hf]
            rintro b ⟨h, _⟩
            exact hf h
        refine (FndIs.join ?_ h1 h2).congr fun b => ?_
        · rintro b d ⟨j, t, hj, _, _, rfl⟩ ⟨_, t', _, rfl⟩
          exact cmpL_app l _ _ t t' (by omega)
        · constructor
          · rintro (⟨j, t, hj, hf, ht, rfl⟩ | ⟨hf, t, ht, rfl⟩)
            · exact ⟨j, t, by omega, hf, ht, rfl⟩
            · exact ⟨k, t, by omega, hf, ht, rfl⟩
          · rintro ⟨j, t, hj, hf, ht, rfl⟩
            by_cases e : j = k
            · subst e; exact .inr ⟨hf, t, ht, rfl⟩
            · exact .inl ⟨j, t, by omega, hf, ht, rfl⟩
    simp only [allM]
    rw [hmo]
    refine (key _ (Nat.le_refl _)).congr fun b => ?_
    constructor
    · rintro ⟨j, t, hj, hf, ht, rfl⟩
      exact ⟨_, Ext.step (by rw [hmo]; omega) hf ht, rfl⟩
    · rintro ⟨t, ht, rfl⟩
      cases t with
      | nil => have := ht.len; simp at this
      | cons x t =>
        obtain ⟨hx, hf, he⟩ := ht.unstep
        rw [hmo] at hx
        have hkk : (((x + most).toNat : Nat) : Int) - most = x := by omega
        exact ⟨(x + most).toNat, t, by omega, by rw [hkk]; exact hf, by rw [hkk]; exact he, by rw [hkk]⟩
end Go.Proofs.Ytojdocomkhihoaa
namespace Go.Proofs.Ytojdocomkhihoaa
open Go Go.RowKit Go.Shelf Ed

/-- What is found, in a block. -/
def FdBlk (w : World) (g B : Nat) : Fnd → Prop
  | none => w.heap[g]? = some (.cells #[.bool false, .slice none 0 0, .int .i64 0, .int .i64 0] 105 (0, 0))
  | some o => ∃ bv, w.heap[g]? = some (.cells #[.bool true, bv, .int .i64 o.2.1, .int .i64 o.2.2] 105 (0, 0)) ∧ w.ownsRow B 3 1 bv o.1.length (o.1.map (Value.int .i64))
/-- What is found, as a value. -/
def FdVal (w : World) (v : Value) (B : Nat) : Fnd → Prop
  | none => v = .agg #[.bool false, .slice none 0 0, .int .i64 0, .int .i64 0]
  | some o => ∃ bv, v = .agg #[.bool true, bv, .int .i64 o.2.1, .int .i64 o.2.2] ∧ w.ownsRow B 3 1 bv o.1.length (o.1.map (Value.int .i64))
theorem fd_result {fn : Func} {p : Tmp} (h : fn.results = #[.cell p 105]) (tmps : Array Value) (w : World) (g : Nat) (x y z u : Value)
    (hp : tmps.getD p undef = .pointer (some ⟨g, 0, none⟩)) (hg : w.heap[g]? = some (.cells #[x, y, z, u] 105 (0, 0))) :
    (results fn tmps).run Try.prog w = .ok (.agg #[x, y, z, u]) w := by
  have c0 : w.cell? ⟨g, 0, none⟩ = some x := cellOf hg 0 _ rfl
  have c1 : w.cell? ⟨g, 1, none⟩ = some y := cellOf hg 1 _ rfl
  have c2 : w.cell? ⟨g, 2, none⟩ = some z := cellOf hg 2 _ rfl
  have c3 : w.cell? ⟨g, 3, none⟩ = some u := cellOf hg 3 _ rfl
  have hp' : tmps[p]?.getD undef = .pointer (some ⟨g, 0, none⟩) := by simpa using hp
  simp only [results, h]
  simp [Sem.run_bind, Result.andThen, hp', asAddr, go_sem, c0, c1, c2, c3]
/-- Four cells stored to their block. -/
def put4 (V : World) (g : Nat) (a b c d : Value) : World := (((V.setCell ⟨g, 0, none⟩ a).setCell ⟨g, 1, none⟩ b).setCell ⟨g, 2, none⟩ c).setCell ⟨g, 3, none⟩ d
theorem put4_at {V : World} {g : Nat} {x y z u a b c d : Value} {t : TypeId} (h : V.heap[g]? = some (.cells #[x, y, z, u] t (0, 0))) : (put4 V g a b c d).heap[g]? = some (.cells #[a, b, c, d] t (0, 0)) :=
  heap_setCell_same _ g 3 _ _ d (heap_setCell_same _ g 2 _ _ c (heap_setCell_same _ g 1 _ _ b (heap_setCell_same V g 0 _ _ a h)))
theorem put4_below {B : Nat} {w V : World} {g : Nat} {a b c d : Value} (h : Below B w V) (hg : B ≤ g) : Below B w (put4 V g a b c d) :=
  (((h.setCell (p := ⟨g, 0, none⟩) hg a).setCell (p := ⟨g, 1, none⟩) hg b).setCell (p := ⟨g, 2, none⟩) hg c).setCell (p := ⟨g, 3, none⟩) hg d
theorem put4_own {V : World} {g B e s n : Nat} {a b c d v : Value} {xs : List Value} (h : V.ownsRow B e s v n xs) (hg : g < B) : (put4 V g a b c d).ownsRow B e s v n xs :=
  own_other (own_other (own_other (own_other h ⟨g, 0, none⟩ hg a) ⟨g, 1, none⟩ hg b) ⟨g, 2, none⟩ hg c) ⟨g, 3, none⟩ hg d
set_option maxRecDepth 100000 in
set_option maxHeartbeats 8000000 in
theorem rall_zero (c : Cas) (sv ev : Value) (sheet : Nat) (l : List Int) (lv : Value) (w : World) (B : Nat) (hl : l.length = c.shs.length) (hsh : sheet < c.shs.length) (hC : CasAt w c sv ev) (hB : B ≤ w.heap.size) (hL : w.ownsRow B 3 1 lv l.length (l.map (Value.int .i64))) :
    Calls Try.prog 64 #[.agg #[.int .i64 c.tol, sv, ev], lv, .int .i64 (sheet : Int)] w fun e w' => ∃ v, e = .returned v ∧ FdVal w' v B (some (l, l.getD sheet 0, l.getD sheet 0)) ∧ Below w.heap.size w w' := by
  obtain ⟨sa, n, sc, rfl, hn⟩ : ∃ a n cc, sv = .slice a n cc ∧ n = c.shs.length := by obtain ⟨_, a, cap, h, _⟩ := hC.shs; exact ⟨_, _, _, h, rfl⟩
  obtain ⟨ea, m, ec, rfl⟩ : ∃ a n cc, ev = .slice a n cc := by obtain ⟨_, a, cap, h, _⟩ := hC.eds; exact ⟨_, _, _, h⟩
  rw [hl, ← hn] at hL
  rw [← hn] at hl hsh
  obtain ⟨la, lc, rfl⟩ := own_slice hL
  obtain ⟨g, rfl⟩ := own_some hL (by omega)
  obtain ⟨x, hx⟩ : ∃ x, l.getD sheet 0 = x := ⟨_, rfl⟩
  have e0 : w.cell? ⟨g, sheet, none⟩ = some (.int .i64 x) := by
    rw [hL.cellAt sheet (by omega)]
    have hsl : sheet < l.length := by omega
    rw [List.getElem?_map, List.getElem?_eq_getElem hsl, ← hx]
    simp [List.getD_eq_getElem?_getD, hsl]
  rw [hx]
  obtain ⟨W, hW, q1, q2, hb, hsz⟩ := al2 w (Obj.cells #[.int .i64 c.tol, .slice sa n sc, .slice ea m ec] 25) (Obj.cells #[.bool false, .slice none 0 0, .int .i64 0, .int .i64 0] 105)
  have HR := Lib.hid q1
  have HQ := Lib.hid q2
  have HW := Lib.hid hW
  have HB := Lib.hid hb
  have e0 := keepK e0 hb
  have HL0 := Lib.hid hL
  have HLN := Lib.hid hl
  have gl : g < w.heap.size := (hL.lt g rfl).2
  have sI : (sheet : Int) < (n : Int) := by omega
  have tn : ((n : Int) == (n : Int)) = true := by simp
  generalize c.tol = tol at *
  clear hW hb hL hC hl hn q1 hx hsz
  go_enter Try.func64, Try.ntmps64
  go_wp2_with fail
  rw [HW.out]
  have e0 := e0
  have r1 := cellOf HR.out 1 _ rfl
  have rl := lt_of_block HR.out
  have q0 : W.cell? ⟨w.heap.size + 1, 0, none⟩ = some (.bool false) := cellOf q2 0 _ rfl
  have q1 : W.cell? ⟨w.heap.size + 1, 1, none⟩ = some (.slice none 0 0) := cellOf q2 1 _ rfl
  have q2c : W.cell? ⟨w.heap.size + 1, 2, none⟩ = some (.int .i64 0) := cellOf q2 2 _ rfl
  have q3 : W.cell? ⟨w.heap.size + 1, 3, none⟩ = some (.int .i64 0) := cellOf q2 3 _ rfl
  have f0 := frozen_of_row _ _ 0 _ _ q2
  have f1 := frozen_of_row _ _ 1 _ _ q2
  have f2 := frozen_of_row _ _ 2 _ _ q2
  have f3 := frozen_of_row _ _ 3 _ _ q2
  go_wp2_with fail
  refine wp_region_noPanic ?_
  refine wp_region_last (S := (fun W' : World => W'.cell? ⟨g, sheet, none⟩ = some (.int .i64 x) ∧ W'.cell? ⟨w.heap.size + 1, 0, none⟩ = some (.bool false) ∧ W'.cell? ⟨w.heap.size + 1, 1, none⟩ = some (.slice none 0 0) ∧ W'.cell? ⟨w.heap.size + 1, 2, none⟩ = some (.int .i64 0) ∧ W'.cell? ⟨w.heap.size + 1, 3, none⟩ = some (.int .i64 0) ∧ W'.frozen? ⟨w.heap.size + 1, 0, none⟩ = false ∧ W'.frozen? ⟨w.heap.size + 1, 1, none⟩ = false ∧ W'.frozen? ⟨w.heap.size + 1, 2, none⟩ = false ∧ W'.frozen? ⟨w.heap.size + 1, 3, none⟩ = false)) 11 (by kernel_rfl) (by decide) (fun inv0 => ?_)
  have hh0 := (⟨e0, q0, q1, q2c, q3, f0, f1, f2, f3⟩ : _ ∧ _ ∧ _ ∧ _ ∧ _ ∧ _ ∧ _ ∧ _ ∧ _)
  refine wpAnyZ_take (i := 0) (v := ?_) rfl (Lib.hid ⟨by as_aux_lemma => kernel_rfl, by as_aux_lemma => kernel_rfl, by as_aux_lemma => kernel_rfl, rfl⟩) (by decide) inv0 (by as_aux_lemma => kernel_rfl) (by as_aux_lemma => kernel_rfl) (fun _ _ _ h => h) (Or.inl ⟨by rfl, ?_⟩) hh0 (fun inv1 => ?_)
  rotate_left
  · intro w hSw
    try dsimp only at hSw
    go_simp
    try with_reducible rfl
  clear inv0
  try simp only [Act.put, List.getElem_toArray, List.getElem_cons_succ, List.getElem_cons_zero, List.setIfInBounds_toArray, List.set_cons_zero, List.set_cons_succ]
  refine wpAnyZ_take (i := 1) (v := ?_) rfl (Lib.hid ⟨by as_aux_lemma => kernel_rfl, by as_aux_lemma => kernel_rfl, by as_aux_lemma => kernel_rfl, rfl⟩) (by decide) inv1 (by as_aux_lemma => kernel_rfl) (by as_aux_lemma => kernel_rfl) (fun _ _ _ h => h) (Or.inl ⟨by rfl, ?_⟩) hh0 (fun inv2 => ?_)
  rotate_left
  · intro w hSw
    try dsimp only at hSw
    go_simp
    try with_reducible rfl
  clear inv1
  try simp only [Act.put, List.getElem_toArray, List.getElem_cons_succ, List.getElem_cons_zero, List.setIfInBounds_toArray, List.set_cons_zero, List.set_cons_succ]
  refine wpAnyZ_take (i := 2) (v := ?_) rfl (Lib.hid ⟨by as_aux_lemma => kernel_rfl, by as_aux_lemma => kernel_rfl, by as_aux_lemma => kernel_rfl, rfl⟩) (by decide) inv2 (by as_aux_lemma => kernel_rfl) (by as_aux_lemma => kernel_rfl) (fun _ _ _ h => h) (Or.inl ⟨by rfl, ?_⟩) hh0 (fun inv3 => ?_)
  rotate_left
  · intro w hSw
    try dsimp only at hSw
    go_simp
    try with_reducible rfl
  clear inv2
  try simp only [Act.put, List.getElem_toArray, List.getElem_cons_succ, List.getElem_cons_zero, List.setIfInBounds_toArray, List.set_cons_zero, List.set_cons_succ]
  refine wpAnyZ_take (i := 3) (v := ?_) rfl (Lib.hid ⟨by as_aux_lemma => kernel_rfl, by as_aux_lemma => kernel_rfl, by as_aux_lemma => kernel_rfl, rfl⟩) (by decide) inv3 (by as_aux_lemma => kernel_rfl) (by as_aux_lemma => kernel_rfl) (fun _ _ _ h => h) (Or.inl ⟨by rfl, ?_⟩) hh0 (fun inv4 => ?_)
  rotate_left
  · intro w hSw
    try dsimp only at hSw
    go_simp
    try with_reducible rfl
  clear inv3
  try simp only [Act.put, List.getElem_toArray, List.getElem_cons_succ, List.getElem_cons_zero, List.setIfInBounds_toArray, List.set_cons_zero, List.set_cons_succ]
  refine wpAnyZ_take (i := 4) (v := ?_) rfl (Lib.hid ⟨by as_aux_lemma => kernel_rfl, by as_aux_lemma => kernel_rfl, by as_aux_lemma => kernel_rfl, rfl⟩) (by decide) inv4 (by as_aux_lemma => kernel_rfl) (by as_aux_lemma => kernel_rfl) (fun _ _ _ h => h) (Or.inl ⟨by rfl, ?_⟩) hh0 (fun inv5 => ?_)
  rotate_left
  · intro w hSw
    try dsimp only at hSw
    go_simp
    try with_reducible rfl
  clear inv4
  try simp only [Act.put, List.getElem_toArray, List.getElem_cons_succ, List.getElem_cons_zero, List.setIfInBounds_toArray, List.set_cons_zero, List.set_cons_succ]
  refine wpAnyZ_take (i := 5) (v := ?_) rfl (Lib.hid ⟨by as_aux_lemma => kernel_rfl, by as_aux_lemma => kernel_rfl, by as_aux_lemma => kernel_rfl, rfl⟩) (by decide) inv5 (by as_aux_lemma => kernel_rfl) (by as_aux_lemma => kernel_rfl) (fun _ _ _ h => h) (Or.inl ⟨by rfl, ?_⟩) hh0 (fun inv6 => ?_)
  rotate_left
  · intro w hSw
    try dsimp only at hSw
    go_simp
    try with_reducible rfl
  clear inv5
  try simp only [Act.put, List.getElem_toArray, List.getElem_cons_succ, List.getElem_cons_zero, List.setIfInBounds_toArray, List.set_cons_zero, List.set_cons_succ]
  refine wpAnyZ_take (i := 6) (v := ?_) rfl (Lib.hid ⟨by as_aux_lemma => kernel_rfl, by as_aux_lemma => kernel_rfl, by as_aux_lemma => kernel_rfl, rfl⟩) (by decide) inv6 (by as_aux_lemma => kernel_rfl) (by as_aux_lemma => kernel_rfl) (fun _ _ _ h => h) (Or.inl ⟨by rfl, ?_⟩) hh0 (fun inv7 => ?_)
  rotate_left
  · intro w hSw
    try dsimp only at hSw
    go_simp
    try with_reducible rfl
  clear inv6
  try simp only [Act.put, List.getElem_toArray, List.getElem_cons_succ, List.getElem_cons_zero, List.setIfInBounds_toArray, List.set_cons_zero, List.set_cons_succ]
  refine wpAnyZ_take (i := 7) (v := ?_) rfl (Lib.hid ⟨by as_aux_lemma => kernel_rfl, by as_aux_lemma => kernel_rfl, by as_aux_lemma => kernel_rfl, rfl⟩) (by decide) inv7 (by as_aux_lemma => kernel_rfl) (by as_aux_lemma => kernel_rfl) (fun _ _ _ h => h) (Or.inl ⟨by rfl, ?_⟩) hh0 (fun inv8 => ?_)
  rotate_left
  · intro w hSw
    try dsimp only at hSw
    go_simp
    try with_reducible rfl
  clear inv7
  try simp only [Act.put, List.getElem_toArray, List.getElem_cons_succ, List.getElem_cons_zero, List.setIfInBounds_toArray, List.set_cons_zero, List.set_cons_succ]
  refine wpAnyZ_take (i := 8) (v := ?_) rfl (Lib.hid ⟨by as_aux_lemma => kernel_rfl, by as_aux_lemma => kernel_rfl, by as_aux_lemma => kernel_rfl, rfl⟩) (by decide) inv8 (by as_aux_lemma => kernel_rfl) (by as_aux_lemma => kernel_rfl) (fun _ _ _ h => h) (Or.inl ⟨by rfl, ?_⟩) hh0 (fun inv9 => ?_)
  rotate_left
  · intro w hSw
    try dsimp only at hSw
    go_simp
    try with_reducible rfl
  clear inv8
  try simp only [Act.put, List.getElem_toArray, List.getElem_cons_succ, List.getElem_cons_zero, List.setIfInBounds_toArray, List.set_cons_zero, List.set_cons_succ]
  refine wpAnyZ_take (i := 9) (v := ?_) rfl (Lib.hid ⟨by as_aux_lemma => kernel_rfl, by as_aux_lemma => kernel_rfl, by as_aux_lemma => kernel_rfl, rfl⟩) (by decide) inv9 (by as_aux_lemma => kernel_rfl) (by as_aux_lemma => kernel_rfl) (fun _ _ _ h => h) (Or.inl ⟨by rfl, ?_⟩) hh0 (fun inv10 => ?_)
  rotate_left
  · intro w hSw
    try dsimp only at hSw
    go_simp
    try with_reducible rfl
  clear inv9
  try simp only [Act.put, List.getElem_toArray, List.getElem_cons_succ, List.getElem_cons_zero, List.setIfInBounds_toArray, List.set_cons_zero, List.set_cons_succ]
  refine wpAnyZ_take (i := 10) (v := ?_) rfl (Lib.hid ⟨by as_aux_lemma => kernel_rfl, by as_aux_lemma => kernel_rfl, by as_aux_lemma => kernel_rfl, rfl⟩) (by decide) inv10 (by as_aux_lemma => kernel_rfl) (by as_aux_lemma => kernel_rfl) (fun _ _ _ h => h) (Or.inl ⟨by rfl, ?_⟩) hh0 (fun inv11 => ?_)
  rotate_left
  · intro w hSw
    try dsimp only at hSw
    go_simp
    try with_reducible rfl
  clear inv10
  try simp only [Act.put, List.getElem_toArray, List.getElem_cons_succ, List.getElem_cons_zero, List.setIfInBounds_toArray, List.set_cons_zero, List.set_cons_succ]
  refine wpAnyZ_all (rs := [11]) (by as_aux_lemma => kernel_rfl) (by simp) ?_
  intro i hi
  obtain rfl : i = 11 := by simpa using hi
  refine step_Z rfl (fun K hK => ?_)
  go_simp
  refine hK.out _ _ (fun h => absurd rfl h) ?_
  clear hK K
  try simp only [Act.put, List.getElem_toArray, List.getElem_cons_succ, List.getElem_cons_zero, List.setIfInBounds_toArray, List.set_cons_zero, List.set_cons_succ]
  refine wpAnyZ_done (by as_aux_lemma => kernel_rfl) ?_ _
  refine NoPanic.normal ?_
  have hbV : Below w.heap.size w ((put4 W (w.heap.size + 1) (.bool true) (.slice (some ⟨g, 0, none⟩) n lc) (.int .i64 x) (.int .i64 x)).drew) := (put4_below HB.out (by omega)).drew
  have hres := put4_at (a := .bool true) (b := .slice (some ⟨g, 0, none⟩) n lc) (c := .int .i64 x) (d := .int .i64 x) HQ.out
  have hown := own_below HL0.out hbV
  clear r1 rl q0 q1 q2c q3 f0 f1 f2 f3 q2 tn
  go_wp2_with fail
  exact bodyPost_ret (fd_result rfl _ _ (w.heap.size + 1) _ _ _ _ rfl hres) rfl ⟨_, rfl, ⟨_, rfl, by rw [HLN.out]; exact hown⟩, hbV⟩
def GoodF (n : Nat) (o : Fnd) : Prop := ∀ x, o = some x → x.1.length = n ∧ ∀ i, -1000 ≤ x.1.getD i 0 ∧ x.1.getD i 0 ≤ 1000
theorem GoodF.join {c : Cas} {n : Nat} {a x : Fnd} (ha : GoodF n a) (hx : GoodF n x) : GoodF n (joinF c a x) := by
  cases x with
  | none => cases a <;> exact ha
  | some x =>
    cases a with
    | none => exact hx
    | some o =>
      intro y hy
      simp only [joinF, Option.some.injEq] at hy
      subst hy
      simp only
      split
      · exact hx x rfl
      · exact ha o rfl
theorem allQ_good (c : Cas) (f : List Int → Fnd) (n : Nat) (l : List Int) (most : Int) (hf : ∀ x, -1000 ≤ x → x ≤ 1000 → GoodF n (f (l ++ [x]))) (m0 : 0 ≤ most) (m6 : most ≤ 6) : ∀ k, k ≤ 13 → GoodF n (allQ c f l most k) := by
  intro k
  induction k with
  | zero => intro _ x hx; simp [allQ] at hx
  | succ k ih =>
    intro hk
    refine (ih (by omega)).join ?_
    split
    · exact hf _ (by omega) (by omega)
    · intro x hx; simp at hx
theorem allM_good (c : Cas) (hv : Valid c) (sheet : Nat) : ∀ (r : Nat) (l : List Int), l.length + r = c.shs.length → (∀ i, -1000 ≤ l.getD i 0 ∧ l.getD i 0 ≤ 1000) → GoodF c.shs.length (allM c sheet r l) := by
  intro r
  induction r with
  | zero =>
    intro l hl hb x hx
    simp only [allM, Option.some.injEq] at hx
    subst hx
    exact ⟨by omega, hb⟩
  | succ r ih =>
    intro l hl hb
    have hll : l.length < c.shs.length := by omega
    have hs := hv.sh _ (List.getElem_mem hll)
    have hm0 := hs.m0
    have hm6 := hs.m6
    have hmm : (c.shs.getD l.length default).most = c.shs[l.length].most := by rw [getD_lt _ _ hll]
    simp only [allM]
    rw [hmm]
    exact allQ_good c _ _ l _ (fun x h1 h2 => ih (l ++ [x]) (by simp; omega) (snoc_bd hb ⟨h1, h2⟩)) hm0 hm6 _ (by omega)
theorem FdBlk.below {w w' : World} {g B : Nat} {o : Fnd} (h : FdBlk w g B o) (hb : Below w.heap.size w w') : FdBlk w' g B o := by
  cases o with
  | none => exact (hb.block _ (lt_of_block h)).trans h
  | some o =>
    obtain ⟨bv, h1, h2⟩ := h
    exact ⟨bv, (hb.block _ (lt_of_block h1)).trans h1, own_below h2 hb⟩
theorem FdVal.below {w w' : World} {v : Value} {B : Nat} {o : Fnd} (h : FdVal w v B o) (hb : Below w.heap.size w w') : FdVal w' v B o := by
  cases o with
  | none => exact h
  | some o =>
    obtain ⟨bv, h1, h2⟩ := h
    exact ⟨bv, h1, own_below h2 hb⟩
end Go.Proofs.Ytojdocomkhihoaa
