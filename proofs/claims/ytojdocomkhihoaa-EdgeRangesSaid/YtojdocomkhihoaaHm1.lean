/- Package edge: split. -/
import Derived.Test.YtojdocomkhihoaaHd1
set_option linter.unusedSimpArgs false
set_option linter.unusedVariables false
namespace Go.Proofs.Ytojdocomkhihoaa
open Go Go.RowKit Go.Shelf Ed

theorem own_tag {w : World} {base e size n g : Nat} {v : Value} {xs : List Value} (h : w.ownsRow base e size v n xs) (hg : v.ownBlock = some g) : ∃ cur, w.heap[g]? = some (.cells cur e (0, 0)) := by
  rcases h.2 with ⟨rfl, _⟩ | ⟨g', cap, cur, rfl, _, h1, _⟩
  · simp [Value.ownBlock] at hg
  · simp [Value.ownBlock] at hg
    subst hg
    exact ⟨cur, h1⟩
theorem own_apart {w : World} {b1 b2 e1 e2 s1 s2 n1 n2 : Nat} {v1 v2 : Value} {x1 x2 : List Value} (he : e1 ≠ e2) (h1 : w.ownsRow b1 e1 s1 v1 n1 x1) (h2 : w.ownsRow b2 e2 s2 v2 n2 x2) : v1.ownBlock = none ∨ v1.ownBlock ≠ v2.ownBlock := by
  rcases e : v1.ownBlock with _ | g
  · exact .inl rfl
  · refine .inr fun e2' => ?_
    obtain ⟨c1, q1⟩ := own_tag h1 e
    obtain ⟨c2, q2⟩ := own_tag h2 e2'.symm
    rw [q1] at q2
    injection q2 with q
    injection q with _ q
    exact he q
/-- The numbers in a set, and those not in it. -/
def lstK (s k : Nat) : List Nat := (List.range k).filter fun j => s.testBit j
def resK (s k : Nat) : List Nat := (List.range k).filter fun j => !s.testBit j
theorem lstK_succ (s k : Nat) : lstK s (k + 1) = if s.testBit k = true then lstK s k ++ [k] else lstK s k := by
  unfold lstK
  rw [List.range_succ, List.filter_append]
  cases h : s.testBit k <;> simp [h]
theorem resK_succ (s k : Nat) : resK s (k + 1) = if s.testBit k = true then resK s k else resK s k ++ [k] := by
  unfold resK
  rw [List.range_succ, List.filter_append]
  cases h : s.testBit k <;> simp [h]
theorem lstK_le (s k : Nat) : (lstK s k).length ≤ k := by
  have := List.length_filter_le (fun j => s.testBit j) (List.range k)
  simpa [lstK] using this
theorem resK_le (s k : Nat) : (resK s k).length ≤ k := by
  have := List.length_filter_le (fun j => !s.testBit j) (List.range k)
  simpa [resK] using this
def lessC (c : Cas) (s : Nat) : Cas := { c with eds := (resK s c.eds.length).map fun j => c.eds.getD j default }
def natV (l : List Nat) : List Value := l.map fun (j : Nat) => Value.int .i64 (j : Int)
/-- The cells of some edges. -/
def eRow (eds : List Edg) (P : Nat → Value) (js : List Nat) : List Value := js.flatMap fun j => [.int .i64 (eds.getD j default).a, .int .i64 (eds.getD j default).b, P j]
theorem eRow_length (eds : List Edg) (P : Nat → Value) (js : List Nat) : (eRow eds P js).length = js.length * 3 := by
  induction js with
  | nil => rfl
  | cons j js ih => simp only [eRow, List.flatMap_cons, List.length_append, List.length_cons, List.length_nil] at ih ⊢; omega
theorem eRow_append (eds : List Edg) (P : Nat → Value) (js : List Nat) (j : Nat) : eRow eds P (js ++ [j]) = eRow eds P js ++ [.int .i64 (eds.getD j default).a, .int .i64 (eds.getD j default).b, P j] := by
  simp [eRow]
theorem eRow_get (eds : List Edg) (P : Nat → Value) : ∀ (js : List Nat) (k : Nat) (h : k < js.length), (eRow eds P js)[k * 3]? = some (.int .i64 (eds.getD js[k] default).a) ∧ (eRow eds P js)[k * 3 + 1]? = some (.int .i64 (eds.getD js[k] default).b) ∧ (eRow eds P js)[k * 3 + 2]? = some (P js[k]) := by
  intro js
  induction js with
  | nil => intro k h; simp at h
  | cons j js ih =>
    intro k h
    cases k with
    | zero => simp [eRow]
    | succ k =>
      obtain ⟨h1, h2, h3⟩ := ih k (by simpa using h)
      have e : ∀ i, (eRow eds P (j :: js))[(k + 1) * 3 + i]? = (eRow eds P js)[k * 3 + i]? := by
        intro i
        rw [show (k + 1) * 3 + i = 3 + (k * 3 + i) by omega]
        simp only [eRow, List.flatMap_cons]
        rw [List.getElem?_append_right (by simp)]
        simp
      exact ⟨(e 0).trans h1, (e 1).trans h2, (e 2).trans h3⟩
theorem EdgsAt.vals {w : World} {a : Option Addr} {n cap : Nat} {l : List Edg} (h : EdgsAt w (.slice a n cap) l) : ∃ P : Nat → Value, ∀ k (hk : k < l.length), PairsAt w (P k) l[k].pts ∧ ∃ b o, a = some ⟨b, o, none⟩ ∧ w.cell? ⟨b, o + k * 3, none⟩ = some (.int .i64 l[k].a) ∧ w.cell? ⟨b, o + k * 3 + 1, none⟩ = some (.int .i64 l[k].b) ∧ w.cell? ⟨b, o + k * 3 + 2, none⟩ = some (P k) := by
  have hex : ∀ k, ∃ v : Value, ∀ (hk : k < l.length), PairsAt w v l[k].pts ∧ ∃ b o, a = some ⟨b, o, none⟩ ∧ w.cell? ⟨b, o + k * 3, none⟩ = some (.int .i64 l[k].a) ∧ w.cell? ⟨b, o + k * 3 + 1, none⟩ = some (.int .i64 l[k].b) ∧ w.cell? ⟨b, o + k * 3 + 2, none⟩ = some v := by
    intro k
    by_cases hk : k < l.length
    · obtain ⟨b, o, pa, pc, e, d0, d1, d2, hp⟩ := h.get hk
      exact ⟨_, fun _ => ⟨hp, b, o, e, d0, d1, d2⟩⟩
    · exact ⟨undef, fun h => absurd h hk⟩
  exact ⟨fun k => Classical.choose (hex k), fun k hk => Classical.choose_spec (hex k) hk⟩
theorem edgsAt_own {w : World} {base : Nat} {v : Value} {eds : List Edg} {P : Nat → Value} {js : List Nat} (h : w.ownsRow base 71 3 v js.length (eRow eds P js)) (hl : js.length ≤ 4611686018427387904) (hP : ∀ j, j ∈ js → PairsAt w (P j) (eds.getD j default).pts) :
    EdgsAt w v (js.map fun j => eds.getD j default) := by
  rcases h.2 with ⟨rfl, h0⟩ | ⟨g, cap, cur, rfl, hb, hg, hnc, hcm, hcs, htake⟩
  · have : js = [] := List.length_eq_zero_iff.1 h0
    subst this
    exact ⟨by simp, none, 0, rfl, by simp, fun hne => absurd rfl hne⟩
  · refine ⟨by rw [List.length_map]; exact hl, _, cap, by rw [List.length_map], by rw [List.length_map]; exact hnc, fun _ => ⟨g, 0, rfl, fun k hk => ?_⟩⟩
    rw [List.length_map] at hk
    obtain ⟨e0, e1, e2⟩ := eRow_get eds P js k hk
    rw [Nat.zero_add, List.getElem_map]
    exact ⟨(h.cellAt (k * 3) (by omega)).trans e0, (h.cellAt (k * 3 + 1) (by omega)).trans e1, P js[k], (h.cellAt (k * 3 + 2) (by omega)).trans e2, hP _ (List.getElem_mem hk)⟩
theorem edgeInfo : (Try.prog.info? 71).map (fun i => (i.zero, i.size, i.bytes)) = some (some (.agg #[.int .i64 0, .int .i64 0, .slice none 0 0]), 3, 40) := by kernel_rfl
theorem cells3_new (W : World) (t : TypeId) (x y z : Value) : ∀ j u, [x, y, z][j]? = some u → (W.alloc (Obj.cells #[x, y, z] t)).cell? ((⟨W.heap.size, 0, none⟩ : Addr).add j) = some u := by
  intro j u hj
  match j, hj with
  | 0, hj => simp at hj; subst hj; exact cellOf (heap_alloc_new W (Obj.cells #[x, y, z] t)) 0 _ rfl
  | 1, hj => simp at hj; subst hj; exact cellOf (heap_alloc_new W (Obj.cells #[x, y, z] t)) 1 _ rfl
  | 2, hj => simp at hj; subst hj; exact cellOf (heap_alloc_new W (Obj.cells #[x, y, z] t)) 2 _ rfl
  | j + 3, hj => simp at hj
theorem results_tc {fn : Func} {p q : Tmp} {ty : TypeId} (h : fn.results = #[.tmp p, .cell q ty]) (tmps : Array Value) (P : Program) (w : World) (v' : Value) (g' : Addr)
    (hq : tmps.getD q undef = .pointer (some g')) (h2 : (loadVar ty g').run P w = .ok v' w) :
    (results fn tmps).run P w = .ok (.tuple #[tmps.getD p undef, v']) w := by
  have hq' : tmps[q]?.getD undef = .pointer (some g') := by simpa using hq
  simp only [results, h]
  simp [Sem.run_bind, Result.andThen, hq', asAddr, h2]
theorem keepB {w w' : World} {p : Addr} {v : Value} (hb : Below w.heap.size w w') (h : w.cell? p = some v) : w'.cell? p = some v := (hb.cell (World.block_lt_of_cell? w _ h)).trans h
set_option maxRecDepth 100000 in
set_option maxHeartbeats 8000000 in
theorem split_any (c : Cas) (hv : Valid c) (sv ev : Value) (ws : List Int) (hw : ws.length = 16) (s : Nat) (hs : s < 4294967296) (w : World) (hC : CasAt w c sv ev) :
    Calls Try.prog 95 #[.agg (lkC c.tol sv ev ws), .int .u64 s] w fun e w' => ∃ v ev', e = .returned (.tuple #[v, .agg #[.int .i64 c.tol, sv, ev']]) ∧ w'.ownsRow w.heap.size 3 1 v (lstK s c.eds.length).length (natV (lstK s c.eds.length)) ∧ CasAt w' (lessC c s) sv ev' ∧ Below w.heap.size w w' := by
  obtain ⟨sa, n, sc, rfl, hn⟩ : ∃ a n cc, sv = .slice a n cc ∧ n = c.shs.length := by obtain ⟨_, a, cap, h, _⟩ := hC.shs; exact ⟨_, _, _, h, rfl⟩
  obtain ⟨ea, m, ec, rfl, hm⟩ : ∃ a n cc, ev = .slice a n cc ∧ n = c.eds.length := by obtain ⟨_, a, cap, h, _⟩ := hC.eds; exact ⟨_, _, _, h, rfl⟩
  clear hn
  have m8 := hv.m8
  rw [← hm] at m8
  obtain ⟨P, hP⟩ := hC.eds.vals
  obtain ⟨i0, hi0⟩ := info_of_underlying Try.underlying3
  have HI0 : Hid (i0.zero = some (.int .i64 0) ∧ i0.size = 1 ∧ i0.bytes = 8) := by
    have h := intInfo
    rw [hi0] at h
    simp at h
    exact h
  obtain ⟨i1, hi1⟩ := info_of_underlying Try.underlying71
  have HI1 : Hid (i1.zero = some (.agg #[.int .i64 0, .int .i64 0, .slice none 0 0]) ∧ i1.size = 3 ∧ i1.bytes = 40) := by
    have h := edgeInfo
    rw [hi1] at h
    simp at h
    exact h
  obtain ⟨W, hW, q1, q2, hb, hsz⟩ := al2 w (Obj.cells (lkC c.tol (.slice sa n sc) (.slice ea m ec) ws) 89) (Obj.cells #[.int .i64 0, .slice none 0 0, .slice none 0 0] 25)
  have K1 : Hid (LkBlk W w.heap.size c.tol (.slice sa n sc) (.slice ea m ec) ws) := q1
  have K2 := Lib.hid q2
  have KA : Hid (LkBlk ((w.alloc (Obj.cells (lkC c.tol (.slice sa n sc) (.slice ea m ec) ws) 89)).alloc (Obj.cells #[.int .i64 0, .slice none 0 0, .slice none 0 0] 25)) w.heap.size c.tol (.slice sa n sc) (.slice ea m ec) ws) := by show LkBlk _ _ _ _ _ _; rw [hW]; exact q1
  have c0 := KA.out.c0
  have c1 := KA.out.c1
  have c2 := KA.out.c2
  have cl := KA.out.lt
  have hl2 := lk_2 c.tol (.slice sa n sc) (.slice ea m ec) ws
  have HB := Lib.hid hb
  have HWW := Lib.hid hW
  have HV := Lib.hid hv
  have HW := Lib.hid hw
  have HC := Lib.hid hC
  have HMM := Lib.hid hm
  have HPP := Lib.hid hP
  clear hW q1 q2 hb hsz hv hw hC hm hP
  go_enter Try.func95, Try.ntmps95
  go_wp2_with fail
  obtain ⟨V, hV, v1, v2, hbV, hsV⟩ := al2 w (Obj.cells (lkC c.tol (.slice sa n sc) (.slice ea m ec) ws) 89) (Obj.cells #[.int .i64 c.tol, .slice sa n sc, .slice none 0 0] 25)
  rw [hV]
  have J2 := Lib.hid v2
  have JB := Lib.hid hbV
  have JO1 : V.ownsRow (w.heap.size + 2) 3 1 (.slice none 0 0) 0 (natV (lstK s 0)) := World.ownsRow_nil _ _ _ _
  have JO2 : V.ownsRow (w.heap.size + 2) 71 3 (.slice none 0 0) 0 (eRow c.eds P (resK s 0)) := World.ownsRow_nil _ _ _ _
  clear hV v1 v2 hbV hsV KA K1 K2 HB HWW c0 c1 c2 cl hl2
  have mI : (m : Int) ≤ 8 := by omega
  go_loopg [4, 15] m (fun g v u wr => ∃ (k : Nat) (la : Option Addr) (ln lc : Nat) (qa : Option Addr) (qn qc : Nat), g + k = m ∧ u = .int .i64 k ∧ v = .slice la ln lc ∧ wr.ownsRow (w.heap.size + 2) 3 1 (.slice la ln lc) ln (natV (lstK s k)) ∧ Hid (ln = (lstK s k).length) ∧ Hid (wr.heap[w.heap.size + 1]? = some (.cells #[.int .i64 c.tol, .slice sa n sc, .slice qa qn qc] 25 (0, 0))) ∧ wr.ownsRow (w.heap.size + 2) 71 3 (.slice qa qn qc) qn (eRow c.eds P (resK s k)) ∧ Hid (qn = (resK s k).length) ∧ Hid (Below w.heap.size w wr))
  case atStart => exact ⟨0, none, 0, 0, none, 0, 0, by omega, rfl, rfl, JO1, rfl, J2, JO2, rfl, JB⟩
  case round =>
    clear JO1 JO2 J2 JB
    obtain ⟨k, la, ln, lc, qa, qn, qc, hk, rfl, rfl, O1, hl1, J2, O2, hl2, JB⟩ := hrel
    by_cases hkm : k < m
    · have kI : (k : Int) < (m : Int) := by omega
      have k8 : (k : Int) < 8 := by omega
      have hk' : k < c.eds.length := by rw [← HMM.out]; exact hkm
      obtain ⟨hpp, eb, eo, rfl, d0, d1, d2⟩ := HPP.out k hk'
      have d0 := keepB JB.out d0
      have d1 := keepB JB.out d1
      have d2 := keepB JB.out d2
      have hget : c.eds.getD k default = c.eds[k] := by simp [List.getD_eq_getElem?_getD, hk']
      obtain ⟨pa, np, pc, hpk⟩ : ∃ pa np pc, P k = .slice pa np pc := by obtain ⟨_, a, cap, h, _⟩ := hpp; exact ⟨_, _, _, h⟩
      have HER := Lib.hid (eRow_append c.eds P (resK s k) k)
      rw [hget, hpk] at HER
      rw [hpk] at d2
      have HLS := Lib.hid (lstK_succ s k)
      have HRS := Lib.hid (resK_succ s k)
      have h8a : ln ≤ 8 := by have := hl1.out; have := lstK_le s k; omega
      have h8b : qn ≤ 8 := by have := hl2.out; have := resK_le s k; omega
      have h8ai : (ln : Int) ≤ 8 := by omega
      have h8bi : (qn : Int) ≤ 8 := by omega
      generalize c.eds[k] = d at *
      obtain ⟨da, db, ps⟩ := d
      simp only at d0 d1 HER
      have hsl := World.block_lt_of_cell? wr ⟨eb, eo + k * 3, none⟩ d0
      have hjl := lt_of_block J2.out
      have hba : Below wr.heap.size wr (wr.alloc (Obj.cells #[.int .i64 da, .int .i64 db, .slice pa np pc] 71)) := by go_grown
      have z1 : (wr.alloc (Obj.cells #[.int .i64 da, .int .i64 db, .slice pa np pc] 71)).heap[wr.heap.size]? = some (Obj.cells #[.int .i64 da, .int .i64 db, .slice pa np pc] 71) := heap_alloc_new wr _
      have N2 := Lib.hid ((hba.block _ (lt_of_block J2.out)).trans J2.out)
      have NB := Lib.hid (JB.out.trans (hba.mono JB.out.size))
      have O1a := Lib.hid (own_below O1 hba)
      have O2a := Lib.hid (own_below O2 hba)
      have HZ1 := Lib.hid z1
      have HHA := Lib.hid (has_any s k hs (by omega) (wr.alloc (Obj.cells #[.int .i64 da, .int .i64 db, .slice pa np pc] 71)))
      clear hpp hget hpk hk' z1 hba O1 O2 J2 JB
      go_wp2_with fail
      refine HHA.out.mono ?_
      rintro e w6 ⟨rfl, rfl⟩
      obtain ⟨u, hu⟩ : ∃ u, wr.heap.size = u := ⟨_, rfl⟩
      have hub : w.heap.size + 2 ≤ u := by omega
      rw [hu] at HZ1 ⊢
      generalize wr.alloc (Obj.cells #[.int .i64 da, .int .i64 db, .slice pa np pc] 71) = wa at *
      clear d0 d1 d2 hsl HHA hu
      cases hb : s.testBit k
      · rw [hb, if_neg (by simp)] at HLS HRS
        have c2 := cellOf N2.out 2 _ rfl
        have c2l := lt_of_block N2.out
        have z0 := cellOf HZ1.out 0 _ rfl
        have z1 := cellOf HZ1.out 1 _ rfl
        have z2 := cellOf HZ1.out 2 _ rfl
        have zl := lt_of_block HZ1.out
        have hownA := O2a.out.alloc (Obj.cells #[.int .i64 da, .int .i64 db, .slice pa np pc] 71)
        have hba : Below wa.heap.size wa (wa.alloc (Obj.cells #[.int .i64 da, .int .i64 db, .slice pa np pc] 71)) := (Below.refl _ _).alloc (Nat.le_refl _) _
        have P2 := Lib.hid ((hba.block _ (lt_of_block N2.out)).trans N2.out)
        have PB := Lib.hid (NB.out.trans (hba.mono NB.out.size))
        have PO1 := Lib.hid (own_below O1a.out hba)
        have hwa : w.heap.size + 2 ≤ wa.heap.size := by omega
        have HK3 := Lib.hid (cells3_new wa 71 (.int .i64 da) (.int .i64 db) (.slice pa np pc))
        clear hba hb
        go_wp2_with (at_builtin; refine wpList_append_own _ rfl _ _ 23 rfl (w.heap.size + 2) 71 i1 (.agg #[.int .i64 0, .int .i64 0, .slice none 0 0]) 3 40 Try.underlying23 hi1 HI1.out.1 HI1.out.2.1 HI1.out.2.2 rfl (by decide) _ _ _ rfl hownA ⟨wa.heap.size, 0, none⟩ 1 1 [.int .i64 da, .int .i64 db, .slice pa np pc] rfl rfl ?pb1 ?pb2 ?pb3 ?pb4 ?pb5 ?_)
        case pb1 => exact HK3.out
        case pb2 => intro u hu; simp at hu; rcases hu with rfl | rfl | rfl <;> rfl
        case pb3 => unfold maxLen; omega
        case pb4 => omega
        case pb5 => simp; omega
        intro v' w3 hown3 hgrow _
        have hB3 := Lib.hid (PB.out.grown hgrow PB.out.size (fun g hg => by have := (hownA.lt g hg).1; omega))
        have hne : ∀ g, (Value.slice qa qn qc).ownBlock = some g → g ≠ w.heap.size + 1 := fun g hg => by have := (hownA.lt g hg).1; omega
        have R2 := Lib.hid ((hgrow.block _ (lt_of_block P2.out) (fun e => hne _ e.symm rfl)).trans P2.out)
        have RO1 := Lib.hid (PO1.out.kept hgrow (own_apart (by decide) PO1.out hownA))
        obtain ⟨qa', qc', rfl⟩ := own_slice hown3
        have RO2 := Lib.hid hown3
        rw [← HER.out, ← HRS.out] at RO2
        have e2 := cellOf R2.out 2 _ rfl
        have e2l := lt_of_block R2.out
        have e2f := frozen_of_row _ _ 2 _ _ R2.out
        clear hgrow hownA hown3 hne c2 z0 z1 z2 zl c2l
        go_wp2_with fail
        go_roundg (gk - 1)
        case measure => omega
        case rel =>
          refine ⟨k + 1, la, ln, lc, qa', qn + 1, qc', by omega, by go_num, rfl, ?_, by show _ = _; rw [HLS.out]; exact hl1.out, ?_, own_other RO2.out ⟨w.heap.size + 1, 2, none⟩ (by simp) _, by show _ = _; rw [HRS.out, List.length_append, ← hl2.out]; rfl, hB3.out.setCell (p := ⟨w.heap.size + 1, 2, none⟩) (show w.heap.size ≤ w.heap.size + 1 by omega) _⟩
          · have := own_other RO1.out ⟨w.heap.size + 1, 2, none⟩ (by simp) (.slice qa' (qn + 1) qc')
            rw [HLS.out]
            exact this
          · exact heap_setCell_same w3 (w.heap.size + 1) 2 _ _ (.slice qa' (qn + 1) qc') R2.out
      · rw [hb, if_pos rfl] at HLS HRS
        have hownA := O1a.out.alloc (Obj.cells #[.int .i64 k] 3)
        have hba : Below wa.heap.size wa (wa.alloc (Obj.cells #[.int .i64 k] 3)) := (Below.refl _ _).alloc (Nat.le_refl _) _
        have P2 := Lib.hid ((hba.block _ (lt_of_block N2.out)).trans N2.out)
        have PB := Lib.hid (NB.out.trans (hba.mono NB.out.size))
        have PO2 := Lib.hid (own_below O2a.out hba)
        have hwa : w.heap.size + 2 ≤ wa.heap.size := by have := lt_of_block HZ1.out; omega
        clear hba hb HZ1
        go_wp2_with (at_builtin; refine wpList_append_own _ rfl _ _ 26 rfl (w.heap.size + 2) 3 i0 (.int .i64 0) 1 8 Try.underlying26 hi0 HI0.out.1 HI0.out.2.1 HI0.out.2.2 rfl (by decide) _ _ _ rfl hownA ⟨wa.heap.size, 0, none⟩ 1 1 [.int .i64 k] rfl rfl ?pa1 ?pa2 ?pa3 ?pa4 ?pa5 ?_)
        case pa1 =>
          intro j u hj
          match j, hj with
          | 0, hj => simp at hj; subst hj; exact cellOf (heap_alloc_new wa (Obj.cells #[.int .i64 k] 3)) 0 _ rfl
          | j + 1, hj => simp at hj
        case pa2 => intro u hu; simp at hu; subst hu; rfl
        case pa3 => unfold maxLen; omega
        case pa4 => omega
        case pa5 => simp; omega
        intro v' w3 hown3 hgrow _
        have hB3 := Lib.hid (PB.out.grown hgrow PB.out.size (fun g hg => by have := (hownA.lt g hg).1; omega))
        have hne : ∀ g, (Value.slice la ln lc).ownBlock = some g → g ≠ w.heap.size + 1 := fun g hg => by have := (hownA.lt g hg).1; omega
        have R2 := Lib.hid ((hgrow.block _ (lt_of_block P2.out) (fun e => hne _ e.symm rfl)).trans P2.out)
        have RO2 := Lib.hid (PO2.out.kept hgrow (own_apart (by decide) PO2.out hownA))
        obtain ⟨la', lc', rfl⟩ := own_slice hown3
        have RO1 := Lib.hid hown3
        clear hgrow hownA hown3 hne
        go_wp2_with fail
        go_roundg (gk - 1)
        case measure => omega
        case rel =>
          refine ⟨k + 1, la', ln + 1, lc', qa, qn, qc, by omega, by go_num, rfl, ?_, by show _ = _; rw [HLS.out, List.length_append, ← hl1.out]; rfl, R2, by rw [HRS.out]; exact RO2.out, by show _ = _; rw [HRS.out]; exact hl2.out, hB3⟩
          rw [HLS.out]
          simp only [natV, List.map_append, List.map_cons, List.map_nil]
          exact RO1.out
    · obtain rfl : m = k := by omega
      have kI : ¬ (m : Int) < (m : Int) := by omega
      have d0 := cellOf J2.out 0 _ rfl
      have d1 := cellOf J2.out 1 _ rfl
      have d2 := cellOf J2.out 2 _ rfl
      have dl := lt_of_block J2.out
      have f0 := frozen_of_row _ _ 0 _ _ J2.out
      have f1 := frozen_of_row _ _ 1 _ _ J2.out
      have f2 := frozen_of_row _ _ 2 _ _ J2.out
      clear hk hkm
      go_wp2_with fail
      go_region
      have hF2 : ((((wr.setCell ⟨w.heap.size + 1, 0, none⟩ (.int .i64 c.tol)).setCell ⟨w.heap.size + 1, 1, none⟩ (.slice sa n sc)).setCell ⟨w.heap.size + 1, 2, none⟩ (.slice qa qn qc)).drew).heap[w.heap.size + 1]? = some (.cells #[.int .i64 c.tol, .slice sa n sc, .slice qa qn qc] 25 (0, 0)) :=
        heap_setCell_same _ _ 2 _ _ _ (heap_setCell_same _ _ 1 _ _ _ (heap_setCell_same wr (w.heap.size + 1) 0 _ _ (.int .i64 c.tol) J2.out))
      have hFB : Below w.heap.size w ((((wr.setCell ⟨w.heap.size + 1, 0, none⟩ (.int .i64 c.tol)).setCell ⟨w.heap.size + 1, 1, none⟩ (.slice sa n sc)).setCell ⟨w.heap.size + 1, 2, none⟩ (.slice qa qn qc)).drew) := (((JB.out.setCell (p := ⟨w.heap.size + 1, 0, none⟩) (show w.heap.size ≤ w.heap.size + 1 by omega) _).setCell (p := ⟨w.heap.size + 1, 1, none⟩) (show w.heap.size ≤ w.heap.size + 1 by omega) _).setCell (p := ⟨w.heap.size + 1, 2, none⟩) (show w.heap.size ≤ w.heap.size + 1 by omega) _).drew
      have hF1 : ((((wr.setCell ⟨w.heap.size + 1, 0, none⟩ (.int .i64 c.tol)).setCell ⟨w.heap.size + 1, 1, none⟩ (.slice sa n sc)).setCell ⟨w.heap.size + 1, 2, none⟩ (.slice qa qn qc)).drew).ownsRow (w.heap.size + 2) 3 1 (.slice la ln lc) ln (natV (lstK s m)) := own_other (own_other (own_other O1 ⟨w.heap.size + 1, 0, none⟩ (by simp) _) ⟨w.heap.size + 1, 1, none⟩ (by simp) _) ⟨w.heap.size + 1, 2, none⟩ (by simp) _
      have hF3 : ((((wr.setCell ⟨w.heap.size + 1, 0, none⟩ (.int .i64 c.tol)).setCell ⟨w.heap.size + 1, 1, none⟩ (.slice sa n sc)).setCell ⟨w.heap.size + 1, 2, none⟩ (.slice qa qn qc)).drew).ownsRow (w.heap.size + 2) 71 3 (.slice qa qn qc) qn (eRow c.eds P (resK s m)) := own_other (own_other (own_other O2 ⟨w.heap.size + 1, 0, none⟩ (by simp) _) ⟨w.heap.size + 1, 1, none⟩ (by simp) _) ⟨w.heap.size + 1, 2, none⟩ (by simp) _
      have HF1 := Lib.hid hF1
      have HF2 := Lib.hid hF2
      have HF3 := Lib.hid hF3
      have HFB := Lib.hid hFB
      clear hF1 hF2 hF3 hFB d0 d1 d2 dl f0 f1 f2 O1 O2 J2 JB
      generalize (((wr.setCell ⟨w.heap.size + 1, 0, none⟩ (.int .i64 c.tol)).setCell ⟨w.heap.size + 1, 1, none⟩ (.slice sa n sc)).setCell ⟨w.heap.size + 1, 2, none⟩ (.slice qa qn qc)).drew = WF at *
      go_wp2_with fail
      refine bodyPost_ret (results_tc rfl _ _ _ _ _ rfl (run_loadVar_row (P := Try.prog) WF (w.heap.size + 1) 25 25 _ (0, 0) _ HF2.out Try.underlying25 rfl (by kernel_rfl))) rfl ⟨.slice la ln lc, .slice qa qn qc, rfl, ?_, ⟨HC.out.shs.below HFB.out, ?_⟩, HFB.out⟩
      · rw [← HMM.out, ← hl1.out]
        exact own_base HF1.out (by omega)
      · have h3 := HF3.out
        rw [hl2.out] at h3
        have h4 := edgsAt_own h3 (by have := resK_le s m; omega) (fun j hj => by
          have hjm : j < c.eds.length := by rw [← HMM.out]; exact List.mem_range.1 (List.mem_filter.1 hj).1
          have := (HPP.out j hjm).1.below HFB.out
          rw [getD_lt _ _ hjm]
          exact this)
        show EdgsAt WF (.slice qa qn qc) ((resK s c.eds.length).map fun j => c.eds.getD j default)
        rw [← HMM.out, hl2.out]
        exact h4
end Go.Proofs.Ytojdocomkhihoaa
