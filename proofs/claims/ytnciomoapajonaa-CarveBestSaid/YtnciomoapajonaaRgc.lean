/- The reference of package carve: Fills, Many, Depths; what a surface needs is what they say. -/
import Derived.Test.YtnciomoapajonaaRgb
import Derived.Test.YtnciomoapajonaaCvbc
import Derived.Test.YtnciomoapajonaaCvq
import Derived.Test.YtnciomoapajonaaCvu
import Derived.Deep.RegionLaw
import Derived.Deep.AppendLies
import Derived.Laws.AppendOwn
import Derived.BigQuiet
set_option linter.unusedSimpArgs false
set_option linter.unusedVariables false
namespace Go.Proofs.Ytnciomoapajonaa
open Go Go.RowKit Cv

theorem fillsN_cons (p : Pt) (l : List Pt) (h : Int) (s : List Int) : ∀ k, fillsN (p :: l) (h :: s) (k + 1) = max 0 (h - p.bd) + fillsN l s k := by
  intro k
  induction k with
  | zero => simp [fillsN]
  | succ k ih =>
    rw [fillsN, ih, fillsN]
    simp only [List.getD_cons_succ]
    omega
theorem deepN_cons (p : Pt) (l : List Pt) (h : Int) (s : List Int) (k : Nat) : deepN (p :: l) (h :: s) (k + 1) = max 0 (p.bd - h) :: deepN l s k := by
  unfold deepN
  rw [List.range_succ_eq_map]
  simp
theorem needS_is : ∀ (l : List Pt) (s : List Int) (f : From), s.length = l.length → needS f l s = (fillsN l s l.length, manyL (deepF f) (deepN l s l.length)) := by
  intro l
  induction l with
  | nil =>
    intro s f h
    cases s with
    | nil => rfl
    | cons => simp at h
  | cons p l ih =>
    intro s f h
    cases s with
    | nil => simp at h
    | cons x s =>
      rw [needS, ih s (some (p, x)) (by simpa using h), List.length_cons, fillsN_cons, deepN_cons, manyL]
      rfl

set_option maxRecDepth 100000 in
set_option maxHeartbeats 4000000 in
theorem rfills_any (r : Row) (pv sv : Value) (s : List Int) (w : World) (hP : PtsAt w pv r.pts) (hS : IntsAt w sv s) (hv : Valid r) (hl : s.length = r.pts.length) (hs9 : ∀ x, x ∈ s → 0 ≤ x ∧ x ≤ 9000) :
    Calls Try.prog 43 #[.agg #[.int .i64 r.st, pv], sv] w fun e w' => e = .returned (.int .i64 (fillsN r.pts s r.pts.length)) ∧ Below w.heap.size w w' := by
  obtain ⟨st, pts⟩ := r
  simp only at hP hl ⊢
  obtain ⟨lp, pa, pc, rfl, _, _⟩ := id hP
  obtain ⟨ls, sa, sc, rfl, _, _⟩ := id hS
  have hB : Below w.heap.size w (w.alloc (Obj.cells #[.int .i64 st, .slice pa pts.length pc] 24)) := by go_grown
  have HB := Lib.hid hB
  have HP := Lib.hid (hP.below hB)
  have HS := Lib.hid (hS.below hB)
  have HA := Lib.hid (heap_alloc_new w (Obj.cells #[.int .i64 st, .slice pa pts.length pc] 24))
  have h10 : pts.length ≤ 10 := hv.n10
  have HOK := Lib.hid hv.ok
  have HS9 := Lib.hid hs9
  have hbd := Lib.hid (fillsN_bd pts s hv.ok hs9)
  have HL := Lib.hid hl
  have ls10 : (s.length : Int) ≤ 10 := by omega
  clear hP hS hB hv hs9 hl
  go_enter Try.func43, Try.ntmps43
  go_wp2_with fail
  generalize w.alloc (Obj.cells #[.int .i64 st, .slice pa pts.length pc] 24) = w0 at *
  go_loopg [5, 6] s.length (fun g v i wr => ∃ (k : Nat) (n : Int), g + k = s.length ∧ i = .int .i64 k ∧ v = .int .i64 n ∧ Hid (fillsN pts s k = n) ∧ Hid (Below w0.heap.size w0 wr))
  case atStart => exact ⟨0, 0, rfl, rfl, rfl, rfl, Below.refl _ _⟩
  case round =>
    obtain ⟨k, n, hk, rfl, rfl, HN, HR⟩ := hrel
    by_cases hlt : k < s.length
    · have hlp : k < pts.length := by have := HL.out; omega
      have l0 := cellOf ((HR.out.block _ (lt_of_block HA.out)).trans HA.out) 0 _ rfl
      have l1 := cellOf ((HR.out.block _ (lt_of_block HA.out)).trans HA.out) 1 _ rfl
      have ll := lt_of_block ((HR.out.block _ (lt_of_block HA.out)).trans HA.out)
      obtain ⟨b, o, rfl, d0⟩ := (HS.out.below HR.out).get hlt
      obtain ⟨pb, po, rfl, c0, c1, c2⟩ := (HP.out.below HR.out).get hlp
      obtain ⟨x0, x9⟩ := HS9.out s[k] (List.getElem_mem _)
      obtain ⟨b0, b9, _, _, _, _, _, _⟩ := HOK.out pts[k] (List.getElem_mem _)
      have HN' := Lib.hid (fillsN_succ pts s k hlp hlt)
      obtain ⟨n0, n9⟩ := hbd.out k (by omega) (by omega)
      rw [HN.out] at n0 n9 HN'
      have n9' : n ≤ 90000 := by omega
      generalize s[k] = x at *
      generalize pts[k] = p at *
      obtain ⟨bd, lo, hi⟩ := p
      simp only at c0 b0 b9 HN'
      have kI : (k : Int) < (s.length : Int) := by omega
      have kP : (k : Int) < (pts.length : Int) := by omega
      have k9 : (k : Int) ≤ 9 := by omega
      clear c1 c2 n9 HN
      go_wp2_with fail
      go_quiet (fail)
      go_wp2
      go_roundg (gk - 1)
      case measure => omega
      case rel => exact ⟨k + 1, _, by omega, by go_num, rfl, HN'.out, HR.out.trans (Below.mono (B := wr.heap.size) ⟨rfl, rfl, rfl, Nat.le_refl _, fun _ _ => rfl⟩ HR.out.size)⟩
    · obtain rfl : k = s.length := by omega
      clear hlt hk
      go_wp2
      go_ret
      exact ⟨by rw [← HL.out, HN.out]; rfl, HB.out.trans (HR.out.mono HB.out.size)⟩

theorem many_drop (d : List Int) (y : Int) (k : Nat) (h : k < d.length) : manyL y (d.drop k) = max 0 (d[k] - y) + manyL d[k] (d.drop (k + 1)) := by
  rw [List.drop_eq_getElem_cons h, manyL]
set_option maxRecDepth 100000 in
set_option maxHeartbeats 4000000 in
theorem rmany_any (dv : Value) (d : List Int) (w : World) (hD : IntsAt w dv d) (hl : d.length ≤ 10) (hd : ∀ x, x ∈ d → 0 ≤ x ∧ x ≤ 9000) :
    Calls Try.prog 44 #[dv] w fun e w' => e = .returned (.int .i64 (manyL 0 d)) ∧ w = w' := by
  obtain ⟨ls, da, dc, rfl, _, _⟩ := id hD
  have HD := Lib.hid hD
  have HD9 := Lib.hid hd
  have l10 : (d.length : Int) ≤ 10 := by omega
  clear hD hd
  go_enter Try.func44, Try.ntmps44
  go_wp2_with fail
  go_loopg [3, 4, 5] d.length (fun g v u i wr => ∃ (k : Nat) (n y : Int), g + k = d.length ∧ i = .int .i64 k ∧ v = .int .i64 n ∧ u = .int .i64 y ∧ 0 ≤ y ∧ y ≤ 9000 ∧ 0 ≤ n ∧ n ≤ 9000 * k ∧ Hid (n + manyL y (d.drop k) = manyL 0 d) ∧ Hid (w = wr))
  case atStart => exact ⟨0, 0, 0, rfl, rfl, rfl, rfl, by omega, by omega, by omega, by omega, by show _ = _; simp, rfl⟩
  case round =>
    obtain ⟨k, n, y, hk, rfl, rfl, rfl, y0, y9, n0, n9, HN, HWR⟩ := hrel
    obtain rfl := HWR.out
    by_cases hlt : k < d.length
    · obtain ⟨b, o, rfl, d0⟩ := HD.out.get hlt
      obtain ⟨x0, x9⟩ := HD9.out d[k] (List.getElem_mem _)
      have HN' := Lib.hid (many_drop d y k hlt)
      generalize d[k] = x at *
      have kI : (k : Int) < (d.length : Int) := by omega
      have n9' : n ≤ 90000 := by omega
      go_wp2
      go_roundg (gk - 1)
      case measure => omega
      case rel => exact ⟨k + 1, n + max 0 (x - y), x, by omega, by go_num, rfl, rfl, x0, x9, by omega, by omega, by show _ = _; have a := HN.out; have b := HN'.out; omega, rfl⟩
    · obtain rfl : k = d.length := by omega
      have HX : Hid (n = manyL 0 d) := by
        show _ = _
        have a := HN.out
        rw [List.drop_length, manyL] at a
        omega
      clear hlt hk HN
      go_wp2
      go_ret
      exact ⟨by rw [← HX.out]; rfl, rfl⟩

theorem grown_refl (w : World) (k : Option Nat) : w.grownBy w k := ⟨rfl, rfl, rfl, Nat.le_refl _, fun _ _ _ => rfl⟩
set_option maxRecDepth 100000 in
/-- Numbers are appended to a row of the call's own, at the step of a region that draws its order. -/
theorem run_ints (w : World) (ty : TypeId) (base n : Nat) (v sv : Value) (xs l : List Int) (hn : n = xs.length) (hown : w.ownsRow base 3 1 v n (xs.map (Value.int .i64))) (hl : IntsAt w sv l) (hb : base ≤ w.heap.size)
    (hlen : xs.length + l.length ≤ 1000) :
    ∃ v' w', (Builtin.append_ #[36, 36] ty #[v, sv]).run Try.prog w = .ok v' w' ∧ w'.ownsRow base 3 1 v' (n + l.length) ((xs ++ l).map (Value.int .i64)) ∧ w.grownBy w' v.ownBlock := by
  subst hn
  obtain ⟨i0, hi⟩ := info_of_underlying Try.underlying3
  have HI : i0.zero = some (.int .i64 0) ∧ i0.size = 1 ∧ i0.bytes = 8 := by
    have h := intInfo
    rw [hi] at h
    simp at h
    exact h
  obtain ⟨_, A, c, rfl, _, hc⟩ := hl
  cases A with
  | none =>
    have hn : l = [] := by
      cases l with
      | nil => rfl
      | cons x l => obtain ⟨_, _, h, _⟩ := hc (by simp); cases h
    subst hn
    have hrun : (Builtin.append_ #[36, 36] ty #[v, .slice none 0 c]).run Try.prog w = .ok v w := by
      rcases hown.2 with ⟨rfl, h0⟩ | ⟨g, cap, cur, rfl, _, _, h1, _⟩
      · simp [Builtin.append_, run_underlying Try.underlying36, sizeOf, typeInfo, hi, Builtin.lenOf, Builtin.firstCells]
      · simp [Builtin.append_, run_underlying Try.underlying36, sizeOf, typeInfo, hi, Builtin.lenOf, Builtin.firstCells, h1, storeCells]
    exact ⟨v, w, hrun, by rw [List.append_nil]; exact hown, grown_refl w _⟩
  | some ad =>
    have hcells : ∀ j u, (l.map (Value.int .i64))[j]? = some u → w.cell? (ad.add j) = some u := by
      intro j u hu
      have hj : j < l.length := by have := (List.getElem?_eq_some_iff.1 hu).1; simpa using this
      obtain ⟨b, o, e, hk⟩ := hc (by rintro rfl; simp at hj)
      injection e with e
      subst e
      rw [Go.WideShapes.add_plain, hk j hj, ← hu]
      simp [hj]
    obtain ⟨v', w', h1, h2, h3, _, _⟩ := run_append_own_at (P := Try.prog) w base 36 ty 3 i0 _ 1 8 Try.underlying36 hi HI.1 HI.2.1 HI.2.2 rfl (by decide) v xs.length _ hown ad l.length c (l.map (Value.int .i64)) (by simp) hcells
      (by intro u hu; obtain ⟨x, _, rfl⟩ := List.mem_map.1 hu; rfl) (by unfold maxLen; omega) (by omega) hb
    exact ⟨v', w', h1, by rw [List.map_append]; exact h2, h3⟩
theorem step_ints {ops : Array Oper} {o : Oper} {a : Act} {K : Act → World → Prop} {Q : Exit → Act → World → Prop} {E : Prop} {w : World} (hgd : o.guard = none) (s x : Operand)
    (ho : o.op = .call { callee := .builtin .append, args := #[s, x], argTypes := #[36, 36] })
    (base n : Nat) (v sv : Value) (xs l : List Int) (hn : n = xs.length) (hs : a.eval s = v) (hx : a.eval x = sv) (hown : w.ownsRow base 3 1 v n (xs.map (Value.int .i64))) (hl : IntsAt w sv l) (hb : base ≤ w.heap.size)
    (hlen : xs.length + l.length ≤ 1000)
    (h : ∀ v' w', w'.ownsRow base 3 1 v' (n + l.length) ((xs ++ l).map (Value.int .i64)) → w.grownBy w' v.ownBlock → (∀ k, v.ownBlock = some k → base ≤ k) → K (a.put o.dst v') w') :
    if Region.wanted o (yielded ops a.tmps) = true then Oper.wp Try.prog o a w K Q else E := by
  rw [if_pos (by simp [Region.wanted, hgd])]
  obtain ⟨v', w', hrun, h2, h3⟩ := run_ints w o.type base n v sv xs l hn hown hl hb hlen
  unfold Oper.wp execOp
  simp only [ho, resolve, invoke, builtin, Sem.run_bind, Sem.run_pure, Result.andThen_ok, List.map_toArray, List.map_cons, List.map_nil, hs, hx, hrun]
  exact h v' w' h2 h3 (fun k hk => (hown.lt k hk).1)
def DepthsP (l : List Pt) (s : List Int) (w : World) (e : Ending) (w' : World) : Prop := ∃ v, e = .returned v ∧ IntsAt w' v (deepN l s l.length) ∧ Below w.heap.size w w'
set_option maxRecDepth 100000 in
set_option maxHeartbeats 4000000 in
theorem rdepths_any (r : Row) (pv sv : Value) (s : List Int) (w : World) (hP : PtsAt w pv r.pts) (hS : IntsAt w sv s) (hv : Valid r) (hl : s.length = r.pts.length) (hs9 : ∀ x, x ∈ s → 0 ≤ x ∧ x ≤ 9000) :
    Calls Try.prog 45 #[.agg #[.int .i64 r.st, pv], sv] w (DepthsP r.pts s w) := by
  obtain ⟨i0, hi0⟩ := info_of_underlying Try.underlying3
  have HI : Hid (i0.zero = some (.int .i64 0) ∧ i0.size = 1 ∧ i0.bytes = 8) := by
    have h := intInfo
    rw [hi0] at h
    simp at h
    exact h
  obtain ⟨st, pts⟩ := r
  simp only at hP hl ⊢
  obtain ⟨lp, pa, pc, rfl, _, _⟩ := id hP
  obtain ⟨ls, sa, sc, rfl, _, _⟩ := id hS
  have hB : Below w.heap.size w (w.alloc (Obj.cells #[.int .i64 st, .slice pa pts.length pc] 24)) := by go_grown
  have HB := Lib.hid hB
  have HP := Lib.hid (hP.below hB)
  have HS := Lib.hid (hS.below hB)
  have HA := Lib.hid (heap_alloc_new w (Obj.cells #[.int .i64 st, .slice pa pts.length pc] 24))
  have h10 : pts.length ≤ 10 := hv.n10
  have HOK := Lib.hid hv.ok
  have HS9 := Lib.hid hs9
  have HL := Lib.hid hl
  have ls10 : (s.length : Int) ≤ 10 := by omega
  clear hP hS hB hv hs9 hl
  go_enter Try.func45, Try.ntmps45
  go_wp2_with fail
  generalize w.alloc (Obj.cells #[.int .i64 st, .slice pa pts.length pc] 24) = w0 at *
  go_loopw [5, 6] (fun v i wr => ∃ (k : Nat) (oa : Option Addr) (oc : Nat), k ≤ s.length ∧ i = .int .i64 k ∧ v = .slice oa k oc ∧ wr.ownsRow w0.heap.size 3 1 v k ((deepN pts s k).map (Value.int .i64)) ∧ Hid (Below w0.heap.size w0 wr)) (fun _ i _ => s.length - (intOf i).toNat)
  case atStart => exact ⟨0, none, 0, Nat.zero_le _, rfl, rfl, World.ownsRow_nil _ _ _ _, Below.refl _ _⟩
  case round =>
    obtain ⟨k, oa, oc, hk, rfl, rfl, hown, HR⟩ := hrel
    have hs2 := HR.out.size
    by_cases hlt : k < s.length
    · have hlp : k < pts.length := by have := HL.out; omega
      have l0 := cellOf ((HR.out.block _ (lt_of_block HA.out)).trans HA.out) 0 _ rfl
      have l1 := cellOf ((HR.out.block _ (lt_of_block HA.out)).trans HA.out) 1 _ rfl
      have ll := lt_of_block ((HR.out.block _ (lt_of_block HA.out)).trans HA.out)
      obtain ⟨b, o, rfl, d0⟩ := (HS.out.below HR.out).get hlt
      obtain ⟨pb, po, rfl, c0, c1, c2⟩ := (HP.out.below HR.out).get hlp
      obtain ⟨x0, x9⟩ := HS9.out s[k] (List.getElem_mem _)
      obtain ⟨b0, b9, _, _, _, _, _, _⟩ := HOK.out pts[k] (List.getElem_mem _)
      have HN : Hid (deepN pts s (k + 1) = deepN pts s k ++ [max 0 (pts[k].bd - s[k])]) := by
        show _ = _
        unfold deepN
        rw [List.range_succ, List.map_append]
        simp [List.getD_eq_getElem?_getD, hlt, hlp]
      generalize s[k] = x at *
      generalize pts[k] = p at *
      obtain ⟨bd, lo, hi⟩ := p
      simp only at c0 b0 b9 HN
      have kI : (k : Int) < (s.length : Int) := by omega
      have kP : (k : Int) < (pts.length : Int) := by omega
      have k9 : (k : Int) ≤ 9 := by omega
      clear c1 c2
      go_wp2_with fail
      have HDL := Lib.hid (deepN_length pts s k)
      generalize deepN pts s k = D at *
      have HOW := Lib.hid hown
      have wx : IntKind.i64.wrap (bd - x) = bd - x := by rw [IntKind.wrap_i64]; omega
      clear hown
      go_region_law (first
        | (refine step_ints (o := ⟨some 27, _, _, _, _, _⟩) (by rfl) _ _ (by rfl) w0.heap.size k _ _ D [max 0 (bd - x)] HDL.out.symm (by rfl) (by rfl) (own_below HOW.out (by go_grown)) ((ints1 wr _ rfl _ _).below (by go_grown)) (by first | (simp; done) | (simp; omega)) (by have := HDL.out; simp; omega) ?_; intro v1 w3 hown3 hgrow hlow; have hB3 : Below w0.heap.size w0 w3 := (HR.out.trans (Below.mono (B := wr.heap.size) (by go_grown) hs2)).grown hgrow (by first | (simp; done) | (simp; omega)) hlow))
      all_goals
        obtain ⟨sa', sc', rfl⟩ := own_slice hown3
        have HB3 := Lib.hid hB3
        have ho3 : w3.ownsRow w0.heap.size 3 1 (.slice sa' (k + 1) sc') (k + 1) ((deepN pts s (k + 1)).map (Value.int .i64)) := by
          rw [HN.out]
          exact hown3
        clear hgrow hB3 hown3 hlow HOW
        go_wp2
        go_round
        case rel => exact ⟨k + 1, sa', sc', by omega, by go_num, rfl, ho3, HB3⟩
        case measure => simp [intOf]; omega
    · obtain rfl : k = s.length := by omega
      have hl := deepN_length pts s s.length
      have HIN : Hid (IntsAt wr (.slice oa s.length oc) (deepN pts s pts.length)) := by
        show IntsAt _ _ _
        rw [← HL.out]
        exact intsAt_own (by rw [hl]; exact hown) (by omega)
      have hBB := Lib.hid (HB.out.trans (HR.out.mono HB.out.size))
      clear hlt hl
      go_wp2
      go_ret
      exact ⟨_, rfl, HIN.out, hBB.out⟩
end Go.Proofs.Ytnciomoapajonaa
