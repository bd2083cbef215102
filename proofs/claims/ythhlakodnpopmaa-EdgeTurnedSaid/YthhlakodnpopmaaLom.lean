/- Package edge: cases without an error; a case in which one sheet can be changed by less. -/
import Derived.Test.YthhlakodnpopmaaLvm
set_option linter.unusedSimpArgs false
set_option linter.unusedVariables false
namespace Go.Proofs.Ythhlakodnpopmaa
open Go Go.RowKit Go.Shelf Ed

theorem own_made (w : World) (e : TypeId) (size : Nat) : (w.alloc (.cells #[] e)).ownsRow w.heap.size e size (.slice (some ⟨w.heap.size, 0, none⟩) 0 0) 0 [] :=
  ⟨by simp, .inr ⟨w.heap.size, 0, #[], rfl, Nat.le_refl _, heap_alloc_new w _, Nat.le_refl _, Nat.zero_le _, by simp, by simp⟩⟩
/-- The cells of sheets. -/
def sC (l : List Sht) : List Value := l.flatMap fun s => [.string s.nm, .int .i64 s.wt, .int .i64 s.most]
theorem sC_length (l : List Sht) : (sC l).length = l.length * 3 := by
  induction l with
  | nil => rfl
  | cons j js ih => simp only [sC, List.flatMap_cons, List.length_append, List.length_cons, List.length_nil] at ih ⊢; omega
theorem sC_append (l : List Sht) (s : Sht) : sC (l ++ [s]) = sC l ++ [.string s.nm, .int .i64 s.wt, .int .i64 s.most] := by simp [sC]
theorem sC_get : ∀ (l : List Sht) (k : Nat) (h : k < l.length), (sC l)[k * 3]? = some (.string l[k].nm) ∧ (sC l)[k * 3 + 1]? = some (.int .i64 l[k].wt) ∧ (sC l)[k * 3 + 2]? = some (.int .i64 l[k].most) := by
  intro l
  induction l with
  | nil => intro k h; simp at h
  | cons p l ih =>
    intro k h
    cases k with
    | zero => simp [sC]
    | succ k =>
      obtain ⟨h1, h2, h3⟩ := ih k (by simpa using h)
      have e : ∀ i, (sC (p :: l))[(k + 1) * 3 + i]? = (sC l)[k * 3 + i]? := by
        intro i
        rw [show (k + 1) * 3 + i = 3 + (k * 3 + i) by omega]
        simp only [sC, List.flatMap_cons]
        rw [List.getElem?_append_right (by simp)]
        simp
      exact ⟨(e 0).trans h1, (e 1).trans h2, (e 2).trans h3⟩
theorem sC_cell (l : List Sht) : ∀ u ∈ sC l, u.oneCell' = true := by
  intro u hu
  obtain ⟨s, _, hs⟩ := List.mem_flatMap.1 hu
  simp at hs
  rcases hs with rfl | rfl | rfl <;> rfl
theorem shts_cells {w : World} {b o n cap : Nat} {l : List Sht} (h : ShtsAt w (.slice (some ⟨b, o, none⟩) n cap) l) : ∀ j u, (sC l)[j]? = some u → w.cell? ((⟨b, o, none⟩ : Addr).add j) = some u := by
  intro j u hu
  have hj : j < l.length * 3 := by rw [← sC_length]; exact (List.getElem?_eq_some_iff.1 hu).1
  have hk : j / 3 < l.length := by omega
  obtain ⟨b', o', e, c0, c1, c2⟩ := h.get hk
  simp only [Option.some.injEq, Addr.mk.injEq, and_true] at e
  obtain ⟨rfl, rfl⟩ := e
  have g := sC_get l (j / 3) hk
  rw [Go.WideShapes.add_plain]
  have hr : j % 3 = 0 ∨ j % 3 = 1 ∨ j % 3 = 2 := by omega
  rcases hr with q | q | q
  · have e : j = j / 3 * 3 := by omega
    rw [e] at hu ⊢
    rw [g.1] at hu
    rw [← hu]
    exact c0
  · have e : j = j / 3 * 3 + 1 := by omega
    have e2 : o + j = o + j / 3 * 3 + 1 := by omega
    rw [e2]
    rw [e, g.2.1] at hu
    rw [← hu]
    exact c1
  · have e : j = j / 3 * 3 + 2 := by omega
    have e2 : o + j = o + j / 3 * 3 + 2 := by omega
    rw [e2]
    rw [e, g.2.2] at hu
    rw [← hu]
    exact c2
theorem shtInfo : (Try.prog.info? 66).map (fun i => (i.zero, i.size, i.bytes)) = some (some (.agg #[.string ⟨#[]⟩, .int .i64 0, .int .i64 0]), 3, 32) := by kernel_rfl
/-- A row of the call's own reads as sheets. -/
theorem shtsAt_own {w : World} {base m : Nat} {v : Value} {l : List Sht} (hm : m = l.length) (h : w.ownsRow base 66 3 v m (sC l)) (hl : l.length ≤ 4611686018427387904) (hs : ∀ s, s ∈ l → s.nm.size ≤ 140737488351232) : ShtsAt w v l := by
  subst hm
  rcases h.2 with ⟨rfl, h0⟩ | ⟨g, cap, cur, rfl, hb, hg, hnc, hcm, hcs, htake⟩
  · have : l = [] := List.length_eq_zero_iff.1 h0
    subst this
    exact ⟨by simp, none, 0, rfl, by simp, (fun s hs => by simp at hs), fun hne => absurd rfl hne⟩
  · refine ⟨hl, _, cap, rfl, hnc, hs, fun _ => ⟨g, 0, rfl, fun k hk => ?_⟩⟩
    obtain ⟨e0, e1, e2⟩ := sC_get l k hk
    rw [Nat.zero_add]
    exact ⟨(h.cellAt (k * 3) (by omega)).trans e0, (h.cellAt (k * 3 + 1) (by omega)).trans e1, (h.cellAt (k * 3 + 2) (by omega)).trans e2⟩
/-- One sheet's Most turned. -/
def mostS (m : Int) (s : Sht) : Sht := { s with most := m }
def onlyC (c : Cas) (i : Nat) (m : Int) : Cas := { c with shs := c.shs.set i (mostS m (c.shs.getD i default)) }
theorem shtsAt_set {w : World} {base i : Nat} {g n cap : Nat} {l : List Sht} (m : Int) (hn : n = l.length) (hi : i < l.length) (h : w.ownsRow base 66 3 (.slice (some ⟨g, 0, none⟩) n cap) n (sC l)) (hl : l.length ≤ 4611686018427387904) (hs : ∀ s, s ∈ l → s.nm.size ≤ 140737488351232) :
    ShtsAt (w.setCell ⟨g, i * 3 + 2, none⟩ (.int .i64 m)) (.slice (some ⟨g, 0, none⟩) n cap) (l.set i (mostS m (l.getD i default))) := by
  subst hn
  have h0 := shtsAt_own rfl h hl hs
  have hgc : (w.cell? ⟨g, i * 3 + 2, none⟩).isSome = true := by
    obtain ⟨b, o, e, _, _, c2⟩ := h0.get hi
    injection e with e
    injection e with e1 e2
    subst e1 e2
    rw [Nat.zero_add] at c2
    rw [c2]; rfl
  obtain ⟨_, a, cap', e, hc, hs', hne⟩ := h0
  injection e with e1 e2 e3
  subst e1 e3
  refine ⟨by rw [List.length_set]; exact hl, _, cap, by rw [List.length_set], by rw [List.length_set]; exact hc, fun s hm => ?_, fun _ => ⟨g, 0, rfl, fun k hk => ?_⟩⟩
  · rcases List.mem_or_eq_of_mem_set hm with h1 | h1
    · exact hs _ h1
    · rw [h1, getD_lt _ _ hi]; exact hs l[i] (List.getElem_mem hi)
  · rw [List.length_set] at hk
    obtain ⟨b, o, e, hk'⟩ := hne (by rintro rfl; simp at hi)
    injection e with e
    injection e with e1 e2
    subst e1 e2
    obtain ⟨c0, c1, c2⟩ := hk' k hk
    have ho : ∀ j v, j ≠ i * 3 + 2 → w.cell? ⟨g, j, none⟩ = some v → (w.setCell ⟨g, i * 3 + 2, none⟩ (.int .i64 m)).cell? ⟨g, j, none⟩ = some v := fun j v hj hv => by
      exact (World.cell?_setCell_other (w := w) (a := ⟨g, i * 3 + 2, none⟩) (b := ⟨g, j, none⟩) (v := .int .i64 m) (by intro h; injection h with _ h2; exact hj h2.symm)).trans hv
    by_cases ek : i = k
    · subst ek
      rw [List.getElem_set_self]
      rw [Nat.zero_add] at c0 c1 c2 ⊢
      rw [getD_lt _ _ hi]
      refine ⟨ho _ _ (by omega) c0, ho _ _ (by omega) c1, ?_⟩
      exact World.cell?_setCell_same' w _ _ (by rw [c2]; rfl)
    · rw [List.getElem_set_ne ek]
      rw [Nat.zero_add] at c0 c1 c2 ⊢
      exact ⟨ho _ _ (by omega) c0, ho _ _ (by omega) c1, ho _ _ (by omega) c2⟩
theorem ShtsAt.far {w : World} {g o n cap : Nat} {l : List Sht} (h : ShtsAt w (.slice (some ⟨g, o, none⟩) n cap) l) (p : Addr) (hp : p.block ≠ g) (u : Value) : ShtsAt (w.setCell p u) (.slice (some ⟨g, o, none⟩) n cap) l := by
  obtain ⟨h1, a, c, e, hc, hs, h2⟩ := h
  injection e with e1 e2 e3
  subst e1 e2 e3
  refine ⟨h1, _, _, rfl, hc, hs, fun hne => ?_⟩
  obtain ⟨b, o', e, hk⟩ := h2 hne
  injection e with e
  injection e with e1 e2
  subst e1 e2
  refine ⟨g, o, rfl, fun k h => ?_⟩
  obtain ⟨c0, c1, c2⟩ := hk k h
  exact ⟨(World.cell?_setCell_far w p _ u hp).trans c0, (World.cell?_setCell_far w p _ u hp).trans c1, (World.cell?_setCell_far w p _ u hp).trans c2⟩
set_option maxRecDepth 100000 in
set_option maxHeartbeats 8000000 in
theorem only_any (c : Cas) (hv : Valid c) (sv ev : Value) (i : Nat) (ch : Int) (w : World) (hi : i < c.shs.length) (hch : -6 ≤ ch ∧ ch ≤ 6) (hC : CasAt w c sv ev) :
    Calls Try.prog 46 #[.agg #[.int .i64 c.tol, sv, ev], .int .i64 i, .int .i64 ch] w fun e w' => ∃ sv', e = .returned (.agg #[.int .i64 c.tol, sv', ev]) ∧ CasAt w' (onlyC c i (max ch (-ch))) sv' ev ∧ Below w.heap.size w w' := by
  obtain ⟨n, hn⟩ : ∃ n, c.shs.length = n := ⟨_, rfl⟩
  obtain ⟨ea, m, ec, rfl⟩ : ∃ a n cc, ev = .slice a n cc := by obtain ⟨_, a, cap, h, _⟩ := hC.eds; exact ⟨_, _, _, h⟩
  have hS := hC.shs
  obtain ⟨_, sa, sc, rfl, _, hsz, hnn⟩ := id hS
  have n5 := hv.n5
  have n1 := hv.n1
  obtain ⟨sb, so, rfl, _⟩ := hnn (by intro h; rw [h] at n1; simp at n1)
  rw [hn] at hS hi n5 n1 ⊢
  obtain ⟨i0, hi0⟩ := info_of_underlying Try.underlying66
  have HI0 : Hid (i0.zero = some (.agg #[.string ⟨#[]⟩, .int .i64 0, .int .i64 0]) ∧ i0.size = 3 ∧ i0.bytes = 32) := by
    have h := shtInfo
    rw [hi0] at h
    simp at h
    exact h
  obtain ⟨W, hW, q1, q2, hb, hsz2⟩ := al2 w (Obj.cells #[.int .i64 c.tol, .slice (some ⟨sb, so, none⟩) n sc, .slice ea m ec] 25) (Obj.cells #[.int .i64 0, .slice none 0 0, .slice none 0 0] 25)
  have HR := Lib.hid q1
  have HQ := Lib.hid q2
  have HS := Lib.hid (hS.below hb)
  have HCE := Lib.hid hC.eds
  have HW := Lib.hid hW
  have HB := Lib.hid hb
  have HN := Lib.hid hn
  have HSS := Lib.hid hsz
  obtain ⟨c1, c9⟩ := hch
  have hWS : w.heap.size + 2 ≤ W.heap.size := by omega
  obtain ⟨mx, hmx⟩ : ∃ mx, max ch (-ch) = mx := ⟨_, rfl⟩
  have HMX := Lib.hid hmx
  generalize c.tol = tol at *
  clear hW hb hS hC hn hv q1 q2 hsz hnn
  have hownA := own_made W 66 3
  have hba : Below W.heap.size W (W.alloc (Obj.cells #[] 66)) := (Below.refl _ _).alloc (Nat.le_refl _) _
  have HSA := Lib.hid (HS.out.below hba)
  have HBA := Lib.hid hba
  have hszA : (W.alloc (Obj.cells #[] 66)).heap.size = w.heap.size + 3 := by simp; omega
  have s1 : IntKind.i64.wrap (-ch) = -ch := by rw [IntKind.wrap_i64] <;> omega
  rw [hsz2] at hownA
  have HSZ2 := Lib.hid hsz2
  have hownB := hownA
  rw [← HW.out] at hownB
  clear hba hsz2
  go_enter Try.func46, Try.ntmps46
  go_wp2_with (at_builtin; refine wpList_append_own _ rfl _ _ 22 rfl (w.heap.size + 2) 66 i0 (.agg #[.string ⟨#[]⟩, .int .i64 0, .int .i64 0]) 3 32 Try.underlying22 hi0 HI0.out.1 HI0.out.2.1 HI0.out.2.2 rfl (by decide) _ 0 [] rfl hownB ⟨sb, so, none⟩ n sc (sC c.shs) rfl (by rw [sC_length, HN.out]) ?pa1 (sC_cell _) (by unfold maxLen; omega) (by omega) ?pa5 ?_)
  case pa1 => rw [HW.out]; exact shts_cells HSA.out
  case pa5 => rw [HW.out]; omega
  rw [HW.out]
  intro v' w3 hown3 hgrow _
  have hB3 : Below W.heap.size W w3 := HBA.out.grown hgrow HBA.out.size (fun g hg => by have := (hownA.lt g hg).1; have := HSZ2.out; omega)
  have HO3 := hown3
  obtain ⟨g, cap, cur, rfl, hgb, hgh, hnc, hcm, hcs, htk⟩ := (hown3.2).resolve_left (fun h => by have := h.2; omega)
  have hs3 := shtsAt_own HN.out.symm HO3 (by have := HN.out; omega) HSS.out
  have hic : i < c.shs.length := by rw [HN.out]; exact hi
  obtain ⟨gb, go_, e, e0, e1, e2⟩ := hs3.get hic
  injection e with e
  injection e with ea1 ea2
  subst ea1 ea2
  rw [Nat.zero_add] at e2
  obtain ⟨mv, hmv⟩ : ∃ v, c.shs[i].most = v := ⟨_, rfl⟩
  rw [hmv] at e2
  clear hmv
  have R3 := Lib.hid ((hB3.block _ (lt_of_block HR.out)).trans HR.out)
  have Q3 := Lib.hid ((hB3.block _ (lt_of_block HQ.out)).trans HQ.out)
  have HO := Lib.hid HO3
  have HB3 := Lib.hid (HB.out.trans (hB3.mono HB.out.size))
  have r0 := cellOf R3.out 0 _ rfl
  have r1 := cellOf R3.out 1 _ rfl
  have r2 := cellOf R3.out 2 _ rfl
  have rl := lt_of_block R3.out
  have fr1 := frozen_of_row _ _ 1 _ _ R3.out
  have q0 := cellOf Q3.out 0 _ rfl
  have q1 := cellOf Q3.out 1 _ rfl
  have q2 := cellOf Q3.out 2 _ rfl
  have ql := lt_of_block Q3.out
  have fq0 := frozen_of_row _ _ 0 _ _ Q3.out
  have fq1 := frozen_of_row _ _ 1 _ _ Q3.out
  have fq2 := frozen_of_row _ _ 2 _ _ Q3.out
  have fg := frozen_of_row _ _ (i * 3 + 2) _ _ hgh
  have gl := lt_of_block hgh
  have ng1 : g ≠ w.heap.size := by omega
  have ng2 : g ≠ w.heap.size + 1 := by omega
  have ng1' : w.heap.size ≠ g := by omega
  have ng2' : w.heap.size + 1 ≠ g := by omega
  have iI : (i : Int) < (n : Int) := by omega
  have nI : (n : Int) ≤ 5 := by omega
  clear hown3 HO3 hgh hnc hcm hcs htk hgrow hB3 hs3 e0 e1 hic hownA hownB HSA HBA hszA HR HQ HS
  have key : Hid (∀ x : Int, mx = x → (put3 ((w3.setCell ⟨w.heap.size, 1, none⟩ (.slice (some ⟨g, 0, none⟩) n cap)).setCell ⟨g, i * 3 + 2, none⟩ (.int .i64 x)) (w.heap.size + 1) (.int .i64 tol) (.slice (some ⟨g, 0, none⟩) n cap) (.slice ea m ec)).heap[w.heap.size + 1]? = some (.cells #[.int .i64 tol, .slice (some ⟨g, 0, none⟩) n cap, .slice ea m ec] 25 (0, 0)) ∧ CasAt (put3 ((w3.setCell ⟨w.heap.size, 1, none⟩ (.slice (some ⟨g, 0, none⟩) n cap)).setCell ⟨g, i * 3 + 2, none⟩ (.int .i64 x)) (w.heap.size + 1) (.int .i64 tol) (.slice (some ⟨g, 0, none⟩) n cap) (.slice ea m ec)) (onlyC c i mx) (.slice (some ⟨g, 0, none⟩) n cap) (.slice ea m ec) ∧ Below w.heap.size w (put3 ((w3.setCell ⟨w.heap.size, 1, none⟩ (.slice (some ⟨g, 0, none⟩) n cap)).setCell ⟨g, i * 3 + 2, none⟩ (.int .i64 x)) (w.heap.size + 1) (.int .i64 tol) (.slice (some ⟨g, 0, none⟩) n cap) (.slice ea m ec))) := by
    intro x hx
    subst hx
    have hq : ((w3.setCell ⟨w.heap.size, 1, none⟩ (.slice (some ⟨g, 0, none⟩) n cap)).setCell ⟨g, i * 3 + 2, none⟩ (.int .i64 mx)).heap[w.heap.size + 1]? = some (.cells #[.int .i64 0, .slice none 0 0, .slice none 0 0] 25 (0, 0)) := (heap_setCell_other _ (⟨g, i * 3 + 2, none⟩ : Addr) (w.heap.size + 1) _ ng2').trans ((heap_setCell_other w3 (⟨w.heap.size, 1, none⟩ : Addr) (w.heap.size + 1) _ (by simp)).trans Q3.out)
    have hb := put3_below (g := w.heap.size + 1) (a := .int .i64 tol) (b := .slice (some ⟨g, 0, none⟩) n cap) (c := .slice ea m ec) (((HB3.out.setCell (p := ⟨w.heap.size, 1, none⟩) (Nat.le_refl _) (.slice (some ⟨g, 0, none⟩) n cap))).setCell (p := ⟨g, i * 3 + 2, none⟩) (by simp; omega) (.int .i64 mx)) (by omega)
    refine ⟨put3_at hq, ⟨?_, HCE.out.below hb⟩, hb⟩
    have h1 := shtsAt_set mx HN.out.symm (by rw [HN.out]; exact hi) (own_other HO.out ⟨w.heap.size, 1, none⟩ (by simp) (.slice (some ⟨g, 0, none⟩) n cap)) (by have := HN.out; omega) HSS.out
    exact ((h1.far ⟨w.heap.size + 1, 0, none⟩ ng2' _).far ⟨w.heap.size + 1, 1, none⟩ ng2' _).far ⟨w.heap.size + 1, 2, none⟩ ng2' _
  have hmx' := HMX.out
  clear hmx
  rcases Int.lt_trichotomy ch (-ch) with hlt | heq | hlt
  · have hk := key.out (-ch) (by omega)
    rw [← hmx'] at hk
    clear key hmx' HMX
    go_wp2_with fail
    exact bodyPost_ret (case_result rfl _ _ (w.heap.size + 1) _ _ _ rfl hk.1) rfl ⟨_, rfl, hk.2.1, hk.2.2⟩
  · have hk := key.out 0 (by omega)
    rw [← hmx'] at hk
    clear key hmx' HMX
    obtain rfl : ch = 0 := by omega
    clear heq s1
    go_wp2_with fail
    exact bodyPost_ret (case_result rfl _ _ (w.heap.size + 1) _ _ _ rfl hk.1) rfl ⟨_, rfl, hk.2.1, hk.2.2⟩
  · have hk := key.out ch (by omega)
    rw [← hmx'] at hk
    clear key hmx' HMX
    go_wp2_with fail
    exact bodyPost_ret (case_result rfl _ _ (w.heap.size + 1) _ _ _ rfl hk.1) rfl ⟨_, rfl, hk.2.1, hk.2.2⟩
end Go.Proofs.Ythhlakodnpopmaa
namespace Go.Proofs.Ythhlakodnpopmaa
open Go Go.RowKit Go.Shelf Ed

theorem err_zero {c : Cas} (h : errC c = 0) : inB 0 50 c.tol = true ∧ ¬ (inB 1 5 (c.shs.length : Int) = false ∨ 8 < c.eds.length) ∧ (∀ j, j < c.shs.length → shErr (c.shs.take j) (c.shs.getD j default) = 0) ∧ ∀ j, j < c.eds.length → edErr c.shs.length (c.eds.getD j default) = 0 := by
  unfold errC checkC at h
  split at h
  · simp at h
  · rename_i h1
    split at h
    · simp at h
    · rename_i h2
      split at h
      · rename_i h3; exact absurd h h3
      · rename_i h3
        split at h
        · rename_i h4; exact absurd h h4
        · rename_i h4
          refine ⟨by simpa using h1, h2, fun j hj => ?_, fun j hj => ?_⟩
          · exact (firstW_zero _ _ _).1 (Classical.not_not.1 h3) j (Nat.zero_le _) (by omega)
          · exact (firstW_zero _ _ _).1 (Classical.not_not.1 h4) j (Nat.zero_le _) (by omega)
theorem any_congr (l m : List Sht) (nm : ByteArray) (h : l.map (·.nm) = m.map (·.nm)) : l.any (fun b => b.nm.toList == nm.toList) = m.any (fun b => b.nm.toList == nm.toList) := by
  have e : ∀ l : List Sht, l.any (fun b => b.nm.toList == nm.toList) = (l.map (·.nm)).any (fun x => x.toList == nm.toList) := fun l => by rw [List.any_map]; rfl
  rw [e l, e m, h]
/-- Sheets of the same names, within limits, leave a case without an error. -/
theorem err_names {c d : Cas} (h : errC c = 0) (ht : inB 0 50 d.tol = true) (hl : d.shs.length = c.shs.length) (hn : ∀ i, i < c.shs.length → (d.shs.getD i default).nm = (c.shs.getD i default).nm)
    (hr : ∀ i, i < c.shs.length → inB 0 20 (d.shs.getD i default).wt = true ∧ inB 0 6 (d.shs.getD i default).most = true) (he : d.eds = c.eds) : errC d = 0 := by
  obtain ⟨h1, h2, h3, h4⟩ := err_zero h
  have hmap : ∀ j, j ≤ c.shs.length → (d.shs.take j).map (·.nm) = (c.shs.take j).map (·.nm) := by
    intro j hj
    apply List.ext_getElem (by simp [hl])
    intro i a b
    simp only [List.length_map, List.length_take] at a b
    have := hn i (by omega)
    rw [getD_lt _ _ (by omega), getD_lt _ _ (by omega)] at this
    simp [this]
  have := checkC_ok (c := d) ht (by rw [hl, he]; exact h2) (fun j hj => by
    rw [hl] at hj
    have a := h3 j hj
    obtain ⟨r1, r2⟩ := hr j hj
    unfold shErr at a ⊢
    rw [hn j hj, any_congr _ _ _ (hmap j (by omega))]
    split at a
    · omega
    · rename_i k1
      split at a
      · omega
      · rename_i k2
        rw [if_neg k1, if_neg k2, if_neg (by rw [r1, r2]; simp)]) (fun j hj => by rw [he, hl]; exact h4 j (by rw [← he]; exact hj))
  unfold errC
  rw [this]
theorem only_get (c : Cas) (i : Nat) (m : Int) (hi : i < c.shs.length) (j : Nat) : (onlyC c i m).shs.getD j default = if j = i then mostS m (c.shs.getD i default) else c.shs.getD j default := by
  simp only [onlyC, List.getD_eq_getElem?_getD, List.getElem?_set]
  by_cases e : i = j
  · subst e
    rw [if_pos rfl, if_pos hi, if_pos rfl]
    rfl
  · rw [if_neg e, if_neg (fun h => e h.symm)]
theorem only_err (c : Cas) (i : Nat) (m : Int) (hi : i < c.shs.length) (hm : 0 ≤ m ∧ m ≤ 6) (h : errC c = 0) : errC (onlyC c i m) = 0 := by
  have hv := valid_of h
  refine err_names h (err_zero h).1 (by simp [onlyC]) (fun j hj => ?_) (fun j hj => ?_) rfl
  · rw [only_get c i m hi j]
    split
    · rename_i e; subst e; rfl
    · rfl
  · have hs := hv.sh _ (List.getElem_mem hj)
    obtain ⟨w0, w20, m0, m6⟩ := hs
    rw [only_get c i m hi j]
    split
    · rename_i e
      subst e
      rw [getD_lt _ _ hj]
      unfold inB mostS
      simp only [Bool.and_eq_true, decide_eq_true_eq]
      omega
    · rw [getD_lt _ _ hj]
      unfold inB
      simp only [Bool.and_eq_true, decide_eq_true_eq]
      omega
/-- Changes that agree if one sheet can be changed by less. -/
theorem only_ag (c : Cas) (i : Nat) (m : Int) (hi : i < c.shs.length) (hm : 0 ≤ m ∧ m ≤ (c.shs.getD i default).most) (y : Nat → Int) : Ag (sysA (onlyC c i m)) y ↔ Ag (sysA c) y ∧ -m ≤ y i ∧ y i ≤ m := by
  have hes : (sysA (onlyC c i m)).es = (sysA c).es := rfl
  have hn : (sysA (onlyC c i m)).n = (sysA c).n := by simp [sysC, onlyC]
  have hmost : ∀ j, (sysA (onlyC c i m)).most j = if j = i then m else (sysA c).most j := by
    intro j
    show ((onlyC c i m).shs.getD j default).most = _
    rw [only_get c i m hi j]
    split
    · rfl
    · rfl
  constructor
  · intro h
    have hyi := h.bx i (by rw [hn]; exact hi)
    rw [hmost, if_pos rfl] at hyi
    refine ⟨⟨fun j hj => ?_, fun e he => h.ed e (by rw [hes]; exact he)⟩, hyi.1, hyi.2⟩
    have hb := h.bx j (by rw [hn]; exact hj)
    rw [hmost] at hb
    by_cases e : j = i
    · subst e
      have : (sysA c).most j = (c.shs.getD j default).most := rfl
      rw [if_pos rfl] at hb
      omega
    · rw [if_neg e] at hb
      exact hb
  · rintro ⟨h, h1, h2⟩
    refine ⟨fun j hj => ?_, fun e he => h.ed e (by rw [← hes]; exact he)⟩
    rw [hmost]
    rw [hn] at hj
    by_cases e : j = i
    · subst e
      rw [if_pos rfl]
      exact ⟨h1, h2⟩
    · rw [if_neg e]
      exact h.bx j hj
/-- All changes of a sheet between two that agree are reached. -/
theorem ag_between {s : Sys} {a b : Nat → Int} {i : Nat} (ha : Ag s a) (hb : Ag s b) (v : Int) (h1 : a i ≤ v) (h2 : v ≤ b i) : ∃ y, Ag s y ∧ y i = v := by
  have hM := ha.max hb
  refine ⟨fun j => min (max (a j) (b j)) (a j + (v - a i)), ⟨fun j hj => ?_, fun e he => ?_⟩, ?_⟩
  · have h3 := ha.bx j hj
    have h4 := hM.bx j hj
    show -s.most j ≤ min (max (a j) (b j)) (a j + (v - a i)) ∧ min (max (a j) (b j)) (a j + (v - a i)) ≤ s.most j
    omega
  · have h3 := ha.ed e he
    have h4 := hM.ed e he
    show e.lo ≤ min (max (a e.a) (b e.a)) (a e.a + (v - a i)) - min (max (a e.b) (b e.b)) (a e.b + (v - a i)) ∧ min (max (a e.a) (b e.a)) (a e.a + (v - a i)) - min (max (a e.b) (b e.b)) (a e.b + (v - a i)) ≤ e.hi
    omega
  · show min (max (a i) (b i)) (a i + (v - a i)) = v
    omega
/-- Range of the case in which one sheet can be changed by less. -/
theorem only_range (c : Cas) (h : errC c = 0) (i : Nat) (hi : i < c.shs.length) (m : Int) (hm : 0 ≤ m ∧ m ≤ (c.shs.getD i default).most) {lo hi' : Int} (hs : RangeOk c i (lo, hi')) :
    rangeE (onlyC c i m) i = if min hi' m < max lo (-m) then ((0, 0), 9) else ((max lo (-m), min hi' m), 0) := by
  have hv := valid_of h
  have hm6 : (c.shs.getD i default).most ≤ 6 := by rw [getD_lt _ _ hi]; exact (hv.sh _ (List.getElem_mem hi)).m6
  have he := only_err c i m hi ⟨hm.1, by omega⟩ h
  have hi2 : i < (onlyC c i m).shs.length := by simp [onlyC, hi]
  obtain ⟨a, aA, ea⟩ := hs.lo
  obtain ⟨b, bA, eb⟩ := hs.hi
  simp only at ea eb
  split
  · rename_i hlt
    refine range_no _ he i hi2 fun y hy => ?_
    obtain ⟨h1, h2, h3⟩ := (only_ag c i m hi hm y).1 hy
    have := hs.all y h1
    simp only at this
    omega
  · rename_i hge
    refine range_is _ he i hi2 ⟨fun y hy => ?_, ?_, ?_⟩
    · obtain ⟨h1, h2, h3⟩ := (only_ag c i m hi hm y).1 hy
      have := hs.all y h1
      simp only at this ⊢
      omega
    · obtain ⟨y, h1, h2⟩ := ag_between (i := i) aA bA (max lo (-m)) (by omega) (by omega)
      exact ⟨y, (only_ag c i m hi hm y).2 ⟨h1, by omega, by omega⟩, h2⟩
    · obtain ⟨y, h1, h2⟩ := ag_between (i := i) aA bA (min hi' m) (by omega) (by omega)
      exact ⟨y, (only_ag c i m hi hm y).2 ⟨h1, by omega, by omega⟩, h2⟩
end Go.Proofs.Ythhlakodnpopmaa
