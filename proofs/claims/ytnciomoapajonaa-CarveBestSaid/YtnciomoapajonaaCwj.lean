/- Package carve: bands in the opposite order. -/
import Derived.Test.YtnciomoapajonaaCwi
import Derived.Laws.CopyOwn
import Derived.Deep.LoopGhost
set_option linter.unusedSimpArgs false
set_option linter.unusedVariables false
namespace Go.Proofs.Ytnciomoapajonaa
open Go Go.RowKit Go.Shelf Cv

/-- The first i and the last i are exchanged. -/
def revTo (q : List Sp) (i : Nat) : List Sp := (List.range q.length).map fun t => if t < i ∨ q.length - i ≤ t then q.getD (q.length - 1 - t) (0, 0) else q.getD t (0, 0)
theorem revTo_length (q : List Sp) (i : Nat) : (revTo q i).length = q.length := by simp [revTo]
theorem revTo_get (q : List Sp) (i t : Nat) (h : t < q.length) : (revTo q i).getD t (0, 0) = if t < i ∨ q.length - i ≤ t then q.getD (q.length - 1 - t) (0, 0) else q.getD t (0, 0) := by
  unfold revTo
  rw [List.getD_eq_getElem?_getD, List.getElem?_map, List.getElem?_range h]
  rfl
theorem revTo_zero (q : List Sp) : revTo q 0 = q := by
  apply List.ext_getElem
  · simp [revTo]
  · intro t h1 h2
    simp only [revTo, List.getElem_map, List.getElem_range]
    rw [if_neg (by omega)]
    simp [List.getD_eq_getElem?_getD, h2]
theorem revTo_all (q : List Sp) (i : Nat) (h : q.length ≤ 2 * i + 1) : revTo q i = q.reverse := by
  apply List.ext_getElem
  · simp [revTo]
  · intro t h1 h2
    have ht : t < q.length := by simpa using h2
    simp only [revTo, List.getElem_map, List.getElem_range, List.getElem_reverse]
    by_cases hc : t < i ∨ q.length - i ≤ t
    · rw [if_pos hc]
      simp [List.getD_eq_getElem?_getD, show q.length - 1 - t < q.length by omega]
    · rw [if_neg hc]
      have : q.length - 1 - t = t := by omega
      simp [List.getD_eq_getElem?_getD, ht, this]
theorem revTo_succ (q : List Sp) (i j : Nat) (h : i + j + 1 = q.length) (hij : i < j) : revTo q (i + 1) = ((revTo q i).set i ((revTo q i).getD j (0, 0))).set j ((revTo q i).getD i (0, 0)) := by
  rw [revTo_get q i j (by omega), revTo_get q i i (by omega), if_neg (by omega), if_neg (by omega)]
  apply List.ext_getElem
  · simp [revTo]
  · intro t h1 h2
    rw [List.getElem_set, List.getElem_set]
    simp only [revTo, List.getElem_map, List.getElem_range]
    by_cases e1 : j = t
    · subst e1
      rw [if_pos rfl, if_pos (by omega), show q.length - 1 - j = i by omega]
    · rw [if_neg e1]
      by_cases e2 : i = t
      · subst e2
        rw [if_pos rfl, if_pos (by omega), show q.length - 1 - i = j by omega]
      · rw [if_neg e2]
        by_cases hc : t < i ∨ q.length - i ≤ t
        · rw [if_pos hc, if_pos (by omega)]
        · rw [if_neg hc, if_neg (by omega)]
set_option maxRecDepth 100000 in
set_option maxHeartbeats 4000000 in
theorem reverse_any (g cap : Nat) (q : List Sp) (n : Nat) (w : World) (hO : w.ownsRow g 56 2 (.slice (some ⟨g, 0, none⟩) n cap) n (passC q)) (hn : q.length = n) (n1 : 1 ≤ n) (n10 : n ≤ 10) :
    Calls Try.prog 94 #[.slice (some ⟨g, 0, none⟩) n cap] w fun e w' => (∃ v, e = .returned v) ∧ w'.ownsRow g 56 2 (.slice (some ⟨g, 0, none⟩) n cap) n (passC q.reverse) ∧ Below g w w' := by
  have HO := Lib.hid hO
  have HN := Lib.hid hn
  clear hO hn
  have nI : (n : Int) ≤ 10 := by omega
  go_enter Try.func94, Try.ntmps94
  go_wp2
  go_loopg [2, 3] (n - 1) (fun gh i j wr => ∃ (k l : Nat), gh = l ∧ k + l + 1 = n ∧ i = .int .i64 (k : Int) ∧ j = .int .i64 (l : Int) ∧ Hid (wr.ownsRow g 56 2 (.slice (some ⟨g, 0, none⟩) n cap) n (passC (revTo q k))) ∧ Hid (Below g w wr))
  case atStart => exact ⟨0, n - 1, by omega, by omega, rfl, by go_num, by rw [revTo_zero]; exact HO, Below.refl _ _⟩
  case round =>
    obtain ⟨k, l, hgl, hkl, rfl, rfl, HR, HB⟩ := hrel
    replace hgl := hgl.symm
    subst hgl
    have HKL := Lib.hid hkl
    by_cases hlt : k < l
    · have hk : k < n := by omega
      have hl : l < n := by omega
      have kI : (k : Int) < (n : Int) := by omega
      have lI : (l : Int) < (n : Int) := by omega
      have klI : (k : Int) < (l : Int) := by omega
      have hpl : (revTo q k).length = n := by rw [revTo_length]; exact HN.out
      have gk := passC_get (revTo q k) k (by omega)
      have gl := passC_get (revTo q k) l (by omega)
      have ck0 := (HR.out.cellAt (k * 2) (by omega)).trans gk.1
      have ck1 := (HR.out.cellAt (k * 2 + 1) (by omega)).trans gk.2
      have cl0 := (HR.out.cellAt (l * 2) (by omega)).trans gl.1
      have cl1 := (HR.out.cellAt (l * 2 + 1) (by omega)).trans gl.2
      have fk0 := HR.out.frozenAt (k * 2)
      have fk1 := HR.out.frozenAt (k * 2 + 1)
      have fl0 := HR.out.frozenAt (l * 2)
      have fl1 := HR.out.frozenAt (l * 2 + 1)
      have HS := Lib.hid (revTo_succ q k l (by have := HN.out; omega) hlt)
      have HPL := Lib.hid hpl
      generalize revTo q k = p at *
      obtain ⟨⟨x0, x1⟩, hx⟩ : ∃ z, p.getD k (0, 0) = z := ⟨_, rfl⟩
      obtain ⟨⟨y0, y1⟩, hy⟩ : ∃ z, p.getD l (0, 0) = z := ⟨_, rfl⟩
      rw [hx] at ck0 ck1 HS
      rw [hy] at cl0 cl1 HS
      clear hx hy
      have HLT := Lib.hid hlt
      have hne : k ≠ l := by omega
      clear gk gl hpl hlt hkl hk hl
      go_wp2_with fail
      go_region
      have ho := ((((HR.out.stored (k * 2) (.int .i64 y0)).1.stored (k * 2 + 1) (.int .i64 y1)).1.stored (l * 2) (.int .i64 x0)).1.stored (l * 2 + 1) (.int .i64 x1)).1
      rw [passC_set2 p k _ _ (by rw [HPL.out]; have := HLT.out; have := HKL.out; omega), passC_set2 _ l _ _ (by rw [List.length_set, HPL.out]; have := HKL.out; omega), ← HS.out] at ho
      have HO2 := Lib.hid ho
      have HB2 := Lib.hid ((((HB.out.setCell (p := ⟨g, k * 2, none⟩) (Nat.le_refl _) (.int .i64 y0)).setCell (p := ⟨g, k * 2 + 1, none⟩) (Nat.le_refl _) (.int .i64 y1)).setCell (p := ⟨g, l * 2, none⟩) (Nat.le_refl _) (.int .i64 x0)).setCell (p := ⟨g, l * 2 + 1, none⟩) (Nat.le_refl _) (.int .i64 x1)).drew
      clear ho ck0 ck1 cl0 cl1 fk0 fk1 fl0 fl1 HR HB HS
      go_wp2_with fail
      go_roundg (l - 1)
      case measure => have := HLT.out; omega
      case rel => exact ⟨k + 1, l - 1, rfl, by have := HLT.out; have := HKL.out; omega, by go_num, by have := HLT.out; go_num, HO2.out, HB2.out⟩
    · have klI : ¬ (k : Int) < (l : Int) := by omega
      have HF : Hid (revTo q k = q.reverse) := revTo_all q k (by have := HN.out; omega)
      clear hlt hkl
      rw [HF.out] at HR
      go_wp2_with fail
      go_end0
      exact ⟨⟨_, rfl⟩, HR.out, HB.out⟩
theorem spanInfo : (Try.prog.info? 56).map (fun i => (i.zero, i.size, i.bytes)) = some (some (.agg #[.int .i64 0, .int .i64 0]), 2, 16) := by kernel_rfl
theorem run_copy_two (w : World) (ty : TypeId) (g o dCap sCap n : Nat) (a : Addr) (cur : Array Value) (t : TypeId) (cs : List Value)
    (hg : w.heap[g]? = some (.cells cur t (0, 0))) (hn : cs.length = n * 2)
    (hsrc : ∀ j v, cs[j]? = some v → w.cell? (a.add j) = some v) (hfit : o + cs.length ≤ cur.size) (h1 : ∀ v ∈ cs, v.oneCell' = true) :
    (Builtin.copy_ #[28, 28] ty #[.slice (some ⟨g, o, none⟩) n dCap, .slice (some a) n sCap]).run Try.prog w =
      .ok (goInt n) (w.setRow g (cur.toList.take o ++ cs ++ cur.toList.drop (o + cs.length)).toArray) := by
  have hl := run_loadCells_list (P := Try.prog) w a cs hsrc
  have hst := run_storeCells_at Try.prog g o t cs 0 cur w hg (by simpa using hfit) h1
  have hi := spanInfo
  cases hq : Try.prog.info? 56 with
  | none => simp [hq] at hi
  | some i =>
    have hi2 : i.size = 2 := by simp [hq] at hi; exact hi.2.1
    simp [Builtin.copy_, run_underlying Try.underlying28, Builtin.lenOf, Builtin.firstCells, sizeOf, typeInfo, hq, hi2, ← hn, hl, hst]
set_option maxRecDepth 100000 in
set_option maxHeartbeats 2000000 in
theorem turned_any (B g cap : Nat) (q : List Sp) (n : Nat) (w : World) (hO : w.ownsRow B 56 2 (.slice (some ⟨g, 0, none⟩) n cap) n (passC q)) (hn : q.length = n) (n1 : 1 ≤ n) (n10 : n ≤ 10) :
    Calls Try.prog 85 #[.slice (some ⟨g, 0, none⟩) n cap] w fun e w' => e = .returned (.slice (some ⟨w.heap.size, 0, none⟩) n n) ∧ w'.ownsRow w.heap.size 56 2 (.slice (some ⟨w.heap.size, 0, none⟩) n n) n (passC q.reverse) ∧ Below w.heap.size w w' := by
  obtain ⟨i0, hi⟩ := info_of_underlying Try.underlying56
  have HI : Hid (i0.zero = some (.agg #[.int .i64 0, .int .i64 0]) ∧ i0.size = 2 ∧ i0.bytes = 16) := by
    have h := spanInfo
    rw [hi] at h
    simp at h
    exact h
  have HO := Lib.hid hO
  have HN := Lib.hid hn
  clear hO hn
  have nI : (n : Int) ≤ 10 := by omega
  go_enter Try.func85, Try.ntmps85
  go_wp2_with (at_make; refine wpList_make_full _ rfl _ _ 28 rfl w.heap.size 56 i0 (.agg #[.int .i64 0, .int .i64 0]) 2 Try.underlying28 hi HI.out.1 HI.out.2.1 .i64 .i64 _ _ n rfl rfl rfl rfl ?c1 ?c2 (Nat.le_refl _) ?_)
  case c1 => rw [HI.out.2.2]; omega
  case c2 => unfold maxLen; omega
  intro w3 hown0 hgr
  have HB0 : Hid (Below w.heap.size w w3) := (Below.refl w.heap.size w).grown hgr (Nat.le_refl _) (by simp)
  obtain ⟨cur, hcur, hcs⟩ : ∃ cur : Array Value, w3.heap[w.heap.size]? = some (.cells cur 56 (0, 0)) ∧ cur.size = n * 2 := by
    rcases hown0.2 with ⟨h, _⟩ | ⟨g', cap', cur, h, _, h3, _, _, h6, _⟩
    · simp at h
    · simp only [Value.slice.injEq, Option.some.injEq, Addr.mk.injEq, and_true, true_and] at h
      obtain ⟨rfl, rfl⟩ := h
      exact ⟨cur, h3, h6⟩
  have HO3 := Lib.hid (own_below HO.out (HB0.out.mono (Nat.le_refl _)))
  have hlen : (passC q).length = n * 2 := HO.out.1
  have hcopy := run_copy_two w3 3 w.heap.size 0 n cap n ⟨g, 0, none⟩ cur 56 (passC q) hcur hlen (fun j v hv => by
    have hj : j < n * 2 := by
      rw [← hlen]
      exact (List.getElem?_eq_some_iff.1 hv).1
    have := (HO3.out.cellAt j hj).trans hv
    have e : (⟨g, 0, none⟩ : Addr).add j = ⟨g, j, none⟩ := by
      unfold Addr.add
      split
      · rename_i h; subst h; rfl
      · simp
    rw [e]; exact this) (by omega) (fun v hv => by
    unfold passC at hv
    obtain ⟨p, _, hp⟩ := List.mem_flatMap.1 hv
    simp at hp
    rcases hp with rfl | rfl <;> rfl)
  rw [show cur.toList.take 0 ++ passC q ++ cur.toList.drop (0 + (passC q).length) = passC q by
    rw [List.drop_of_length_le (by rw [hlen]; simp; omega)]; simp] at hcopy
  have HO4 : Hid ((w3.setRow w.heap.size (passC q).toArray).ownsRow w.heap.size 56 2 (.slice (some ⟨w.heap.size, 0, none⟩) n n) n (passC q)) := by
    refine ⟨hlen, .inr ⟨w.heap.size, n, (passC q).toArray, rfl, Nat.le_refl _, ?_, Nat.le_refl _, by unfold maxLen; omega, by simpa using hlen, ?_⟩⟩
    · exact setRow_heap w3 w.heap.size cur (passC q).toArray _ _ hcur
    · simp [← hlen]
  have HB4 := Lib.hid (below_setRow HB0.out (Nat.le_refl _) (passC q).toArray)
  clear hgr HI hown0 hcur hcs hlen
  go_wp2_with fail
  generalize w3.setRow w.heap.size (passC q).toArray = w4 at *
  refine (reverse_any w.heap.size n q n w4 HO4.out HN.out n1 n10).mono ?_
  rintro e w5 ⟨⟨v, rfl⟩, hown, hb⟩
  have HO5 := Lib.hid hown
  have HB5 := Lib.hid (HB4.out.trans hb)
  clear hown hb hcopy
  go_wp2_with fail
  go_ret
  exact ⟨rfl, HO5.out, HB5.out⟩
end Go.Proofs.Ytnciomoapajonaa
