/- Package carve: how deep a surface is carved at each point. -/
import Derived.Test.YtnciomoapajonaaCvq
import Derived.Laws.OwnMore
import Derived.Laws.AppendOwn
set_option linter.unusedSimpArgs false
set_option linter.unusedVariables false
namespace Go.Proofs.Ytnciomoapajonaa
open Go Go.RowKit Cv

theorem own_below {w w' : World} {B e size n : Nat} {v : Value} {xs : List Value} (h : w.ownsRow B e size v n xs) (hb : Below w.heap.size w w') : w'.ownsRow B e size v n xs := by
  obtain ⟨h0, h⟩ := h
  refine ⟨h0, ?_⟩
  rcases h with h | ⟨g, cap, cur, r1, r2, r3, r4⟩
  · exact .inl h
  · exact .inr ⟨g, cap, cur, r1, r2, (hb.block g (lt_of_block r3)).trans r3, r4⟩

theorem own_base {w : World} {B B' e size n : Nat} {v : Value} {xs : List Value} (h : w.ownsRow B e size v n xs) (hb : B' ≤ B) : w.ownsRow B' e size v n xs := by
  obtain ⟨h0, h⟩ := h
  refine ⟨h0, ?_⟩
  rcases h with h | ⟨g, cap, cur, r1, r2, r3⟩
  · exact .inl h
  · exact .inr ⟨g, cap, cur, r1, Nat.le_trans hb r2, r3⟩

/-- How deep a surface is carved at each of the first points. -/
def deepN (l : List Pt) (s : List Int) (n : Nat) : List Int := (List.range n).map fun k => max 0 ((l.getD k default).bd - s.getD k 0)
theorem deepN_length (l : List Pt) (s : List Int) (n : Nat) : (deepN l s n).length = n := by simp [deepN]
/-- The first k of a row of cells hold what they should. -/
def DeepTo (l : List Pt) (s : List Int) (cur : List Value) (k : Nat) : Prop := ∀ a, a < k → cur[a]? = some (.int .i64 (max 0 ((l.getD a default).bd - s.getD a 0)))
theorem DeepTo.more {l : List Pt} {s : List Int} {cur : List Value} {k : Nat} {x : Int} (h : DeepTo l s cur k) (hl : k < cur.length) (hx : x = max 0 ((l.getD k default).bd - s.getD k 0)) : DeepTo l s (cur.set k (.int .i64 x)) (k + 1) := by
  subst hx
  intro a ha
  rcases Nat.lt_or_ge a k with h1 | h1
  · rw [List.getElem?_set_ne (by omega)]
    exact h a h1
  · obtain rfl : a = k := by omega
    rw [List.getElem?_set_self (by omega)]
theorem DeepTo.all {l : List Pt} {s : List Int} {cur : List Value} (h : DeepTo l s cur cur.length) : cur = (deepN l s cur.length).map (Value.int .i64) := by
  apply List.ext_getElem?
  intro a
  rcases Nat.lt_or_ge a cur.length with h1 | h1
  · rw [h a h1]
    simp [deepN, h1]
  · rw [List.getElem?_eq_none h1, List.getElem?_eq_none (by simpa [deepN] using h1)]
theorem intInfo : (Try.prog.info? 3).map (fun i => (i.zero, i.size, i.bytes)) = some (some (.int .i64 0), 1, 8) := by kernel_rfl

set_option maxRecDepth 100000 in
set_option maxHeartbeats 2000000 in
theorem depths_any (st : Int) (pv sv : Value) (pts : List Pt) (s : List Int) (w : World) (hP : PtsAt w pv pts) (hS : IntsAt w sv s) (hl : s.length = pts.length) (hn : pts.length ≤ 10) (hok : ∀ p, p ∈ pts → PtOk p) (hs9 : ∀ x, x ∈ s → 0 ≤ x ∧ x ≤ 9000) :
    Calls Try.prog 65 #[.agg #[.int .i64 st, pv], sv] w fun e w' => ∃ v, e = .returned v ∧ w'.ownsRow w.heap.size 3 1 v s.length ((deepN pts s s.length).map (Value.int .i64)) ∧ Below w.heap.size w w' := by
  obtain ⟨i0, hi⟩ := info_of_underlying Try.underlying3
  have HI : Hid (i0.zero = some (.int .i64 0) ∧ i0.size = 1 ∧ i0.bytes = 8) := by
    have h := intInfo
    rw [hi] at h
    simp at h
    exact h
  obtain ⟨lp, pa, pc, rfl, _, _⟩ := id hP
  obtain ⟨ls, sa, sc, rfl, _, _⟩ := id hS
  have hB : Below w.heap.size w (w.alloc (Obj.cells #[.int .i64 st, .slice pa pts.length pc] 76)) := by go_grown
  have HB := Lib.hid hB
  have HP := Lib.hid (hP.below hB)
  have HS := Lib.hid (hS.below hB)
  have HA := Lib.hid (heap_alloc_new w (Obj.cells #[.int .i64 st, .slice pa pts.length pc] 76))
  have HLE := Lib.hid hl
  have HOK := Lib.hid hok
  have HS9 := Lib.hid hs9
  have s10 : s.length ≤ 10 := by omega
  clear hP hS hB hl hok hs9
  go_enter Try.func65, Try.ntmps65
  go_wp2_with (at_make; generalize hW : w.alloc (Obj.cells #[.int .i64 st, .slice pa pts.length pc] 76) = W at *; clear hW; refine wpList_make_full _ rfl _ _ 36 rfl W.heap.size 3 i0 (.int .i64 0) 1 Try.underlying36 hi HI.out.1 HI.out.2.1 .i64 .i64 _ _ s.length rfl rfl rfl rfl ?c1 ?c2 (Nat.le_refl _) ?_)
  case c1 => rw [HI.out.2.2]; omega
  case c2 => unfold maxLen; omega
  intro w3 hown0 hgr
  have HB0 : Hid (Below W.heap.size W w3) := (Below.refl W.heap.size W).grown hgr (Nat.le_refl _) (by simp)

  generalize (madeCells #[Value.int IntKind.i64 0] s.length).toList = cur0 at hown0
  have hAW := lt_of_block HA.out
  clear hgr HI
  go_wp2
  go_loopg [13] s.length (fun g i wr => ∃ (k : Nat) (cur : List Value), g + k = s.length ∧ i = .int .i64 k ∧ wr.ownsRow W.heap.size 3 1 (.slice (some ⟨W.heap.size, 0, none⟩) s.length s.length) s.length cur ∧ Hid (DeepTo pts s cur k) ∧ Hid (Below W.heap.size W wr))
  case atStart => exact ⟨0, cur0, rfl, rfl, hown0, fun a h => by omega, HB0⟩
  case round =>
    obtain ⟨k, cur, hk, rfl, hown, HF, HR⟩ := hrel
    by_cases hlt : k < s.length
    · have hkp : k < pts.length := by have := HLE.out; omega
      have kI : (k : Int) < (s.length : Int) := by omega
      have k10 : k ≤ 10 := by omega
      obtain ⟨bs, os, rfl, c0⟩ := (HS.out.below HR.out).get hlt
      have l0 := cellOf ((HR.out.block _ hAW).trans HA.out) 0 _ rfl
      have l1 := cellOf ((HR.out.block _ hAW).trans HA.out) 1 _ rfl
      have hx := HS9.out s[k] (List.getElem_mem _)
      have HC := Lib.hid (carved_any st (.slice pa pts.length pc) pts k s[k] wr (HP.out.below HR.out) hkp hx.1 hx.2 HOK.out)
      have HX : Hid (max 0 (pts[k].bd - s[k]) = max 0 ((pts.getD k default).bd - s.getD k 0)) := by
        show _ = _
        simp [List.getD_eq_getElem?_getD, hlt, hkp]
      generalize s[k] = x at *
      generalize pts[k].bd = d at *
      clear hx
      go_wp2_with fail
      refine HC.out.mono ?_
      rintro e w2 ⟨rfl, hb2⟩
      have hown2 := own_below hown hb2
      have HB2 : Hid (Below W.heap.size W w2) := HR.out.trans (hb2.mono HR.out.size)
      have hs2 := HB2.out.size
      have hg2 : W.heap.size < w2.heap.size := (hown2.lt W.heap.size rfl).2
      have hl := hown2.1
      have d0 := (hown2.cellAt (k * 1) (by omega)).trans (List.getElem?_eq_getElem (by omega))
      have f0 := hown2.frozenAt (k * 1)
      generalize hm : max 0 (d - x) = m at *
      have s1 := hown2.stored (k * 1) (.int .i64 m)
      have HO := Lib.hid s1.1
      have HB3 : Hid (Below W.heap.size W (w2.setCell ⟨W.heap.size, k * 1, none⟩ (.int .i64 m))) := HB2.out.setCell (Nat.le_refl _) _
      have HM' : Hid (DeepTo pts s (cur.set k (.int .i64 m)) (k + 1)) := HF.out.more (by rw [hl]; omega) HX.out
      simp only [Nat.mul_one] at d0 f0 HO HB3
      clear s1 hown c0 l0 l1 HC hb2 HX hm
      go_wp2
      go_roundg (gk - 1)
      case measure => omega
      case rel => exact ⟨k + 1, _, by omega, by go_num, HO.out, HM', HB3⟩
    · obtain rfl : k = s.length := by omega
      clear hlt hk
      go_wp2
      go_ret
      have hl := hown.1
      refine ⟨_, rfl, ?_, HB.out.trans (HR.out.mono HB.out.size)⟩
      have e : cur.length = s.length := by omega
      have e2 : cur = (deepN pts s s.length).map (Value.int .i64) := by
        rw [← e]
        exact DeepTo.all (by rw [e]; exact HF.out)
      rw [← e2]
      exact own_base hown HB.out.size
end Go.Proofs.Ytnciomoapajonaa
