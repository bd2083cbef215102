/- The reader of package sheet: names and points. -/
import Derived.Test.YtpjfljpkpifhbaaGreatDoorRd
import Derived.Deep.RegionWith
import Derived.RegionTactic
import Derived.BigRegion
set_option linter.unusedSimpArgs false
set_option linter.unusedVariables false
namespace Go.Proofs.YtpjfljpkpifhbaaGreatDoor
open Go Go.RowKit Go.Maps Go.WideMaps Hs

theorem zeroInt (w : World) : (zeroValue 3).run Tryz.prog w = .ok (.int .i64 0) w := by kernel_rfl

/-- What a look-up of a name runs to. -/
theorem IdxAt.look {w : World} {b : Nat} {pts : List ByteArray} (h : IdxAt w b pts) (s : ByteArray) (hs : s.size ≤ 2000) :
    (Instr.lookup 88 (.map (some b)) (.string s) true).run Tryz.prog w = .ok (.tuple #[.int .i64 (((idxOf pts s.data.toList).getD 0 : Nat) : Int), .bool (idxOf pts s.data.toList).isSome]) w := by
  obtain ⟨D, h1, h2, h3⟩ := h
  have hkey : keyOf Tryz.prog 9 (.string s) = some (.string s.data.toList) := keyOf_string_mk Tryz.underlying9 (by unfold maxLen; omega)
  obtain ⟨v, ps, hrun, hv⟩ := h1.look_ok keyB Tryz.underlying88 (zeroInt w) (plainElem_int Tryz.underlying3 (by decide)) hkey
  obtain ⟨c, rfl, hc, hwc⟩ := plainElem_int_inv Tryz.underlying3 hv
  simp only [Prod.mk.injEq] at hc
  have e := (h3 s.data.toList).1
  rw [hc.1] at e
  rw [hrun, (h3 s.data.toList).2]
  simp at e
  rw [e]

set_option maxRecDepth 100000 in
set_option maxHeartbeats 2000000 in
theorem point_any (B0 B1 B2 Br Bm : Nat) (r : Rd) (s : ByteArray) (ws : List ByteArray) (i : Nat) (w : World) (h : RdSt B0 B1 B2 Br Bm r (s :: ws) w) (hs : s.size ≤ 2000) (hi : idxOf r.pts s.data.toList = some i) :
    Calls Tryz.prog 80 #[.pointer (some ⟨Br, 0, none⟩)] w fun e w' => e = .returned (.int .i64 i) ∧ RdSt B0 B1 B2 Br Bm r ws w' ∧ w.grownBy w' (some Br) := by
  have hw := word_any B0 B1 B2 Br Bm r s ws w.drew (h.below ((Below.refl _ _).drew))
  have hw0 := word_any B0 B1 B2 Br Bm r s ws w h
  obtain ⟨pa, pc, na, nc, wa, wc, h1, h2, h3, h4, _, _⟩ := h.row
  have c3 := cellOf h1 3 _ rfl
  have HW := Lib.hid hw
  have HI := Lib.hid hi
  clear h hw hw0 hi h1 h2 h3 h4
  go_enter Tryz.func80, Tryz.ntmps80
  go_wp2_with fail
  go_region_with (first
    | (go_at_call 63; refine HW.out.mono ?_; rintro e w1 ⟨rfl, hst, hg⟩
       have lk := hst.map.look s hs
       rw [HI.out] at lk
       obtain ⟨pa', pc', na', nc', wa', wc', g1, _⟩ := hst.row
       have c3' := cellOf g1 3 _ rfl
       have ST := Lib.hid hst
       have HG := Lib.hid hg
       clear hst hg g1))
  all_goals
    go_wp2
    go_ret
    exact ⟨rfl, ST.out, grown_trans (below_grown_row ((Below.refl _ _).drew) _) HG.out⟩

set_option maxHeartbeats 400000 in
theorem cloneS_any (s : ByteArray) (w : World) (hs : s.size ≤ 2000) : Calls Tryz.prog 79 #[.string s] w fun e w' => e = .returned (.string s) ∧ Below w.heap.size w w' := by
  have hc := Tryz.stringslite_Clone s w (by omega)
  have HC := Lib.hid hc
  clear hc
  go_enter Tryz.func79, Tryz.ntmps79
  go_wp2_with fail
  refine HC.out.mono ?_
  rintro e w1 ⟨rfl, hb⟩
  go_wp2
  go_ret
  exact ⟨rfl, hb⟩

theorem strInfo : (Tryz.prog.info? 9).map (fun i => (i.zero, i.size, i.bytes)) = some (some (.string ⟨#[]⟩), 1, 16) := by kernel_rfl

/-- One more name. -/
theorem IdxAt.put {w : World} {b : Nat} {pts : List ByteArray} (h : IdxAt w b pts) (s : ByteArray) (hs : s.size ≤ 2000) (hl : pts.length ≤ 2000) :
    ∃ w', (Instr.mapUpdate 88 (.map (some b)) (.string s) (.int .i64 pts.length)).run Tryz.prog w = .ok () w' ∧ IdxAt w' b (pts ++ [s]) ∧ w.grownBy w' (some b) := by
  obtain ⟨D, h1, h2, h3⟩ := h
  have hkey : keyOf Tryz.prog 9 (.string s) = some (.string s.data.toList) := keyOf_string_mk Tryz.underlying9 (by unfold maxLen; omega)
  obtain ⟨w', hrun, hown, hg⟩ := h1.update keyB Tryz.underlying88 (by unfold maxLen; omega) hkey (plainElem_int (q := .i64) (a := (pts.length : Int)) Tryz.underlying3 (by exact WalkArith.wf_i64 (by omega)))
  refine ⟨w', hrun, ⟨_, by simpa using hown, h2.put _ _, fun key => ?_⟩, hg⟩
  rw [idxOf_snoc]
  by_cases e : s.data.toList = key
  · subst e
    rw [if_pos rfl, atKey_put_same h2 (by simp [WideAt.IsKeyLit]), has_put_same h2 (by simp [WideAt.IsKeyLit])]
    simp
  · rw [if_neg e, atKey_put_other (by simpa using fun h => e h.symm), has_put_other (by simpa using fun h => e h.symm)]
    exact h3 key
end Go.Proofs.YtpjfljpkpifhbaaGreatDoor
