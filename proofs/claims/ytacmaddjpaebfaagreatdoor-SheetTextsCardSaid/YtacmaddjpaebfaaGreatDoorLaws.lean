/- The statements' small functions valid, Inside and Has, and SheetChecks: the call returns true. Condition: the tables of Go's library are laid. -/
import Derived.Test.YtacmaddjpaebfaaGreatDoorRef
import Derived.Test.YtacmaddjpaebfaaGreatDoorAwake
set_option linter.unusedSimpArgs false
set_option linter.unusedVariables false
namespace Go.Proofs.YtacmaddjpaebfaaGreatDoor
open Go Go.RowKit Hs

set_option maxHeartbeats 400000 in
theorem valid_any (s : Sheet) (pv nv : Value) (w : World) (hS : SheetAt w.heap.size w pv nv s) (hcap : CapOk pv) :
    Calls Tryz.prog 41 #[.agg #[.int .i64 s.iv, pv, nv]] w fun e w' => e = .returned (.bool (errS s == 0)) ∧ Below w.heap.size w w' := by
  have B0 : Below w.heap.size w (w.alloc (Obj.cells #[.int .i64 s.iv, pv, nv] 25)) := by go_grown
  have hc := rcheck_any s pv nv (w.alloc (Obj.cells #[.int .i64 s.iv, pv, nv] 25)) (hS.up B0) hcap
  have HC := Lib.hid hc
  have HB := Lib.hid B0
  clear hc B0 hS
  obtain ⟨iv, pts, notes⟩ := s
  simp only at HC HB ⊢
  go_enter Tryz.func41, Tryz.ntmps41
  go_wp2_with fail
  refine HC.out.mono ?_
  rintro e w1 ⟨rfl, hb⟩
  have HB1 := Lib.hid (HB.out.trans (hb.mono HB.out.size))
  obtain ⟨p, q, r, hpq⟩ : ∃ p q r, Hid (checkS ⟨iv, pts, notes⟩ = (p, q, r)) := ⟨_, _, _, rfl⟩
  rw [hpq.out]
  have HE : Hid (errS ⟨iv, pts, notes⟩ = r) := by show _ = _; unfold errS; rw [hpq.out]
  clear hb
  go_wp2
  go_ret
  exact ⟨by rw [HE.out]; rfl, HB1.out⟩

set_option maxHeartbeats 400000 in
theorem inside_any (n lo hi : Int) (w : World) :
    Calls Tryz.prog 44 #[.int .i64 n, .agg #[.int .i64 lo, .int .i64 hi]] w fun e w' => e = .returned (.bool (decide (lo ≤ n) && decide (n ≤ hi))) ∧ Below w.heap.size w w' := by
  go_enter Tryz.func44, Tryz.ntmps44
  go_wp2_with fail
  refine (in_any _ _ _ _).mono ?_
  rintro e w' ⟨rfl, rfl⟩
  go_wp2
  go_ret
  exact ⟨rfl, by go_grown⟩

set_option maxHeartbeats 400000 in
theorem has_any (x : Int) (v : Value) (l : List Int) (w : World) (hv : IntsAt w v l) :
    Calls Tryz.prog 45 #[v, .int .i64 x] w fun e w' => e = .returned (.bool (decide (x ∈ l))) ∧ w = w' := by
  obtain ⟨hm, a, cap, rfl, hc⟩ := hv
  have hm' : (l.length : Int) ≤ 4611686018427387904 := by omega
  have HC := Lib.hid hc
  clear hc
  go_enter Tryz.func45, Tryz.ntmps45
  go_wp2
  go_loop [5] (fun i => ∃ k : Nat, k ≤ l.length ∧ i = .int .i64 k ∧ Hid (x ∉ l.take k)) (fun i => l.length - (intOf i).toNat)
  case atStart => exact ⟨0, Nat.zero_le _, rfl, by show _ ∉ _; simp⟩
  case round =>
    obtain ⟨k, hk, rfl, HW⟩ := hrel
    by_cases hlt : k < l.length
    · obtain ⟨b, o, rfl, hd⟩ := HC.out (by intro e; simp [e] at hlt)
      have hck := hd k hlt
      have hg : l.getD k 0 = l[k] := by simp [hlt]
      rw [hg] at hck
      have HX : Hid (l[k] = x → x ∈ l) := fun e => e ▸ List.getElem_mem hlt
      have HN : Hid (l[k] ≠ x → x ∉ l.take (k + 1)) := fun e h => by
        rw [List.take_succ_eq_append_getElem hlt, List.mem_append] at h
        rcases h with h | h
        · exact HW.out h
        · simp at h; exact e h.symm
      have kI : (k : Int) < (l.length : Int) := by omega
      clear hd hg
      generalize l[k] = y at *
      by_cases hy : y = x
      · have e1 : (y == x) = true := by simp [hy]
        have HY := Lib.hid (HX.out hy)
        clear hy HX HN
        go_wp2
        go_ret
        exact ⟨by simp [HY.out], rfl⟩
      · have e1 : (y == x) = false := by simp [hy]
        have HY := Lib.hid (HN.out hy)
        clear hy HX HN
        go_wp2
        go_round
        case rel => exact ⟨k + 1, by omega, by go_num, HY.out⟩
        case measure => simp [intOf]; omega
    · have e : l.take k = l := List.take_of_length_le (by omega)
      have h := HW.out
      rw [e] at h
      have HY : Hid (x ∉ l) := h
      clear e h
      go_wp2
      go_ret
      exact ⟨by simp [HY.out], rfl⟩

set_option maxRecDepth 100000 in
set_option maxHeartbeats 2000000 in
theorem lchecks_any (s : Sheet) (pv nv : Value) (nm : ByteArray) (w : World) (hS : SheetAt w.heap.size w pv nv s) (hcap : CapOk pv) (hnm : nm.size ≤ 140737488351232) (hT : Tabs w) :
    Calls Tryz.prog 3 #[.agg #[.int .i64 s.iv, pv, nv], .string nm] w fun e w' => e = .returned (.bool true) ∧ Below w.heap.size w w' := by
  have B0 : Below w.heap.size w (w.alloc (Obj.cells #[.int .i64 s.iv, pv, nv] 25)) := by go_grown
  have hc := check_any s pv nv (w.alloc (Obj.cells #[.int .i64 s.iv, pv, nv] 25)) (hS.up B0)
  have HC := Lib.hid hc
  have HS := Lib.hid (hS.up B0)
  have HT := Lib.hid (hT.below B0)
  have HB := Lib.hid B0
  have HA := Lib.hid (heap_alloc_new w (Obj.cells #[.int .i64 s.iv, pv, nv] 25))
  clear hc B0 hS hT
  obtain ⟨iv, pts, notes⟩ := s
  simp only at HC HB HS HA HT ⊢
  obtain ⟨p, q, r, hpq⟩ : ∃ p q r, Hid (checkS ⟨iv, pts, notes⟩ = (p, q, r)) := ⟨_, _, _, rfl⟩
  rw [hpq.out] at HC
  go_enter Tryz.func3, Tryz.ntmps3
  go_wp2_with fail
  refine HC.out.mono ?_
  rintro e w1 ⟨rfl, hb⟩
  have hA := (hb.block _ (lt_of_block HA.out)).trans HA.out
  have a0 := cellOf hA 0 _ rfl
  have a1 := cellOf hA 1 _ rfl
  have a2 := cellOf hA 2 _ rfl
  have h2 := rcheck_any ⟨iv, pts, notes⟩ pv nv w1 (HS.out.up hb) hcap
  rw [hpq.out] at h2
  have HC2 := Lib.hid h2
  have HT1 := Lib.hid (HT.out.below hb)
  have HB1 := Lib.hid (HB.out.trans (hb.mono HB.out.size))
  clear hA h2 hb HC HA HS HT
  go_wp2_with fail
  refine HC2.out.mono ?_
  rintro e w2 ⟨rfl, hb⟩
  have HT2 := Lib.hid (HT1.out.below hb)
  have HB2 := Lib.hid (HB1.out.trans (hb.mono HB1.out.size))
  clear hb HC2 a0 a1 a2 HT1 HB1
  go_wp2_with fail
  refine (name_any nm w2 hnm).mono ?_
  rintro e w3 ⟨rfl, hb⟩
  have HT3 := Lib.hid (HT2.out.below hb)
  have HB3 := Lib.hid (HB2.out.trans (hb.mono HB2.out.size))
  clear hb
  go_wp2_with fail
  refine (refname_any nm w3 hnm).mono ?_
  rintro e w' ⟨rfl, rfl⟩
  go_wp2_with fail
  refine (awake_any w3 HT3.out).mono ?_
  rintro e w4 ⟨rfl, hb⟩
  have HB4 := Lib.hid (HB3.out.trans (hb.mono HB3.out.size))
  clear hb
  go_wp2
  go_ret
  exact ⟨rfl, HB4.out⟩
end Go.Proofs.YtacmaddjpaebfaaGreatDoor
