/- Package scale: is any of the roads flat; does any of the marks exclude a model. -/
import Derived.Test.YthflbbjilebhlaaUu
set_option linter.unusedSimpArgs false
set_option linter.unusedVariables false
namespace Go.Proofs.Ythflbbjilebhlaa
open Go Go.RowKit Go.Shelf Sc

theorem any_more {α : Type} (f : α → Bool) (l : List α) (k : Nat) (h : k < l.length) (h1 : (l.take k).any f = false) (h2 : f l[k] = false) : (l.take (k + 1)).any f = false := by
  rw [List.take_succ_eq_append_getElem h, List.any_append, h1]
  simp [h2]
theorem any_at {α : Type} (f : α → Bool) (l : List α) (k : Nat) (h : k < l.length) (h2 : f l[k] = true) : l.any f = true := by
  rw [List.any_eq_true]
  exact ⟨_, List.getElem_mem h, h2⟩
set_option maxRecDepth 100000 in
set_option maxHeartbeats 2000000 in
theorem rindex_any (c : Cse) (hv rv v : Value) (s : Scl) (l : List (Int × Int)) (w : World) (hl : PairsAt w v l) (h8 : l.length ≤ 8) (hC : CseAt w c hv rv) (hV : Valid c) (hs : 1 ≤ s.1 ∧ s.1 ≤ 30 ∧ 1 ≤ s.2) (hr : ∀ r, r ∈ l → RoadIn c r) :
    Calls Try.prog 102 #[v, .func (.func 61) #[.agg (mdC (mdP c hv rv s) (cut8 c s))] #[]] w fun e w' => (∃ k : Int, e = .returned (.int .i64 k) ∧ Hid (decide (0 ≤ k) = l.any (flatR c s))) ∧ Below w.heap.size w w' := by
  obtain ⟨ls, a, cap, rfl, lsc, _⟩ := id hl
  obtain ⟨f, hf⟩ : ∃ f : (Int × Int) → Bool, (flatR c s) = f := ⟨_, rfl⟩
  have H1 : Hid (∀ r, r ∈ l → ∀ W1, Below w.heap.size w W1 → Calls Try.prog 61 #[.agg (mdC (mdP c hv rv s) (cut8 c s)), .agg #[.int .i64 r.1, .int .i64 r.2]] W1 fun e w' => e = .returned (.bool (f r)) ∧ Below W1.heap.size W1 w') := fun r hin W1 hb1 => by
    have h := flat_any c hv rv s r W1 (hC.below hb1) hV hs (hr r hin)
    rw [← hf]
    exact h
  generalize mdC (mdP c hv rv s) (cut8 c s) = M at *
  obtain ⟨n, hn⟩ : ∃ n, l.length = n := ⟨_, rfl⟩
  rw [hf]
  rw [hn] at hl ls lsc h8 ⊢
  have HL := Lib.hid hl
  have HN := Lib.hid hn
  have nI : (n : Int) ≤ 8 := by omega
  clear hl hn hC hV hs hr hf
  go_enter Try.func102, Try.ntmps102
  go_wp2
  go_loopg [8] n (fun gh i wr => ∃ (k : Nat), gh + k = n ∧ i = .int .i64 (k : Int) ∧ Hid ((l.take k).any f = false) ∧ Hid (Below w.heap.size w wr))
  case atStart => exact ⟨0, by omega, rfl, rfl, Below.refl _ _⟩
  case round =>
    obtain ⟨k, hkn, rfl, HA, HB⟩ := hrel
    by_cases hlt : k < n
    · have kI : (k : Int) < (n : Int) := by omega
      have kz : (0 : Int) ≤ (k : Int) := by omega
      have hk' : k < l.length := by rw [HN.out]; exact hlt
      obtain ⟨b, o, rfl, d0, d1⟩ := (HL.out.below HB.out).get hk'
      have hcall := H1.out _ (List.getElem_mem hk') wr HB.out
      have HMO := Lib.hid (any_more f l k hk' HA.out)
      have HAT := Lib.hid (any_at f l k hk')
      obtain ⟨x, hx⟩ : ∃ x, l[k] = x := ⟨_, rfl⟩
      rw [hx] at d0 d1 hcall HMO HAT
      obtain ⟨x1, x2⟩ := x
      simp only at d0 d1 hcall
      clear hx
      obtain ⟨X, hX⟩ : ∃ X, f (x1, x2) = X := ⟨_, rfl⟩
      rw [hX] at hcall HMO HAT
      have HCL := Lib.hid hcall
      have dl := World.block_lt_of_cell? wr ⟨b, o + k * 2, none⟩ d0
      clear hcall hX hk'
      go_wp2_with fail
      refine HCL.out.mono ?_
      rintro e w2 ⟨rfl, hb⟩
      have HB2 := Lib.hid (HB.out.trans (hb.mono HB.out.size))
      clear hb HCL d0 d1 dl
      cases X
      · have HQ := Lib.hid (HMO.out rfl)
        go_wp2_with fail
        go_roundg (gk - 1)
        case measure => omega
        case rel => exact ⟨k + 1, by omega, by go_num, HQ, HB2⟩
      · have HQ := Lib.hid (HAT.out rfl)
        go_wp2_with fail
        go_ret
        exact ⟨⟨k, rfl, by rw [HQ.out]; show decide _ = true; simp⟩, HB2.out⟩
    · have e : l.take k = l := List.take_of_length_le (by have := HN.out; omega)
      rw [e] at HA
      have kI : ¬ (k : Int) < (n : Int) := by omega
      clear hlt e hkn
      go_wp2_with fail
      go_ret
      exact ⟨⟨-1, rfl, by rw [HA.out]; show decide _ = false; simp⟩, HB.out⟩
set_option maxRecDepth 100000 in
set_option maxHeartbeats 2000000 in
theorem rany_any (c : Cse) (hv rv v : Value) (s : Scl) (l : List (Int × Int)) (w : World) (hl : PairsAt w v l) (h8 : l.length ≤ 8) (hC : CseAt w c hv rv) (hV : Valid c) (hs : 1 ≤ s.1 ∧ s.1 ≤ 30 ∧ 1 ≤ s.2) (hr : ∀ r, r ∈ l → RoadIn c r) :
    Calls Try.prog 74 #[v, .func (.func 61) #[.agg (mdC (mdP c hv rv s) (cut8 c s))] #[]] w fun e w' => e = .returned (.bool (l.any (flatR c s))) ∧ Below w.heap.size w w' := by
  have HI := Lib.hid (rindex_any c hv rv v s l w hl h8 hC hV hs hr)
  generalize mdC (mdP c hv rv s) (cut8 c s) = M at *
  generalize l.any (flatR c s) = R at *
  clear hl hC hV hs hr h8
  go_enter Try.func74, Try.ntmps74
  go_wp2_with fail
  refine HI.out.mono ?_
  rintro e w2 ⟨⟨k, rfl, HK⟩, hb⟩
  have HB := Lib.hid hb
  clear hb
  go_wp2_with fail
  go_ret
  exact ⟨by rw [← HK.out]; rfl, HB.out⟩
set_option maxRecDepth 100000 in
set_option maxHeartbeats 2000000 in
theorem mindex_any (c : Cse) (hv rv v : Value) (s : Scl) (l : List Mrk) (w : World) (hl : MrksAt w v l) (h8 : l.length ≤ 8) (hC : CseAt w c hv rv) (hV : Valid c) (hs : 1 ≤ s.1 ∧ s.1 ≤ 30 ∧ 1 ≤ s.2) (hr : ∀ r, r ∈ l → 0 ≤ r.pt ∧ r.pt < c.hs.length) :
    Calls Try.prog 104 #[v, .func (.func 77) #[.agg (mdC (mdP c hv rv s) (cut8 c s))] #[]] w fun e w' => (∃ k : Int, e = .returned (.int .i64 k) ∧ Hid (decide (0 ≤ k) = l.any (fun q => !markB c s q))) ∧ Below w.heap.size w w' := by
  obtain ⟨ls, a, cap, rfl, lsc, _⟩ := id hl
  obtain ⟨f, hf⟩ : ∃ f : Mrk → Bool, (fun q => !markB c s q) = f := ⟨_, rfl⟩
  have H1 : Hid (∀ r, r ∈ l → ∀ W1, Below w.heap.size w W1 → Calls Try.prog 77 #[.agg (mdC (mdP c hv rv s) (cut8 c s)), .agg #[.int .i64 r.pt, .int .i64 r.lo, .int .i64 r.hi]] W1 fun e w' => e = .returned (.bool (f r)) ∧ Below W1.heap.size W1 w') := fun r hin W1 hb1 => by
    have h := excludedBy_any c hv rv s r W1 hV (hr r hin).1 (hr r hin).2
    rw [← hf]
    exact h
  generalize mdC (mdP c hv rv s) (cut8 c s) = M at *
  obtain ⟨n, hn⟩ : ∃ n, l.length = n := ⟨_, rfl⟩
  rw [hf]
  rw [hn] at hl ls lsc h8 ⊢
  have HL := Lib.hid hl
  have HN := Lib.hid hn
  have nI : (n : Int) ≤ 8 := by omega
  clear hl hn hC hV hs hr hf
  go_enter Try.func104, Try.ntmps104
  go_wp2
  go_loopg [8] n (fun gh i wr => ∃ (k : Nat), gh + k = n ∧ i = .int .i64 (k : Int) ∧ Hid ((l.take k).any f = false) ∧ Hid (Below w.heap.size w wr))
  case atStart => exact ⟨0, by omega, rfl, rfl, Below.refl _ _⟩
  case round =>
    obtain ⟨k, hkn, rfl, HA, HB⟩ := hrel
    by_cases hlt : k < n
    · have kI : (k : Int) < (n : Int) := by omega
      have kz : (0 : Int) ≤ (k : Int) := by omega
      have hk' : k < l.length := by rw [HN.out]; exact hlt
      obtain ⟨b, o, rfl, d0, d1, d2⟩ := (HL.out.below HB.out).get hk'
      have hcall := H1.out _ (List.getElem_mem hk') wr HB.out
      have HMO := Lib.hid (any_more f l k hk' HA.out)
      have HAT := Lib.hid (any_at f l k hk')
      obtain ⟨x, hx⟩ : ∃ x, l[k] = x := ⟨_, rfl⟩
      rw [hx] at d0 d1 d2 hcall HMO HAT
      obtain ⟨x1, x2, x3⟩ := x
      simp only at d0 d1 d2 hcall
      clear hx
      obtain ⟨X, hX⟩ : ∃ X, f ⟨x1, x2, x3⟩ = X := ⟨_, rfl⟩
      rw [hX] at hcall HMO HAT
      have HCL := Lib.hid hcall
      have dl := World.block_lt_of_cell? wr ⟨b, o + k * 3, none⟩ d0
      clear hcall hX hk'
      go_wp2_with fail
      refine HCL.out.mono ?_
      rintro e w2 ⟨rfl, hb⟩
      have HB2 := Lib.hid (HB.out.trans (hb.mono HB.out.size))
      clear hb HCL d0 d1 d2 dl
      cases X
      · have HQ := Lib.hid (HMO.out rfl)
        go_wp2_with fail
        go_roundg (gk - 1)
        case measure => omega
        case rel => exact ⟨k + 1, by omega, by go_num, HQ, HB2⟩
      · have HQ := Lib.hid (HAT.out rfl)
        go_wp2_with fail
        go_ret
        exact ⟨⟨k, rfl, by rw [HQ.out]; show decide _ = true; simp⟩, HB2.out⟩
    · have e : l.take k = l := List.take_of_length_le (by have := HN.out; omega)
      rw [e] at HA
      have kI : ¬ (k : Int) < (n : Int) := by omega
      clear hlt e hkn
      go_wp2_with fail
      go_ret
      exact ⟨⟨-1, rfl, by rw [HA.out]; show decide _ = false; simp⟩, HB.out⟩
set_option maxRecDepth 100000 in
set_option maxHeartbeats 2000000 in
theorem many_any (c : Cse) (hv rv v : Value) (s : Scl) (l : List Mrk) (w : World) (hl : MrksAt w v l) (h8 : l.length ≤ 8) (hC : CseAt w c hv rv) (hV : Valid c) (hs : 1 ≤ s.1 ∧ s.1 ≤ 30 ∧ 1 ≤ s.2) (hr : ∀ r, r ∈ l → 0 ≤ r.pt ∧ r.pt < c.hs.length) :
    Calls Try.prog 76 #[v, .func (.func 77) #[.agg (mdC (mdP c hv rv s) (cut8 c s))] #[]] w fun e w' => e = .returned (.bool (l.any (fun q => !markB c s q))) ∧ Below w.heap.size w w' := by
  have HI := Lib.hid (mindex_any c hv rv v s l w hl h8 hC hV hs hr)
  generalize mdC (mdP c hv rv s) (cut8 c s) = M at *
  generalize l.any (fun q => !markB c s q) = R at *
  clear hl hC hV hs hr h8
  go_enter Try.func76, Try.ntmps76
  go_wp2_with fail
  refine HI.out.mono ?_
  rintro e w2 ⟨⟨k, rfl, HK⟩, hb⟩
  have HB := Lib.hid hb
  clear hb
  go_wp2_with fail
  go_ret
  exact ⟨by rw [← HK.out]; rfl, HB.out⟩
end Go.Proofs.Ythflbbjilebhlaa
