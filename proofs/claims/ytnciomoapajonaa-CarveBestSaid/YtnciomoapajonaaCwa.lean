/- Package carve: which way is before which. -/
import Derived.Test.YtnciomoapajonaaCvs
import Derived.BigQuiet
import Derived.Deep.LoopGhost
set_option linter.unusedSimpArgs false
set_option linter.unusedVariables false
namespace Go.Proofs.Ytnciomoapajonaa
open Go Go.RowKit Cv

/-- Whether something is less, by what is asked first, then by the other. -/
def lessR (x y x' y' : Int) : Bool := if x = x' then decide (y < y') else decide (x < x')

set_option maxRecDepth 100000 in
set_option maxHeartbeats 2000000 in
theorem before_01 (h p m h' p' m' : Int) (w : World) : Calls Try.prog 70 #[.agg #[.int .i64 0, .int .i64 1], .agg #[.int .i64 h, .int .i64 p, .int .i64 m], .agg #[.int .i64 h', .int .i64 p', .int .i64 m']] w fun e w' => e = .returned (.bool (lessR p m p' m')) ∧ Below w.heap.size w w' := by
  have HA1 := Lib.hid (heap_alloc_new (w.alloc (Obj.cells #[.int .i64 0, .int .i64 1] 103)) (Obj.cells #[.int .i64 h, .int .i64 p, .int .i64 m] 119))
  have HA2 := Lib.hid (heap_alloc_new ((w.alloc (Obj.cells #[.int .i64 0, .int .i64 1] 103)).alloc (Obj.cells #[.int .i64 h, .int .i64 p, .int .i64 m] 119)) (Obj.cells #[.int .i64 h', .int .i64 p', .int .i64 m'] 119))
  go_enter Try.func70, Try.ntmps70
  go_wp2_with fail
  have HB : Hid (Below w.heap.size w (((w.alloc (Obj.cells #[.int .i64 0, .int .i64 1] 103)).alloc (Obj.cells #[.int .i64 h, .int .i64 p, .int .i64 m] 119)).alloc (Obj.cells #[.int .i64 h', .int .i64 p', .int .i64 m'] 119))) := by show Below _ _ _; go_grown
  have HC1 : Hid ((((w.alloc (Obj.cells #[.int .i64 0, .int .i64 1] 103)).alloc (Obj.cells #[.int .i64 h, .int .i64 p, .int .i64 m] 119)).alloc (Obj.cells #[.int .i64 h', .int .i64 p', .int .i64 m'] 119)).heap[w.heap.size + 1]? = some (Obj.cells #[.int .i64 h, .int .i64 p, .int .i64 m] 119 (0, 0))) := by
    have hh := HA1.out
    rw [show (w.alloc (Obj.cells #[.int .i64 0, .int .i64 1] 103)).heap.size = w.heap.size + 1 by simp] at hh
    exact (Below.heap_alloc _ _ _ (lt_of_block hh)).trans hh
  have HC2 : Hid ((((w.alloc (Obj.cells #[.int .i64 0, .int .i64 1] 103)).alloc (Obj.cells #[.int .i64 h, .int .i64 p, .int .i64 m] 119)).alloc (Obj.cells #[.int .i64 h', .int .i64 p', .int .i64 m'] 119)).heap[w.heap.size + 1 + 1]? = some (Obj.cells #[.int .i64 h', .int .i64 p', .int .i64 m'] 119 (0, 0))) := by
    have hh := HA2.out
    rw [show ((w.alloc (Obj.cells #[.int .i64 0, .int .i64 1] 103)).alloc (Obj.cells #[.int .i64 h, .int .i64 p, .int .i64 m] 119)).heap.size = w.heap.size + 1 + 1 by simp] at hh
    exact hh
  clear HA1 HA2
  generalize (((w.alloc (Obj.cells #[.int .i64 0, .int .i64 1] 103)).alloc (Obj.cells #[.int .i64 h, .int .i64 p, .int .i64 m] 119)).alloc (Obj.cells #[.int .i64 h', .int .i64 p', .int .i64 m'] 119)) = W at *
  have i0 : ∀ w, (Instr.index 103 (.agg #[.int .i64 0, .int .i64 1]) (.int .i64 0)).run Try.prog w = .ok (.int .i64 0) w := fun _ => by rfl
  have i1 : ∀ w, (Instr.index 103 (.agg #[.int .i64 0, .int .i64 1]) (.int .i64 1)).run Try.prog w = .ok (.int .i64 1) w := fun _ => by rfl
  go_loopg [10] 2 (fun g i wr => (g = 2 ∧ i = .int .i64 0 ∨ g = 1 ∧ i = .int .i64 1 ∧ Hid (p = p') ∨ g = 0 ∧ i = .int .i64 2 ∧ Hid (p = p' ∧ m = m')) ∧ Hid (Below W.heap.size W wr))
  case atStart => exact ⟨.inl ⟨rfl, rfl⟩, Below.refl _ _⟩
  case round =>
    obtain ⟨h3, HR⟩ := hrel
    have HD1 := (HR.out.block _ (lt_of_block HC1.out)).trans HC1.out
    have HD2 := (HR.out.block _ (lt_of_block HC2.out)).trans HC2.out
    have c1 := cellOf HD1 1 _ rfl
    have c2 := cellOf HD1 2 _ rfl
    have e1 := cellOf HD2 1 _ rfl
    have e2 := cellOf HD2 2 _ rfl
    clear HD1 HD2
    rcases h3 with ⟨rfl, rfl⟩ | ⟨rfl, rfl, hx⟩ | ⟨rfl, rfl, hxy⟩
    · skip
      by_cases hq : p = p'
      · have tq : (p != p') = false := by simp [hq]
        have HQ := Lib.hid hq
        clear hq
        go_wp2_with fail
        go_quiet (fail)
        go_wp2_with fail
        have HR2 : Hid (Below W.heap.size W (wr.drewN nq)) := HR.out.trans ⟨rfl, rfl, rfl, Nat.le_refl _, fun _ _ => rfl⟩
        go_roundg 1
        case measure => omega
        case rel => exact ⟨.inr (.inl ⟨rfl, rfl, HQ⟩), HR2⟩
      · have HL : Hid (lessR p m p' m' = decide (p < p')) := by show _ = _; unfold lessR; rw [if_neg hq]
        have tq : (p != p') = true := by simp [hq]
        clear hq
        go_wp2_with fail
        go_quiet (fail)
        go_wp2_with fail
        go_quiet (fail)
        go_wp2_with fail
        go_returns
        exact ⟨by rw [HL.out]; rfl, by
          refine HB.out.trans (Below.mono (B := W.heap.size) ?_ HB.out.size)
          refine Below.trans HR.out (Below.mono (B := wr.heap.size) ?_ HR.out.size)
          exact ⟨rfl, rfl, rfl, Nat.le_refl _, fun _ _ => rfl⟩⟩

    · skip
      by_cases hq : m = m'
      · have tq : (m != m') = false := by simp [hq]
        have HQ := Lib.hid hq
        clear hq
        go_wp2_with fail
        go_quiet (fail)
        go_wp2_with fail
        have HR2 : Hid (Below W.heap.size W (wr.drewN nq)) := HR.out.trans ⟨rfl, rfl, rfl, Nat.le_refl _, fun _ _ => rfl⟩
        go_roundg 0
        case measure => omega
        case rel => exact ⟨.inr (.inr ⟨rfl, rfl, hx.out, HQ.out⟩), HR2⟩
      · have HL : Hid (lessR p m p' m' = decide (m < m')) := by show _ = _; unfold lessR; rw [if_pos hx.out]
        have tq : (m != m') = true := by simp [hq]
        clear hq
        go_wp2_with fail
        go_quiet (fail)
        go_wp2_with fail
        go_quiet (fail)
        go_wp2_with fail
        go_returns
        exact ⟨by rw [HL.out]; rfl, by
          refine HB.out.trans (Below.mono (B := W.heap.size) ?_ HB.out.size)
          refine Below.trans HR.out (Below.mono (B := wr.heap.size) ?_ HR.out.size)
          exact ⟨rfl, rfl, rfl, Nat.le_refl _, fun _ _ => rfl⟩⟩

    · have HL : Hid (lessR p m p' m' = false) := by show _ = _; unfold lessR; rw [if_pos hxy.out.1, hxy.out.2]; simp
      clear hxy
      go_wp2_with fail
      go_ret
      exact ⟨by rw [HL.out]; rfl, HB.out.trans (HR.out.mono HB.out.size)⟩

set_option maxRecDepth 100000 in
set_option maxHeartbeats 2000000 in
theorem before_10 (h p m h' p' m' : Int) (w : World) : Calls Try.prog 70 #[.agg #[.int .i64 1, .int .i64 0], .agg #[.int .i64 h, .int .i64 p, .int .i64 m], .agg #[.int .i64 h', .int .i64 p', .int .i64 m']] w fun e w' => e = .returned (.bool (lessR m p m' p')) ∧ Below w.heap.size w w' := by
  have HA1 := Lib.hid (heap_alloc_new (w.alloc (Obj.cells #[.int .i64 1, .int .i64 0] 103)) (Obj.cells #[.int .i64 h, .int .i64 p, .int .i64 m] 119))
  have HA2 := Lib.hid (heap_alloc_new ((w.alloc (Obj.cells #[.int .i64 1, .int .i64 0] 103)).alloc (Obj.cells #[.int .i64 h, .int .i64 p, .int .i64 m] 119)) (Obj.cells #[.int .i64 h', .int .i64 p', .int .i64 m'] 119))
  go_enter Try.func70, Try.ntmps70
  go_wp2_with fail
  have HB : Hid (Below w.heap.size w (((w.alloc (Obj.cells #[.int .i64 1, .int .i64 0] 103)).alloc (Obj.cells #[.int .i64 h, .int .i64 p, .int .i64 m] 119)).alloc (Obj.cells #[.int .i64 h', .int .i64 p', .int .i64 m'] 119))) := by show Below _ _ _; go_grown
  have HC1 : Hid ((((w.alloc (Obj.cells #[.int .i64 1, .int .i64 0] 103)).alloc (Obj.cells #[.int .i64 h, .int .i64 p, .int .i64 m] 119)).alloc (Obj.cells #[.int .i64 h', .int .i64 p', .int .i64 m'] 119)).heap[w.heap.size + 1]? = some (Obj.cells #[.int .i64 h, .int .i64 p, .int .i64 m] 119 (0, 0))) := by
    have hh := HA1.out
    rw [show (w.alloc (Obj.cells #[.int .i64 1, .int .i64 0] 103)).heap.size = w.heap.size + 1 by simp] at hh
    exact (Below.heap_alloc _ _ _ (lt_of_block hh)).trans hh
  have HC2 : Hid ((((w.alloc (Obj.cells #[.int .i64 1, .int .i64 0] 103)).alloc (Obj.cells #[.int .i64 h, .int .i64 p, .int .i64 m] 119)).alloc (Obj.cells #[.int .i64 h', .int .i64 p', .int .i64 m'] 119)).heap[w.heap.size + 1 + 1]? = some (Obj.cells #[.int .i64 h', .int .i64 p', .int .i64 m'] 119 (0, 0))) := by
    have hh := HA2.out
    rw [show ((w.alloc (Obj.cells #[.int .i64 1, .int .i64 0] 103)).alloc (Obj.cells #[.int .i64 h, .int .i64 p, .int .i64 m] 119)).heap.size = w.heap.size + 1 + 1 by simp] at hh
    exact hh
  clear HA1 HA2
  generalize (((w.alloc (Obj.cells #[.int .i64 1, .int .i64 0] 103)).alloc (Obj.cells #[.int .i64 h, .int .i64 p, .int .i64 m] 119)).alloc (Obj.cells #[.int .i64 h', .int .i64 p', .int .i64 m'] 119)) = W at *
  have i0 : ∀ w, (Instr.index 103 (.agg #[.int .i64 1, .int .i64 0]) (.int .i64 0)).run Try.prog w = .ok (.int .i64 1) w := fun _ => by rfl
  have i1 : ∀ w, (Instr.index 103 (.agg #[.int .i64 1, .int .i64 0]) (.int .i64 1)).run Try.prog w = .ok (.int .i64 0) w := fun _ => by rfl
  go_loopg [10] 2 (fun g i wr => (g = 2 ∧ i = .int .i64 0 ∨ g = 1 ∧ i = .int .i64 1 ∧ Hid (m = m') ∨ g = 0 ∧ i = .int .i64 2 ∧ Hid (m = m' ∧ p = p')) ∧ Hid (Below W.heap.size W wr))
  case atStart => exact ⟨.inl ⟨rfl, rfl⟩, Below.refl _ _⟩
  case round =>
    obtain ⟨h3, HR⟩ := hrel
    have HD1 := (HR.out.block _ (lt_of_block HC1.out)).trans HC1.out
    have HD2 := (HR.out.block _ (lt_of_block HC2.out)).trans HC2.out
    have c1 := cellOf HD1 1 _ rfl
    have c2 := cellOf HD1 2 _ rfl
    have e1 := cellOf HD2 1 _ rfl
    have e2 := cellOf HD2 2 _ rfl
    clear HD1 HD2
    rcases h3 with ⟨rfl, rfl⟩ | ⟨rfl, rfl, hx⟩ | ⟨rfl, rfl, hxy⟩
    · skip
      by_cases hq : m = m'
      · have tq : (m != m') = false := by simp [hq]
        have HQ := Lib.hid hq
        clear hq
        go_wp2_with fail
        go_quiet (fail)
        go_wp2_with fail
        have HR2 : Hid (Below W.heap.size W (wr.drewN nq)) := HR.out.trans ⟨rfl, rfl, rfl, Nat.le_refl _, fun _ _ => rfl⟩
        go_roundg 1
        case measure => omega
        case rel => exact ⟨.inr (.inl ⟨rfl, rfl, HQ⟩), HR2⟩
      · have HL : Hid (lessR m p m' p' = decide (m < m')) := by show _ = _; unfold lessR; rw [if_neg hq]
        have tq : (m != m') = true := by simp [hq]
        clear hq
        go_wp2_with fail
        go_quiet (fail)
        go_wp2_with fail
        go_quiet (fail)
        go_wp2_with fail
        go_returns
        exact ⟨by rw [HL.out]; rfl, by
          refine HB.out.trans (Below.mono (B := W.heap.size) ?_ HB.out.size)
          refine Below.trans HR.out (Below.mono (B := wr.heap.size) ?_ HR.out.size)
          exact ⟨rfl, rfl, rfl, Nat.le_refl _, fun _ _ => rfl⟩⟩

    · skip
      by_cases hq : p = p'
      · have tq : (p != p') = false := by simp [hq]
        have HQ := Lib.hid hq
        clear hq
        go_wp2_with fail
        go_quiet (fail)
        go_wp2_with fail
        have HR2 : Hid (Below W.heap.size W (wr.drewN nq)) := HR.out.trans ⟨rfl, rfl, rfl, Nat.le_refl _, fun _ _ => rfl⟩
        go_roundg 0
        case measure => omega
        case rel => exact ⟨.inr (.inr ⟨rfl, rfl, hx.out, HQ.out⟩), HR2⟩
      · have HL : Hid (lessR m p m' p' = decide (p < p')) := by show _ = _; unfold lessR; rw [if_pos hx.out]
        have tq : (p != p') = true := by simp [hq]
        clear hq
        go_wp2_with fail
        go_quiet (fail)
        go_wp2_with fail
        go_quiet (fail)
        go_wp2_with fail
        go_returns
        exact ⟨by rw [HL.out]; rfl, by
          refine HB.out.trans (Below.mono (B := W.heap.size) ?_ HB.out.size)
          refine Below.trans HR.out (Below.mono (B := wr.heap.size) ?_ HR.out.size)
          exact ⟨rfl, rfl, rfl, Nat.le_refl _, fun _ _ => rfl⟩⟩

    · have HL : Hid (lessR m p m' p' = false) := by show _ = _; unfold lessR; rw [if_pos hxy.out.1, hxy.out.2]; simp
      clear hxy
      go_wp2_with fail
      go_ret
      exact ⟨by rw [HL.out]; rfl, HB.out.trans (HR.out.mono HB.out.size)⟩
end Go.Proofs.Ytnciomoapajonaa
