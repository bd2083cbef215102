/- Names: what Name of package sheet answers. -/
import Derived.Test.YtojdocomkhihoaaSBase
set_option linter.unusedSimpArgs false
set_option linter.unusedVariables false
namespace Go.Proofs.Ytojdocomkhihoaa.Sht
open Go Go.RowKit Hs

def chOk (j c : Nat) : Bool := (decide (97 ≤ c) && decide (c ≤ 122)) || (decide (j ≠ 0) && ((decide (48 ≤ c) && decide (c ≤ 57)) || c == 45))
/-- Is a string a name? -/
def nameB (l : List UInt8) : Bool := decide (1 ≤ l.length) && decide (l.length ≤ 16) && (List.range l.length).all fun j => chOk j (l.getD j 0).toNat
theorem nameB_len (l : List UInt8) (h : ¬ (1 ≤ l.length ∧ l.length ≤ 16)) : nameB l = false := by
  unfold nameB
  simp
  intro h1 h2
  exact absurd ⟨h1, h2⟩ h
theorem nameB_no (l : List UInt8) (k : Nat) (hk : k < l.length) (h : chOk k (l.getD k 0).toNat = false) : nameB l = false := by
  unfold nameB
  have : ((List.range l.length).all fun j => chOk j (l.getD j 0).toNat) = false := by
    rw [List.all_eq_false]
    exact ⟨k, by simpa using hk, by rw [h]; decide⟩
  rw [this, Bool.and_false]
theorem nameB_yes (l : List UInt8) (h1 : 1 ≤ l.length) (h2 : l.length ≤ 16) (h : ∀ j, j < l.length → chOk j (l.getD j 0).toNat = true) : nameB l = true := by
  unfold nameB
  simp only [Bool.and_eq_true, decide_eq_true_eq, List.all_eq_true, List.mem_range]
  exact ⟨⟨h1, h2⟩, h⟩

theorem ints1 (W : World) (n : Nat) (hn : n = W.heap.size) (x : Int) (t : TypeId) : IntsAt (W.alloc (.cells #[.int .i64 x] t)) (.slice (some ⟨n, 0, none⟩) 1 1) [x] :=
  ⟨by simp, _, _, rfl, fun _ => ⟨n, 0, rfl, fun k hk => by
    rw [World.cell?_alloc_at _ _ _ _ hn]
    match k, hk with
    | 0, _ => rfl⟩⟩
theorem within_1 (lo hi x : Int) (W : World) (n : Nat) (t : TypeId) (hn : n = W.heap.size) :
    Calls Try.prog 100 #[.int .i64 lo, .int .i64 hi, .slice (some ⟨n, 0, none⟩) 1 1] (W.alloc (.cells #[.int .i64 x] t)) fun e w' => e = .returned (.bool (decide (lo ≤ x) && decide (x ≤ hi))) ∧ W.alloc (.cells #[.int .i64 x] t) = w' := by
  have := within_any lo hi _ [x] _ (ints1 W n hn x t)
  simpa [withinB] using this

theorem rune_at (s : ByteArray) (k : Nat) (h : k < s.size) : ∃ r wd : Nat, Utf8.decode s k = (r, wd) ∧ (r < 128 → wd = 1 ∧ r = (s.data.toList.getD k 0).toNat) ∧ (128 ≤ r → 128 ≤ (s.data.toList.getD k 0).toNat) ∧ r < 2147483648 := by
  have e : s.data.toList.getD k 0 = s[k]'h := by
    simp [List.getD_eq_getElem?_getD, h]
    rfl
  by_cases ha : (s[k]'h).toNat < 128
  · exact ⟨_, _, decode_ascii s k h ha, fun _ => ⟨rfl, by rw [e]⟩, fun hr => by omega, by omega⟩
  · have hh := decode_high s k h (by omega)
    have hl := decode_le s k
    generalize Utf8.decode s k = p at hh hl ⊢
    obtain ⟨r, wd⟩ := p
    simp only at hh hl
    exact ⟨r, wd, rfl, fun hr => by omega, fun _ => by rw [e]; omega, by omega⟩

/-- The seven kinds of runes that the test parts. -/
theorem rune_cases (r : Int) (P : Prop) (h1 : r < 45 → P) (h2 : r = 45 → P) (h3 : 46 ≤ r → r ≤ 47 → P) (h4 : 48 ≤ r → r ≤ 57 → P) (h5 : 58 ≤ r → r ≤ 96 → P) (h6 : 97 ≤ r → r ≤ 122 → P) (h7 : 123 ≤ r → P) : P := by
  rcases Int.lt_or_le r 45 with h | h
  · exact h1 h
  rcases Int.lt_or_le r 46 with g | g
  · exact h2 (by omega)
  rcases Int.lt_or_le r 48 with h | h
  · exact h3 g (by omega)
  rcases Int.lt_or_le r 58 with g | g
  · exact h4 h (by omega)
  rcases Int.lt_or_le r 97 with h | h
  · exact h5 g (by omega)
  rcases Int.lt_or_le r 123 with g | g
  · exact h6 h (by omega)
  · exact h7 g

set_option maxRecDepth 100000 in
set_option maxHeartbeats 4000000 in
theorem name_any (s : ByteArray) (w : World) (hs : s.size ≤ 140737488351232) :
    Calls Try.prog 79 #[.string s] w fun e w' => e = .returned (.bool (nameB s.data.toList)) ∧ Below w.heap.size w w' := by
  have hlen : s.data.toList.length = s.size := by simp
  by_cases hsz : 1 ≤ s.size ∧ s.size ≤ 16
  · obtain ⟨z1, z2⟩ := hsz
    have z1' : (1 : Int) ≤ s.size := by omega
    have z2' : (s.size : Int) ≤ 16 := by omega
    have hd : (decide ((1 : Int) ≤ (s.size : Int)) && decide ((s.size : Int) ≤ 16)) = true := by simp; omega
    go_enter Try.func79, Try.ntmps79
    go_wp2_with fail
    refine (within_1 _ _ _ _ _ _ (by simp)).mono ?_
    rintro e w' ⟨rfl, rfl⟩
    rw [hd]
    have hB : Below w.heap.size w (w.alloc (Obj.cells #[.int .i64 s.size] 3)) := (Below.refl _ _).alloc (Nat.le_refl _) _
    generalize w.alloc (Obj.cells #[.int .i64 s.size] 3) = w1 at hB ⊢
    go_wp2
    go_loopw [] (fun wr => ∃ k : Nat, k ≤ s.size ∧ wr = w1.iter s k ∧ Hid (∀ j, j < k → chOk j (s.data.toList.getD j 0).toNat = true)) (fun wr => s.size - wr.iterPos w1.heap.size)
    case atStart => exact ⟨0, by omega, rfl, fun j hj => by omega⟩
    case round =>
      obtain ⟨k, hk, rfl, HA⟩ := hrel
      by_cases hp : k < s.size
      · obtain ⟨r, wd, hdec, hlo, hhi, hr⟩ := rune_at s k hp
        have HLO := Lib.hid hlo
        have HHI := Lib.hid hhi
        have hnx : ∀ ty, (Instr.next (.pointer (some ⟨w1.heap.size, 0, none⟩)) true ty).run Try.prog (w1.iter s k) = .ok (.tuple #[.bool true, .int .i64 k, .int .i32 r]) (w1.iter s (k + wd)) := fun ty => by
          have := run_next_any (P := Try.prog) w1 s k ty hp
          rwa [hdec] at this
        have hne : Hid (nameB s.data.toList = false ∨ chOk k (s.data.toList.getD k 0).toNat = true) := by
          cases hc : chOk k (s.data.toList.getD k 0).toNat
          · exact .inl (nameB_no _ k (by simpa using hp) hc)
          · exact .inr rfl
        clear hdec hlo hhi hd
        have hno : Hid (chOk k r = false → nameB s.data.toList = false) := fun hc => by
          refine nameB_no _ k (by simpa using hp) ?_
          rcases Nat.lt_or_ge r 128 with h | h
          · rw [← (HLO.out h).2]; exact hc
          · have := HHI.out h
            generalize (s.data.toList.getD k 0).toNat = d at this ⊢
            unfold chOk
            simp; omega
        have hyes : Hid (chOk k r = true → wd = 1 ∧ ∀ j, j < k + 1 → chOk j (s.data.toList.getD j 0).toNat = true) := fun hc => by
          have h : r < 128 := by
            unfold chOk at hc
            simp at hc
            omega
          obtain ⟨e1, e2⟩ := HLO.out h
          refine ⟨e1, fun j hj => ?_⟩
          rcases Nat.lt_or_ge j k with g | g
          · exact HA.out j g
          · obtain rfl : j = k := by omega
            rw [← e2]; exact hc
        clear HLO HHI hne
        refine rune_cases r _ ?_ ?_ ?_ ?_ ?_ ?_ ?_
        case refine_6 =>
          intro q1 q2
          go_wp2
          obtain ⟨rfl, hall⟩ := hyes.out (by unfold chOk; simp; omega)
          go_roundw
          case rel => exact ⟨k + 1, by omega, rfl, hall⟩
          case measure => simp; omega
        case refine_1 =>
          intro q1
          have t45 : ((r : Int) == 45) = false := by simp; omega
          by_cases hk0 : k = 0
          · have t0 : ((k : Int) == 0) = true := by simp [hk0]
            have hf := Lib.hid (hno.out (by unfold chOk; simp; omega))
            clear hk0
            go_wp2
            go_ret
            exact ⟨by rw [hf.out]; rfl, hB.alloc hB.size _⟩
          · have t0 : ((k : Int) == 0) = false := by simp [hk0]
            have hf := Lib.hid (hno.out (by unfold chOk; simp; omega))
            clear hk0
            go_wp2
            go_ret
            exact ⟨by rw [hf.out]; rfl, hB.alloc hB.size _⟩
        case refine_2 =>
          intro q1
          have t45 : ((r : Int) == 45) = true := by simp; omega
          have q2 : (r : Int) ≤ 45 := by omega
          have q3 : 45 ≤ (r : Int) := by omega
          clear q1
          by_cases hk0 : k = 0
          · have t0 : ((k : Int) == 0) = true := by simp [hk0]
            have hf := Lib.hid (hno.out (by unfold chOk; simp; omega))
            clear hk0
            go_wp2
            go_ret
            exact ⟨by rw [hf.out]; rfl, hB.alloc hB.size _⟩
          · have t0 : ((k : Int) == 0) = false := by simp [hk0]
            have hy := Lib.hid (hyes.out (by unfold chOk; simp; omega))
            clear hk0
            go_wp2
            obtain ⟨rfl, hall⟩ := hy.out
            go_roundw
            case rel => exact ⟨k + 1, by omega, rfl, hall⟩
            case measure => simp; omega
        case refine_3 =>
          intro q1 q2
          have t45 : ((r : Int) == 45) = false := by simp; omega
          by_cases hk0 : k = 0
          · have t0 : ((k : Int) == 0) = true := by simp [hk0]
            have hf := Lib.hid (hno.out (by unfold chOk; simp; omega))
            clear hk0
            go_wp2
            go_ret
            exact ⟨by rw [hf.out]; rfl, hB.alloc hB.size _⟩
          · have t0 : ((k : Int) == 0) = false := by simp [hk0]
            have hf := Lib.hid (hno.out (by unfold chOk; simp; omega))
            clear hk0
            go_wp2
            go_ret
            exact ⟨by rw [hf.out]; rfl, hB.alloc hB.size _⟩
        case refine_4 =>
          intro q1 q2
          have t45 : ((r : Int) == 45) = false := by simp; omega
          by_cases hk0 : k = 0
          · have t0 : ((k : Int) == 0) = true := by simp [hk0]
            have hf := Lib.hid (hno.out (by unfold chOk; simp; omega))
            clear hk0
            go_wp2
            go_ret
            exact ⟨by rw [hf.out]; rfl, hB.alloc hB.size _⟩
          · have t0 : ((k : Int) == 0) = false := by simp [hk0]
            have hy := Lib.hid (hyes.out (by unfold chOk; simp; omega))
            clear hk0
            go_wp2
            obtain ⟨rfl, hall⟩ := hy.out
            go_roundw
            case rel => exact ⟨k + 1, by omega, rfl, hall⟩
            case measure => simp; omega
        case refine_5 =>
          intro q1 q2
          have t45 : ((r : Int) == 45) = false := by simp; omega
          have t57 : decide ((r : Int) ≤ 57) = false := by simp; omega
          by_cases hk0 : k = 0
          · have t0 : ((k : Int) == 0) = true := by simp [hk0]
            have hf := Lib.hid (hno.out (by unfold chOk; simp; omega))
            clear hk0
            go_wp2
            go_ret
            exact ⟨by rw [hf.out]; rfl, hB.alloc hB.size _⟩
          · have t0 : ((k : Int) == 0) = false := by simp [hk0]
            have hf := Lib.hid (hno.out (by unfold chOk; simp; omega))
            clear hk0
            go_wp2
            go_ret
            exact ⟨by rw [hf.out]; rfl, hB.alloc hB.size _⟩
        case refine_7 =>
          intro q1
          have t45 : ((r : Int) == 45) = false := by simp; omega
          have t57 : decide ((r : Int) ≤ 57) = false := by simp; omega
          have t122 : decide ((r : Int) ≤ 122) = false := by simp; omega
          by_cases hk0 : k = 0
          · have t0 : ((k : Int) == 0) = true := by simp [hk0]
            have hf := Lib.hid (hno.out (by unfold chOk; simp; omega))
            clear hk0
            go_wp2
            go_ret
            exact ⟨by rw [hf.out]; rfl, hB.alloc hB.size _⟩
          · have t0 : ((k : Int) == 0) = false := by simp [hk0]
            have hf := Lib.hid (hno.out (by unfold chOk; simp; omega))
            clear hk0
            go_wp2
            go_ret
            exact ⟨by rw [hf.out]; rfl, hB.alloc hB.size _⟩
      · have hnx : ∀ ty, (Instr.next (.pointer (some ⟨w1.heap.size, 0, none⟩)) true ty).run Try.prog (w1.iter s k) = .ok (.tuple #[.bool false]) (w1.iter s k) := fun ty => run_next_end w1 s k ty hp
        have hfin := Lib.hid (nameB_yes s.data.toList (by omega) (by omega) (fun j hj => HA.out j (by omega)))
        go_wp2
        go_ret
        exact ⟨by rw [hfin.out]; rfl, hB.alloc hB.size _⟩
  · have hd : (decide ((1 : Int) ≤ (s.size : Int)) && decide ((s.size : Int) ≤ 16)) = false := by simp; omega
    have hfin := Lib.hid (nameB_len s.data.toList (by rw [hlen]; exact hsz))
    have hsx : (s.size : Int) ≤ 140737488351232 := by omega
    clear hsz
    go_enter Try.func79, Try.ntmps79
    go_wp2_with fail
    refine (within_1 _ _ _ _ _ _ (by simp)).mono ?_
    rintro e w' ⟨rfl, rfl⟩
    rw [hd]
    go_wp2
    go_ret
    exact ⟨by rw [hfin.out]; rfl, (Below.refl _ _).alloc (Nat.le_refl _) _⟩
end Go.Proofs.Ytojdocomkhihoaa.Sht
