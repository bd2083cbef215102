/- row of the reference of package sheet. -/
import Derived.Test.YtacmaddjpaebfaaGreatDoorLaws
import Derived.Test.YtacmaddjpaebfaaGreatDoorWrite
import Derived.Laws.IdiomStrings
import Derived.Test.YtacmaddjpaebfaaGreatDoorRead
import Derived.Test.YtacmaddjpaebfaaGreatDoorRndal
import Derived.Test.YtacmaddjpaebfaaGreatDoorRef
import Derived.Test.YtacmaddjpaebfaaGreatDoorWith
import Derived.Deep.CutRange
import Derived.StillTailTactics
set_option linter.unusedSimpArgs false
set_option linter.unusedVariables false
namespace Go.Proofs.YtacmaddjpaebfaaGreatDoor
open Go Go.RowKit Hs

theorem dec_len (k : Nat) : (Lib.decDigits k).length ≤ k + 1 := by
  induction k using Nat.strongRecOn with
  | ind k ih =>
    rw [Lib.decDigits]
    split
    · simp
    · have := ih (k / 10) (by omega)
      rw [List.length_append]
      simp
      omega
set_option maxRecDepth 100000 in
set_option maxHeartbeats 1000000 in
theorem digits_nat (k : Nat) : k ≤ 4611686018427387904 → ∀ w : World, Calls Tryz.prog 107 #[.int .i64 (k : Int)] w fun e w' => e = .returned (.string (bs (Lib.decDigits k))) ∧ Below w.heap.size w w' := by
  induction k using Nat.strongRecOn with
  | ind k ih =>
    intro hk w
    by_cases h : k < 10
    · obtain ⟨B, HB⟩ : ∃ B, Hid (UInt8.ofNat (48 + k) = B) := ⟨_, rfl⟩
      have HD : Hid (Lib.decDigits k = [B]) := Lib.hid (by rw [Lib.decDigits, dif_pos h, HB.out])
      have hB : (B.toNat : Int) = 48 + (k : Int) := by
        rw [← HB.out, UInt8.toNat_ofNat']
        omega
      have h0 : ¬ (k : Int) < 0 := by omega
      have h1 : (k : Int) < 10 := by omega
      have h2 : (0 : Int) ≤ (k : Int) := by omega
      have hc : (convert 163 9 (.slice (some ⟨w.heap.size, 0, none⟩) 1 1)).run Tryz.prog (w.alloc (Obj.cells #[.int .u8 (48 + (k : Int))] 5)) = .ok (.string (bs [B])) (w.alloc (Obj.cells #[.int .u8 (48 + (k : Int))] 5)) :=
        run_convert_bytes_back _ _ _ 5 ⟨w.heap.size, 0, none⟩ 1 [B] Tryz.underlying163 Tryz.underlying5 Tryz.underlying9 (fun j hj => by
          obtain rfl : j = 0 := by simpa using hj
          exact (cellOf (heap_alloc_new w _) 0 _ rfl).trans (congrArg some (by show _ = Value.int .u8 (B.toNat : Int); rw [hB]; rfl)))
      have hb : Hid (Below w.heap.size w (w.alloc (Obj.cells #[.int .u8 (48 + (k : Int))] 5))) := (Below.refl _ _).alloc (Nat.le_refl _) _
      clear ih hk h hB
      go_enter Tryz.func107, Tryz.ntmps107
      go_wp2
      go_ret
      exact ⟨by rw [HD.out]; rfl, hb.out⟩
    · have HD : Hid (Lib.decDigits k = Lib.decDigits (k / 10) ++ Lib.decDigits (k % 10)) := Lib.hid (by rw [Lib.decDigits, dif_neg h, Lib.decDigits_one (Nat.mod_lt _ (by omega))])
      have e1 : ((k / 10 : Nat) : Int) = (k : Int) / 10 := rfl
      have e2 : ((k % 10 : Nat) : Int) = (k : Int) % 10 := rfl
      have i1 := ih (k / 10) (by omega) (by omega)
      have i2 := ih (k % 10) (by omega) (by omega)
      rw [e1] at i1
      rw [e2] at i2
      have I1 := Lib.hid i1
      have I2 := Lib.hid i2
      have hz : (bs (Lib.decDigits (k / 10))).size + (bs (Lib.decDigits (k % 10))).size ≤ 9223372036854775807 := by
        have := dec_len (k / 10)
        have := dec_len (k % 10)
        rw [bs_size, bs_size]
        omega
      have h0 : ¬ (k : Int) < 0 := by omega
      have h1 : ¬ (k : Int) < 10 := by omega
      have h2 : (0 : Int) ≤ (k : Int) := by omega
      have h3 : (k : Int) ≤ 4611686018427387904 := by omega
      clear ih hk h i1 i2 e1 e2
      go_enter Tryz.func107, Tryz.ntmps107
      go_wp2_with fail
      refine (I1.out w).mono ?_
      rintro e w1 ⟨rfl, hb1⟩
      have HB1 := Lib.hid hb1
      clear hb1
      go_wp2_with fail
      refine (I2.out w1).mono ?_
      rintro e w2 ⟨rfl, hb2⟩
      have HB2 := Lib.hid (HB1.out.trans (hb2.mono HB1.out.size))
      clear hb2
      go_wp2
      go_ret
      exact ⟨by rw [HD.out, ← bs_append]; rfl, HB2.out⟩
set_option maxRecDepth 100000 in
set_option maxHeartbeats 1000000 in
theorem digits_any (n : Int) (hl : -4611686018427387904 ≤ n) (hh : n ≤ 4611686018427387904) (w : World) :
    Calls Tryz.prog 107 #[.int .i64 n] w fun e w' => e = .returned (.string (bs (Lib.itoa n))) ∧ Below w.heap.size w w' := by
  by_cases h0 : n < 0
  · have HI : Hid (Lib.itoa n = [45] ++ Lib.decDigits n.natAbs) := Lib.hid (by unfold Lib.itoa; rw [if_pos h0]; rfl)
    have e1 : ((n.natAbs : Nat) : Int) = - n := by omega
    have i1 := digits_nat n.natAbs (by omega)
    rw [e1] at i1
    have I1 := Lib.hid i1
    have hz : (1 : Nat) + (bs (Lib.decDigits n.natAbs)).size ≤ 9223372036854775807 := by
      have := dec_len n.natAbs
      rw [bs_size]
      omega
    clear i1 e1
    go_enter Tryz.func107, Tryz.ntmps107
    go_wp2_with fail
    refine (I1.out w).mono ?_
    rintro e w1 ⟨rfl, hb1⟩
    have HB1 := Lib.hid hb1
    clear hb1
    go_wp2
    go_ret
    exact ⟨by rw [HI.out, ← bs_append]; rfl, HB1.out⟩
  · have := digits_nat n.toNat (by omega) w
    rw [show ((n.toNat : Nat) : Int) = n by omega, show Lib.decDigits n.toNat = Lib.itoa n by unfold Lib.itoa; rw [if_neg (by omega)]] at this
    exact this
end Go.Proofs.YtacmaddjpaebfaaGreatDoor
namespace Go.Proofs.YtacmaddjpaebfaaGreatDoor
open Go Go.RowKit Hs

/-- The value of digits. -/
def vR (l : List UInt8) : Nat := l.foldl (fun n c => 10 * n + (c.toNat - 48)) 0
def isD (c : UInt8) : Bool := decide (48 ≤ c.toNat) && decide (c.toNat ≤ 57)
/-- What Decimal answers. -/
def decF (l : List UInt8) : Int := if (1 ≤ l.length ∧ l.length ≤ 9) ∧ (l.length = 1 ∨ (l.getD 0 0).toNat ≠ 48) ∧ (∀ j, j < l.length → isD (l.getD j 0) = true) then (vR l : Int) else -1
theorem vR_snoc (l : List UInt8) (c : UInt8) : vR (l ++ [c]) = 10 * vR l + (c.toNat - 48) := by unfold vR; rw [List.foldl_append]; rfl
theorem take_snoc {l : List UInt8} {k : Nat} (h : k < l.length) : l.take (k + 1) = l.take k ++ [l.getD k 0] := by
  rw [List.take_succ_eq_append_getElem h, List.getD_eq_getElem?_getD, List.getElem?_eq_getElem h]
  rfl
theorem decDigits_ne (k : Nat) : 1 ≤ (Lib.decDigits k).length := by
  rw [Lib.decDigits]
  split <;> simp
theorem dig_toNat {m : Nat} (h : m < 10) : (UInt8.ofNat (48 + m)).toNat = 48 + m := by rw [UInt8.toNat_ofNat']; omega
theorem vR_dec (k : Nat) : vR (Lib.decDigits k) = k := by
  induction k using Nat.strongRecOn with
  | ind k ih =>
    rw [Lib.decDigits]
    split
    · rename_i h
      show 10 * 0 + ((UInt8.ofNat (48 + k)).toNat - 48) = k
      rw [dig_toNat h]
      omega
    · rw [vR_snoc, ih (k / 10) (by omega), dig_toNat (by omega)]
      omega
theorem dec_isD (k : Nat) : ∀ c, c ∈ Lib.decDigits k → isD c = true := by
  induction k using Nat.strongRecOn with
  | ind k ih =>
    intro c hc
    rw [Lib.decDigits] at hc
    split at hc
    · rename_i h
      obtain rfl : c = _ := by simpa using hc
      unfold isD
      have := dig_toNat h
      simp [-UInt8.ofNat_add, this]
      omega
    · rcases List.mem_append.1 hc with h | h
      · exact ih (k / 10) (by omega) c h
      · obtain rfl := List.mem_singleton.1 h
        unfold isD
        have := dig_toNat (m := k % 10) (by omega)
        simp [-UInt8.ofNat_add, this]
        omega
theorem dec_head (k : Nat) : 10 ≤ k → ((Lib.decDigits k).getD 0 0).toNat ≠ 48 := by
  induction k using Nat.strongRecOn with
  | ind k ih =>
    intro hk
    rw [Lib.decDigits, dif_neg (by omega)]
    have h1 := decDigits_ne (k / 10)
    rw [List.getD_eq_getElem?_getD, List.getElem?_append_left (by omega), ← List.getD_eq_getElem?_getD]
    by_cases h : k / 10 < 10
    · rw [Lib.decDigits, dif_pos h]
      show (UInt8.ofNat (48 + k / 10)).toNat ≠ 48
      rw [dig_toNat h]
      omega
    · exact ih (k / 10) (by omega) (by omega)
theorem decF_dec (k : Nat) (h : (Lib.decDigits k).length ≤ 9) : decF (Lib.decDigits k) = k := by
  unfold decF
  rw [if_pos, vR_dec]
  refine ⟨⟨decDigits_ne k, h⟩, ?_, fun j hj => dec_isD k _ (by rw [List.getD_eq_getElem?_getD, List.getElem?_eq_getElem hj]; exact List.getElem_mem hj)⟩
  by_cases hk : k < 10
  · left
    rw [Lib.decDigits, dif_pos hk]
    rfl
  · exact .inr (dec_head k (by omega))
theorem decF_no {l : List UInt8} (h : ¬ (1 ≤ l.length ∧ l.length ≤ 9)) : decF l = -1 := by unfold decF; rw [if_neg (fun x => h x.1)]
theorem decF_zero {l : List UInt8} (h : 1 < l.length) (h0 : (l.getD 0 0).toNat = 48) : decF l = -1 := by unfold decF; rw [if_neg (fun x => Or.elim x.2.1 (fun e => by omega) (fun e => e h0))]
theorem decF_bad {l : List UInt8} (j : Nat) (hj : j < l.length) (h : isD (l.getD j 0) = false) : decF l = -1 := by
  unfold decF
  rw [if_neg (fun x => by have := x.2.2 j hj; rw [h] at this; cases this)]

set_option maxRecDepth 100000 in
set_option maxHeartbeats 4000000 in
theorem decimal_any (s : ByteArray) (w : World) (hs : s.size ≤ 140737488351232) :
    Calls Tryz.prog 114 #[.string s] w fun e w' => e = .returned (.int .i64 (decF s.data.toList)) ∧ w = w' := by
  have hlen : s.data.toList.length = s.size := by simp
  have hsx : (s.size : Int) ≤ 140737488351232 := by omega
  by_cases hsz : 1 ≤ s.size ∧ s.size ≤ 9
  · obtain ⟨z1, z2⟩ := hsz
    have hd : (decide ((1 : Int) ≤ (s.size : Int)) && decide ((s.size : Int) ≤ 9)) = true := by simp; omega
    have z0 : 0 < s.size := by omega
    have hget : ∀ k, (h : k < s.size) → s.data.toList.getD k 0 = s[k]'h := fun k h => by
      simp [List.getD_eq_getElem?_getD, h]
      rfl
    by_cases hc0 : 1 < s.size ∧ (s[0]'z0).toNat = 48
    · have HF : Hid (decF s.data.toList = -1) := decF_zero (by omega) (by rw [hget 0 z0]; exact hc0.2)
      have q1 : (1 : Int) < (s.size : Int) := by omega
      have q2 : (((s[0]'z0).toNat : Int) == 48) = true := by simp; omega
      clear hget hc0 hlen
      go_enter Tryz.func114, Tryz.ntmps114
      go_wp2_with fail
      refine (in_any _ _ _ _).mono ?_
      rintro e w' ⟨rfl, rfl⟩
      rw [hd]
      clear hd
      go_wp2
      go_ret
      exact ⟨by rw [HF.out]; rfl, rfl⟩
    · have HGET := Lib.hid hget
      have HL := Lib.hid hlen
      obtain ⟨l, HLL⟩ : ∃ l, Hid (s.data.toList = l) := ⟨_, rfl⟩
      rw [HLL.out] at HGET HL ⊢
      have hq : (¬ (1 : Int) < (s.size : Int)) ∨ ((1 : Int) < (s.size : Int) ∧ (((s[0]'z0).toNat : Int) == 48) = false) := by
        by_cases h : 1 < s.size
        · right
          exact ⟨by omega, by simp; omega⟩
        · left; omega
      have HH : Hid (l.length = 1 ∨ (l.getD 0 0).toNat ≠ 48) := by
        show _ ∨ _
        have e0 := HGET.out 0 z0
        have := HL.out
        rw [e0]
        omega
      clear hget hc0 hlen HLL
      go_enter Tryz.func114, Tryz.ntmps114
      go_wp2_with fail
      refine (in_any _ _ _ _).mono ?_
      rintro e w' ⟨rfl, rfl⟩
      rw [hd]
      clear hd
      rcases hq with q1 | ⟨q1, q2⟩
      · go_wp2
        go_loop [3, 4] (fun n i => ∃ k m : Nat, k ≤ s.size ∧ i = .int .i64 k ∧ n = .int .i64 m ∧ Hid (m = vR (l.take k)) ∧ m < 10 ^ k ∧ Hid (∀ j, j < k → isD (l.getD j 0) = true)) (fun n i => s.size - (intOf i).toNat)
        case atStart => exact ⟨0, 0, Nat.zero_le _, rfl, rfl, Lib.hid rfl, by decide, fun j hj => by omega⟩
        case round =>
          obtain ⟨k, m, hk, rfl, rfl, HM, hm, HW⟩ := hrel
          by_cases hlt : k < s.size
          · have HK : Hid (l.getD k 0 = s[k]'hlt) := HGET.out k hlt
            have HN : Hid (isD (s[k]'hlt) = false → decF l = -1) := fun h => decF_bad k (by rw [HL.out]; exact hlt) (by rw [HK.out]; exact h)
            have HY : Hid (isD (s[k]'hlt) = true → ∀ j, j < k + 1 → isD (l.getD j 0) = true) := fun hc j hj => by
              by_cases g : j < k
              · exact HW.out j g
              · obtain rfl : j = k := by omega
                rw [HK.out]; exact hc
            have HV : Hid (vR (l.take (k + 1)) = 10 * m + ((s[k]'hlt).toNat - 48)) := Lib.hid (by rw [take_snoc (by rw [HL.out]; exact hlt), vR_snoc, HK.out, HM.out])
            have hp : 10 ^ k ≤ 10 ^ 8 := Nat.pow_le_pow_right (by omega) (by omega)
            have hm9 : m ≤ 100000000 := by omega
            have HP : Hid (m < 10 ^ k) := hm
            have hc := (s[k]'hlt).toNat_lt
            obtain ⟨c, HC⟩ : ∃ c : Nat, Hid ((s[k]'hlt).toNat = c) := ⟨_, rfl⟩
            by_cases c1 : (s[k]'hlt).toNat < 48
            · have HF := Lib.hid (HN.out (by unfold isD; simp; omega))
              have q1 : ((s[k]'hlt).toNat : Int) < 48 := by omega
              clear HN HY HV HK HM HW hp hm HP HC hc c1
              go_wp2
              go_ret
              exact ⟨by rw [HF.out]; rfl, rfl⟩
            · by_cases c2 : 57 < (s[k]'hlt).toNat
              · have HF := Lib.hid (HN.out (by unfold isD; simp; omega))
                have q1 : (57 : Int) < ((s[k]'hlt).toNat : Int) := by omega
                clear HN HY HV HK HM HW hp hm HP HC hc c1 c2
                go_wp2
                go_ret
                exact ⟨by rw [HF.out]; rfl, rfl⟩
              · have HYS := Lib.hid (HY.out (by unfold isD; simp; omega))
                have q1 : (48 : Int) ≤ ((s[k]'hlt).toNat : Int) := by omega
                have q2 : ((s[k]'hlt).toNat : Int) ≤ 57 := by omega
                have q3 : (m : Int) ≤ 100000000 := by omega
                have q4 : (0 : Int) ≤ (m : Int) := by omega
                have HC1 : Hid ((s[k]'hlt).toNat ≤ 57 ∧ 48 ≤ (s[k]'hlt).toNat) := ⟨by omega, by omega⟩
                clear HN HY HK HM HW hp hm HC hc c1 c2 hm9
                go_wp2
                go_round
                case rel =>
                  obtain ⟨u1, u2⟩ := HC1.out
                  exact ⟨k + 1, 10 * m + ((s[k]'hlt).toNat - 48), by omega, by go_num, by congr 1; omega, HV.out.symm, by have := HP.out; rw [Nat.pow_succ]; omega, HYS.out⟩
                case measure => simp [intOf]; omega
          · have HF : Hid (decF l = m) := Lib.hid (by
              obtain rfl : k = s.size := by omega
              have e : l.take s.size = l := List.take_of_length_le (by rw [HL.out]; omega)
              unfold decF
              rw [if_pos ⟨by rw [HL.out]; exact ⟨z1, z2⟩, HH.out, by rw [HL.out]; exact HW.out⟩, HM.out, e])
            clear HM HW hm
            go_wp2
            go_ret
            exact ⟨by rw [HF.out]; rfl, rfl⟩
      · go_wp2
        go_loop [3, 4] (fun n i => ∃ k m : Nat, k ≤ s.size ∧ i = .int .i64 k ∧ n = .int .i64 m ∧ Hid (m = vR (l.take k)) ∧ m < 10 ^ k ∧ Hid (∀ j, j < k → isD (l.getD j 0) = true)) (fun n i => s.size - (intOf i).toNat)
        case atStart => exact ⟨0, 0, Nat.zero_le _, rfl, rfl, Lib.hid rfl, by decide, fun j hj => by omega⟩
        case round =>
          obtain ⟨k, m, hk, rfl, rfl, HM, hm, HW⟩ := hrel
          by_cases hlt : k < s.size
          · have HK : Hid (l.getD k 0 = s[k]'hlt) := HGET.out k hlt
            have HN : Hid (isD (s[k]'hlt) = false → decF l = -1) := fun h => decF_bad k (by rw [HL.out]; exact hlt) (by rw [HK.out]; exact h)
            have HY : Hid (isD (s[k]'hlt) = true → ∀ j, j < k + 1 → isD (l.getD j 0) = true) := fun hc j hj => by
              by_cases g : j < k
              · exact HW.out j g
              · obtain rfl : j = k := by omega
                rw [HK.out]; exact hc
            have HV : Hid (vR (l.take (k + 1)) = 10 * m + ((s[k]'hlt).toNat - 48)) := Lib.hid (by rw [take_snoc (by rw [HL.out]; exact hlt), vR_snoc, HK.out, HM.out])
            have hp : 10 ^ k ≤ 10 ^ 8 := Nat.pow_le_pow_right (by omega) (by omega)
            have hm9 : m ≤ 100000000 := by omega
            have HP : Hid (m < 10 ^ k) := hm
            have hc := (s[k]'hlt).toNat_lt
            obtain ⟨c, HC⟩ : ∃ c : Nat, Hid ((s[k]'hlt).toNat = c) := ⟨_, rfl⟩
            by_cases c1 : (s[k]'hlt).toNat < 48
            · have HF := Lib.hid (HN.out (by unfold isD; simp; omega))
              have q1 : ((s[k]'hlt).toNat : Int) < 48 := by omega
              clear HN HY HV HK HM HW hp hm HP HC hc c1
              go_wp2
              go_ret
              exact ⟨by rw [HF.out]; rfl, rfl⟩
            · by_cases c2 : 57 < (s[k]'hlt).toNat
              · have HF := Lib.hid (HN.out (by unfold isD; simp; omega))
                have q1 : (57 : Int) < ((s[k]'hlt).toNat : Int) := by omega
                clear HN HY HV HK HM HW hp hm HP HC hc c1 c2
                go_wp2
                go_ret
                exact ⟨by rw [HF.out]; rfl, rfl⟩
              · have HYS := Lib.hid (HY.out (by unfold isD; simp; omega))
                have q1 : (48 : Int) ≤ ((s[k]'hlt).toNat : Int) := by omega
                have q2 : ((s[k]'hlt).toNat : Int) ≤ 57 := by omega
                have q3 : (m : Int) ≤ 100000000 := by omega
                have q4 : (0 : Int) ≤ (m : Int) := by omega
                have HC1 : Hid ((s[k]'hlt).toNat ≤ 57 ∧ 48 ≤ (s[k]'hlt).toNat) := ⟨by omega, by omega⟩
                clear HN HY HK HM HW hp hm HC hc c1 c2 hm9
                go_wp2
                go_round
                case rel =>
                  obtain ⟨u1, u2⟩ := HC1.out
                  exact ⟨k + 1, 10 * m + ((s[k]'hlt).toNat - 48), by omega, by go_num, by congr 1; omega, HV.out.symm, by have := HP.out; rw [Nat.pow_succ]; omega, HYS.out⟩
                case measure => simp [intOf]; omega
          · have HF : Hid (decF l = m) := Lib.hid (by
              obtain rfl : k = s.size := by omega
              have e : l.take s.size = l := List.take_of_length_le (by rw [HL.out]; omega)
              unfold decF
              rw [if_pos ⟨by rw [HL.out]; exact ⟨z1, z2⟩, HH.out, by rw [HL.out]; exact HW.out⟩, HM.out, e])
            clear HM HW hm
            go_wp2
            go_ret
            exact ⟨by rw [HF.out]; rfl, rfl⟩
  · have HF : Hid (decF s.data.toList = -1) := decF_no (by omega)
    have hd : (decide ((1 : Int) ≤ (s.size : Int)) && decide ((s.size : Int) ≤ 9)) = false := by simp; omega
    clear hsz hlen
    go_enter Tryz.func114, Tryz.ntmps114
    go_wp2_with fail
    refine (in_any _ _ _ _).mono ?_
    rintro e w' ⟨rfl, rfl⟩
    rw [hd]
    clear hd
    go_wp2
    go_ret
    exact ⟨by rw [HF.out]; rfl, rfl⟩
end Go.Proofs.YtacmaddjpaebfaaGreatDoor
namespace Go.Proofs.YtacmaddjpaebfaaGreatDoor
open Go Go.RowKit Hs

theorem vR_lt (l : List UInt8) : ∀ n : Nat, (∀ c, c ∈ l → isD c = true) → l.foldl (fun n c => 10 * n + (c.toNat - 48)) n < (n + 1) * 10 ^ l.length := by
  induction l with
  | nil => intro n _; simp
  | cons c l ih =>
    intro n h
    have h1 := ih (10 * n + (c.toNat - 48)) (fun x hx => h x (by simp [hx]))
    have h2 := h c (by simp)
    have h3 : c.toNat ≤ 57 := by unfold isD at h2; simp at h2; omega
    rw [List.foldl_cons, List.length_cons]
    refine Nat.lt_of_lt_of_le h1 ?_
    rw [Nat.pow_succ, Nat.mul_comm (10 ^ l.length) 10, ← Nat.mul_assoc]
    exact Nat.mul_le_mul_right _ (by omega)
theorem decF_bd (l : List UInt8) : -1 ≤ decF l ∧ decF l ≤ 999999999 := by
  unfold decF
  split
  · rename_i h
    have h1 := vR_lt l 0 (fun c hc => by
      obtain ⟨j, hj, rfl⟩ := List.mem_iff_getElem.1 hc
      have := h.2.2 j hj
      rw [List.getD_eq_getElem?_getD, List.getElem?_eq_getElem hj] at this
      exact this)
    have h2 : 10 ^ l.length ≤ 10 ^ 9 := Nat.pow_le_pow_right (by omega) (by omega)
    have h3 : vR l < 10 ^ 9 := by
      have : (0 + 1) * 10 ^ l.length = 10 ^ l.length := by omega
      unfold vR
      omega
    omega
  · omega
/-- What Signed answers. -/
def sigF (l : List UInt8) : Int :=
  if 1 < l.length ∧ (l.getD 0 0).toNat = 45 ∧ 0 < decF (l.drop 1) then - decF (l.drop 1) else if 0 ≤ decF l then decF l else 2000000000
theorem sigF_bd (l : List UInt8) : -999999999 ≤ sigF l ∧ sigF l ≤ 2000000000 := by
  have := decF_bd l
  have := decF_bd (l.drop 1)
  unfold sigF
  split
  · omega
  · split <;> omega
theorem sigF_itoa {n : Int} (h : -999999999 ≤ n) (h1 : n ≤ 999999999) : sigF (Lib.itoa n) = n := by
  have dl : ∀ (e k : Nat), k < 10 ^ (e + 1) → (Lib.decDigits k).length ≤ e + 1 := by
    intro e
    induction e with
    | zero => intro k hk; rw [Lib.decDigits, dif_pos (by omega)]; simp
    | succ e ih =>
      intro k hk
      rw [Lib.decDigits]
      split
      · simp
      · have := ih (k / 10) (by rw [Nat.pow_succ] at hk; omega)
        rw [List.length_append]
        simp
        omega
  unfold Lib.itoa
  split
  · have hd := decF_dec n.natAbs (dl 8 _ (by omega))
    have hn := decDigits_ne n.natAbs
    unfold sigF
    rw [if_pos ⟨by simp; omega, by rfl, by show 0 < decF (Lib.decDigits n.natAbs); rw [hd]; omega⟩]
    show - decF (Lib.decDigits n.natAbs) = n
    rw [hd]
    omega
  · have hd := decF_dec n.toNat (dl 8 _ (by omega))
    unfold sigF
    rw [if_neg, hd, if_pos (by omega)]
    · omega
    · rintro ⟨h2, h3, _⟩
      have := dec_isD n.toNat _ (List.getElem_mem (Nat.lt_of_succ_lt h2))
      rw [List.getD_eq_getElem?_getD, List.getElem?_eq_getElem (Nat.lt_of_succ_lt h2)] at h3
      unfold isD at this
      simp at this h3
      omega

set_option maxRecDepth 100000 in
set_option maxHeartbeats 4000000 in
theorem signed_any (s : ByteArray) (w : World) (hs : s.size ≤ 140737488351232) :
    Calls Tryz.prog 91 #[.string s] w fun e w' => e = .returned (.int .i64 (sigF s.data.toList)) ∧ w = w' := by
  have hlen : s.data.toList.length = s.size := by simp
  have hsx : (s.size : Int) ≤ 140737488351232 := by omega
  obtain ⟨D0, HD0⟩ : ∃ D0 : Int, Hid (decF s.data.toList = D0) := ⟨_, rfl⟩
  obtain ⟨D1, HD1⟩ : ∃ D1 : Int, Hid (decF (s.data.toList.drop 1) = D1) := ⟨_, rfl⟩
  have hb1 := decF_bd (s.data.toList.drop 1)
  rw [HD1.out] at hb1
  obtain ⟨b1, b2⟩ := hb1
  have HC := Lib.hid (decimal_any s w hs)
  rw [HD0.out] at HC
  have hall : ∀ Z : Int, sigF s.data.toList = Z → Hid (sigF s.data.toList = Z) := fun _ h => h
  by_cases hc : 1 < s.size ∧ (s.data.toList.getD 0 0).toNat = 45
  · obtain ⟨q0, q1⟩ := hc
    have hg0 : s.data.toList.getD 0 0 = s[0]'(by omega) := by
      simp [List.getD_eq_getElem?_getD, show 0 < s.size by omega]
      rfl
    have q3 : (1 : Int) < (s.size : Int) := by omega
    have q2 : (((s[0]'(by omega)).toNat : Int) == 45) = true := by rw [hg0] at q1; simp; omega
    have HX : Hid (Calls Tryz.prog 114 #[.string (s.extract 1 s.size)] w fun e w' => e = .returned (.int .i64 D1) ∧ w = w') := by
      have h := decimal_any (s.extract 1 s.size) w (by rw [ByteArray.size_extract]; omega)
      have e : (s.extract 1 s.size).data.toList = s.data.toList.drop 1 := by
        rw [ByteArray.data_extract, Array.toList_extract]
        simp [List.take_of_length_le]
      rw [e, HD1.out] at h
      exact h
    by_cases hp : 0 < D1
    · have HF : Hid (sigF s.data.toList = -D1) := Lib.hid (by unfold sigF; rw [HD1.out, if_pos ⟨by omega, q1, hp⟩])
      clear q1 hg0 hall HC
      go_enter Tryz.func91, Tryz.ntmps91
      go_wp2_with fail
      refine HX.out.mono ?_
      rintro e w' ⟨rfl, rfl⟩
      go_wp2_with fail
      refine HX.out.mono ?_
      rintro e w' ⟨rfl, rfl⟩
      go_wp2
      go_ret
      exact ⟨by rw [HF.out]; rfl, rfl⟩
    · have HF : Hid (sigF s.data.toList = if 0 ≤ D0 then D0 else 2000000000) := Lib.hid (by unfold sigF; rw [HD1.out, if_neg (fun x => hp x.2.2), HD0.out])
      clear q1 hg0 hall
      go_enter Tryz.func91, Tryz.ntmps91
      go_wp2_with fail
      refine HX.out.mono ?_
      rintro e w' ⟨rfl, rfl⟩
      by_cases hz : 0 ≤ D0
      · have HF2 : Hid (sigF s.data.toList = D0) := Lib.hid (by rw [HF.out, if_pos hz])
        clear HF
        go_wp2_with fail
        refine HC.out.mono ?_
        rintro e w' ⟨rfl, rfl⟩
        go_wp2_with fail
        refine HC.out.mono ?_
        rintro e w' ⟨rfl, rfl⟩
        go_wp2
        go_ret
        exact ⟨by rw [HF2.out]; rfl, rfl⟩
      · have HF2 : Hid (sigF s.data.toList = 2000000000) := Lib.hid (by rw [HF.out, if_neg hz])
        clear HF
        go_wp2_with fail
        refine HC.out.mono ?_
        rintro e w' ⟨rfl, rfl⟩
        go_wp2
        go_ret
        exact ⟨by rw [HF2.out]; rfl, rfl⟩
  · have HF : Hid (sigF s.data.toList = if 0 ≤ D0 then D0 else 2000000000) := Lib.hid (by unfold sigF; rw [HD0.out, if_neg (fun x => hc ⟨by omega, x.2.1⟩)])
    clear hall HD1
    by_cases q0 : 1 < s.size
    · have hg0 : s.data.toList.getD 0 0 = s[0]'(by omega) := by
        simp [List.getD_eq_getElem?_getD, show 0 < s.size by omega]
        rfl
      have q3 : (1 : Int) < (s.size : Int) := by omega
      have q2 : (((s[0]'(by omega)).toNat : Int) == 45) = false := by
        have : ¬ (s.data.toList.getD 0 0).toNat = 45 := fun h => hc ⟨q0, h⟩
        rw [hg0] at this
        simp
        omega
      clear hg0 hc
      go_enter Tryz.func91, Tryz.ntmps91
      by_cases hz : 0 ≤ D0
      · have HF2 : Hid (sigF s.data.toList = D0) := Lib.hid (by rw [HF.out, if_pos hz])
        clear HF
        go_wp2_with fail
        refine HC.out.mono ?_
        rintro e w' ⟨rfl, rfl⟩
        go_wp2_with fail
        refine HC.out.mono ?_
        rintro e w' ⟨rfl, rfl⟩
        go_wp2
        go_ret
        exact ⟨by rw [HF2.out]; rfl, rfl⟩
      · have HF2 : Hid (sigF s.data.toList = 2000000000) := Lib.hid (by rw [HF.out, if_neg hz])
        clear HF
        go_wp2_with fail
        refine HC.out.mono ?_
        rintro e w' ⟨rfl, rfl⟩
        go_wp2
        go_ret
        exact ⟨by rw [HF2.out]; rfl, rfl⟩
    · have q3 : ¬ (1 : Int) < (s.size : Int) := by omega
      clear hc
      go_enter Tryz.func91, Tryz.ntmps91
      by_cases hz : 0 ≤ D0
      · have HF2 : Hid (sigF s.data.toList = D0) := Lib.hid (by rw [HF.out, if_pos hz])
        clear HF
        go_wp2_with fail
        refine HC.out.mono ?_
        rintro e w' ⟨rfl, rfl⟩
        go_wp2_with fail
        refine HC.out.mono ?_
        rintro e w' ⟨rfl, rfl⟩
        go_wp2
        go_ret
        exact ⟨by rw [HF2.out]; rfl, rfl⟩
      · have HF2 : Hid (sigF s.data.toList = 2000000000) := Lib.hid (by rw [HF.out, if_neg hz])
        clear HF
        go_wp2_with fail
        refine HC.out.mono ?_
        rintro e w' ⟨rfl, rfl⟩
        go_wp2
        go_ret
        exact ⟨by rw [HF2.out]; rfl, rfl⟩
end Go.Proofs.YtacmaddjpaebfaaGreatDoor
namespace Go.Proofs.YtacmaddjpaebfaaGreatDoor
open Go Go.RowKit Hs

/-- The pieces between bytes c. -/
def cutL (c : UInt8) : List UInt8 → List (List UInt8)
  | [] => [[]]
  | x :: l => if x = c then [] :: cutL c l else match cutL c l with
    | [] => [[x]]
    | y :: r => (x :: y) :: r
theorem cutL_ne (c : UInt8) (l : List UInt8) : cutL c l ≠ [] := by
  cases l with
  | nil => simp [cutL]
  | cons x l =>
    unfold cutL
    split
    · simp
    · split <;> simp
theorem cutL_hit (c : UInt8) (r : List UInt8) : ∀ m : List UInt8, c ∉ m → cutL c (m ++ c :: r) = m :: cutL c r := by
  intro m
  induction m with
  | nil => intro _; simp [cutL]
  | cons x m ih =>
    intro h
    have hx : ¬ x = c := fun e => h (by simp [e])
    have hm := ih (fun e => h (by simp [e]))
    rw [List.cons_append, cutL, if_neg hx, hm]
theorem cutL_end (c : UInt8) : ∀ m : List UInt8, c ∉ m → cutL c m = [m] := by
  intro m
  induction m with
  | nil => intro _; simp [cutL]
  | cons x m ih =>
    intro h
    have hx : ¬ x = c := fun e => h (by simp [e])
    have hm := ih (fun e => h (by simp [e]))
    rw [cutL, if_neg hx, hm]
theorem cutL_len (c : UInt8) (l : List UInt8) : (cutL c l).length ≤ l.length + 1 := by
  induction l with
  | nil => simp [cutL]
  | cons x l ih =>
    unfold cutL
    split
    · simp; omega
    · split
      · simp
      · rename_i h; rw [h] at ih; simp at ih ⊢; omega
theorem cutL_join (c : UInt8) : ∀ L : List (List UInt8), L ≠ [] → (∀ x, x ∈ L → c ∉ x) → cutL c (Lib.join L [c]) = L := by
  intro L
  induction L with
  | nil => intro h; exact absurd rfl h
  | cons x L ih =>
    intro _ h
    cases L with
    | nil => rw [show Lib.join [x] [c] = x by simp [Lib.join], cutL_end c x (h x (by simp))]
    | cons y L =>
      have e : Lib.join (x :: y :: L) [c] = x ++ c :: Lib.join (y :: L) [c] := by simp [Lib.join]
      rw [e, cutL_hit c _ x (h x (by simp)), ih (by simp) (fun z hz => h z (by simp [hz]))]
/-- What stands in the middle of Cut: the pieces so far, from where, to where. -/
structure CutAt (c : UInt8) (l : List UInt8) (O : List (List UInt8)) (f i : Nat) : Prop where
  fi : f ≤ i
  il : i ≤ l.length
  eq : cutL c l = O ++ cutL c (l.drop f)
  no : c ∉ (l.drop f).take (i - f)
theorem CutAt.start (c : UInt8) (l : List UInt8) : CutAt c l [] 0 0 := ⟨by omega, by omega, by simp, by simp⟩
theorem CutAt.split {c : UInt8} {l : List UInt8} {f i : Nat} (h1 : f ≤ i) (h2 : i < l.length) : l.drop f = (l.drop f).take (i - f) ++ l.getD i 0 :: l.drop (i + 1) := by
  have e : (l.drop f).drop (i - f) = l.getD i 0 :: l.drop (i + 1) := by
    rw [List.drop_drop, show f + (i - f) = i by omega, List.drop_eq_getElem_cons h2, List.getD_eq_getElem?_getD, List.getElem?_eq_getElem h2]
    rfl
  rw [← e, List.take_append_drop]
theorem CutAt.hit {c : UInt8} {l : List UInt8} {O : List (List UInt8)} {f i : Nat} (h : CutAt c l O f i) (hi : i < l.length) (hc : l.getD i 0 = c) : CutAt c l (O ++ [(l.drop f).take (i - f)]) (i + 1) (i + 1) := by
  refine ⟨by omega, by omega, ?_, by simp⟩
  have e := CutAt.split (c := c) h.fi hi
  rw [hc] at e
  rw [h.eq, List.append_assoc]
  congr 1
  conv => lhs; rw [e]
  rw [cutL_hit c _ _ h.no]
  rfl
theorem CutAt.pass {c : UInt8} {l : List UInt8} {O : List (List UInt8)} {f i : Nat} (h : CutAt c l O f i) (hi : i < l.length) (hc : l.getD i 0 ≠ c) : CutAt c l O f (i + 1) := by
  refine ⟨by have := h.fi; omega, by omega, h.eq, ?_⟩
  have hlt : i - f < (l.drop f).length := by rw [List.length_drop]; have := h.fi; omega
  have := h.fi
  rw [show i + 1 - f = (i - f) + 1 by omega, take_snoc hlt]
  intro hm
  rcases List.mem_append.1 hm with g | g
  · exact h.no g
  · have e := List.mem_singleton.1 g
    refine hc ?_
    rw [e, List.getD_eq_getElem?_getD, List.getD_eq_getElem?_getD, List.getElem?_drop, show f + (i - f) = i by omega]
theorem CutAt.last {c : UInt8} {l : List UInt8} {O : List (List UInt8)} {f : Nat} (h : CutAt c l O f l.length) : cutL c l = O ++ [l.drop f] := by
  have hn := h.no
  rw [List.take_of_length_le (by rw [List.length_drop]; omega)] at hn
  rw [h.eq, cutL_end c _ hn]
theorem CutAt.len {c : UInt8} {l : List UInt8} {O : List (List UInt8)} {f i : Nat} (h : CutAt c l O f i) : O.length ≤ l.length := by
  have h1 := cutL_len c l
  rw [h.eq, List.length_append] at h1
  have : 1 ≤ (cutL c (l.drop f)).length := by
    rcases e : cutL c (l.drop f) with _ | ⟨x, y⟩
    · exact absurd e (cutL_ne _ _)
    · simp
  omega

set_option maxRecDepth 100000 in
set_option maxHeartbeats 4000000 in
theorem cut_any (s : ByteArray) (c : UInt8) (w : World) (hs : s.size ≤ 2000) :
    Calls Tryz.prog 90 #[.string s, .int .u8 (c.toNat : Int)] w fun e w' => ∃ v, e = .returned v ∧ w'.ownsRow w.heap.size 9 1 v (cutL c s.data.toList).length ((cutL c s.data.toList).map fun x => Value.string (bs x)) ∧ Below w.heap.size w w' := by
  have hlen : s.data.toList.length = s.size := by simp
  have hsx : (s.size : Int) ≤ 2000 := by omega
  have HGET : Hid (∀ k, (h : k < s.size) → s.data.toList.getD k 0 = s[k]'h) := fun k h => by
    simp [List.getD_eq_getElem?_getD, h]
    rfl
  have HEX : Hid (∀ f i, f ≤ i → i ≤ s.size → s.extract f i = bs ((s.data.toList.drop f).take (i - f))) := fun f i h1 h2 => by
    apply ByteArray.ext
    apply Array.ext'
    rw [ByteArray.data_extract, Array.toList_extract]
    rfl
  obtain ⟨l, HLL⟩ : ∃ l, Hid (s.data.toList = l) := ⟨_, rfl⟩
  rw [HLL.out] at HGET HEX ⊢
  have HL : Hid (l.length = s.size) := by rw [← HLL.out]; exact hlen
  clear hlen HLL
  obtain ⟨i0, hi⟩ := info_of_underlying Tryz.underlying9
  have HI : Hid (i0.zero = some (.string ⟨#[]⟩) ∧ i0.size = 1 ∧ i0.bytes = 16) := by
    have h := strInfo
    rw [hi] at h
    simp at h
    exact h
  go_enter Tryz.func90, Tryz.ntmps90
  go_wp2
  go_loopw [5, 6, 7] (fun v f i wr => ∃ (O : List (List UInt8)) (a b : Nat), a ≤ b ∧ b ≤ s.size ∧ f = .int .i64 a ∧ i = .int .i64 b ∧ wr.ownsRow w.heap.size 9 1 v O.length (O.map fun x => Value.string (bs x)) ∧ Hid (CutAt c l O a b) ∧ Hid (Below w.heap.size w wr) ∧ O.length ≤ 2000) (fun _ _ i _ => s.size - (intOf i).toNat)
  case atStart => exact ⟨[], 0, 0, Nat.zero_le _, Nat.zero_le _, rfl, rfl, World.ownsRow_nil _ _ _ _, CutAt.start c l, Below.refl _ _, by simp⟩
  case round =>
    obtain ⟨O, a, b, hab, hb, rfl, rfl, hown, HC, HB, hO⟩ := hrel
    have hsw := HB.out.size
    by_cases hlt : b < s.size
    · have HK : Hid (l.getD b 0 = s[b]'hlt) := HGET.out b hlt
      by_cases hc : s[b]'hlt = c
      · have q1 : (((s[b]'hlt).toNat : Int) == (c.toNat : Int)) = true := by rw [hc]; simp
        have HN := Lib.hid (HC.out.hit (by rw [HL.out]; exact hlt) (HK.out.trans hc))
        have HE := Lib.hid (HEX.out a b hab hb)
        have HLN := Lib.hid HN.out.len
        have hownA := hown.alloc (Obj.cells #[.string (s.extract a b)] 9)
        clear hown HK hc HC
        go_wp2_with (first
          | (at_builtin; refine wpList_append_own _ rfl _ _ 22 rfl w.heap.size 9 i0 (.string ⟨#[]⟩) 1 16 Tryz.underlying22 hi HI.out.1 HI.out.2.1 HI.out.2.2 rfl (by decide) _ _ _ rfl hownA ⟨wr.heap.size, 0, none⟩ 1 1 [.string (s.extract a b)] rfl rfl ?c1 ?c2 ?c3 ?c4 ?c5 ?_))
        case c1 =>
          intro j u hj
          match j, hj with
          | 0, hj => simp at hj; subst hj; simp [Addr.add]
        case c2 => intro u hu; simp at hu; subst hu; rfl
        case c3 => unfold maxLen; omega
        case c4 => omega
        case c5 => simp; omega
        intro v' w3 hown3 hgrow _
        have HB3 : Hid (Below w.heap.size w w3) := (HB.out.alloc hsw (Obj.cells #[.string (s.extract a b)] 9)).grown hgrow (by simp; omega) (fun g hg => (hownA.lt g hg).1)
        clear hgrow hownA
        go_wp2
        go_round
        case rel =>
          refine ⟨O ++ [(l.drop a).take (b - a)], b + 1, b + 1, Nat.le_refl _, by omega, by go_num, by go_num, ?_, HN.out, HB3.out, by have := HLN.out; rw [HL.out] at this; omega⟩
          have h := hown3
          rw [HE.out] at h
          simpa using h
        case measure => simp [intOf]; omega
      · have q1 : (((s[b]'hlt).toNat : Int) == (c.toNat : Int)) = false := by
          have : ¬ (s[b]'hlt).toNat = c.toNat := fun h => hc (UInt8.toNat_inj.1 h)
          simp
          omega
        have HN := Lib.hid (HC.out.pass (by rw [HL.out]; exact hlt) (by rw [HK.out]; exact hc))
        clear HK hc HC
        go_wp2
        go_round
        case rel => exact ⟨O, a, b + 1, by omega, by omega, by go_num, by go_num, hown, HN.out, HB.out, hO⟩
        case measure => simp [intOf]; omega
    · obtain rfl : b = s.size := by omega
      have HN := Lib.hid (CutAt.last (by rw [HL.out]; exact HC.out))
      have HE := Lib.hid (HEX.out a s.size hab hb)
      have hownA := hown.alloc (Obj.cells #[.string (s.extract a s.size)] 9)
      clear hown HC hlt
      go_wp2_with (first
        | (at_builtin; refine wpList_append_own _ rfl _ _ 22 rfl w.heap.size 9 i0 (.string ⟨#[]⟩) 1 16 Tryz.underlying22 hi HI.out.1 HI.out.2.1 HI.out.2.2 rfl (by decide) _ _ _ rfl hownA ⟨wr.heap.size, 0, none⟩ 1 1 [.string (s.extract a s.size)] rfl rfl ?d1 ?d2 ?d3 ?d4 ?d5 ?_))
      case d1 =>
        intro j u hj
        match j, hj with
        | 0, hj => simp at hj; subst hj; simp [Addr.add]
      case d2 => intro u hu; simp at hu; subst hu; rfl
      case d3 => unfold maxLen; omega
      case d4 => omega
      case d5 => simp; omega
      intro v' w3 hown3 hgrow _
      have HB3 : Hid (Below w.heap.size w w3) := (HB.out.alloc hsw (Obj.cells #[.string (s.extract a s.size)] 9)).grown hgrow (by simp; omega) (fun g hg => (hownA.lt g hg).1)
      clear hgrow hownA
      go_wp2
      go_ret
      refine ⟨v', rfl, ?_, HB3.out⟩
      have h := hown3
      rw [HE.out, List.take_of_length_le (by rw [List.length_drop, HL.out]; exact Nat.le_refl _)] at h
      rw [HN.out]
      simpa using h
end Go.Proofs.YtacmaddjpaebfaaGreatDoor
namespace Go.Proofs.YtacmaddjpaebfaaGreatDoor
open Go Go.RowKit Hs

/-- Where a word stands in a list, or -1. -/
def plF (x : List UInt8) : List ByteArray → Int → Int
  | [], _ => -1
  | p :: l, k => if p.data.toList = x then k else plF x l (k + 1)
theorem plF_is (s : ByteArray) : ∀ (l : List ByteArray) (k r : Int), PlaceIs l s r → plF s.data.toList l k = if r = -1 then -1 else k + r := by
  intro l
  induction l with
  | nil =>
    intro k r h
    rcases h with ⟨rfl, _⟩ | ⟨j, _, hj, _⟩
    · simp [plF]
    · simp at hj
  | cons p l ih =>
    intro k r h
    unfold plF
    rcases h with ⟨rfl, h⟩ | ⟨j, rfl, hj, he, hn⟩
    · rw [if_neg (fun e => h (by rw [Go.WideShapes.bytes_inj e]; simp)), ih (k + 1) (-1) (.inl ⟨rfl, fun q => h (by simp [q])⟩)]
      simp
    · cases j with
      | zero =>
        simp at he
        rw [if_pos (by rw [he])]
        simp
      | succ j =>
        have h0 := hn 0 (by omega)
        simp at h0
        rw [if_neg (fun e => h0 (Go.WideShapes.bytes_inj e)), ih (k + 1) j (.inr ⟨j, rfl, by simpa using hj, by simpa using he, fun i hi => by have := hn (i + 1) (by omega); simpa using this⟩)]
        rw [if_neg (by omega), if_neg (by omega)]
        omega
theorem plF_of {s : ByteArray} {l : List ByteArray} {r : Int} (h : PlaceIs l s r) : plF s.data.toList l 0 = r := by
  rw [plF_is s l 0 r h]
  split <;> omega
theorem plF_at (x : List UInt8) : ∀ (l : List ByteArray) (k : Int) (i : Nat) (h : i < l.length), l[i].data.toList = x → (∀ j (hj : j < l.length), l[j].data.toList = x → j = i) → plF x l k = k + i := by
  intro l
  induction l with
  | nil => intro k i h; simp at h
  | cons p l ih =>
    intro k i h e hu
    unfold plF
    cases i with
    | zero => rw [if_pos (by simpa using e)]; simp
    | succ i =>
      rw [if_neg (fun q => by have := hu 0 (by simp) (by simpa using q); omega), ih (k + 1) i (by simpa using h) (by simpa using e) (fun j hj q => by have := hu (j + 1) (by simp; omega) (by simpa using q); omega)]
      push_cast
      omega
theorem plF_pt {s : Sheet} (h : ValidS s) {a : Int} (h0 : 0 ≤ a) (h1 : a < s.pts.length) : plF (s.pts.getD a.toNat default).data.toList s.pts 0 = a := by
  have hlt : a.toNat < s.pts.length := by omega
  rw [List.getD_eq_getElem?_getD, List.getElem?_eq_getElem hlt]
  have := plF_at s.pts[a.toNat].data.toList s.pts 0 a.toNat hlt rfl (fun j hj e => h.apart j a.toNat hj hlt e)
  show plF s.pts[a.toNat].data.toList s.pts 0 = a
  rw [this]
  omega

/-- A line that is read behind others. -/
def rowF (P : List ByteArray) (N : List Note) (w : List (List UInt8)) : Option (List ByteArray × List Note) :=
  if w.length = 2 ∧ w.getD 0 [] = wPoint then some (P ++ [bs (w.getD 1 [])], N)
  else if w.length < 3 then none
  else if w.getD 0 [] = wSpot then (if w.length = 4 then some (P, N ++ [⟨1, plF (w.getD 1 []) P 0, 0, sigF (w.getD 2 []), sigF (w.getD 3 [])⟩]) else none)
  else if w.getD 0 [] = wContour then (if w.length = 4 then some (P, N ++ [⟨2, plF (w.getD 1 []) P 0, 0, sigF (w.getD 2 []), sigF (w.getD 3 [])⟩]) else none)
  else if w.getD 0 [] = wLake then (if w.length = 3 then some (P, N ++ [⟨3, plF (w.getD 1 []) P 0, plF (w.getD 2 []) P 0, 0, 0⟩]) else none)
  else if w.getD 0 [] = wSlope then (if w.length = 5 then some (P, N ++ [⟨4, plF (w.getD 1 []) P 0, plF (w.getD 2 []) P 0, sigF (w.getD 3 []), sigF (w.getD 4 [])⟩]) else none)
  else none
def rowsF (P : List ByteArray) (N : List Note) : List (List (List UInt8)) → Option (List ByteArray × List Note)
  | [] => some (P, N)
  | w :: l => match rowF P N w with | some (P', N') => rowsF P' N' l | none => none
theorem rowsF_cons (P : List ByteArray) (N : List Note) (w : List (List UInt8)) (l : List (List (List UInt8))) : rowsF P N (w :: l) = match rowF P N w with | some (P', N') => rowsF P' N' l | none => none := rfl
theorem rowsF_snoc (w : List (List UInt8)) : ∀ (l : List (List (List UInt8))) (P N P' N'), rowsF P N l = some (P', N') → rowsF P N (l ++ [w]) = rowF P' N' w := by
  intro l
  induction l with
  | nil =>
    intro P N P' N' h
    simp only [rowsF, Option.some.injEq, Prod.mk.injEq] at h
    obtain ⟨rfl, rfl⟩ := h
    show (match rowF P N w with | some (P', N') => rowsF P' N' [] | none => none) = _
    split
    · rename_i e; rw [e]; rfl
    · rename_i e; rw [e]
  | cons x l ih =>
    intro P N P' N' h
    rw [List.cons_append]
    rw [rowsF_cons] at h ⊢
    rcases e : rowF P N x with _ | ⟨P1, N1⟩
    · rw [e] at h; cases h
    · rw [e] at h
      exact ih P1 N1 P' N' h
theorem rowsF_none (w : List (List UInt8)) (m : List (List (List UInt8))) : ∀ (l : List (List (List UInt8))) (P N P' N'), rowsF P N l = some (P', N') → rowF P' N' w = none → rowsF P N (l ++ w :: m) = none := by
  intro l
  induction l with
  | nil =>
    intro P N P' N' h h2
    simp only [rowsF, Option.some.injEq, Prod.mk.injEq] at h
    obtain ⟨rfl, rfl⟩ := h
    show (match rowF P N w with | some (P', N') => rowsF P' N' m | none => none) = _
    rw [h2]
  | cons x l ih =>
    intro P N P' N' h h2
    rw [List.cons_append]
    rw [rowsF_cons] at h ⊢
    rcases e : rowF P N x with _ | ⟨P1, N1⟩
    · rfl
    · rw [e] at h
      exact ih P1 N1 P' N' h h2
/-- The lines between the first one and what stands behind the last one. -/
def midL (R : List (List UInt8)) : List (List (List UInt8)) := ((R.drop 1).dropLast).map (cutL 32)
/-- What is read, before it is held against the text. -/
def refF (t : List UInt8) : Option Sheet :=
  if (cutL 32 ((cutL 10 t).getD 0 [])).length = 2 then (rowsF [] [] (midL (cutL 10 t))).map fun x => ⟨sigF ((cutL 32 ((cutL 10 t).getD 0 [])).getD 1 []), x.1, x.2⟩
  else none

theorem join_end (c : UInt8) : ∀ L : List (List UInt8), L ≠ [] → Lib.join (L ++ [[]]) [c] = Lib.join L [c] ++ [c] := by
  intro L
  induction L with
  | nil => intro h; exact absurd rfl h
  | cons x L ih =>
    intro _
    cases L with
    | nil => simp [Lib.join]
    | cons y L =>
      have e : Lib.join (x :: y :: L) [c] = x ++ c :: Lib.join (y :: L) [c] := by simp [Lib.join]
      have e2 : Lib.join (x :: y :: L ++ [[]]) [c] = x ++ c :: Lib.join (y :: L ++ [[]]) [c] := by simp [Lib.join]
      rw [e, e2, ih (by simp)]
      simp
theorem cut_lines (L : List (List UInt8)) (hL : L ≠ []) (h : ∀ x, x ∈ L → (10 : UInt8) ∉ x) : cutL 10 (L.flatMap (· ++ [10])) = L ++ [[]] := by
  rw [flat_join 10 L hL, ← join_end 10 L hL]
  refine cutL_join 10 _ (by simp) (fun x hx => ?_)
  rcases List.mem_append.1 hx with g | g
  · exact h x g
  · simp at g; subst g; simp
theorem rowF_point (P : List ByteArray) (N : List Note) (p : ByteArray) : rowF P N [wPoint, p.data.toList] = some (P ++ [p], N) := by
  unfold rowF
  rw [if_pos ⟨rfl, rfl⟩]
  show some (P ++ [bs p.data.toList], N) = _
  rw [bs_of]
theorem rowsF_pts (N : List Note) (m : List (List (List UInt8))) : ∀ (l P : List ByteArray), rowsF P N ((l.map fun p : ByteArray => [wPoint, p.data.toList]) ++ m) = rowsF (P ++ l) N m := by
  intro l
  induction l with
  | nil => intro P; simp
  | cons p l ih =>
    intro P
    show (match rowF P N [wPoint, p.data.toList] with | some (P', N') => rowsF P' N' ((l.map fun p : ByteArray => [wPoint, p.data.toList]) ++ m) | none => none) = _
    rw [rowF_point]
    show rowsF (P ++ [p]) N _ = _
    rw [ih]
    simp
theorem rowF_note {s : Sheet} (h : ValidS s) (x : Note) (hx : x ∈ s.notes) (N : List Note) : rowF s.pts N ((wordsB s.pts x).map (fun y : ByteArray => y.data.toList)) = some (s.pts, N ++ [x]) := by
  obtain ⟨hk, ha0, hb0, ha, hb, hlo, hhi⟩ := h.note x hx
  have i1 := plF_pt h ha0 ha
  have i2 := plF_pt h hb0 hb
  have n1 : sigF (Lib.itoa x.lo) = x.lo := sigF_itoa (by omega) (by omega)
  have n2 : sigF (Lib.itoa x.hi) = x.hi := sigF_itoa (by omega) (by omega)
  have hz : noteErr s.iv s.pts.length x = 0 := by
    obtain ⟨k, hk', rfl⟩ := List.getElem_of_mem hx
    have := h.errs k hk'
    unfold ntErr at this
    rw [List.getElem?_eq_getElem hk'] at this
    exact this
  obtain ⟨k, a, b, lo, hi⟩ := x
  simp only at hk ha0 hb0 ha hb i1 i2 n1 n2 hz ⊢
  have hz2 : (k = 1 ∨ k = 2 → b = 0) ∧ (k = 3 → lo = 0 ∧ hi = 0) := by
    unfold noteErr at hz
    split at hz
    · cases hz
    split at hz
    · cases hz
    split at hz
    · cases hz
    split at hz
    · cases hz
    rename_i g1 g2 g3 g4
    refine ⟨fun e => ?_, fun e => ?_⟩
    · by_cases q : b = 0
      · exact q
      · exfalso
        apply g3
        right
        refine ⟨?_, q⟩
        unfold over
        rw [if_pos e]
    · subst e
      simp [withinB, endLo, endHi] at g4
      omega
  unfold wordsB
  rcases hk with e | e | e | e <;> subst e
  · rw [if_neg (by simp), if_neg (by simp), if_neg (by simp)]
    simp only [List.map_cons, List.map_nil, bs_toList]
    unfold rowF
    simp only [List.length_cons, List.length_nil, List.getD_cons_zero, List.getD_cons_succ, i1, n1, n2]
    rw [if_neg (by simp), if_neg (by simp), if_pos trivial, if_pos (by simp), hz2.1 (.inl rfl)]
  · rw [if_pos rfl]
    simp only [List.map_cons, List.map_nil, bs_toList]
    unfold rowF
    simp only [List.length_cons, List.length_nil, List.getD_cons_zero, List.getD_cons_succ, i1, n1, n2]
    rw [if_neg (by simp), if_neg (by simp), if_neg (by decide), if_pos trivial, if_pos (by simp), hz2.1 (.inr rfl)]
  · rw [if_neg (by simp), if_pos rfl]
    simp only [List.map_cons, List.map_nil, bs_toList]
    unfold rowF
    simp only [List.length_cons, List.length_nil, List.getD_cons_zero, List.getD_cons_succ, i1, i2]
    rw [if_neg (by simp), if_neg (by simp), if_neg (by decide), if_neg (by decide), if_pos trivial, if_pos (by simp), (hz2.2 rfl).1, (hz2.2 rfl).2]
  · rw [if_neg (by simp), if_neg (by simp), if_pos rfl]
    simp only [List.map_cons, List.map_nil, bs_toList]
    unfold rowF
    simp only [List.length_cons, List.length_nil, List.getD_cons_zero, List.getD_cons_succ, i1, i2, n1, n2]
    rw [if_neg (by simp), if_neg (by simp), if_neg (by decide), if_neg (by decide), if_neg (by decide), if_pos trivial, if_pos (by simp)]
theorem rowsF_notes {s : Sheet} (h : ValidS s) : ∀ (l N : List Note), (∀ x, x ∈ l → x ∈ s.notes) → rowsF s.pts N (l.map fun x : Note => (wordsB s.pts x).map (fun y : ByteArray => y.data.toList)) = some (s.pts, N ++ l) := by
  intro l
  induction l with
  | nil => intro N _; simp [rowsF]
  | cons x l ih =>
    intro N hl
    show (match rowF s.pts N ((wordsB s.pts x).map (fun y : ByteArray => y.data.toList)) with | some (P', N') => rowsF P' N' (l.map fun x : Note => (wordsB s.pts x).map (fun y : ByteArray => y.data.toList)) | none => none) = _
    rw [rowF_note h x (hl x (by simp)) N]
    show rowsF _ _ _ = _
    rw [ih _ (fun y hy => hl y (by simp [hy]))]
    simp
/-- The text of a valid sheet is read as this sheet. -/
theorem ref_write {s : Sheet} (h : ValidS s) : refF (writeT s) = some s := by
  have hno : ∀ x, x ∈ (lw s).map (fun ws => Lib.join ws [32]) → (10 : UInt8) ∉ x := by
    intro x hx
    obtain ⟨ws, hws, rfl⟩ := List.mem_map.1 hx
    exact join_no 10 (by decide) ws (fun y hy => word_no h 10 (.inl rfl) ws hws y hy)
  have hc : ∀ ws, ws ∈ lw s → cutL 32 (Lib.join ws [32]) = ws := fun ws hws => cutL_join 32 ws (lw_ne s ws hws) (fun y hy => word_no h 32 (.inr rfl) ws hws y hy)
  have e : cutL 10 (writeT s) = (lw s).map (fun ws => Lib.join ws [32]) ++ [[]] := by
    rw [writeT_lw]
    exact cut_lines _ (by simp [lw]) hno
  have hh : (cutL 10 (writeT s)).getD 0 [] = Lib.join [wSheet, Lib.itoa s.iv] [32] := by rw [e]; rfl
  have h0 : cutL 32 ((cutL 10 (writeT s)).getD 0 []) = [wSheet, Lib.itoa s.iv] := by rw [hh]; exact hc _ (by simp [lw])
  have hm : midL (cutL 10 (writeT s)) = (s.pts.map fun p : ByteArray => [wPoint, p.data.toList]) ++ s.notes.map fun x : Note => (wordsB s.pts x).map (fun y : ByteArray => y.data.toList) := by
    unfold midL
    rw [e]
    have e2 : ((lw s).map (fun ws => Lib.join ws [32]) ++ [[]]).drop 1 = ((s.pts.map fun p : ByteArray => [wPoint, p.data.toList]) ++ s.notes.map fun x : Note => (wordsB s.pts x).map (fun y : ByteArray => y.data.toList)).map (fun ws => Lib.join ws [32]) ++ [[]] := by
      unfold lw
      simp
    rw [e2, List.dropLast_concat, List.map_map]
    refine (List.map_congr_left fun ws hws => ?_).trans (List.map_id _)
    exact hc ws (by unfold lw; exact List.mem_cons_of_mem _ hws)
  unfold refF
  rw [h0, if_pos (show ([wSheet, Lib.itoa s.iv] : List (List UInt8)).length = 2 from rfl), hm, rowsF_pts, List.nil_append, rowsF_notes h s.notes [] (fun x hx => hx)]
  show some (⟨sigF (Lib.itoa s.iv), s.pts, [] ++ s.notes⟩ : Sheet) = _
  rw [sigF_itoa (by have := h.iv1; omega) (by have := h.iv2; omega), List.nil_append]
end Go.Proofs.YtacmaddjpaebfaaGreatDoor
namespace Go.Proofs.YtacmaddjpaebfaaGreatDoor
open Go Go.RowKit Hs

theorem strN {k : ByteArray} {l : List UInt8} (h : k.data.toList ≠ l) : (k.toList == l) = false := by
  rw [beq_eq_false_iff_ne, Lib.toList_data]
  exact h
theorem strY {k : ByteArray} {l : List UInt8} (h : k.data.toList = l) : (k.toList == l) = true := by
  rw [beq_iff_eq, Lib.toList_data]
  exact h
set_option maxRecDepth 100000 in
/-- Strings that came from anywhere are appended to a row of the call's own. -/
theorem run_strs (w : World) (ty : TypeId) (base : Nat) (v sv : Value) (xs l : List ByteArray) (hown : w.ownsRow base 9 1 v xs.length (xs.map Value.string)) (hl : StrsAt w.heap.size w sv l) (hb : base ≤ w.heap.size)
    (hlen : xs.length + l.length ≤ 100000) :
    ∃ v' w', (Builtin.append_ #[22, 22] ty #[v, sv]).run Tryz.prog w = .ok v' w' ∧ w'.ownsRow base 9 1 v' (xs ++ l).length ((xs ++ l).map Value.string) ∧ w.grownBy w' v.ownBlock := by
  obtain ⟨i0, hi⟩ := info_of_underlying Tryz.underlying9
  have HI : i0.zero = some (.string ⟨#[]⟩) ∧ i0.size = 1 ∧ i0.bytes = 16 := by
    have h := strInfo
    rw [hi] at h
    simp at h
    exact h
  obtain ⟨_, A, c, rfl, hc⟩ := hl
  cases A with
  | none =>
    have hn : l = [] := by
      cases l with
      | nil => rfl
      | cons x l => obtain ⟨_, _, h, _⟩ := hc (by simp); cases h
    subst hn
    have hrun : (Builtin.append_ #[22, 22] ty #[v, .slice none 0 c]).run Tryz.prog w = .ok v w := by
      rcases hown.2 with ⟨rfl, h0⟩ | ⟨g, cap, cur, rfl, _, _, h1, _⟩
      · simp [Builtin.append_, run_underlying Tryz.underlying22, sizeOf, typeInfo, hi, Builtin.lenOf, Builtin.firstCells]
      · simp [Builtin.append_, run_underlying Tryz.underlying22, sizeOf, typeInfo, hi, Builtin.lenOf, Builtin.firstCells, h1, storeCells]
    exact ⟨v, w, hrun, by rw [List.append_nil]; exact hown, grown_refl w _⟩
  | some ad =>
    have hcells : ∀ j u, (l.map Value.string)[j]? = some u → w.cell? (ad.add j) = some u := by
      intro j u hu
      have hj : j < l.length := by have := (List.getElem?_eq_some_iff.1 hu).1; simpa using this
      obtain ⟨b, o, e, _, hk⟩ := hc (by rintro rfl; simp at hj)
      injection e with e
      subst e
      rw [Go.WideShapes.add_plain, hk j hj, ← hu]
      simp [hj]
    obtain ⟨v', w', h1, h2, h3, _, _⟩ := run_append_own_at (P := Tryz.prog) w base 22 ty 9 i0 _ 1 16 Tryz.underlying22 hi HI.1 HI.2.1 HI.2.2 rfl (by decide) v xs.length _ hown ad l.length c (l.map Value.string) (by simp) hcells
      (by intro u hu; obtain ⟨x, _, rfl⟩ := List.mem_map.1 hu; rfl) (by unfold maxLen; omega) (by omega) hb
    exact ⟨v', w', h1, by rw [List.map_append, List.length_append]; exact h2, h3⟩
theorem step_strs {ops : Array Oper} {o : Oper} {a : Act} {K : Act → World → Prop} {Q : Exit → Act → World → Prop} {E : Prop} {w : World} (hgd : o.guard = none) (s x : Operand)
    (ho : o.op = .call { callee := .builtin .append, args := #[s, x], argTypes := #[22, 22] })
    (base : Nat) (v sv : Value) (xs l : List ByteArray) (hs : a.eval s = v) (hx : a.eval x = sv) (hown : w.ownsRow base 9 1 v xs.length (xs.map Value.string)) (hl : StrsAt w.heap.size w sv l) (hb : base ≤ w.heap.size)
    (hlen : xs.length + l.length ≤ 100000)
    (h : ∀ v' w', w'.ownsRow base 9 1 v' (xs ++ l).length ((xs ++ l).map Value.string) → w.grownBy w' v.ownBlock → (∀ k, v.ownBlock = some k → base ≤ k) → K (a.put o.dst v') w') :
    if Region.wanted o (yielded ops a.tmps) = true then Oper.wp Tryz.prog o a w K Q else E := by
  rw [if_pos (by simp [Region.wanted, hgd])]
  obtain ⟨v', w', hrun, h2, h3⟩ := run_strs w o.type base v sv xs l hown hl hb hlen
  unfold Oper.wp execOp
  simp only [ho, resolve, invoke, builtin, Sem.run_bind, Sem.run_pure, Result.andThen_ok, List.map_toArray, List.map_cons, List.map_nil, hs, hx, hrun]
  exact h v' w' h2 h3 (fun k hk => (hown.lt k hk).1)
theorem cap_own {w : World} {base e size n : Nat} {v : Value} {xs : List Value} (h : w.ownsRow base e size v n xs) : CapOk v := by
  rcases h.2 with ⟨rfl, rfl⟩ | ⟨g, cap, cur, rfl, _, _, h1, _⟩
  · exact ⟨none, 0, 0, rfl, Nat.le_refl _⟩
  · exact ⟨_, _, _, rfl, h1⟩
theorem setO (w : World) (a : Addr) (u : Value) {b o : Nat} {v : Value} (hb : b ≠ a.block) (hc : w.cell? ⟨b, o, none⟩ = some v) : (w.setCell a u).cell? ⟨b, o, none⟩ = some v := by
  rw [World.cell?_of_block (w := w) (Below.heap_setCell _ _ _ _ hb)]; exact hc
theorem place_at (v : Value) (l : List ByteArray) (s : ByteArray) (w : World) (hv : StrsAt w.heap.size w v l) :
    Calls Tryz.prog 96 #[v, .string s] w (fun e w' => e = .returned (.int .i64 (plF s.data.toList l 0)) ∧ w' = w) :=
  (place_any v l s w hv).mono (fun _ _ ⟨r, hr, he, hw⟩ => ⟨by rw [plF_of hr]; exact he, hw.symm⟩)
theorem strsB {W w' : World} {v : Value} {l : List ByteArray} (HN : Hid (StrsAt W.heap.size W v l)) (h : Below W.heap.size W w') : StrsAt w'.heap.size w' v l := (HN.out.below h).mono h.size
theorem row_result {fn : Func} {p q : Tmp} (h : fn.results = #[.cell p 25, .tmp q]) (tmps : Array Value) (w : World) (g : Nat) (x y z v : Value)
    (hp : tmps.getD p undef = .pointer (some ⟨g, 0, none⟩)) (hg : w.heap[g]? = some (.cells #[x, y, z] 25 (0, 0)))
    (hq : tmps.getD q undef = v) :
    (results fn tmps).run Tryz.prog w = .ok (.tuple #[.agg #[x, y, z], v]) w := by
  have c0 : w.cell? ⟨g, 0, none⟩ = some x := cellOf hg 0 _ rfl
  have c1 : w.cell? ⟨g, 1, none⟩ = some y := cellOf hg 1 _ rfl
  have c2 : w.cell? ⟨g, 2, none⟩ = some z := cellOf hg 2 _ rfl
  have hp' : tmps[p]?.getD undef = .pointer (some ⟨g, 0, none⟩) := by simpa using hp
  have hq' : tmps[q]?.getD undef = v := by simpa using hq
  simp only [results, h]
  simp [Sem.run_bind, Result.andThen, hp', hq', asAddr, go_sem, c0, c1, c2]
theorem three_set {V : World} {g : Nat} {z0 z1 z2 x y z : Value} {T : TypeId} (h : V.heap[g]? = some (.cells #[z0, z1, z2] T (0, 0))) :
    (((V.setCell ⟨g, 0, none⟩ x).setCell ⟨g, 1, none⟩ y).setCell ⟨g, 2, none⟩ z).heap[g]? = some (.cells #[x, y, z] T (0, 0)) :=
  heap_setCell_same _ g 2 _ _ z (heap_setCell_same _ g 1 _ _ y (heap_setCell_same V g 0 _ _ x h))
theorem three_below {w V : World} {B g : Nat} {x y z : Value} (h : Below B w V) (hg : B ≤ g) : Below B w (((V.setCell ⟨g, 0, none⟩ x).setCell ⟨g, 1, none⟩ y).setCell ⟨g, 2, none⟩ z) :=
  ((h.setCell (p := ⟨g, 0, none⟩) hg x).setCell (p := ⟨g, 1, none⟩) hg y).setCell (p := ⟨g, 2, none⟩) hg z
/-- No words are left. -/
def EndsAt (v : Value) : Prop := ∃ A c, v = .slice A 0 c
/-- What stands when the notes are appended. -/
def RowMid (B : Nat) (w : World) (iv : Int) (pv : Value) (N : List Note) (wr : World) : Prop :=
  ∃ sa sc, wr.heap[w.heap.size]? = some (.cells #[.int .i64 iv, pv, .slice sa N.length sc] 25 (0, 0)) ∧ wr.ownsRow B 67 5 (.slice sa N.length sc) N.length (notesC N) ∧
    wr.heap[w.heap.size + 1]? = some (.cells #[.int .i64 0, .slice none 0 0, .slice none 0 0] 25 (0, 0)) ∧ Below w.heap.size w wr
/-- What row answers. -/
def RowOk (iv : Int) (P : List ByteArray) (N : List Note) (w : World) (e : Ending) (w' : World) : Prop :=
  ∃ pv nv, e = .returned (.tuple #[.agg #[.int .i64 iv, pv, nv], .bool true]) ∧ SheetAt w'.heap.size w' pv nv ⟨iv, P, N⟩ ∧ CapOk pv ∧ Below w.heap.size w w'
def RowNo (w : World) (e : Ending) (w' : World) : Prop :=
  ∃ (i : Int) (a1 a2 : Option Addr) (n1 c1 n2 c2 : Nat), e = .returned (.tuple #[.agg #[.int .i64 i, .slice a1 n1 c1, .slice a2 n2 c2], .bool false]) ∧ Below w.heap.size w w'
end Go.Proofs.YtacmaddjpaebfaaGreatDoor
