/- Check of the reference of package sheet, and what it calls: names, places, spans, notes. -/
import Derived.Test.YtacmaddjpaebfaaGreatDoorArg
import Derived.Deep.QuietTactic
import Derived.BigQuiet
import Derived.Deep.RegionWith
import Derived.Deep.RegionHeld3
set_option linter.unusedSimpArgs false
set_option linter.unusedVariables false
namespace Go.Proofs.YtacmaddjpaebfaaGreatDoor
open Go Go.RowKit Hs

set_option maxHeartbeats 400000 in
theorem in_any (n lo hi : Int) (w : World) :
    Calls Tryz.prog 59 #[.int .i64 n, .int .i64 lo, .int .i64 hi] w fun e w' => e = .returned (.bool (decide (lo ≤ n) && decide (n ≤ hi))) ∧ w = w' := by
  by_cases h1 : lo ≤ n
  · by_cases h2 : n ≤ hi
    · have h3 : (decide (lo ≤ n) && decide (n ≤ hi)) = true := by simp [h1, h2]
      rw [h3]
      clear h3
      go_enter Tryz.func59, Tryz.ntmps59
      go_wp2
      go_ret
      exact ⟨rfl, rfl⟩
    · have h3 : (decide (lo ≤ n) && decide (n ≤ hi)) = false := by simp [h2]
      have h4 : decide (n ≤ hi) = false := by simp [h2]
      rw [h3]
      clear h3 h2
      go_enter Tryz.func59, Tryz.ntmps59
      go_wp2
      go_ret
      exact ⟨rfl, rfl⟩
  · have h3 : (decide (lo ≤ n) && decide (n ≤ hi)) = false := by simp [h1]
    have h4 : decide (lo ≤ n) = false := by simp [h1]
    rw [h3]
    clear h3 h1
    go_enter Tryz.func59, Tryz.ntmps59
    go_wp2
    go_ret
    exact ⟨rfl, rfl⟩

/-- Is a byte a letter, a digit or a hyphen? -/
def chR (c : Nat) : Bool := (decide (97 ≤ c) && decide (c ≤ 122)) || ((decide (48 ≤ c) && decide (c ≤ 57)) || c == 45)
theorem chR_ok (j c : Nat) (hj : j ≠ 0) : chOk j c = chR c := by
  unfold chOk chR
  simp [hj]
theorem chR_no (j c : Nat) (h : chR c = false) : chOk j c = false := by
  unfold chR at h
  unfold chOk
  simp only [Bool.or_eq_false_iff] at h
  simp only [h.1, h.2.1, h.2.2, Bool.false_or, Bool.or_false, Bool.and_false]
set_option maxRecDepth 100000 in
set_option maxHeartbeats 4000000 in
theorem refname_any (s : ByteArray) (w : World) (hs : s.size ≤ 140737488351232) :
    Calls Tryz.prog 18 #[.string s] w fun e w' => e = .returned (.bool (nameB s.data.toList)) ∧ w = w' := by
  have hlen : s.data.toList.length = s.size := by simp
  have hsx : (s.size : Int) ≤ 140737488351232 := by omega
  by_cases hsz : 1 ≤ s.size ∧ s.size ≤ 16
  · obtain ⟨z1, z2⟩ := hsz
    have hd : (decide ((1 : Int) ≤ (s.size : Int)) && decide ((s.size : Int) ≤ 16)) = true := by simp; omega
    have z0 : 0 < s.size := by omega
    have hget : ∀ k, (h : k < s.size) → s.data.toList.getD k 0 = s[k]'h := fun k h => by
      simp [List.getD_eq_getElem?_getD, h]
      rfl
    by_cases hc0 : 97 ≤ (s[0]'z0).toNat ∧ (s[0]'z0).toNat ≤ 122
    · have HGET := Lib.hid hget
      have HC0 := Lib.hid hc0
      have q1 : (97 : Int) ≤ ((s[0]'z0).toNat : Int) := by omega
      have q2 : ((s[0]'z0).toNat : Int) ≤ 122 := by omega
      clear hget hc0
      go_enter Tryz.func18, Tryz.ntmps18
      go_wp2_with fail
      refine (in_any _ _ _ _).mono ?_
      rintro e w' ⟨rfl, rfl⟩
      rw [hd]
      clear hd
      go_wp2
      go_loop [3] (fun i => ∃ k : Nat, k ≤ s.size ∧ i = .int .i64 k ∧ Hid (∀ j, j < k → chR (s.data.toList.getD j 0).toNat = true)) (fun i => s.size - (intOf i).toNat)
      case atStart => exact ⟨0, Nat.zero_le _, rfl, fun j hj => by omega⟩
      case round =>
        obtain ⟨k, hk, rfl, HW⟩ := hrel
        by_cases hlt : k < s.size
        · have HK : Hid (s.data.toList.getD k 0 = s[k]'hlt) := HGET.out k hlt
          clear q1 q2
          have hyes : Hid (chR (s[k]'hlt).toNat = true → ∀ j, j < k + 1 → chR (s.data.toList.getD j 0).toNat = true) := fun hc j hj => by
            rcases Nat.lt_or_ge j k with g | g
            · exact HW.out j g
            · obtain rfl : j = k := by omega
              rw [HK.out]; exact hc
          have hno : Hid (chR (s[k]'hlt).toNat = false → nameB s.data.toList = false) := fun hc => nameB_no _ k (by omega) (by rw [HK.out]; exact chR_no _ _ hc)
          clear HK HW
          refine rune_cases ((s[k]'hlt).toNat : Int) _ ?_ ?_ ?_ ?_ ?_ ?_ ?_
          case refine_1 =>
            intro q1
            have t45 : (((s[k]'hlt).toNat : Int) != 45) = true := by simp; omega
            have hf := Lib.hid (hno.out (by unfold chR; simp; omega))
            clear hyes hno
            go_wp2
            go_ret
            exact ⟨by rw [hf.out]; rfl, rfl⟩
          case refine_2 =>
            intro q1
            have t45 : (((s[k]'hlt).toNat : Int) != 45) = false := by simp; omega
            have q2 : ((s[k]'hlt).toNat : Int) ≤ 45 := by omega
            have q3 : 45 ≤ ((s[k]'hlt).toNat : Int) := by omega
            have hy := Lib.hid (hyes.out (by unfold chR; simp; omega))
            clear hyes hno q1
            go_wp2
            go_round
            case rel => exact ⟨k + 1, by omega, by go_num, hy.out⟩
            case measure => simp [intOf]; omega
          case refine_3 =>
            intro q1 q2
            have t45 : (((s[k]'hlt).toNat : Int) != 45) = true := by simp; omega
            have hf := Lib.hid (hno.out (by unfold chR; simp; omega))
            clear hyes hno
            go_wp2
            go_ret
            exact ⟨by rw [hf.out]; rfl, rfl⟩
          case refine_4 =>
            intro q1 q2
            have t45 : (((s[k]'hlt).toNat : Int) != 45) = true := by simp; omega
            have hy := Lib.hid (hyes.out (by unfold chR; simp; omega))
            clear hyes hno
            go_wp2
            go_round
            case rel => exact ⟨k + 1, by omega, by go_num, hy.out⟩
            case measure => simp [intOf]; omega
          case refine_5 =>
            intro q1 q2
            have t45 : (((s[k]'hlt).toNat : Int) != 45) = true := by simp; omega
            have hf := Lib.hid (hno.out (by unfold chR; simp; omega))
            clear hyes hno
            go_wp2
            go_ret
            exact ⟨by rw [hf.out]; rfl, rfl⟩
          case refine_6 =>
            intro q1 q2
            have hy := Lib.hid (hyes.out (by unfold chR; simp; omega))
            clear hyes hno
            go_wp2
            go_round
            case rel => exact ⟨k + 1, by omega, by go_num, hy.out⟩
            case measure => simp [intOf]; omega
          case refine_7 =>
            intro q1
            have t45 : (((s[k]'hlt).toNat : Int) != 45) = true := by simp; omega
            have hf := Lib.hid (hno.out (by unfold chR; simp; omega))
            clear hyes hno
            go_wp2
            go_ret
            exact ⟨by rw [hf.out]; rfl, rfl⟩
        · clear q1 q2
          go_wp2
          go_ret
          have HT := HC0.out
          exact ⟨by rw [nameB_yes s.data.toList (by omega) (by omega) (fun j hj => by
            have hjs : j < s.size := by omega
            by_cases h0 : j = 0
            · subst h0
              rw [HGET.out 0 z0]
              unfold chOk; simp; omega
            · rw [chR_ok _ _ h0]; exact HW.out j (by omega))]; rfl, rfl⟩
    · have hfin := Lib.hid (nameB_no s.data.toList 0 (by omega) (by rw [hget 0 z0]; unfold chOk; simp; omega))
      clear hget
      by_cases h1 : (s[0]'z0).toNat < 97
      · have q1 : ((s[0]'z0).toNat : Int) < 97 := by omega
        clear h1 hc0
        go_enter Tryz.func18, Tryz.ntmps18
        go_wp2_with fail
        refine (in_any _ _ _ _).mono ?_
        rintro e w' ⟨rfl, rfl⟩
        rw [hd]
        clear hd
        go_wp2
        go_ret
        exact ⟨by rw [hfin.out]; rfl, rfl⟩
      · have q1 : (97 : Int) ≤ ((s[0]'z0).toNat : Int) := by omega
        have q2 : (122 : Int) < ((s[0]'z0).toNat : Int) := by omega
        clear h1 hc0
        go_enter Tryz.func18, Tryz.ntmps18
        go_wp2_with fail
        refine (in_any _ _ _ _).mono ?_
        rintro e w' ⟨rfl, rfl⟩
        rw [hd]
        clear hd
        go_wp2
        go_ret
        exact ⟨by rw [hfin.out]; rfl, rfl⟩
  · have hd : (decide ((1 : Int) ≤ (s.size : Int)) && decide ((s.size : Int) ≤ 16)) = false := by simp; omega
    have hfin := Lib.hid (nameB_len s.data.toList (by rw [hlen]; exact hsz))
    clear hsz
    go_enter Tryz.func18, Tryz.ntmps18
    go_wp2_with fail
    refine (in_any _ _ _ _).mono ?_
    rintro e w' ⟨rfl, rfl⟩
    rw [hd]
    clear hd
    go_wp2
    go_ret
    exact ⟨by rw [hfin.out]; rfl, rfl⟩

theorem str_ne {x y : ByteArray} (h : x ≠ y) : (x.toList == y.toList) = false := by
  rw [ByteArray.toList_eq, ByteArray.toList_eq]
  simpa using fun e => h (Go.WideShapes.bytes_inj e)
/-- The index of the first string of a list that is s, or -1. -/
def PlaceIs (l : List ByteArray) (s : ByteArray) (r : Int) : Prop := (r = -1 ∧ s ∉ l) ∨ ∃ k : Nat, r = k ∧ ∃ h : k < l.length, l[k] = s ∧ ∀ j (hj : j < k), l[j]'(by omega) ≠ s
def PlaceP (l : List ByteArray) (s : ByteArray) (w : World) (e : Ending) (w' : World) : Prop := ∃ r : Int, PlaceIs l s r ∧ e = .returned (.int .i64 r) ∧ w = w'
set_option maxRecDepth 100000 in
set_option maxHeartbeats 1000000 in
theorem place_any (v : Value) (l : List ByteArray) (s : ByteArray) (w : World) (hv : StrsAt w.heap.size w v l) :
    Calls Tryz.prog 96 #[v, .string s] w (PlaceP l s w) := by
  obtain ⟨hm, a, cap, rfl, hc⟩ := hv
  have HC := Lib.hid hc
  have hm' : (l.length : Int) ≤ 4611686018427387904 := by omega
  clear hc
  go_enter Tryz.func96, Tryz.ntmps96
  go_wp2
  go_loop [5] (fun i => ∃ k : Nat, k ≤ l.length ∧ i = .int .i64 k ∧ Hid (∀ j (hj : j < l.length), j < k → l[j] ≠ s)) (fun i => l.length - (intOf i).toNat)
  case atStart => exact ⟨0, Nat.zero_le _, rfl, fun j _ hj => by omega⟩
  case round =>
    obtain ⟨k, hk, rfl, HW⟩ := hrel
    by_cases hlt : k < l.length
    · obtain ⟨b, o, rfl, hb, hcc⟩ := HC.out (by intro e; simp [e] at hlt)
      have hck := hcc k hlt
      have HX : Hid (l[k] = s → PlaceIs l s k) := fun e => .inr ⟨k, rfl, hlt, e, fun j hj => HW.out j (by omega) hj⟩
      have HN : Hid (l[k] ≠ s → ∀ j (hj : j < l.length), j < k + 1 → l[j] ≠ s) := fun hne j hj hjk => by
        rcases Nat.lt_or_ge j k with g | g
        · exact HW.out j hj g
        · obtain rfl : j = k := by omega
          exact hne
      have kI : (k : Int) < (l.length : Int) := by omega
      clear hcc HW
      generalize l[k] = y at *
      by_cases hy : y = s
      · have HY := Lib.hid (HX.out hy)
        subst hy
        clear HX HN
        go_wp2
        go_ret
        exact ⟨_, HY.out, rfl, rfl⟩
      · have HY := Lib.hid (HN.out hy)
        have e1 := str_ne hy
        clear HX HN hy
        go_wp2
        go_round
        case rel => exact ⟨k + 1, by omega, by go_num, HY.out⟩
        case measure => simp [intOf]; omega
    · have hkl : k = l.length := by omega
      have HP : Hid (PlaceIs l s (-1)) := .inl ⟨rfl, fun h => by
        obtain ⟨j, hj, e⟩ := List.getElem_of_mem h
        exact HW.out j hj (by omega) e⟩
      clear hkl
      go_wp2
      go_ret
      exact ⟨_, HP.out, rfl, rfl⟩
end Go.Proofs.YtacmaddjpaebfaaGreatDoor
/- Check of the reference of package sheet, and what it calls: spans, notes. -/
namespace Go.Proofs.YtacmaddjpaebfaaGreatDoor
open Go Go.RowKit Hs

theorem nameErr_ref (l : List ByteArray) (s : ByteArray) (r : Int) (h : PlaceIs l s r) : nameErr (byts l) s.data.toList = if nameB s.data.toList = false then 6 else if 0 ≤ r then 5 else 0 := by
  have key : s.data.toList ∈ byts l ↔ 0 ≤ r := by
    unfold byts
    rcases h with ⟨rfl, h⟩ | ⟨k, rfl, hk, e, _⟩
    · simp only [List.mem_map]
      exact ⟨fun ⟨x, hx, e⟩ => absurd (Go.WideShapes.bytes_inj e ▸ hx) h, fun h => by omega⟩
    · exact ⟨fun _ => by omega, fun _ => List.mem_map.2 ⟨l[k], List.getElem_mem hk, by rw [e]⟩⟩
  unfold nameErr
  simp only [key]
set_option maxHeartbeats 400000 in
theorem fresh_any (s : ByteArray) (v : Value) (l : List ByteArray) (w : World) (hs : s.size ≤ 140737488351232) (hv : StrsAt w.heap.size w v l) :
    Calls Tryz.prog 60 #[.string s, v] w fun e w' => e = .returned (.int .i64 (nameErr (byts l) s.data.toList)) ∧ w = w' := by
  obtain ⟨_, a, cap, rfl, _⟩ := id hv
  have HV := Lib.hid hv
  clear hv
  go_enter Tryz.func60, Tryz.ntmps60
  go_wp2_with fail
  refine (refname_any s w hs).mono ?_
  rintro e w' ⟨rfl, rfl⟩
  cases hn : nameB s.data.toList
  · have HE : Hid (nameErr (byts l) s.data.toList = 6) := by show _ = _; unfold nameErr; rw [if_pos hn]
    clear hn
    go_wp2
    go_ret
    exact ⟨by rw [HE.out]; rfl, rfl⟩
  · have HN := Lib.hid hn
    clear hn
    go_wp2_with fail
    refine (place_any _ l s w HV.out).mono ?_
    rintro e w' ⟨r, hr, rfl, rfl⟩
    have HE := Lib.hid (nameErr_ref l s r hr)
    clear hr
    by_cases h0 : 0 ≤ r
    · have HZ : Hid (nameErr (byts l) s.data.toList = 5) := by show _ = _; rw [HE.out, HN.out, if_neg (by decide), if_pos h0]
      go_wp2
      go_ret
      exact ⟨by rw [HZ.out]; rfl, rfl⟩
    · have HZ : Hid (nameErr (byts l) s.data.toList = 0) := by show _ = _; rw [HE.out, HN.out, if_neg (by decide), if_neg h0]
      have h1 : decide (0 ≤ r) = false := by simp [h0]
      clear h0
      go_wp2
      go_ret
      exact ⟨by rw [HZ.out]; rfl, rfl⟩

/-- The error of a span from low to high. -/
def rngE (lo hi low high : Int) : Int := if withinB low high [lo, hi] = false then 7 else if hi < lo then 2 else 0
/-- e of Spread at the head of a round. -/
def sprE (k : Nat) (lo hi : Int) : Int := if k = 0 then 0 else if hi < lo then 2 else 0
def SprIn (k : Nat) (lo hi low high : Int) : Prop := k = 0 ∨ withinB low high [lo, hi] = true
set_option maxRecDepth 100000 in
set_option maxHeartbeats 1000000 in
theorem spread_one (lo hi low high : Int) (w : World) (g : Nat) (hg : w.heap[g]? = some (.cells #[.int .i64 lo, .int .i64 hi] 40 (0, 0))) :
    Calls Tryz.prog 115 #[.slice (some ⟨g, 0, none⟩) 1 1, .int .i64 low, .int .i64 high] w fun e w' => e = .returned (.int .i64 (rngE lo hi low high)) ∧ Below w.heap.size w w' := by
  have HG := Lib.hid hg
  clear hg
  go_enter Tryz.func115, Tryz.ntmps115
  go_wp2
  go_loopw [7, 8] (fun x i wr => ∃ k : Nat, k ≤ 1 ∧ i = .int .i64 k ∧ x = .int .i64 (sprE k lo hi) ∧ Hid (SprIn k lo hi low high ∧ Below w.heap.size w wr)) (fun _ i _ => 1 - (intOf i).toNat)
  case atStart => exact ⟨0, by omega, rfl, rfl, .inl rfl, Below.refl _ _⟩
  case round =>
    obtain ⟨k, hk, rfl, rfl, HR⟩ := hrel
    by_cases hlt : k < 1
    · obtain rfl : k = 0 := by omega
      have hg1 := (HR.out.2.block g (lt_of_block HG.out)).trans HG.out
      have c0 := cellOf hg1 0 _ rfl
      have c1 := cellOf hg1 1 _ rfl
      have HB := Lib.hid HR.out.2
      clear hg1 HR hlt hk
      by_cases h1 : low ≤ lo ∧ lo ≤ high
      · have d1 : (decide (low ≤ lo) && decide (lo ≤ high)) = true := by simp [h1]
        by_cases h2 : low ≤ hi ∧ hi ≤ high
        · have d2 : (decide (low ≤ hi) && decide (hi ≤ high)) = true := by simp [h2]
          have HW : Hid (SprIn 1 lo hi low high) := .inr (by simp [withinB, h1, h2])
          clear h1 h2
          go_wp2_with fail
          refine (in_any _ _ _ _).mono ?_
          rintro e w' ⟨rfl, rfl⟩
          rw [d1]
          go_wp2_with fail
          refine (in_any _ _ _ _).mono ?_
          rintro e w' ⟨rfl, rfl⟩
          rw [d2]
          clear d1 d2
          go_wp2_with fail
          go_quiet (fail)
          have HB2 : Hid (Below w.heap.size w (wr.drewN nq)) := HB.out.trans ⟨rfl, rfl, rfl, Nat.le_refl _, fun _ _ => rfl⟩
          clear c0 c1
          by_cases h3 : hi < lo
          · have HE : Hid ((2 : Int) = sprE 1 lo hi) := by show _ = _; unfold sprE; rw [if_neg (by decide), if_pos h3]
            go_wp2
            go_roundw
            case rel => exact ⟨1, by omega, by go_num, by rw [← HE.out], HW.out, HB2.out⟩
            case measure => simp [intOf]
          · have HE : Hid ((0 : Int) = sprE 1 lo hi) := by show _ = _; unfold sprE; rw [if_neg (by decide), if_neg h3]
            have h4 : decide (hi < lo) = false := by simp [h3]
            go_wp2
            go_roundw
            case rel => exact ⟨1, by omega, by go_num, by rw [← HE.out]; rfl, HW.out, HB2.out⟩
            case measure => simp [intOf]
        · have d2 : (decide (low ≤ hi) && decide (hi ≤ high)) = false := by simp; omega
          have HE : Hid (rngE lo hi low high = 7) := by show _ = _; unfold rngE; rw [if_pos (by simp [withinB]; omega)]
          clear h1 h2
          go_wp2_with fail
          refine (in_any _ _ _ _).mono ?_
          rintro e w' ⟨rfl, rfl⟩
          rw [d1]
          go_wp2_with fail
          refine (in_any _ _ _ _).mono ?_
          rintro e w' ⟨rfl, rfl⟩
          rw [d2]
          clear d1 d2
          go_wp2
          go_ret
          exact ⟨by rw [HE.out]; rfl, HB.out⟩
      · have d1 : (decide (low ≤ lo) && decide (lo ≤ high)) = false := by simp; omega
        have HE : Hid (rngE lo hi low high = 7) := by show _ = _; unfold rngE; rw [if_pos (by simp [withinB]; omega)]
        clear h1
        go_wp2_with fail
        refine (in_any _ _ _ _).mono ?_
        rintro e w' ⟨rfl, rfl⟩
        rw [d1]
        clear d1
        go_wp2
        go_ret
        exact ⟨by rw [HE.out]; rfl, HB.out⟩
    · obtain rfl : k = 1 := by omega
      have HE : Hid (sprE 1 lo hi = rngE lo hi low high) := by
        show _ = _
        rcases HR.out.1 with h | h
        · omega
        · unfold sprE rngE; simp [h]
      have HB := Lib.hid HR.out.2
      clear HR hlt
      go_wp2
      go_ret
      exact ⟨by rw [← HE.out]; rfl, HB.out⟩

set_option maxHeartbeats 400000 in
theorem range_any (lo hi low high : Int) (w : World) :
    Calls Tryz.prog 97 #[.agg #[.int .i64 lo, .int .i64 hi], .int .i64 low, .int .i64 high] w fun e w' => e = .returned (.int .i64 (rngE lo hi low high)) ∧ Below w.heap.size w w' := by
  go_enter Tryz.func97, Tryz.ntmps97
  go_wp2_with fail
  refine (spread_one lo hi low high _ _ (heap_alloc2_new _ _ _)).mono ?_
  rintro e w' ⟨rfl, hb⟩
  have HB : Hid (Below w.heap.size w w') := Below.trans (by go_grown) (hb.mono (by simp; omega))
  clear hb
  go_wp2
  go_ret
  exact ⟨rfl, HB.out⟩

theorem noteErr_rng (iv np : Int) (n : Note) (h : kindB n = true) (h1 : withinB 0 (np - 1) [n.a, n.b] = true) (h2 : ¬ (over n = n.a ∨ over n = 8 ∧ n.b ≠ 0)) :
    noteErr iv np n = if rngE n.lo n.hi (endLo n) (endHi iv n) ≠ 0 then rngE n.lo n.hi (endLo n) (endHi iv n) else if n.k = 2 ∧ n.lo = n.hi then 2 else 0 := by
  unfold rngE
  cases h3 : withinB (endLo n) (endHi iv n) [n.lo, n.hi]
  · rw [ne_7 iv np n h h1 h2 h3]; rfl
  · by_cases h4 : n.hi < n.lo
    · rw [ne_2b iv np n h h1 h2 h3 (.inl h4)]; simp [h4]
    · by_cases h5 : n.k = 2 ∧ n.lo = n.hi
      · rw [ne_2b iv np n h h1 h2 h3 (.inr h5)]; simp [h5]
      · rw [ne_0 iv np n h h1 h2 h3 (fun e => e.elim h4 h5)]; simp [h4, h5]

set_option maxRecDepth 100000 in
set_option maxHeartbeats 2000000 in
theorem refnote_1 (iv : Int) (pa : Option Addr) (pn pc : Nat) (nv : Value) (a b lo hi : Int) (w : World) (hiv : 1 ≤ iv) (hiv2 : iv ≤ 1000) (hp1 : 1 ≤ pn) (hp8 : pn ≤ 8) :
    Calls Tryz.prog 61 #[.agg #[.int .i64 iv, .slice pa pn pc, nv], .agg #[.int .i64 1, .int .i64 a, .int .i64 b, .int .i64 lo, .int .i64 hi]] w fun e w' => e = .returned (.int .i64 (noteErr iv pn ⟨1, a, b, lo, hi⟩)) ∧ Below w.heap.size w w' := by
  have p1 : (1 : Int) ≤ (pn : Int) := by omega
  have p8 : (pn : Int) ≤ 8 := by omega
  have dk : (decide ((1 : Int) ≤ 1) && decide ((1 : Int) ≤ 4)) = true := by decide
  have hK : kindB ⟨1, a, b, lo, hi⟩ = true := rfl
  by_cases ha : 0 ≤ a ∧ a ≤ (pn : Int) - 1
  · have da : (decide (0 ≤ a) && decide (a ≤ (pn : Int) - 1)) = true := by simp; omega
    by_cases hb : 0 ≤ b ∧ b ≤ (pn : Int) - 1
    · have db : (decide (0 ≤ b) && decide (b ≤ (pn : Int) - 1)) = true := by simp; omega
      have hab : withinB 0 ((pn : Int) - 1) [a, b] = true := by simp [withinB]; omega
      by_cases hx : b ≠ 0
      · have HE : Hid (noteErr iv pn ⟨1, a, b, lo, hi⟩ = 2) := ne_2a iv pn _ hK hab (by simp [over]; exact .inr hx)
        have tx : (b != 0) = true := by simp [hx]
        clear hx
        clear ha hb hab hK
        go_enter Tryz.func61, Tryz.ntmps61
        go_wp2_with fail
        refine (in_any _ _ _ _).mono ?_
        rintro e w' ⟨rfl, rfl⟩
        rw [dk]
        go_wp2_with fail
        refine (in_any _ _ _ _).mono ?_
        rintro e w' ⟨rfl, rfl⟩
        rw [da]
        go_wp2_with fail
        refine (in_any _ _ _ _).mono ?_
        rintro e w' ⟨rfl, rfl⟩
        rw [db]
        go_wp2
        go_ret
        exact ⟨by rw [HE.out]; rfl, by go_grown⟩
      · have HE := Lib.hid (noteErr_rng iv pn ⟨1, a, b, lo, hi⟩ hK hab (by simp [over]; omega))
        obtain rfl : b = 0 := by omega
        clear hx
        clear ha hb hab hK
        have HZ : Hid (noteErr iv pn ⟨1, a, 0, lo, hi⟩ = rngE lo hi 0 9000) := by
          have h := HE.out
          show _ = _
          rw [h]
          simp [endLo, endHi]
          exact fun h => h.symm
        go_enter Tryz.func61, Tryz.ntmps61
        go_wp2_with fail
        refine (in_any _ _ _ _).mono ?_
        rintro e w' ⟨rfl, rfl⟩
        rw [dk]
        go_wp2_with fail
        refine (in_any _ _ _ _).mono ?_
        rintro e w' ⟨rfl, rfl⟩
        rw [da]
        go_wp2_with fail
        refine (in_any _ _ _ _).mono ?_
        rintro e w' ⟨rfl, rfl⟩
        rw [db]
        go_wp2_with fail
        refine (range_any lo hi 0 9000 _).mono ?_
        rintro e w' ⟨rfl, hb⟩
        have HB : Hid (Below w.heap.size w w') := Below.trans (by go_grown) (hb.mono (by simp; omega))
        clear hb
        go_wp2
        go_ret
        exact ⟨by rw [HZ.out]; rfl, HB.out⟩
    · have db : (decide (0 ≤ b) && decide (b ≤ (pn : Int) - 1)) = false := by simp; omega
      have HE : Hid (noteErr iv pn ⟨1, a, b, lo, hi⟩ = 4) := ne_4 iv pn _ hK (by simp [withinB]; omega)
      clear ha hb hK
      go_enter Tryz.func61, Tryz.ntmps61
      go_wp2_with fail
      refine (in_any _ _ _ _).mono ?_
      rintro e w' ⟨rfl, rfl⟩
      rw [dk]
      go_wp2_with fail
      refine (in_any _ _ _ _).mono ?_
      rintro e w' ⟨rfl, rfl⟩
      rw [da]
      go_wp2_with fail
      refine (in_any _ _ _ _).mono ?_
      rintro e w' ⟨rfl, rfl⟩
      rw [db]
      go_wp2
      go_ret
      exact ⟨by rw [HE.out]; rfl, by go_grown⟩
  · have da : (decide (0 ≤ a) && decide (a ≤ (pn : Int) - 1)) = false := by simp; omega
    have HE : Hid (noteErr iv pn ⟨1, a, b, lo, hi⟩ = 4) := ne_4 iv pn _ hK (by simp [withinB]; omega)
    clear ha hK
    go_enter Tryz.func61, Tryz.ntmps61
    go_wp2_with fail
    refine (in_any _ _ _ _).mono ?_
    rintro e w' ⟨rfl, rfl⟩
    rw [dk]
    go_wp2_with fail
    refine (in_any _ _ _ _).mono ?_
    rintro e w' ⟨rfl, rfl⟩
    rw [da]
    go_wp2
    go_ret
    exact ⟨by rw [HE.out]; rfl, by go_grown⟩

set_option maxRecDepth 100000 in
set_option maxHeartbeats 2000000 in
theorem refnote_2 (iv : Int) (pa : Option Addr) (pn pc : Nat) (nv : Value) (a b lo hi : Int) (w : World) (hiv : 1 ≤ iv) (hiv2 : iv ≤ 1000) (hp1 : 1 ≤ pn) (hp8 : pn ≤ 8) :
    Calls Tryz.prog 61 #[.agg #[.int .i64 iv, .slice pa pn pc, nv], .agg #[.int .i64 2, .int .i64 a, .int .i64 b, .int .i64 lo, .int .i64 hi]] w fun e w' => e = .returned (.int .i64 (noteErr iv pn ⟨2, a, b, lo, hi⟩)) ∧ Below w.heap.size w w' := by
  have p1 : (1 : Int) ≤ (pn : Int) := by omega
  have p8 : (pn : Int) ≤ 8 := by omega
  have dk : (decide ((1 : Int) ≤ 2) && decide ((2 : Int) ≤ 4)) = true := by decide
  have hK : kindB ⟨2, a, b, lo, hi⟩ = true := rfl
  by_cases ha : 0 ≤ a ∧ a ≤ (pn : Int) - 1
  · have da : (decide (0 ≤ a) && decide (a ≤ (pn : Int) - 1)) = true := by simp; omega
    by_cases hb : 0 ≤ b ∧ b ≤ (pn : Int) - 1
    · have db : (decide (0 ≤ b) && decide (b ≤ (pn : Int) - 1)) = true := by simp; omega
      have hab : withinB 0 ((pn : Int) - 1) [a, b] = true := by simp [withinB]; omega
      by_cases hx : b ≠ 0
      · have HE : Hid (noteErr iv pn ⟨2, a, b, lo, hi⟩ = 2) := ne_2a iv pn _ hK hab (by simp [over]; exact .inr hx)
        have tx : (b != 0) = true := by simp [hx]
        clear hx
        clear ha hb hab hK
        go_enter Tryz.func61, Tryz.ntmps61
        go_wp2_with fail
        refine (in_any _ _ _ _).mono ?_
        rintro e w' ⟨rfl, rfl⟩
        rw [dk]
        go_wp2_with fail
        refine (in_any _ _ _ _).mono ?_
        rintro e w' ⟨rfl, rfl⟩
        rw [da]
        go_wp2_with fail
        refine (in_any _ _ _ _).mono ?_
        rintro e w' ⟨rfl, rfl⟩
        rw [db]
        go_wp2
        go_ret
        exact ⟨by rw [HE.out]; rfl, by go_grown⟩
      · have HE := Lib.hid (noteErr_rng iv pn ⟨2, a, b, lo, hi⟩ hK hab (by simp [over]; omega))
        obtain rfl : b = 0 := by omega
        clear hx
        clear ha hb hab hK
        have HZ : Hid (noteErr iv pn ⟨2, a, 0, lo, hi⟩ = if rngE lo hi 0 (9000 / iv) ≠ 0 then rngE lo hi 0 (9000 / iv) else if lo = hi then 2 else 0) := by
          have h := HE.out
          show _ = _
          rw [h]
          simp [endLo, endHi]
        clear HE
        go_enter Tryz.func61, Tryz.ntmps61
        go_wp2_with fail
        refine (in_any _ _ _ _).mono ?_
        rintro e w' ⟨rfl, rfl⟩
        rw [dk]
        go_wp2_with fail
        refine (in_any _ _ _ _).mono ?_
        rintro e w' ⟨rfl, rfl⟩
        rw [da]
        go_wp2_with fail
        refine (in_any _ _ _ _).mono ?_
        rintro e w' ⟨rfl, rfl⟩
        rw [db]
        go_wp2_with fail
        go_region_with (first
          | (go_at_call 97; refine (range_any lo hi 0 (9000 / iv) _).mono ?_; rintro e w' ⟨rfl, hb⟩))
        all_goals
          have hA := (hb.block (w.heap.size + 1) (by simp)).trans (heap_alloc2_new w (Obj.cells #[.int .i64 iv, .slice pa pn pc, nv] 25) (Obj.cells #[.int .i64 2, .int .i64 a, .int .i64 0, .int .i64 lo, .int .i64 hi] 67))
          have c3 := cellOf hA 3 _ rfl
          have c4 := cellOf hA 4 _ rfl
          have HB : Hid (Below w.heap.size w w') := Below.trans (by go_grown) (hb.mono (by simp; omega))
          obtain ⟨r, hr⟩ : ∃ r, Hid (r = rngE lo hi 0 (9000 / iv)) := ⟨_, rfl⟩
          rw [← hr.out]
          clear hb hA
          by_cases h0 : r = 0
          · have t0 : (r == 0) = true := by simp [h0]
            by_cases hl : lo = hi
            · have tl : (lo == hi) = true := by simp [hl]
              have HF : Hid (noteErr iv pn ⟨2, a, 0, lo, hi⟩ = 2) := by show _ = _; rw [HZ.out, ← hr.out, if_neg (by simp [h0]), if_pos hl]
              clear h0 hl
              go_wp2
              go_ret
              exact ⟨by rw [HF.out]; rfl, HB.out⟩
            · have tl : (lo == hi) = false := by simp [hl]
              have HF : Hid (noteErr iv pn ⟨2, a, 0, lo, hi⟩ = r) := by show _ = _; rw [HZ.out, ← hr.out, if_neg (by simp [h0]), if_neg hl, h0]
              clear h0 hl
              go_wp2
              go_ret
              exact ⟨by rw [HF.out]; rfl, HB.out⟩
          · have t0 : (r == 0) = false := by simp [h0]
            have HF : Hid (noteErr iv pn ⟨2, a, 0, lo, hi⟩ = r) := by show _ = _; rw [HZ.out, ← hr.out, if_pos h0]
            clear h0
            go_wp2
            go_ret
            exact ⟨by rw [HF.out]; rfl, HB.out⟩
    · have db : (decide (0 ≤ b) && decide (b ≤ (pn : Int) - 1)) = false := by simp; omega
      have HE : Hid (noteErr iv pn ⟨2, a, b, lo, hi⟩ = 4) := ne_4 iv pn _ hK (by simp [withinB]; omega)
      clear ha hb hK
      go_enter Tryz.func61, Tryz.ntmps61
      go_wp2_with fail
      refine (in_any _ _ _ _).mono ?_
      rintro e w' ⟨rfl, rfl⟩
      rw [dk]
      go_wp2_with fail
      refine (in_any _ _ _ _).mono ?_
      rintro e w' ⟨rfl, rfl⟩
      rw [da]
      go_wp2_with fail
      refine (in_any _ _ _ _).mono ?_
      rintro e w' ⟨rfl, rfl⟩
      rw [db]
      go_wp2
      go_ret
      exact ⟨by rw [HE.out]; rfl, by go_grown⟩
  · have da : (decide (0 ≤ a) && decide (a ≤ (pn : Int) - 1)) = false := by simp; omega
    have HE : Hid (noteErr iv pn ⟨2, a, b, lo, hi⟩ = 4) := ne_4 iv pn _ hK (by simp [withinB]; omega)
    clear ha hK
    go_enter Tryz.func61, Tryz.ntmps61
    go_wp2_with fail
    refine (in_any _ _ _ _).mono ?_
    rintro e w' ⟨rfl, rfl⟩
    rw [dk]
    go_wp2_with fail
    refine (in_any _ _ _ _).mono ?_
    rintro e w' ⟨rfl, rfl⟩
    rw [da]
    go_wp2
    go_ret
    exact ⟨by rw [HE.out]; rfl, by go_grown⟩

set_option maxRecDepth 100000 in
set_option maxHeartbeats 2000000 in
theorem refnote_3 (iv : Int) (pa : Option Addr) (pn pc : Nat) (nv : Value) (a b lo hi : Int) (w : World) (hiv : 1 ≤ iv) (hiv2 : iv ≤ 1000) (hp1 : 1 ≤ pn) (hp8 : pn ≤ 8) :
    Calls Tryz.prog 61 #[.agg #[.int .i64 iv, .slice pa pn pc, nv], .agg #[.int .i64 3, .int .i64 a, .int .i64 b, .int .i64 lo, .int .i64 hi]] w fun e w' => e = .returned (.int .i64 (noteErr iv pn ⟨3, a, b, lo, hi⟩)) ∧ Below w.heap.size w w' := by
  have p1 : (1 : Int) ≤ (pn : Int) := by omega
  have p8 : (pn : Int) ≤ 8 := by omega
  have dk : (decide ((1 : Int) ≤ 3) && decide ((3 : Int) ≤ 4)) = true := by decide
  have hK : kindB ⟨3, a, b, lo, hi⟩ = true := rfl
  by_cases ha : 0 ≤ a ∧ a ≤ (pn : Int) - 1
  · have da : (decide (0 ≤ a) && decide (a ≤ (pn : Int) - 1)) = true := by simp; omega
    by_cases hb : 0 ≤ b ∧ b ≤ (pn : Int) - 1
    · have db : (decide (0 ≤ b) && decide (b ≤ (pn : Int) - 1)) = true := by simp; omega
      have hab : withinB 0 ((pn : Int) - 1) [a, b] = true := by simp [withinB]; omega
      by_cases hx : b = a
      · have HE : Hid (noteErr iv pn ⟨3, a, b, lo, hi⟩ = 2) := ne_2a iv pn _ hK hab (by simp [over]; exact .inl hx)
        subst hx
        clear ha hb hab hK
        go_enter Tryz.func61, Tryz.ntmps61
        go_wp2_with fail
        refine (in_any _ _ _ _).mono ?_
        rintro e w' ⟨rfl, rfl⟩
        rw [dk]
        go_wp2_with fail
        refine (in_any _ _ _ _).mono ?_
        rintro e w' ⟨rfl, rfl⟩
        rw [da]
        go_wp2_with fail
        refine (in_any _ _ _ _).mono ?_
        rintro e w' ⟨rfl, rfl⟩
        rw [db]
        go_wp2
        go_ret
        exact ⟨by rw [HE.out]; rfl, by go_grown⟩
      · have HE := Lib.hid (noteErr_rng iv pn ⟨3, a, b, lo, hi⟩ hK hab (by simp [over]; exact ⟨hx, fun h => by omega⟩))
        have tx : (a == b) = false := by simp; exact fun h => hx h.symm
        clear hx
        clear ha hb hab hK
        have HZ : Hid (noteErr iv pn ⟨3, a, b, lo, hi⟩ = rngE lo hi 0 0) := by
          have h := HE.out
          show _ = _
          rw [h]
          simp [endLo, endHi]
          exact fun h => h.symm
        go_enter Tryz.func61, Tryz.ntmps61
        go_wp2_with fail
        refine (in_any _ _ _ _).mono ?_
        rintro e w' ⟨rfl, rfl⟩
        rw [dk]
        go_wp2_with fail
        refine (in_any _ _ _ _).mono ?_
        rintro e w' ⟨rfl, rfl⟩
        rw [da]
        go_wp2_with fail
        refine (in_any _ _ _ _).mono ?_
        rintro e w' ⟨rfl, rfl⟩
        rw [db]
        go_wp2_with fail
        refine (range_any lo hi 0 0 _).mono ?_
        rintro e w' ⟨rfl, hb⟩
        have HB : Hid (Below w.heap.size w w') := Below.trans (by go_grown) (hb.mono (by simp; omega))
        clear hb
        go_wp2
        go_ret
        exact ⟨by rw [HZ.out]; rfl, HB.out⟩
    · have db : (decide (0 ≤ b) && decide (b ≤ (pn : Int) - 1)) = false := by simp; omega
      have HE : Hid (noteErr iv pn ⟨3, a, b, lo, hi⟩ = 4) := ne_4 iv pn _ hK (by simp [withinB]; omega)
      clear ha hb hK
      go_enter Tryz.func61, Tryz.ntmps61
      go_wp2_with fail
      refine (in_any _ _ _ _).mono ?_
      rintro e w' ⟨rfl, rfl⟩
      rw [dk]
      go_wp2_with fail
      refine (in_any _ _ _ _).mono ?_
      rintro e w' ⟨rfl, rfl⟩
      rw [da]
      go_wp2_with fail
      refine (in_any _ _ _ _).mono ?_
      rintro e w' ⟨rfl, rfl⟩
      rw [db]
      go_wp2
      go_ret
      exact ⟨by rw [HE.out]; rfl, by go_grown⟩
  · have da : (decide (0 ≤ a) && decide (a ≤ (pn : Int) - 1)) = false := by simp; omega
    have HE : Hid (noteErr iv pn ⟨3, a, b, lo, hi⟩ = 4) := ne_4 iv pn _ hK (by simp [withinB]; omega)
    clear ha hK
    go_enter Tryz.func61, Tryz.ntmps61
    go_wp2_with fail
    refine (in_any _ _ _ _).mono ?_
    rintro e w' ⟨rfl, rfl⟩
    rw [dk]
    go_wp2_with fail
    refine (in_any _ _ _ _).mono ?_
    rintro e w' ⟨rfl, rfl⟩
    rw [da]
    go_wp2
    go_ret
    exact ⟨by rw [HE.out]; rfl, by go_grown⟩

set_option maxRecDepth 100000 in
set_option maxHeartbeats 2000000 in
theorem refnote_4 (iv : Int) (pa : Option Addr) (pn pc : Nat) (nv : Value) (a b lo hi : Int) (w : World) (hiv : 1 ≤ iv) (hiv2 : iv ≤ 1000) (hp1 : 1 ≤ pn) (hp8 : pn ≤ 8) :
    Calls Tryz.prog 61 #[.agg #[.int .i64 iv, .slice pa pn pc, nv], .agg #[.int .i64 4, .int .i64 a, .int .i64 b, .int .i64 lo, .int .i64 hi]] w fun e w' => e = .returned (.int .i64 (noteErr iv pn ⟨4, a, b, lo, hi⟩)) ∧ Below w.heap.size w w' := by
  have p1 : (1 : Int) ≤ (pn : Int) := by omega
  have p8 : (pn : Int) ≤ 8 := by omega
  have dk : (decide ((1 : Int) ≤ 4) && decide ((4 : Int) ≤ 4)) = true := by decide
  have hK : kindB ⟨4, a, b, lo, hi⟩ = true := rfl
  by_cases ha : 0 ≤ a ∧ a ≤ (pn : Int) - 1
  · have da : (decide (0 ≤ a) && decide (a ≤ (pn : Int) - 1)) = true := by simp; omega
    by_cases hb : 0 ≤ b ∧ b ≤ (pn : Int) - 1
    · have db : (decide (0 ≤ b) && decide (b ≤ (pn : Int) - 1)) = true := by simp; omega
      have hab : withinB 0 ((pn : Int) - 1) [a, b] = true := by simp [withinB]; omega
      by_cases hx : b = a
      · have HE : Hid (noteErr iv pn ⟨4, a, b, lo, hi⟩ = 2) := ne_2a iv pn _ hK hab (by simp [over]; exact .inl hx)
        subst hx
        clear ha hb hab hK
        go_enter Tryz.func61, Tryz.ntmps61
        go_wp2_with fail
        refine (in_any _ _ _ _).mono ?_
        rintro e w' ⟨rfl, rfl⟩
        rw [dk]
        go_wp2_with fail
        refine (in_any _ _ _ _).mono ?_
        rintro e w' ⟨rfl, rfl⟩
        rw [da]
        go_wp2_with fail
        refine (in_any _ _ _ _).mono ?_
        rintro e w' ⟨rfl, rfl⟩
        rw [db]
        go_wp2
        go_ret
        exact ⟨by rw [HE.out]; rfl, by go_grown⟩
      · have HE := Lib.hid (noteErr_rng iv pn ⟨4, a, b, lo, hi⟩ hK hab (by simp [over]; exact ⟨hx, fun h => by omega⟩))
        have tx : (a == b) = false := by simp; exact fun h => hx h.symm
        clear hx
        clear ha hb hab hK
        have HZ : Hid (noteErr iv pn ⟨4, a, b, lo, hi⟩ = rngE lo hi (-9000) 9000) := by
          have h := HE.out
          show _ = _
          rw [h]
          simp [endLo, endHi]
          exact fun h => h.symm
        go_enter Tryz.func61, Tryz.ntmps61
        go_wp2_with fail
        refine (in_any _ _ _ _).mono ?_
        rintro e w' ⟨rfl, rfl⟩
        rw [dk]
        go_wp2_with fail
        refine (in_any _ _ _ _).mono ?_
        rintro e w' ⟨rfl, rfl⟩
        rw [da]
        go_wp2_with fail
        refine (in_any _ _ _ _).mono ?_
        rintro e w' ⟨rfl, rfl⟩
        rw [db]
        go_wp2_with fail
        refine (range_any lo hi (-9000) 9000 _).mono ?_
        rintro e w' ⟨rfl, hb⟩
        have HB : Hid (Below w.heap.size w w') := Below.trans (by go_grown) (hb.mono (by simp; omega))
        clear hb
        go_wp2
        go_ret
        exact ⟨by rw [HZ.out]; rfl, HB.out⟩
    · have db : (decide (0 ≤ b) && decide (b ≤ (pn : Int) - 1)) = false := by simp; omega
      have HE : Hid (noteErr iv pn ⟨4, a, b, lo, hi⟩ = 4) := ne_4 iv pn _ hK (by simp [withinB]; omega)
      clear ha hb hK
      go_enter Tryz.func61, Tryz.ntmps61
      go_wp2_with fail
      refine (in_any _ _ _ _).mono ?_
      rintro e w' ⟨rfl, rfl⟩
      rw [dk]
      go_wp2_with fail
      refine (in_any _ _ _ _).mono ?_
      rintro e w' ⟨rfl, rfl⟩
      rw [da]
      go_wp2_with fail
      refine (in_any _ _ _ _).mono ?_
      rintro e w' ⟨rfl, rfl⟩
      rw [db]
      go_wp2
      go_ret
      exact ⟨by rw [HE.out]; rfl, by go_grown⟩
  · have da : (decide (0 ≤ a) && decide (a ≤ (pn : Int) - 1)) = false := by simp; omega
    have HE : Hid (noteErr iv pn ⟨4, a, b, lo, hi⟩ = 4) := ne_4 iv pn _ hK (by simp [withinB]; omega)
    clear ha hK
    go_enter Tryz.func61, Tryz.ntmps61
    go_wp2_with fail
    refine (in_any _ _ _ _).mono ?_
    rintro e w' ⟨rfl, rfl⟩
    rw [dk]
    go_wp2_with fail
    refine (in_any _ _ _ _).mono ?_
    rintro e w' ⟨rfl, rfl⟩
    rw [da]
    go_wp2
    go_ret
    exact ⟨by rw [HE.out]; rfl, by go_grown⟩

set_option maxHeartbeats 1000000 in
theorem refnote_o (iv : Int) (pa : Option Addr) (pn pc : Nat) (nv : Value) (x : Note) (w : World) (hk : kindB x = false) :
    Calls Tryz.prog 61 #[.agg #[.int .i64 iv, .slice pa pn pc, nv], noteV x] w fun e w' => e = .returned (.int .i64 (noteErr iv pn x)) ∧ Below w.heap.size w w' := by
  have HE := Lib.hid (ne_6 iv pn x hk)
  have dk : (decide (1 ≤ x.k) && decide (x.k ≤ 4)) = false := hk
  clear hk
  go_enter Tryz.func61, Tryz.ntmps61
  go_wp2_with fail
  refine (in_any _ _ _ _).mono ?_
  rintro e w' ⟨rfl, rfl⟩
  rw [dk]
  go_wp2
  go_ret
  exact ⟨by rw [HE.out]; rfl, by go_grown⟩
theorem refnote_any (iv : Int) (pa : Option Addr) (pn pc : Nat) (nv : Value) (x : Note) (w : World) (hiv : 1 ≤ iv) (hiv2 : iv ≤ 1000) (hp1 : 1 ≤ pn) (hp8 : pn ≤ 8) :
    Calls Tryz.prog 61 #[.agg #[.int .i64 iv, .slice pa pn pc, nv], noteV x] w fun e w' => e = .returned (.int .i64 (noteErr iv pn x)) ∧ Below w.heap.size w w' := by
  cases hk : kindB x
  · exact refnote_o iv pa pn pc nv x w hk
  · obtain ⟨k, a, b, lo, hi⟩ := x
    have : k = 1 ∨ k = 2 ∨ k = 3 ∨ k = 4 := by unfold kindB at hk; simp at hk; omega
    rcases this with rfl | rfl | rfl | rfl
    · exact refnote_1 iv pa pn pc nv a b lo hi w hiv hiv2 hp1 hp8
    · exact refnote_2 iv pa pn pc nv a b lo hi w hiv hiv2 hp1 hp8
    · exact refnote_3 iv pa pn pc nv a b lo hi w hiv hiv2 hp1 hp8
    · exact refnote_4 iv pa pn pc nv a b lo hi w hiv hiv2 hp1 hp8
end Go.Proofs.YtacmaddjpaebfaaGreatDoor
/- Check of the reference of package sheet. -/
namespace Go.Proofs.YtacmaddjpaebfaaGreatDoor
open Go Go.RowKit Hs

theorem quiet_same {P : Program} {f : FuncId} {args : Array Value} {w : World} {n : Nat} {v : Value}
    (h : Calls P f args (w.drewN n) fun e w' => e = .returned v ∧ w.drewN n = w') : Calls P f args (w.drewN n) fun e w'' => e = .returned v ∧ ∃ m, w'' = w.drewN m :=
  h.mono fun _ _ ⟨he, hm⟩ => ⟨he, n, hm.symm⟩
theorem StrsAt.head {n : Nat} {w : World} {a : Option Addr} {cap : Nat} {l : List ByteArray} {m : Nat} (hm : m = l.length) (h : StrsAt n w (.slice a m cap) l) {k : Nat} (hk : k ≤ l.length) : StrsAt n w (.slice a k cap) (l.take k) := by
  subst hm
  obtain ⟨h1, a', c', e, h2⟩ := h
  simp only [Value.slice.injEq, true_and] at e
  obtain ⟨rfl, rfl⟩ := e
  have hl : (l.take k).length = k := by rw [List.length_take]; omega
  refine ⟨by omega, a, cap, by rw [hl], fun hne => ?_⟩
  obtain ⟨b, o, rfl, hb, hc⟩ := h2 (by rintro rfl; simp at hne)
  refine ⟨b, o, rfl, hb, fun j hj => ?_⟩
  rw [hc j (by omega), List.getElem_take]
theorem byts_take (l : List ByteArray) (k : Nat) : byts (l.take k) = (byts l).take k := by unfold byts; rw [List.map_take]

set_option maxRecDepth 100000 in
set_option maxHeartbeats 4000000 in
theorem rcheck_any (s : Sheet) (pv nv : Value) (w : World) (hS : SheetAt w.heap.size w pv nv s) (hcap : CapOk pv) :
    Calls Tryz.prog 16 #[.agg #[.int .i64 s.iv, pv, nv]] w fun e w' => e = .returned (.tuple #[.int .i64 (checkS s).1, .int .i64 (checkS s).2.1, .int .i64 (checkS s).2.2]) ∧ Below w.heap.size w w' := by
  obtain ⟨iv, pts, notes⟩ := s
  obtain ⟨hP, hN, hsz⟩ := hS
  obtain ⟨lp, pa, pc, rfl, _⟩ := id hP
  obtain ⟨ln, na, nc, rfl, _⟩ := id hN
  simp only at hP hN hsz lp ln ⊢
  obtain ⟨_, _, _, e, hpc⟩ := hcap
  simp only [Value.slice.injEq] at e
  obtain ⟨rfl, rfl, rfl⟩ := e
  have HP := Lib.hid hP
  have HN := Lib.hid hN
  have HZ := Lib.hid hsz
  clear hP hN hsz
  have lp' : (pts.length : Int) ≤ 4611686018427387904 := by omega
  have ln' : (notes.length : Int) ≤ 4611686018427387904 := by omega
  have hB0 : Below w.heap.size w (w.alloc (Obj.cells #[.int .i64 iv, .slice pa pts.length pc, .slice na notes.length nc] 25)) := by go_grown
  have hA0 := heap_alloc_new w (Obj.cells #[.int .i64 iv, .slice pa pts.length pc, .slice na notes.length nc] 25)
  have HB0 := Lib.hid hB0
  have HA0 := Lib.hid hA0
  clear hA0 hB0
  by_cases h1 : 1 ≤ iv ∧ iv ≤ 1000
  · have d1 : (decide ((1 : Int) ≤ iv) && decide (iv ≤ 1000)) = true := by simp; omega
    by_cases h2 : 1 ≤ pts.length ∧ pts.length ≤ 8
    · have d2 : (decide ((1 : Int) ≤ (pts.length : Int)) && decide ((pts.length : Int) ≤ 8)) = true := by simp; omega
      go_enter Tryz.func16, Tryz.ntmps16
      go_wp2_with fail
      refine (in_any _ _ _ _).mono ?_
      rintro e w' ⟨rfl, rfl⟩
      rw [d1]
      go_wp2_with fail
      refine (in_any _ _ _ _).mono ?_
      rintro e w' ⟨rfl, rfl⟩
      rw [d2]
      clear d1 d2
      go_wp2_with fail
      generalize w.alloc (Obj.cells #[.int .i64 iv, .slice pa pts.length pc, .slice na notes.length nc] 25) = W at *
      have hsz := HB0.out.size
      have hWlt := lt_of_block HA0.out
      go_loopw [5] (fun i wr => ∃ k : Nat, k ≤ pts.length ∧ i = .int .i64 k ∧ Hid ((∀ j, j < k → ptErr pts j = 0) ∧ Below W.heap.size W wr)) (fun i _ => pts.length - (intOf i).toNat)
      case atStart => exact ⟨0, Nat.zero_le _, rfl, fun j hj => by omega, Below.refl _ _⟩
      case round =>
        obtain ⟨k, hk, rfl, HR⟩ := hrel
        have hAr := (HR.out.2.block _ hWlt).trans HA0.out
        have a0 := cellOf hAr 0 _ rfl
        have a1 := cellOf hAr 1 _ rfl
        have a2 := cellOf hAr 2 _ rfl
        have hP := HP.out.below (HB0.out.trans (HR.out.2.mono hsz))
        have HPr := Lib.hid (hP.mono (n' := wr.heap.size) (by have := HR.out.2.size; omega))
        have HB := Lib.hid HR.out.2
        clear hAr hP
        by_cases hlt : k < pts.length
        · obtain ⟨_, a', c', e', hcc⟩ := HPr.out
          simp only [Value.slice.injEq, true_and] at e'
          obtain ⟨rfl, rfl⟩ := e'
          obtain ⟨b, o, rfl, hb, hcc⟩ := hcc (by intro e; simp [e] at hlt)
          have hck := hcc k hlt
          have hs := HZ.out pts[k] (List.getElem_mem hlt)
          have HF : Hid (∀ n, Calls Tryz.prog 60 #[.string pts[k], .slice (some ⟨b, o, none⟩) k pc] (wr.drewN n) fun e w'' => e = .returned (.int .i64 (ptErr pts k)) ∧ ∃ m, w'' = wr.drewN m) := fun n => by
            have h := fresh_any pts[k] (.slice (some ⟨b, o, none⟩) k pc) (pts.take k) (wr.drewN n) hs (HPr.out.head rfl hk)
            rw [byts_take] at h
            have e : ptErr pts k = nameErr ((byts pts).take k) pts[k].data.toList := by
              unfold ptErr byts
              simp [List.getD_eq_getElem?_getD, hlt]
            rw [← e] at h
            exact quiet_same h
          have kc : (k : Int) ≤ (pc : Int) := by omega
          have kl : (k : Int) < (pts.length : Int) := by omega
          clear hcc
          generalize pts[k] = y at *
          obtain ⟨r, hr⟩ : ∃ r, Hid (r = ptErr pts k) := ⟨_, rfl⟩
          rw [← hr.out] at HF
          go_wp2_with fail
          go_quiet ((go_at_call 60; exact HF.out _))
          have HB2 : Hid (Below W.heap.size W (wr.drewN nq)) := HB.out.trans ⟨rfl, rfl, rfl, Nat.le_refl _, fun _ _ => rfl⟩
          clear a0 a1 a2 hck
          by_cases hz : r = 0
          · have tz : (r != 0) = false := by simp [hz]
            have hn1 : Hid ((∀ j, j < k + 1 → ptErr pts j = 0) ∧ Below W.heap.size W (wr.drewN nq)) := by
              refine ⟨fun j hj => ?_, HB2.out⟩
              rcases Nat.lt_or_ge j k with g | g
              · exact HR.out.1 j g
              · obtain rfl : j = k := by omega
                rw [← hr.out, hz]
            clear hz HR
            go_wp2
            go_roundw
            case rel => exact ⟨k + 1, by omega, by go_num, hn1⟩
            case measure => simp [intOf]; omega
          · have tz : (r != 0) = true := by simp [hz]
            have hfin : Hid (checkS ⟨iv, pts, notes⟩ = (2, (k : Int), r)) := by
              have h := firstBad_at (ptErr pts) pts.length k hlt HR.out.1 (by rw [← hr.out]; exact hz)
              show _ = _
              unfold checkS
              rw [if_neg (by simp only; omega), if_neg (by simp only; omega), h, if_pos (by rw [← hr.out]; exact hz), ← hr.out]
            clear hz HR
            go_wp2
            go_ret3
            exact ⟨by rw [hfin.out]; rfl, HB0.out.trans (HB2.out.mono hsz)⟩
        · have hno : Hid (∀ j, j < pts.length → ptErr pts j = 0) := fun j hj => HR.out.1 j (by omega)
          have hfd : Hid (checkS ⟨iv, pts, notes⟩ = if 12 < notes.length then (3, 0, 3) else if (firstBad (ntErr iv pts.length notes) notes.length).2 ≠ 0 then (3, (firstBad (ntErr iv pts.length notes) notes.length).1, (firstBad (ntErr iv pts.length notes) notes.length).2) else (0, 0, 0)) := by
            show _ = _
            unfold checkS
            rw [if_neg (by simp only; omega), if_neg (by simp only; omega), firstBad_none _ _ hno.out, if_neg (by simp)]
          clear hno
          by_cases h4 : 12 < notes.length
          · have h4' : (12 : Int) < (notes.length : Int) := by omega
            have hfin : Hid (checkS ⟨iv, pts, notes⟩ = (3, 0, 3)) := by show _ = _; rw [hfd.out, if_pos h4]
            clear h4 HR
            go_wp2
            go_ret3
            exact ⟨by rw [hfin.out]; rfl, HB0.out.trans (HB.out.mono hsz)⟩
          · have h4' : (notes.length : Int) ≤ 12 := by omega
            have hAr := (HB.out.block _ hWlt).trans HA0.out
            have HA2 := Lib.hid hAr
            have HN2 := Lib.hid ((HN.out.below (HB0.out.trans (HB.out.mono hsz))).mono (n' := wr.heap.size) (by have := HB.out.size; omega))
            have hsz2 := HB.out.size
            clear hAr HR HPr
            go_wp2
            clear a0 a1 a2 hlt hk
            have HB5 := Lib.hid (HB0.out.trans (HB.out.mono hsz))
            have hs5 := HB5.out.size
            clear HB
            generalize wr = w5 at *
            go_loopw [7] (fun i wr => ∃ m : Nat, m ≤ notes.length ∧ i = .int .i64 m ∧ Hid ((∀ j, j < m → ntErr iv pts.length notes j = 0) ∧ Below w5.heap.size w5 wr)) (fun i _ => notes.length - (intOf i).toNat)
            case atStart => exact ⟨0, Nat.zero_le _, rfl, fun j hj => by omega, Below.refl _ _⟩
            case round =>
              obtain ⟨m, hm, rfl, HM⟩ := hrel
              have hAr := (HM.out.2.block _ (by omega)).trans HA2.out
              have a0 := cellOf hAr 0 _ rfl
              have a1 := cellOf hAr 1 _ rfl
              have a2 := cellOf hAr 2 _ rfl
              have HQ := Lib.hid HM.out.2
              clear hAr
              by_cases hlt : m < notes.length
              · obtain ⟨_, a', c', e', hcc⟩ := HN2.out
                simp only [Value.slice.injEq, true_and] at e'
                obtain ⟨rfl, rfl⟩ := e'
                obtain ⟨b, o, rfl, hb, hcc⟩ := hcc (by intro e; simp [e] at hlt)
                obtain ⟨g0, g1, g2, g3, g4⟩ := hcc m hlt
                have e0 := (HQ.out.cell (p := ⟨b, o + m * 5, none⟩) hb).trans g0
                have e1 := (HQ.out.cell (p := ⟨b, o + m * 5 + 1, none⟩) hb).trans g1
                have e2 := (HQ.out.cell (p := ⟨b, o + m * 5 + 2, none⟩) hb).trans g2
                have e3 := (HQ.out.cell (p := ⟨b, o + m * 5 + 3, none⟩) hb).trans g3
                have e4 := (HQ.out.cell (p := ⟨b, o + m * 5 + 4, none⟩) hb).trans g4
                have HPE : Hid (ntErr iv pts.length notes m = noteErr iv pts.length notes[m]) := by show _ = _; unfold ntErr; rw [List.getElem?_eq_getElem hlt]
                have ml : (m : Int) < (notes.length : Int) := by omega
                clear hcc g0 g1 g2 g3 g4
                generalize notes[m] = x at *
                go_wp2_with fail
                go_region_with (first
                  | (go_at_call 61; refine (refnote_any iv pa pts.length pc (.slice (some ⟨b, o, none⟩) notes.length nc) x _ h1.1 h1.2 h2.1 h2.2).mono ?_; rintro e w' ⟨rfl, hb1⟩))
                all_goals
                  have HB1 : Hid (Below w5.heap.size w5 w') := (HQ.out.drew).trans (hb1.mono HQ.out.size)
                  obtain ⟨r, hr⟩ : ∃ r, Hid (r = noteErr iv pts.length x) := ⟨_, rfl⟩
                  rw [← hr.out]
                  clear hb1 a0 a1 a2 e0 e1 e2 e3 e4
                  by_cases hz : r = 0
                  · have tz : (r != 0) = false := by simp [hz]
                    have hn1 : Hid ((∀ j, j < m + 1 → ntErr iv pts.length notes j = 0) ∧ Below w5.heap.size w5 w') := by
                      refine ⟨fun j hj => ?_, HB1.out⟩
                      rcases Nat.lt_or_ge j m with g | g
                      · exact HM.out.1 j g
                      · obtain rfl : j = m := by omega
                        rw [HPE.out, ← hr.out, hz]
                    clear hz HM HQ
                    go_wp2
                    go_roundw
                    case rel => exact ⟨m + 1, by omega, by go_num, hn1⟩
                    case measure => simp [intOf]; omega
                  · have tz : (r != 0) = true := by simp [hz]
                    have hfin : Hid (checkS ⟨iv, pts, notes⟩ = (3, (m : Int), r)) := by
                      have h := firstBad_at (ntErr iv pts.length notes) notes.length m hlt HM.out.1 (by rw [HPE.out, ← hr.out]; exact hz)
                      show _ = _
                      rw [hfd.out, if_neg (by omega), h, if_pos (by rw [HPE.out, ← hr.out]; exact hz), HPE.out, ← hr.out]
                    clear hz HM HQ
                    go_wp2
                    go_ret3
                    exact ⟨by rw [hfin.out]; rfl, HB5.out.trans (HB1.out.mono hs5)⟩
              · have hfin : Hid (checkS ⟨iv, pts, notes⟩ = (0, 0, 0)) := by
                  have h := firstBad_none (ntErr iv pts.length notes) notes.length (fun j hj => HM.out.1 j (by omega))
                  show _ = _
                  rw [hfd.out, if_neg (by omega), h, if_neg (by simp)]
                clear HM
                go_wp2
                go_ret3
                exact ⟨by rw [hfin.out]; rfl, HB5.out.trans (HQ.out.mono hs5)⟩
    · have d2 : (decide ((1 : Int) ≤ (pts.length : Int)) && decide ((pts.length : Int) ≤ 8)) = false := by simp; omega
      have hfin : Hid (checkS ⟨iv, pts, notes⟩ = (2, 0, 3)) := by show _ = _; unfold checkS; rw [if_neg (by simp only; omega), if_pos (by simp only; omega)]
      clear h1 h2
      go_enter Tryz.func16, Tryz.ntmps16
      go_wp2_with fail
      refine (in_any _ _ _ _).mono ?_
      rintro e w' ⟨rfl, rfl⟩
      rw [d1]
      go_wp2_with fail
      refine (in_any _ _ _ _).mono ?_
      rintro e w' ⟨rfl, rfl⟩
      rw [d2]
      go_wp2
      go_ret3
      exact ⟨by rw [hfin.out]; rfl, by go_grown⟩
  · have d1 : (decide ((1 : Int) ≤ iv) && decide (iv ≤ 1000)) = false := by simp; omega
    have hfin : Hid (checkS ⟨iv, pts, notes⟩ = (1, 0, 7)) := by show _ = _; unfold checkS; rw [if_pos (by simp only; omega)]
    clear h1
    go_enter Tryz.func16, Tryz.ntmps16
    go_wp2_with fail
    refine (in_any _ _ _ _).mono ?_
    rintro e w' ⟨rfl, rfl⟩
    rw [d1]
    go_wp2
    go_ret3
    exact ⟨by rw [hfin.out]; rfl, by go_grown⟩
end Go.Proofs.YtacmaddjpaebfaaGreatDoor
