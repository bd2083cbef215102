/- The reference of package edge: Wants. -/
import Derived.Test.YtojdocomkhihoaaSName
import Derived.Deep.QuietTactic
import Derived.BigQuiet
import Derived.Deep.RegionWith
import Derived.Deep.RegionHeld3
import Derived.Maps.Own
import Derived.Test.YtojdocomkhihoaaEz
import Derived.Test.YtojdocomkhihoaaFg1
import Derived.Test.YtojdocomkhihoaaLasti
import Derived.Test.YtojdocomkhihoaaAwk
set_option linter.unusedSimpArgs false
set_option linter.unusedVariables false
namespace Go.Proofs.Ytojdocomkhihoaa.Sht
open Go Go.RowKit Hs

/-- The error of a name, behind others. -/
def nameErr (seen : List (List UInt8)) (s : List UInt8) : Int := if nameB s = false then 6 else if s ∈ seen then 5 else 0

/-- A value reads as a list of strings. Its block lies below n. -/
def StrsAt (n : Nat) (w : World) (v : Value) (l : List ByteArray) : Prop :=
  l.length ≤ 4611686018427387904 ∧ ∃ a cap, v = .slice a l.length cap ∧ (l ≠ [] → ∃ b o, a = some ⟨b, o, none⟩ ∧ b < n ∧ ∀ k (h : k < l.length), w.cell? ⟨b, o + k, none⟩ = some (.string l[k]))
theorem StrsAt.keep {n : Nat} {w w' : World} {v : Value} {l : List ByteArray} (h : StrsAt n w v l) (hk : ∀ b o, b < n → w'.cell? ⟨b, o, none⟩ = w.cell? ⟨b, o, none⟩) : StrsAt n w' v l := by
  obtain ⟨h1, a, cap, rfl, h2⟩ := h
  refine ⟨h1, a, cap, rfl, fun hne => ?_⟩
  obtain ⟨b, o, rfl, hb, hc⟩ := h2 hne
  exact ⟨b, o, rfl, hb, fun k hk' => by rw [hk b _ hb]; exact hc k hk'⟩
theorem StrsAt.below {n : Nat} {w w' : World} {v : Value} {l : List ByteArray} (h : StrsAt n w v l) (hb : Below n w w') : StrsAt n w' v l := h.keep fun b o h => hb.cell (p := ⟨b, o, none⟩) h
theorem StrsAt.mono {n n' : Nat} {w : World} {v : Value} {l : List ByteArray} (h : StrsAt n w v l) (hn : n ≤ n') : StrsAt n' w v l := by
  obtain ⟨h1, a, cap, rfl, h2⟩ := h
  refine ⟨h1, a, cap, rfl, fun hne => ?_⟩
  obtain ⟨b, o, rfl, hb, hc⟩ := h2 hne
  exact ⟨b, o, rfl, Nat.lt_of_lt_of_le hb hn, hc⟩

def byts (l : List ByteArray) : List (List UInt8) := l.map (·.data.toList)
set_option maxHeartbeats 400000 in
theorem in_any (n lo hi : Int) (w : World) :
    Calls Try.prog 112 #[.int .i64 n, .int .i64 lo, .int .i64 hi] w fun e w' => e = .returned (.bool (decide (lo ≤ n) && decide (n ≤ hi))) ∧ w = w' := by
  by_cases h1 : lo ≤ n
  · by_cases h2 : n ≤ hi
    · have h3 : (decide (lo ≤ n) && decide (n ≤ hi)) = true := by simp [h1, h2]
      rw [h3]
      clear h3
      go_enter Try.func112, Try.ntmps112
      go_wp2
      go_ret
      exact ⟨rfl, rfl⟩
    · have h3 : (decide (lo ≤ n) && decide (n ≤ hi)) = false := by simp [h2]
      have h4 : decide (n ≤ hi) = false := by simp [h2]
      rw [h3]
      clear h3 h2
      go_enter Try.func112, Try.ntmps112
      go_wp2
      go_ret
      exact ⟨rfl, rfl⟩
  · have h3 : (decide (lo ≤ n) && decide (n ≤ hi)) = false := by simp [h1]
    have h4 : decide (lo ≤ n) = false := by simp [h1]
    rw [h3]
    clear h3 h1
    go_enter Try.func112, Try.ntmps112
    go_wp2
    go_ret
    exact ⟨rfl, rfl⟩

/-- Is a byte a letter, a digit or a hyphen? -/
def chR (c : Nat) : Bool := (decide (97 ≤ c) && decide (c ≤ 122)) || ((decide (48 ≤ c) && decide (c ≤ 57)) || c == 45)
theorem chR_ok (j c : Nat) (hj : j ≠ 0) : chOk j c = chR c := by
  unfold chOk chR
  simp [hj]
theorem chR_no (j c : Nat) (h : chR c = false) : chOk j c = false := by
  unfold chR at h
  unfold chOk
  simp only [Bool.or_eq_false_iff] at h
  simp only [h.1, h.2.1, h.2.2, Bool.false_or, Bool.or_false, Bool.and_false]
set_option maxRecDepth 100000 in
set_option maxHeartbeats 4000000 in
theorem refname_any (s : ByteArray) (w : World) (hs : s.size ≤ 140737488351232) :
    Calls Try.prog 102 #[.string s] w fun e w' => e = .returned (.bool (nameB s.data.toList)) ∧ w = w' := by
  have hlen : s.data.toList.length = s.size := by simp
  have hsx : (s.size : Int) ≤ 140737488351232 := by omega
  by_cases hsz : 1 ≤ s.size ∧ s.size ≤ 16
  · obtain ⟨z1, z2⟩ := hsz
    have hd : (decide ((1 : Int) ≤ (s.size : Int)) && decide ((s.size : Int) ≤ 16)) = true := by simp; omega
    have z0 : 0 < s.size := by omega
    have hget : ∀ k, (h : k < s.size) → s.data.toList.getD k 0 = s[k]'h := fun k h => by
      simp [List.getD_eq_getElem?_getD, h]
      rfl
    by_cases hc0 : 97 ≤ (s[0]'z0).toNat ∧ (s[0]'z0).toNat ≤ 122
    · have HGET := Lib.hid hget
      have HC0 := Lib.hid hc0
      have q1 : (97 : Int) ≤ ((s[0]'z0).toNat : Int) := by omega
      have q2 : ((s[0]'z0).toNat : Int) ≤ 122 := by omega
      clear hget hc0
      go_enter Try.func102, Try.ntmps102
      go_wp2_with fail
      refine (in_any _ _ _ _).mono ?_
      rintro e w' ⟨rfl, rfl⟩
      rw [hd]
      clear hd
      go_wp2
      go_loop [3] (fun i => ∃ k : Nat, k ≤ s.size ∧ i = .int .i64 k ∧ Hid (∀ j, j < k → chR (s.data.toList.getD j 0).toNat = true)) (fun i => s.size - (intOf i).toNat)
      case atStart => exact ⟨0, Nat.zero_le _, rfl, fun j hj => by omega⟩
      case round =>
        obtain ⟨k, hk, rfl, HW⟩ := hrel
        by_cases hlt : k < s.size
        · have HK : Hid (s.data.toList.getD k 0 = s[k]'hlt) := HGET.out k hlt
          clear q1 q2
          have hyes : Hid (chR (s[k]'hlt).toNat = true → ∀ j, j < k + 1 → chR (s.data.toList.getD j 0).toNat = true) := fun hc j hj => by
            rcases Nat.lt_or_ge j k with g | g
            · exact HW.out j g
            · obtain rfl : j = k := by omega
              rw [HK.out]; exact hc
          have hno : Hid (chR (s[k]'hlt).toNat = false → nameB s.data.toList = false) := fun hc => nameB_no _ k (by omega) (by rw [HK.out]; exact chR_no _ _ hc)
          clear HK HW
          refine rune_cases ((s[k]'hlt).toNat : Int) _ ?_ ?_ ?_ ?_ ?_ ?_ ?_
          case refine_1 =>
            intro q1
            have t45 : (((s[k]'hlt).toNat : Int) != 45) = true := by simp; omega
            have hf := Lib.hid (hno.out (by unfold chR; simp; omega))
            clear hyes hno
            go_wp2
            go_ret
            exact ⟨by rw [hf.out]; rfl, rfl⟩
          case refine_2 =>
            intro q1
            have t45 : (((s[k]'hlt).toNat : Int) != 45) = false := by simp; omega
            have q2 : ((s[k]'hlt).toNat : Int) ≤ 45 := by omega
            have q3 : 45 ≤ ((s[k]'hlt).toNat : Int) := by omega
            have hy := Lib.hid (hyes.out (by unfold chR; simp; omega))
            clear hyes hno q1
            go_wp2
            go_round
            case rel => exact ⟨k + 1, by omega, by go_num, hy.out⟩
            case measure => simp [intOf]; omega
          case refine_3 =>
            intro q1 q2
            have t45 : (((s[k]'hlt).toNat : Int) != 45) = true := by simp; omega
            have hf := Lib.hid (hno.out (by unfold chR; simp; omega))
            clear hyes hno
            go_wp2
            go_ret
            exact ⟨by rw [hf.out]; rfl, rfl⟩
          case refine_4 =>
            intro q1 q2
            have t45 : (((s[k]'hlt).toNat : Int) != 45) = true := by simp; omega
            have hy := Lib.hid (hyes.out (by unfold chR; simp; omega))
            clear hyes hno
            go_wp2
            go_round
            case rel => exact ⟨k + 1, by omega, by go_num, hy.out⟩
            case measure => simp [intOf]; omega
          case refine_5 =>
            intro q1 q2
            have t45 : (((s[k]'hlt).toNat : Int) != 45) = true := by simp; omega
            have hf := Lib.hid (hno.out (by unfold chR; simp; omega))
            clear hyes hno
            go_wp2
            go_ret
            exact ⟨by rw [hf.out]; rfl, rfl⟩
          case refine_6 =>
            intro q1 q2
            have hy := Lib.hid (hyes.out (by unfold chR; simp; omega))
            clear hyes hno
            go_wp2
            go_round
            case rel => exact ⟨k + 1, by omega, by go_num, hy.out⟩
            case measure => simp [intOf]; omega
          case refine_7 =>
            intro q1
            have t45 : (((s[k]'hlt).toNat : Int) != 45) = true := by simp; omega
            have hf := Lib.hid (hno.out (by unfold chR; simp; omega))
            clear hyes hno
            go_wp2
            go_ret
            exact ⟨by rw [hf.out]; rfl, rfl⟩
        · clear q1 q2
          go_wp2
          go_ret
          have HT := HC0.out
          exact ⟨by rw [nameB_yes s.data.toList (by omega) (by omega) (fun j hj => by
            have hjs : j < s.size := by omega
            by_cases h0 : j = 0
            · subst h0
              rw [HGET.out 0 z0]
              unfold chOk; simp; omega
            · rw [chR_ok _ _ h0]; exact HW.out j (by omega))]; rfl, rfl⟩
    · have hfin := Lib.hid (nameB_no s.data.toList 0 (by omega) (by rw [hget 0 z0]; unfold chOk; simp; omega))
      clear hget
      by_cases h1 : (s[0]'z0).toNat < 97
      · have q1 : ((s[0]'z0).toNat : Int) < 97 := by omega
        clear h1 hc0
        go_enter Try.func102, Try.ntmps102
        go_wp2_with fail
        refine (in_any _ _ _ _).mono ?_
        rintro e w' ⟨rfl, rfl⟩
        rw [hd]
        clear hd
        go_wp2
        go_ret
        exact ⟨by rw [hfin.out]; rfl, rfl⟩
      · have q1 : (97 : Int) ≤ ((s[0]'z0).toNat : Int) := by omega
        have q2 : (122 : Int) < ((s[0]'z0).toNat : Int) := by omega
        clear h1 hc0
        go_enter Try.func102, Try.ntmps102
        go_wp2_with fail
        refine (in_any _ _ _ _).mono ?_
        rintro e w' ⟨rfl, rfl⟩
        rw [hd]
        clear hd
        go_wp2
        go_ret
        exact ⟨by rw [hfin.out]; rfl, rfl⟩
  · have hd : (decide ((1 : Int) ≤ (s.size : Int)) && decide ((s.size : Int) ≤ 16)) = false := by simp; omega
    have hfin := Lib.hid (nameB_len s.data.toList (by rw [hlen]; exact hsz))
    clear hsz
    go_enter Try.func102, Try.ntmps102
    go_wp2_with fail
    refine (in_any _ _ _ _).mono ?_
    rintro e w' ⟨rfl, rfl⟩
    rw [hd]
    clear hd
    go_wp2
    go_ret
    exact ⟨by rw [hfin.out]; rfl, rfl⟩

theorem str_ne {x y : ByteArray} (h : x ≠ y) : (x.toList == y.toList) = false := by
  rw [ByteArray.toList_eq, ByteArray.toList_eq]
  simpa using fun e => h (Go.WideShapes.bytes_inj e)
/-- The index of the first string of a list that is s, or -1. -/
def PlaceIs (l : List ByteArray) (s : ByteArray) (r : Int) : Prop := (r = -1 ∧ s ∉ l) ∨ ∃ k : Nat, r = k ∧ ∃ h : k < l.length, l[k] = s ∧ ∀ j (hj : j < k), l[j]'(by omega) ≠ s
def PlaceP (l : List ByteArray) (s : ByteArray) (w : World) (e : Ending) (w' : World) : Prop := ∃ r : Int, PlaceIs l s r ∧ e = .returned (.int .i64 r) ∧ w = w'
set_option maxRecDepth 100000 in
set_option maxHeartbeats 1000000 in
theorem place_any (v : Value) (l : List ByteArray) (s : ByteArray) (w : World) (hv : StrsAt w.heap.size w v l) :
    Calls Try.prog 103 #[v, .string s] w (PlaceP l s w) := by
  obtain ⟨hm, a, cap, rfl, hc⟩ := hv
  have HC := Lib.hid hc
  have hm' : (l.length : Int) ≤ 4611686018427387904 := by omega
  clear hc
  go_enter Try.func103, Try.ntmps103
  go_wp2
  go_loop [5] (fun i => ∃ k : Nat, k ≤ l.length ∧ i = .int .i64 k ∧ Hid (∀ j (hj : j < l.length), j < k → l[j] ≠ s)) (fun i => l.length - (intOf i).toNat)
  case atStart => exact ⟨0, Nat.zero_le _, rfl, fun j _ hj => by omega⟩
  case round =>
    obtain ⟨k, hk, rfl, HW⟩ := hrel
    by_cases hlt : k < l.length
    · obtain ⟨b, o, rfl, hb, hcc⟩ := HC.out (by intro e; simp [e] at hlt)
      have hck := hcc k hlt
      have HX : Hid (l[k] = s → PlaceIs l s k) := fun e => .inr ⟨k, rfl, hlt, e, fun j hj => HW.out j (by omega) hj⟩
      have HN : Hid (l[k] ≠ s → ∀ j (hj : j < l.length), j < k + 1 → l[j] ≠ s) := fun hne j hj hjk => by
        rcases Nat.lt_or_ge j k with g | g
        · exact HW.out j hj g
        · obtain rfl : j = k := by omega
          exact hne
      have kI : (k : Int) < (l.length : Int) := by omega
      clear hcc HW
      generalize l[k] = y at *
      by_cases hy : y = s
      · have HY := Lib.hid (HX.out hy)
        subst hy
        clear HX HN
        go_wp2
        go_ret
        exact ⟨_, HY.out, rfl, rfl⟩
      · have HY := Lib.hid (HN.out hy)
        have e1 := str_ne hy
        clear HX HN hy
        go_wp2
        go_round
        case rel => exact ⟨k + 1, by omega, by go_num, HY.out⟩
        case measure => simp [intOf]; omega
    · have hkl : k = l.length := by omega
      have HP : Hid (PlaceIs l s (-1)) := .inl ⟨rfl, fun h => by
        obtain ⟨j, hj, e⟩ := List.getElem_of_mem h
        exact HW.out j hj (by omega) e⟩
      clear hkl
      go_wp2
      go_ret
      exact ⟨_, HP.out, rfl, rfl⟩

theorem nameErr_ref (l : List ByteArray) (s : ByteArray) (r : Int) (h : PlaceIs l s r) : nameErr (byts l) s.data.toList = if nameB s.data.toList = false then 6 else if 0 ≤ r then 5 else 0 := by
  have key : s.data.toList ∈ byts l ↔ 0 ≤ r := by
    unfold byts
    rcases h with ⟨rfl, h⟩ | ⟨k, rfl, hk, e, _⟩
    · simp only [List.mem_map]
      exact ⟨fun ⟨x, hx, e⟩ => absurd (Go.WideShapes.bytes_inj e ▸ hx) h, fun h => by omega⟩
    · exact ⟨fun _ => by omega, fun _ => List.mem_map.2 ⟨l[k], List.getElem_mem hk, by rw [e]⟩⟩
  unfold nameErr
  simp only [key]
set_option maxHeartbeats 400000 in
theorem fresh_any (s : ByteArray) (v : Value) (l : List ByteArray) (w : World) (hs : s.size ≤ 140737488351232) (hv : StrsAt w.heap.size w v l) :
    Calls Try.prog 82 #[.string s, v] w fun e w' => e = .returned (.int .i64 (nameErr (byts l) s.data.toList)) ∧ w = w' := by
  obtain ⟨_, a, cap, rfl, _⟩ := id hv
  have HV := Lib.hid hv
  clear hv
  go_enter Try.func82, Try.ntmps82
  go_wp2_with fail
  refine (refname_any s w hs).mono ?_
  rintro e w' ⟨rfl, rfl⟩
  cases hn : nameB s.data.toList
  · have HE : Hid (nameErr (byts l) s.data.toList = 6) := by show _ = _; unfold nameErr; rw [if_pos hn]
    clear hn
    go_wp2
    go_ret
    exact ⟨by rw [HE.out]; rfl, rfl⟩
  · have HN := Lib.hid hn
    clear hn
    go_wp2_with fail
    refine (place_any _ l s w HV.out).mono ?_
    rintro e w' ⟨r, hr, rfl, rfl⟩
    have HE := Lib.hid (nameErr_ref l s r hr)
    clear hr
    by_cases h0 : 0 ≤ r
    · have HZ : Hid (nameErr (byts l) s.data.toList = 5) := by show _ = _; rw [HE.out, HN.out, if_neg (by decide), if_pos h0]
      go_wp2
      go_ret
      exact ⟨by rw [HZ.out]; rfl, rfl⟩
    · have HZ : Hid (nameErr (byts l) s.data.toList = 0) := by show _ = _; rw [HE.out, HN.out, if_neg (by decide), if_neg h0]
      have h1 : decide (0 ≤ r) = false := by simp [h0]
      clear h0
      go_wp2
      go_ret
      exact ⟨by rw [HZ.out]; rfl, rfl⟩

end Go.Proofs.Ytojdocomkhihoaa.Sht
namespace Go.Proofs.Ytojdocomkhihoaa
open Go Go.RowKit Go.Shelf Ed

set_option maxHeartbeats 400000 in
theorem rin_any (n lo hi : Int) (w : World) :
    Calls Try.prog 51 #[.int .i64 n, .int .i64 lo, .int .i64 hi] w fun e w' => e = .returned (.bool (inB lo hi n)) ∧ w = w' := by
  go_enter Try.func51, Try.ntmps51
  by_cases h : lo ≤ n
  · by_cases h2 : n ≤ hi
    · go_wp2
      go_ret
      exact ⟨by simp [inB, h, h2], rfl⟩
    · have h2' : hi < n := by omega
      go_wp2
      go_ret
      exact ⟨by simp [inB, h, h2], rfl⟩
  · have h' : n < lo := by omega
    go_wp2
    go_ret
    exact ⟨by simp [inB, h]; omega, rfl⟩
/-- What the reference says of a sheet behind names. -/
def rshE (l : List ByteArray) (s : Sht) : Int := if Sht.nameErr (Sht.byts l) s.nm.data.toList ≠ 0 then Sht.nameErr (Sht.byts l) s.nm.data.toList else if inB 0 20 s.wt = false ∨ inB 0 6 s.most = false then 7 else 0
set_option maxRecDepth 100000 in
set_option maxHeartbeats 1000000 in
theorem rsheet_any (s : Sht) (v : Value) (l : List ByteArray) (w : World) (hs : s.nm.size ≤ 140737488351232) (hv : Sht.StrsAt w.heap.size w v l) :
    Calls Try.prog 52 #[.agg #[.string s.nm, .int .i64 s.wt, .int .i64 s.most], v] w fun e w' => e = .returned (.int .i64 (rshE l s)) ∧ Below w.heap.size w w' := by
  obtain ⟨nm, wt, most⟩ := s
  simp only at hs ⊢
  obtain ⟨W, hW⟩ : ∃ W, w.alloc (Obj.cells #[.string nm, .int .i64 wt, .int .i64 most] 66) = W := ⟨_, rfl⟩
  have hb : Below w.heap.size w W := by rw [← hW]; exact (Below.refl _ _).alloc (Nat.le_refl _) _
  have HR : Hid (W.heap[w.heap.size]? = some (Obj.cells #[.string nm, .int .i64 wt, .int .i64 most] 66)) := by show _ = _; rw [← hW]; exact heap_alloc_new w _
  have HF := Lib.hid (Sht.fresh_any nm v l W hs ((hv.below hb).mono hb.size))
  have HW := Lib.hid hW
  have HB := Lib.hid hb
  obtain ⟨fr, hfr⟩ : ∃ x, Sht.nameErr (Sht.byts l) nm.data.toList = x := ⟨_, rfl⟩
  obtain ⟨res, hres⟩ : ∃ x, rshE l ⟨nm, wt, most⟩ = x := ⟨_, rfl⟩
  have HRS : Hid (res = if fr ≠ 0 then fr else if inB 0 20 wt = false ∨ inB 0 6 most = false then 7 else 0) := by show _ = _; rw [← hres, ← hfr]; rfl
  rw [hfr] at HF
  rw [hres]
  clear hW hb hv hfr hres
  go_enter Try.func52, Try.ntmps52
  go_wp2_with fail
  rw [HW.out]
  have c0 := cellOf HR.out 0 _ rfl
  have c1 := cellOf HR.out 1 _ rfl
  have c2 := cellOf HR.out 2 _ rfl
  have cl := lt_of_block HR.out
  go_wp2_with fail
  refine HF.out.mono ?_
  rintro e w' ⟨rfl, rfl⟩
  by_cases hf : fr = 0
  · subst hf
    rw [if_neg (by simp)] at HRS
    go_wp2_with fail
    refine (rin_any wt 0 20 W).mono ?_
    rintro e w' ⟨rfl, rfl⟩
    cases h1 : inB 0 20 wt
    · rw [h1, if_pos (by simp)] at HRS
      obtain rfl := HRS.out
      clear h1
      go_wp2
      go_ret
      exact ⟨rfl, HB.out⟩
    · rw [h1] at HRS
      clear h1
      go_wp2_with fail
      refine (rin_any most 0 6 W).mono ?_
      rintro e w' ⟨rfl, rfl⟩
      cases h2 : inB 0 6 most
      · rw [h2, if_pos (by simp)] at HRS
        obtain rfl := HRS.out
        clear h2
        go_wp2
        go_ret
        exact ⟨rfl, HB.out⟩
      · rw [h2, if_neg (by simp)] at HRS
        obtain rfl := HRS.out
        clear h2
        go_wp2
        go_ret
        exact ⟨rfl, HB.out⟩
  · rw [if_pos hf] at HRS
    obtain rfl := HRS.out
    have hz : (res == 0) = false := by simp [hf]
    go_wp2
    go_ret
    exact ⟨rfl, HB.out⟩
theorem all_take_no (l : List (Int × Int)) (k : Nat) (hk : k < l.length) (h : ptB l[k] = false) : l.all ptB = false := by
  rw [List.all_eq_false]
  exact ⟨l[k], List.getElem_mem hk, by simp [h]⟩
theorem all_take_more (l : List (Int × Int)) (k : Nat) (hk : k < l.length) (ha : (l.take k).all ptB = true) (h : ptB l[k] = true) : (l.take (k + 1)).all ptB = true := by
  rw [List.take_succ_eq_append_getElem hk, List.all_append, ha]
  simp [h]
set_option maxRecDepth 100000 in
set_option maxHeartbeats 2000000 in
theorem redge_any (d : Edg) (v : Value) (n : Nat) (w : World) (hn : n ≤ 100) (hv : PairsAt w v d.pts) :
    Calls Try.prog 53 #[.agg #[.int .i64 d.a, .int .i64 d.b, v], .int .i64 n] w fun e w' => e = .returned (.int .i64 (edErr n d)) ∧ Below w.heap.size w w' := by
  obtain ⟨a, b, pts⟩ := d
  simp only at hv ⊢
  obtain ⟨hp, pa, pc, rfl, _, _⟩ := id hv
  obtain ⟨W, hW⟩ : ∃ W, w.alloc (Obj.cells #[.int .i64 a, .int .i64 b, .slice pa pts.length pc] 71) = W := ⟨_, rfl⟩
  have hb : Below w.heap.size w W := by rw [← hW]; exact (Below.refl _ _).alloc (Nat.le_refl _) _
  have HR : Hid (W.heap[w.heap.size]? = some (Obj.cells #[.int .i64 a, .int .i64 b, .slice pa pts.length pc] 71)) := by show _ = _; rw [← hW]; exact heap_alloc_new w _
  have HV := Lib.hid (hv.below hb)
  have HW := Lib.hid hW
  have HB := Lib.hid hb
  obtain ⟨res, hres⟩ : ∃ x, edErr n ⟨a, b, pts⟩ = x := ⟨_, rfl⟩
  have HRS : Hid (res = if inB 0 ((n : Int) - 1) a = false ∨ inB 0 ((n : Int) - 1) b = false then 4 else if a = b then 2 else if inB 1 4 (pts.length : Int) = false then 3 else if pts.all ptB = false then 7 else 0) := by show _ = _; rw [← hres]; rfl
  rw [hres]
  have nI : (n : Int) ≤ 100 := by omega
  have pI : (pts.length : Int) ≤ 4611686018427387904 := by omega
  clear hW hb hv hres
  go_enter Try.func53, Try.ntmps53
  go_wp2_with fail
  rw [HW.out]
  have c0 := cellOf HR.out 0 _ rfl
  have c1 := cellOf HR.out 1 _ rfl
  have c2 := cellOf HR.out 2 _ rfl
  have cl := lt_of_block HR.out
  go_wp2_with fail
  refine (rin_any a 0 ((n : Int) - 1) W).mono ?_
  rintro e w' ⟨rfl, rfl⟩
  cases h1 : inB 0 ((n : Int) - 1) a
  · rw [h1, if_pos (by simp)] at HRS
    obtain rfl := HRS.out
    clear h1
    go_wp2
    go_ret
    exact ⟨rfl, HB.out⟩
  rw [h1] at HRS
  clear h1
  go_wp2_with fail
  refine (rin_any b 0 ((n : Int) - 1) W).mono ?_
  rintro e w' ⟨rfl, rfl⟩
  cases h1 : inB 0 ((n : Int) - 1) b
  · rw [h1, if_pos (by simp)] at HRS
    obtain rfl := HRS.out
    clear h1
    go_wp2
    go_ret
    exact ⟨rfl, HB.out⟩
  rw [h1, if_neg (by simp)] at HRS
  clear h1
  by_cases hab : a = b
  · rw [if_pos hab] at HRS
    obtain rfl := HRS.out
    subst hab
    go_wp2
    go_ret
    exact ⟨rfl, HB.out⟩
  rw [if_neg hab] at HRS
  have hab' : (a == b) = false := by simp [hab]
  clear hab
  go_wp2_with fail
  refine (rin_any (pts.length : Int) 1 4 W).mono ?_
  rintro e w' ⟨rfl, rfl⟩
  cases h1 : inB 1 4 (pts.length : Int)
  · rw [h1, if_pos (by simp)] at HRS
    obtain rfl := HRS.out
    clear h1
    go_wp2
    go_ret
    exact ⟨rfl, HB.out⟩
  rw [h1, if_neg (by simp)] at HRS
  clear h1 c0 c1 c2 cl hab' nI
  go_wp2_with fail
  go_loopg [5] pts.length (fun gh i wr => ∃ k : Nat, gh + k = pts.length ∧ i = .int .i64 (k : Int) ∧ Hid (Below W.heap.size W wr) ∧ Hid ((pts.take k).all ptB = true))
  case atStart => exact ⟨0, by omega, rfl, Below.refl _ _, rfl⟩
  case round =>
    obtain ⟨k, hk, rfl, HBB, HA⟩ := hrel
    have R1 := Lib.hid ((HBB.out.block _ (lt_of_block HR.out)).trans HR.out)
    have c2 := cellOf R1.out 2 _ rfl
    have cl := lt_of_block R1.out
    by_cases hlt : k < pts.length
    · have kI : (k : Int) < (pts.length : Int) := by omega
      obtain ⟨b1, o1, rfl, d1, d2⟩ := (HV.out.below HBB.out).get hlt
      obtain ⟨⟨x, y⟩, hx⟩ : ∃ x : Int × Int, pts[k] = x := ⟨_, rfl⟩
      rw [hx] at d1 d2
      have HX := Lib.hid hx
      have HLT := Lib.hid hlt
      have HK := Lib.hid hk
      clear hx hk
      go_wp2_with fail
      refine (rin_any x 0 9000 wr).mono ?_
      rintro e w' ⟨rfl, rfl⟩
      cases h1 : inB 0 9000 x
      · have h2 : pts.all ptB = false := all_take_no pts k HLT.out (by rw [HX.out]; simp [ptB, h1])
        rw [if_pos h2] at HRS
        obtain rfl := HRS.out
        clear h1 h2
        go_wp2
        go_ret
        exact ⟨rfl, HB.out.trans (HBB.out.mono HB.out.size)⟩
      have H1 := Lib.hid h1
      clear h1
      go_wp2_with fail
      refine (rin_any y 0 9000 wr).mono ?_
      rintro e w' ⟨rfl, rfl⟩
      cases h1 : inB 0 9000 y
      · have h2 : pts.all ptB = false := all_take_no pts k HLT.out (by rw [HX.out]; simp [ptB, h1])
        rw [if_pos h2] at HRS
        obtain rfl := HRS.out
        clear h1 h2
        go_wp2
        go_ret
        exact ⟨rfl, HB.out.trans (HBB.out.mono HB.out.size)⟩
      have HA2 := Lib.hid (all_take_more pts k HLT.out HA.out (by rw [HX.out]; simp [ptB, h1, H1.out]))
      have hk := HK.out
      clear h1 d1 d2
      go_wp2
      go_roundg (gk - 1)
      case measure => have := HLT.out; omega
      case rel => exact ⟨k + 1, by have := HLT.out; omega, by go_num, HBB, HA2⟩
    · have kI : ¬ (k : Int) < (pts.length : Int) := by omega
      obtain rfl : k = pts.length := by omega
      rw [if_neg (by have h := HA.out; rw [List.take_length] at h; simp [h])] at HRS
      obtain rfl := HRS.out
      clear hlt hk
      go_wp2
      go_ret
      exact ⟨rfl, HB.out.trans (HBB.out.mono HB.out.size)⟩
end Go.Proofs.Ytojdocomkhihoaa
namespace Go.Proofs.Ytojdocomkhihoaa
open Go Go.RowKit Go.Shelf Ed

set_option maxHeartbeats 400000 in
theorem rabs_any (x : Int) (hx : -1000000 ≤ x ∧ x ≤ 1000000) (w : World) :
    Calls Try.prog 69 #[.int .i64 x] w fun e w' => e = .returned (.int .i64 (absI x)) ∧ w = w' := by
  obtain ⟨x1, x2⟩ := hx
  have s1 : IntKind.i64.wrap (-x) = -x := by rw [IntKind.wrap_i64] <;> omega
  go_enter Try.func69, Try.ntmps69
  by_cases h : x ≤ -x
  · have e : max x (-x) = -x := by omega
    go_wp2
    all_goals go_ret
    all_goals refine ⟨congrArg Ending.returned (congrArg (Value.int .i64) (show _ = absI x from ?_)), rfl⟩
    all_goals (unfold absI; omega)
  · have e : max x (-x) = x := by omega
    go_wp2
    all_goals go_ret
    all_goals refine ⟨congrArg Ending.returned (congrArg (Value.int .i64) (show _ = absI x from ?_)), rfl⟩
    all_goals (unfold absI; omega)
/-- Do all points of an edge agree with changes of its sheets? -/
def metK (tol : Int) (pts : List (Int × Int)) (a b : Int) : Bool := pts.all fun p => decide (absI (p.1 + a - p.2 - b) ≤ tol)
theorem met_no (tol : Int) (pts : List (Int × Int)) (a b : Int) (k : Nat) (hk : k < pts.length) (h : tol < absI (pts[k].1 + a - pts[k].2 - b)) : metK tol pts a b = false := by
  unfold metK
  rw [List.all_eq_false]
  exact ⟨pts[k], List.getElem_mem hk, by simp; omega⟩
theorem met_more (tol : Int) (pts : List (Int × Int)) (a b : Int) (k : Nat) (hk : k < pts.length) (ha : metK tol (pts.take k) a b = true) (h : ¬ tol < absI (pts[k].1 + a - pts[k].2 - b)) : metK tol (pts.take (k + 1)) a b = true := by
  unfold metK at ha ⊢
  rw [List.take_succ_eq_append_getElem hk, List.all_append, ha]
  simp
  omega
set_option maxRecDepth 100000 in
set_option maxHeartbeats 2000000 in
theorem rmet_any (tol : Int) (sv ev v : Value) (x y a b : Int) (pts : List (Int × Int)) (w : World) (ha : -1000 ≤ a ∧ a ≤ 1000) (hb0 : -1000 ≤ b ∧ b ≤ 1000) (hp : ∀ p, p ∈ pts → (0 ≤ p.1 ∧ p.1 ≤ 9000) ∧ 0 ≤ p.2 ∧ p.2 ≤ 9000) (hv : PairsAt w v pts) :
    Calls Try.prog 84 #[.agg #[.int .i64 tol, sv, ev], .agg #[.int .i64 x, .int .i64 y, v], .int .i64 a, .int .i64 b] w fun e w' => e = .returned (.bool (metK tol pts a b)) ∧ Below w.heap.size w w' := by
  obtain ⟨hpl, pa, pc, rfl, _, _⟩ := id hv
  obtain ⟨W, hW, q1, q2, hb, hsz⟩ := al2 w (Obj.cells #[.int .i64 tol, sv, ev] 25) (Obj.cells #[.int .i64 x, .int .i64 y, .slice pa pts.length pc] 71)
  have HR := Lib.hid q1
  have HE := Lib.hid q2
  have HV := Lib.hid (hv.below hb)
  have HW := Lib.hid hW
  have HB := Lib.hid hb
  have HP := Lib.hid hp
  obtain ⟨res, hres⟩ : ∃ r, metK tol pts a b = r := ⟨_, rfl⟩
  have HRS := Lib.hid hres
  rw [hres]
  have pI : (pts.length : Int) ≤ 4611686018427387904 := by omega
  obtain ⟨a1, a2⟩ := ha
  obtain ⟨b1, b2⟩ := hb0
  clear hW hb hv hres q1 q2 hsz hp
  go_enter Try.func84, Try.ntmps84
  go_wp2_with fail
  rw [HW.out]
  go_loopg [9] pts.length (fun gh i wr => ∃ k : Nat, gh + k = pts.length ∧ i = .int .i64 (k : Int) ∧ Hid (Below W.heap.size W wr) ∧ Hid (metK tol (pts.take k) a b = true))
  case atStart => exact ⟨0, by omega, rfl, Below.refl _ _, rfl⟩
  case round =>
    obtain ⟨k, hk, rfl, HBB, HA⟩ := hrel
    have R1 := Lib.hid ((HBB.out.block _ (lt_of_block HR.out)).trans HR.out)
    have E1 := Lib.hid ((HBB.out.block _ (lt_of_block HE.out)).trans HE.out)
    have c0 := cellOf R1.out 0 _ rfl
    have c2 := cellOf E1.out 2 _ rfl
    have cl := lt_of_block R1.out
    have el := lt_of_block E1.out
    by_cases hlt : k < pts.length
    · have kI : (k : Int) < (pts.length : Int) := by omega
      obtain ⟨b1, o1, rfl, d1, d2⟩ := (HV.out.below HBB.out).get hlt
      have hbd := HP.out pts[k] (List.getElem_mem hlt)
      obtain ⟨⟨p, q⟩, hx⟩ : ∃ x : Int × Int, pts[k] = x := ⟨_, rfl⟩
      rw [hx] at d1 d2 hbd
      simp only at d1 d2 hbd
      obtain ⟨⟨p1, p2⟩, q1, q2⟩ := hbd
      have HX := Lib.hid hx
      have HK := Lib.hid hk
      clear hx hk
      have s1 : IntKind.i64.wrap (p + a) = p + a := by rw [IntKind.wrap_i64] <;> omega
      have s2 : IntKind.i64.wrap (p + a - q) = p + a - q := by rw [IntKind.wrap_i64] <;> omega
      have s3 : IntKind.i64.wrap (p + a - q - b) = p + a - q - b := by rw [IntKind.wrap_i64] <;> omega
      have HAB : Hid (∀ n, Calls Try.prog 69 #[.int .i64 (p + a - q - b)] (wr.drewN n) fun e w'' => e = .returned (.int .i64 (absI (p + a - q - b))) ∧ ∃ m, w'' = wr.drewN m) := fun n => (rabs_any (p + a - q - b) (by omega) (wr.drewN n)).mono fun _ _ ⟨he, hm⟩ => ⟨he, n, hm.symm⟩
      obtain ⟨z, hz⟩ : ∃ z, absI (p + a - q - b) = z := ⟨_, rfl⟩
      rw [hz] at HAB
      have HZ := Lib.hid hz
      clear hz
      go_wp2_with fail
      go_quiet ((go_at_call 69; exact HAB.out _))
      have HBN : Hid (Below W.heap.size W (wr.drewN nq)) := HBB.out.trans ⟨rfl, rfl, rfl, Nat.le_refl _, fun _ _ => rfl⟩
      by_cases hlt2 : tol < z
      · have h2 : metK tol pts a b = false := met_no tol pts a b k hlt (by rw [HX.out]; simp only; rw [HZ.out]; exact hlt2)
        have h3 : res = false := by rw [← HRS.out]; exact h2
        subst h3
        clear h2 d1 d2 c0 c2
        go_wp2
        go_ret
        exact ⟨rfl, HB.out.trans (HBN.out.mono HB.out.size)⟩
      · have HA2 := Lib.hid (met_more tol pts a b k hlt HA.out (by rw [HX.out]; simp only; rw [HZ.out]; exact hlt2))
        have hk := HK.out
        clear d1 d2 c0 c2
        go_wp2
        go_roundg (gk - 1)
        case measure => omega
        case rel => exact ⟨k + 1, by omega, by go_num, HBN, HA2⟩
    · have kI : ¬ (k : Int) < (pts.length : Int) := by omega
      obtain rfl : k = pts.length := by omega
      have h3 : res = true := by rw [← HRS.out]; have h := HA.out; rw [List.take_length] at h; exact h
      subst h3
      clear hlt hk
      go_wp2
      go_ret
      exact ⟨rfl, HB.out.trans (HBB.out.mono HB.out.size)⟩
end Go.Proofs.Ytojdocomkhihoaa
namespace Go.Proofs.Ytojdocomkhihoaa
open Go Go.RowKit Go.Shelf Ed

theorem want_fold (tol a b : Int) : ∀ (l : List (Int × Int)) (s : Int × Int), inB (l.foldl (wantStep tol) s).1 (l.foldl (wantStep tol) s).2 (a - b) = (inB s.1 s.2 (a - b) && metK tol l a b) := by
  intro l
  induction l with
  | nil => intro s; simp [metK]
  | cons p l ih =>
    intro s
    rw [List.foldl_cons, ih]
    have e : metK tol (p :: l) a b = (decide (absI (p.1 + a - p.2 - b) ≤ tol) && metK tol l a b) := by simp [metK]
    rw [e, ← Bool.and_assoc]
    congr 1
    rw [Bool.eq_iff_iff]
    simp only [inB, Bool.and_eq_true, decide_eq_true_eq]
    simp only [wantStep, absI]
    constructor
    · rintro ⟨h1, h2⟩; omega
    · rintro ⟨⟨h1, h2⟩, h3⟩; omega
/-- An edge is met by just the changes whose difference it wants. -/
theorem met_iff (tol a b : Int) (l : List (Int × Int)) (hne : l ≠ []) (hok : PtsOk l) : metK tol l a b = inB (wantS tol l).1 (wantS tol l).2 (a - b) := by
  have h := want_fold tol a b l (-9000 - tol, 9000 + tol)
  unfold wantS
  rw [h]
  cases hm : metK tol l a b
  · simp
  · rw [Bool.and_true]
    obtain ⟨p, t, rfl⟩ := List.exists_cons_of_ne_nil hne
    have h1 := hok p (by simp)
    have h2 : absI (p.1 + a - p.2 - b) ≤ tol := by
      unfold metK at hm
      rw [List.all_eq_true] at hm
      have := hm p (by simp)
      simpa using this
    unfold absI at h2
    symm
    simp only [inB, Bool.and_eq_true, decide_eq_true_eq]
    omega
/-- The reference begins with the first point. -/
theorem want_first (tol : Int) (p : Int × Int) (l : List (Int × Int)) (hp : 0 ≤ p.1 ∧ p.1 ≤ 9000 ∧ 0 ≤ p.2 ∧ p.2 ≤ 9000) (h0 : 0 ≤ tol) : wantS tol (p :: l) = l.foldl (wantStep tol) (p.2 - p.1 - tol, p.2 - p.1 + tol) := by
  unfold wantS
  rw [List.foldl_cons]
  congr 1
  simp only [wantStep, Prod.mk.injEq]
  omega
/-- The first edge that is not met, and the first that lies outside what it wants, are the same. -/
theorem odd_is (c : Cas) (hv : Valid c) (x : List Int) (i : Nat) (hi : i < c.eds.length) :
    metK c.tol (c.eds.getD i default).pts (x.getD (c.eds.getD i default).a.toNat 0) (x.getD (c.eds.getD i default).b.toNat 0) = !apartB (wsC c) c.eds x i := by
  have hd : c.eds.getD i default = c.eds[i] := by simp [List.getD_eq_getElem?_getD, hi]
  have hE := hv.ed _ (List.getElem_mem hi)
  have h8 := hv.m8
  have hw := wsTo_get (wantF c) c.eds.length i hi h8
  have hwl : wL (wsC c) i = wantF c i := Prod.ext hw.1 hw.2
  unfold apartB
  rw [hwl, Bool.not_not]
  unfold wantF
  refine met_iff _ _ _ _ ?_ ?_
  · rw [hd]; intro h; have := hE.p1; rw [h] at this; simp at this
  · rw [hd]; exact hE.pt
end Go.Proofs.Ytojdocomkhihoaa
namespace Go.Proofs.Ytojdocomkhihoaa
open Go Go.RowKit Go.Shelf Ed

theorem kpB {w w' : World} {p : Addr} {v : Value} (hb : Below w.heap.size w w') (h : w.cell? p = some v) : w'.cell? p = some v := (hb.cell (World.block_lt_of_cell? w _ h)).trans h
theorem bnx {B : Nat} {a b c : World} (h : Below B a b) (k : Below b.heap.size b c) (hB : B ≤ b.heap.size) : Below B a c := h.trans (k.mono hB)
def nmsK (l : List Sht) (k : Nat) : List ByteArray := (l.take k).map (·.nm)
def strV (l : List ByteArray) : List Value := l.map Value.string
theorem rshE_eq (l : List Sht) (k : Nat) (s : Sht) : rshE (nmsK l k) s = shErr (l.take k) s := by
  have key : s.nm.data.toList ∈ Sht.byts (nmsK l k) ↔ (l.take k).any (fun b => b.nm.toList == s.nm.toList) = true := by
    unfold Sht.byts nmsK
    simp only [List.map_map, List.mem_map, List.any_eq_true, Function.comp, ByteArray.toList_eq, beq_iff_eq]
  unfold rshE shErr Sht.nameErr
  by_cases h1 : Sht.nameB s.nm.data.toList = false
  · simp [h1]
  · rw [if_neg h1, if_neg h1]
    by_cases h2 : (l.take k).any (fun b => b.nm.toList == s.nm.toList) = true
    · rw [if_pos h2, if_pos (key.2 h2)]; simp
    · rw [if_neg h2, if_neg (fun h => h2 (key.1 h))]; simp
theorem nmsK_snoc (l : List Sht) (k : Nat) (hk : k < l.length) : strV (nmsK l (k + 1)) = strV (nmsK l k) ++ [.string l[k].nm] := by
  unfold strV nmsK
  rw [List.take_succ_eq_append_getElem hk, List.map_append, List.map_append]
  rfl
theorem nmsK_length (l : List Sht) (k : Nat) (hk : k ≤ l.length) : (nmsK l k).length = k := by unfold nmsK; simp; omega
theorem strInfo : (Try.prog.info? 9).map (fun i => (i.zero, i.size, i.bytes)) = some (some (.string ⟨#[]⟩), 1, 16) := by kernel_rfl
theorem strsAt_own {w : World} {base : Nat} {v : Value} {l : List ByteArray} {m : Nat} (hm : m = l.length) (h : w.ownsRow base 9 1 v m (strV l)) (hl : l.length ≤ 4611686018427387904) : Sht.StrsAt w.heap.size w v l := by
  subst hm
  rcases h.2 with ⟨rfl, h0⟩ | ⟨g, cap, cur, rfl, hb, hg, hnc, hcm, hcs, htake⟩
  · have : l = [] := List.length_eq_zero_iff.1 h0
    subst this
    exact ⟨by simp, none, 0, rfl, fun hne => absurd rfl hne⟩
  · refine ⟨hl, _, cap, rfl, fun _ => ⟨g, 0, rfl, lt_of_block hg, fun k hk => ?_⟩⟩
    rw [Nat.zero_add]
    have h1 := h.cellAt k (by omega)
    rw [h1]
    simp [strV, hk]
set_option maxRecDepth 100000 in
set_option maxHeartbeats 8000000 in
theorem rcheck_any (c : Cas) (sv ev : Value) (w : World) (hC : CasAt w c sv ev) :
    Calls Try.prog 17 #[.agg #[.int .i64 c.tol, sv, ev]] w fun e w' => e = .returned (.tuple #[.int .i64 (checkC c).1, .int .i64 (checkC c).2.1, .int .i64 (checkC c).2.2]) ∧ Below w.heap.size w w' := by
  obtain ⟨tol, shs, eds⟩ := c
  obtain ⟨hS, hE⟩ := hC
  simp only at hS hE ⊢
  obtain ⟨ls, sa, sc, rfl, lsc, hsn, _⟩ := id hS
  obtain ⟨le, ea, ec, rfl, lec, _⟩ := id hE
  obtain ⟨n, hn⟩ : ∃ n, shs.length = n := ⟨_, rfl⟩
  obtain ⟨m, hm⟩ : ∃ m, eds.length = m := ⟨_, rfl⟩
  rw [hn] at ls lsc hS ⊢
  rw [hm] at le lec hE ⊢
  have HNM := Lib.hid hsn
  have HNN := Lib.hid hn
  have HMM := Lib.hid hm
  obtain ⟨C, hC⟩ : ∃ C, (⟨tol, shs, eds⟩ : Cas) = C := ⟨_, rfl⟩
  have HC := Lib.hid hC
  rw [hC]
  obtain ⟨⟨c1, c2, c3⟩, hcc⟩ : ∃ x, checkC C = x := ⟨_, rfl⟩
  have HK := Lib.hid hcc
  rw [hcc]
  simp only
  obtain ⟨i0, hi0⟩ := info_of_underlying Try.underlying9
  have HI : Hid (i0.zero = some (.string ⟨#[]⟩) ∧ i0.size = 1 ∧ i0.bytes = 16) := by
    have h := strInfo
    rw [hi0] at h
    simp at h
    exact h
  obtain ⟨w0, hW⟩ : ∃ W, w.alloc (Obj.cells #[.int .i64 tol, .slice sa n sc, .slice ea m ec] 25) = W := ⟨_, rfl⟩
  have hB : Below w.heap.size w w0 := by rw [← hW]; exact (Below.refl _ _).alloc (Nat.le_refl _) _
  have HG : Hid (w0.heap[w.heap.size]? = some (Obj.cells #[.int .i64 tol, .slice sa n sc, .slice ea m ec] 25)) := by show _ = _; rw [← hW]; exact heap_alloc_new w _
  have HW := Lib.hid hW
  have HB := Lib.hid hB
  have HS := Lib.hid (hS.below hB)
  have HE := Lib.hid (hE.below hB)
  have nI : (n : Int) ≤ 4611686018427387904 := by omega
  have mI : (m : Int) ≤ 4611686018427387904 := by omega
  clear hS hE hB hsn hn hm hC hcc hW
  go_enter Try.func17, Try.ntmps17
  go_wp2_with fail
  rw [HW.out]
  have g0 := cellOf HG.out 0 _ rfl
  have g1 := cellOf HG.out 1 _ rfl
  have g2 := cellOf HG.out 2 _ rfl
  have gl := lt_of_block HG.out
  go_wp2_with fail
  refine (rin_any tol 0 50 w0).mono ?_
  rintro e w' ⟨rfl, rfl⟩
  cases hB1 : inB 0 50 tol
  · have hr := checkC_tol (c := C) (by rw [← HC.out]; exact hB1)
    rw [HK.out] at hr
    simp only [Prod.mk.injEq] at hr
    obtain ⟨rfl, rfl, rfl⟩ := hr
    clear hB1
    go_wp2_with fail
    refine bodyPost_ret (results_tmp3 rfl _ _ _) rfl ?_
    exact ⟨rfl, HB.out⟩
  have HT : Hid (inB 0 50 C.tol = true) := by show _ = _; rw [← HC.out]; exact hB1
  clear hB1
  have HCL : Hid (C.shs.length = n) := by show _ = _; rw [← HC.out]; exact HNN.out
  have HCM : Hid (C.eds.length = m) := by show _ = _; rw [← HC.out]; exact HMM.out
  go_wp2_with fail
  refine (rin_any (n : Int) 1 5 w0).mono ?_
  rintro e w' ⟨rfl, rfl⟩
  cases hB2 : inB 1 5 (n : Int)
  · have hr := checkC_len (c := C) HT.out (by rw [HCL.out, HCM.out]; exact Or.inl hB2)
    rw [HK.out] at hr
    simp only [Prod.mk.injEq] at hr
    obtain ⟨rfl, rfl, rfl⟩ := hr
    clear hB2
    go_wp2_with fail
    refine bodyPost_ret (results_tmp3 rfl _ _ _) rfl ?_
    exact ⟨rfl, HB.out⟩
  by_cases hm8 : 8 < m
  · have m8I : (8 : Int) < (m : Int) := by omega
    have hr := checkC_len (c := C) HT.out (by rw [HCL.out, HCM.out]; exact Or.inr hm8)
    rw [HK.out] at hr
    simp only [Prod.mk.injEq] at hr
    obtain ⟨rfl, rfl, rfl⟩ := hr
    clear hB2
    go_wp2_with fail
    refine bodyPost_ret (results_tmp3 rfl _ _ _) rfl ?_
    exact ⟨rfl, HB.out⟩
  have m8I : ¬ (8 : Int) < (m : Int) := by omega
  have HLN : Hid (¬ (inB 1 5 (C.shs.length : Int) = false ∨ 8 < C.eds.length)) := by show ¬ _; rw [HCL.out, HCM.out, hB2]; simp; omega
  have hn5 : n ≤ 5 := by unfold inB at hB2; simp at hB2; omega
  have nI5 : (n : Int) ≤ 5 := by omega
  clear hB2
  go_wp2_with fail
  clear g0 g1 g2 gl m8I
  have own0 : w0.ownsRow w0.heap.size 9 1 (.slice none 0 0) 0 (strV (nmsK shs 0)) := World.ownsRow_nil _ _ _ _
  go_loopg [5, 6] n (fun g nv v wr => ∃ (k : Nat) (na : Option Addr) (nc : Nat), g + k = n ∧ v = .int .i64 k ∧ nv = .slice na k nc ∧ wr.ownsRow w0.heap.size 9 1 (.slice na k nc) k (strV (nmsK shs k)) ∧ Hid (∀ j, j < k → shErr (C.shs.take j) (C.shs.getD j default) = 0) ∧ Hid (Below w0.heap.size w0 wr))
  case atStart => exact ⟨0, none, 0, by omega, rfl, rfl, own0, fun j hj => absurd hj (Nat.not_lt_zero _), Below.refl _ _⟩
  case round =>
    clear own0
    obtain ⟨k, na, nc, hk, rfl, rfl, hown, HZ, HL⟩ := hrel
    have HSk := Lib.hid (HS.out.below HL.out)
    have HGk := Lib.hid ((HL.out.block _ (lt_of_block HG.out)).trans HG.out)
    have HBk := Lib.hid (HB.out.trans (HL.out.mono HB.out.size))
    have g0 := cellOf HGk.out 0 _ rfl
    have g1 := cellOf HGk.out 1 _ rfl
    have g2 := cellOf HGk.out 2 _ rfl
    have gl := lt_of_block HGk.out
    by_cases hkn : k < n
    · have kI : (k : Int) < (n : Int) := by omega
      have hk' : k < shs.length := by rw [HNN.out]; exact hkn
      obtain ⟨sb, so, rfl, d0, d1, d2⟩ := HSk.out.get hk'
      have hget : C.shs.getD k default = shs[k] := by rw [← HC.out]; simp [List.getD_eq_getElem?_getD, hk']
      have hnm := HNM.out shs[k] (List.getElem_mem hk')
      have hsn := nmsK_snoc shs k hk'
      obtain ⟨er, her⟩ : ∃ er, rshE (nmsK shs k) shs[k] = er := ⟨_, rfl⟩
      have HER : Hid (shErr (C.shs.take k) (C.shs.getD k default) = er) := by show _ = _; rw [hget, ← her, rshE_eq, ← HC.out]
      have hstr := strsAt_own (w := wr) (l := nmsK shs k) (nmsK_length shs k (by omega)).symm hown (by rw [nmsK_length shs k (by omega)]; omega)
      have HSF := Lib.hid (rsheet_any shs[k] _ (nmsK shs k) wr hnm hstr)
      rw [her] at HSF
      generalize shs[k] = s at *
      obtain ⟨nm, wt, most⟩ := s
      simp only at d0 d1 d2 hnm hsn HSF
      have HSN := Lib.hid hsn
      have HO := Lib.hid hown
      have HD0 := Lib.hid d0
      clear hget her hk' hnm hstr hown hsn
      go_wp2_with fail
      refine HSF.out.mono ?_
      rintro e w1 ⟨rfl, hb1⟩
      have HL1 := Lib.hid (HL.out.trans (hb1.mono HL.out.size))
      have HG1 := Lib.hid ((hb1.block _ (lt_of_block HGk.out)).trans HGk.out)
      have HB1 := Lib.hid (HBk.out.trans (hb1.mono HBk.out.size))
      have HO1 := Lib.hid (own_below HO.out hb1)
      have D0 := Lib.hid ((hb1.cell (p := ⟨sb, so + k * 3, none⟩) (World.block_lt_of_cell? wr _ HD0.out)).trans HD0.out)
      clear d0 d1 d2 HSF HO HD0 HGk HSk HBk HL g0 g1 g2 gl hb1
      by_cases her0 : er = 0
      · subst her0
        have HZ2 : Hid (∀ j, j < k + 1 → shErr (C.shs.take j) (C.shs.getD j default) = 0) := fun j hj => by
          by_cases e : j = k
          · subst e; exact HER.out
          · exact HZ.out j (by omega)
        clear HZ HER
        have g1 := cellOf HG1.out 1 _ rfl
        have gl := lt_of_block HG1.out
        have d0 := D0.out
        have hownA := HO1.out.alloc (Obj.cells #[.string nm] 9)
        have hba : Below w1.heap.size w1 (w1.alloc (Obj.cells #[.string nm] 9)) := (Below.refl _ _).alloc (Nat.le_refl _) _
        have PB := Lib.hid (HL1.out.trans (hba.mono HL1.out.size))
        have PS := HL1.out.size
        have kI5 : (k : Int) < 5 := by omega
        clear hba
        go_wp2_with (at_builtin; refine wpList_append_own _ rfl _ _ 85 rfl w0.heap.size 9 i0 (.string ⟨#[]⟩) 1 16 Try.underlying85 hi0 HI.out.1 HI.out.2.1 HI.out.2.2 rfl (by decide) _ _ _ rfl hownA ⟨w1.heap.size, 0, none⟩ 1 1 [.string nm] rfl rfl ?pa1 ?pa2 ?pa3 ?pa4 ?pa5 ?_)
        case pa1 =>
          intro j u hj
          match j, hj with
          | 0, hj => simp at hj; subst hj; exact cellOf (heap_alloc_new w1 (Obj.cells #[.string nm] 9)) 0 _ rfl
          | j + 1, hj => simp at hj
        case pa2 => intro u hu; simp at hu; subst hu; rfl
        case pa3 => unfold maxLen; omega
        case pa4 => omega
        case pa5 => simp; omega
        intro v' w3 hown3 hgrow _
        have hB3 := Lib.hid (PB.out.grown hgrow PB.out.size (fun g hg => by have := (hownA.lt g hg).1; omega))
        obtain ⟨la', lc', rfl⟩ := own_slice hown3
        rw [← HSN.out] at hown3
        have HO3 := Lib.hid hown3
        clear hown3 hgrow hownA g1 gl d0
        go_wp2
        go_roundg (gk - 1)
        case measure => omega
        case rel => exact ⟨k + 1, la', lc', by omega, by go_num, rfl, HO3.out, HZ2, hB3⟩
      · have te : (er != 0) = true := by simp [her0]
        have hr := checkC_sht HT.out HLN.out k (by rw [HCL.out]; exact hkn) HZ.out (by rw [HER.out]; exact her0)
        rw [HK.out, HER.out] at hr
        simp only [Prod.mk.injEq] at hr
        obtain ⟨rfl, rfl, rfl⟩ := hr
        go_wp2_with fail
        refine bodyPost_ret (results_tmp3 rfl _ _ _) rfl ?_
        exact ⟨rfl, HB1.out⟩
    · obtain rfl : k = n := by omega
      have HZS : Hid (∀ j, j < C.shs.length → shErr (C.shs.take j) (C.shs.getD j default) = 0) := by show ∀ j, _; rw [HCL.out]; exact HZ.out
      have HEk := Lib.hid (HE.out.below HL.out)
      have kI : ¬ (k : Int) < (k : Int) := by omega
      clear hkn hk HZ HB HS HE HG HL HSk hown
      go_wp2_with fail
      clear g0 g1 g2 gl kI
      obtain ⟨wo, hwo⟩ : ∃ wo, wo = wr := ⟨_, rfl⟩
      subst hwo
      go_loopg [8] m (fun g v wr => ∃ j : Nat, g + j = m ∧ v = .int .i64 j ∧ Hid (∀ i, i < j → edErr C.shs.length (C.eds.getD i default) = 0) ∧ Hid (Below wo.heap.size wo wr))
      case atStart => exact ⟨0, by omega, rfl, fun j hj => absurd hj (Nat.not_lt_zero _), Below.refl _ _⟩
      case round =>
        obtain ⟨j, hj, rfl, HZ, HL⟩ := hrel
        have HEj := Lib.hid (HEk.out.below HL.out)
        have HGj := Lib.hid ((HL.out.block _ (lt_of_block HGk.out)).trans HGk.out)
        have HBj := Lib.hid (HBk.out.trans (HL.out.mono HBk.out.size))
        have g0 := cellOf HGj.out 0 _ rfl
        have g1 := cellOf HGj.out 1 _ rfl
        have g2 := cellOf HGj.out 2 _ rfl
        have gl := lt_of_block HGj.out
        by_cases hjm : j < m
        · have jI : (j : Int) < (m : Int) := by omega
          have hj' : j < eds.length := by rw [HMM.out]; exact hjm
          obtain ⟨eb, eo, pa, pc, rfl, d0, d1, d2, hpp⟩ := HEj.out.get hj'
          have hget : C.eds.getD j default = eds[j] := by rw [← HC.out]; simp [List.getD_eq_getElem?_getD, hj']
          obtain ⟨er, her⟩ : ∃ er, edErr k eds[j] = er := ⟨_, rfl⟩
          have HER : Hid (edErr C.shs.length (C.eds.getD j default) = er) := by show _ = _; rw [hget, ← her, HCL.out]
          have HF : Hid (∀ W', Below wr.heap.size wr W' → Calls Try.prog 53 #[.agg #[.int .i64 eds[j].a, .int .i64 eds[j].b, .slice pa eds[j].pts.length pc], .int .i64 (k : Int)] W' fun e w' => e = .returned (.int .i64 er) ∧ Below W'.heap.size W' w') := fun W' hb => by
            have h := redge_any eds[j] (.slice pa eds[j].pts.length pc) k W' (by omega) (hpp.below hb)
            rw [her] at h
            exact h
          generalize eds[j] = d at *
          obtain ⟨da, db, ps⟩ := d
          simp only at d0 d1 d2 hpp HF
          obtain ⟨np, hnp⟩ : ∃ np, ps.length = np := ⟨_, rfl⟩
          rw [hnp] at d2 HF
          clear hget her hj' hpp hnp
          go_wp2_with fail
          go_region_held3 (fun W' => (W'.cell? ⟨w.heap.size, 1, none⟩ = some (.slice sa k sc) ∧ W'.cell? ⟨w.heap.size, 2, none⟩ = some (.slice (some ⟨eb, eo, none⟩) m ec)) ∧ W'.cell? ⟨eb, eo + j * 3, none⟩ = some (.int .i64 da) ∧ W'.cell? ⟨eb, eo + j * 3 + 1, none⟩ = some (.int .i64 db) ∧ W'.cell? ⟨eb, eo + j * 3 + 2, none⟩ = some (.slice pa np pc))
            (first | exact ⟨⟨g1, g2⟩, d0, d1, d2⟩ | exact ⟨⟨kpB hB8 g1, kpB hB8 g2⟩, kpB hB8 d0, kpB hB8 d1, kpB hB8 d2⟩)
            (first | (go_at_call 53; refine (HF.out _ (by go_grown)).mono ?_; rintro e w8 ⟨rfl, hb8⟩; have hB8 := bnx (B := wr.heap.size) (a := wr) (by go_grown) hb8 (by simp)))
          have HB8 := Lib.hid hB8
          have HL8 := Lib.hid (HL.out.trans (HB8.out.mono HL.out.size))
          have HG8 := Lib.hid (HBj.out.trans (HB8.out.mono HBj.out.size))
          clear hB8 hb8 g0 g1 g2 gl d0 d1 d2 HF HEj HGj
          by_cases her0 : er = 0
          · subst her0
            have HZ2 : Hid (∀ i, i < j + 1 → edErr C.shs.length (C.eds.getD i default) = 0) := fun i hi => by
              by_cases e : i = j
              · subst e; exact HER.out
              · exact HZ.out i (by omega)
            clear HZ HER
            go_wp2
            go_roundg (gk - 1)
            case measure => omega
            case rel => exact ⟨j + 1, by omega, by go_num, HZ2, HL8⟩
          · have te : (er != 0) = true := by simp [her0]
            have hr := checkC_edg HT.out HLN.out HZS.out j (by rw [HCM.out]; exact hjm) HZ.out (by rw [HER.out]; exact her0)
            rw [HK.out, HER.out] at hr
            simp only [Prod.mk.injEq] at hr
            obtain ⟨rfl, rfl, rfl⟩ := hr
            go_wp2_with fail
            refine bodyPost_ret (results_tmp3 rfl _ _ _) rfl ?_
            exact ⟨rfl, HG8.out⟩
        · obtain rfl : j = m := by omega
          have kI : ¬ (j : Int) < (j : Int) := by omega
          have hr := checkC_ok HT.out HLN.out HZS.out (by rw [HCM.out]; exact HZ.out)
          rw [HK.out] at hr
          simp only [Prod.mk.injEq] at hr
          obtain ⟨rfl, rfl, rfl⟩ := hr
          clear hjm hj
          go_wp2_with fail
          refine bodyPost_ret (results_tmp3 rfl _ _ _) rfl ?_
          exact ⟨rfl, HBj.out⟩
end Go.Proofs.Ytojdocomkhihoaa
namespace Go.Proofs.Ytojdocomkhihoaa
open Go Go.RowKit Go.Shelf Ed

theorem span_keep0 {w : World} {g b : Nat} {x y : Value} {X : Obj} (h : w.heap[b]? = some X) (hne : b ≠ g) : ((w.setCell ⟨g, 0, none⟩ x).setCell ⟨g, 1, none⟩ y).heap[b]? = some X :=
  (heap_setCell_other _ (⟨g, 1, none⟩ : Addr) b y (by show b ≠ g; exact hne)).trans ((heap_setCell_other w (⟨g, 0, none⟩ : Addr) b x (by show b ≠ g; exact hne)).trans h)
theorem cell_two {w : World} {g b o : Nat} {x y v : Value} (h : w.cell? ⟨b, o, none⟩ = some v) (hne : b ≠ g) : ((w.setCell ⟨g, 0, none⟩ x).setCell ⟨g, 1, none⟩ y).cell? ⟨b, o, none⟩ = some v := by
  have e := (heap_setCell_other (w.setCell ⟨g, 0, none⟩ x) ⟨g, 1, none⟩ b y hne).trans (heap_setCell_other w ⟨g, 0, none⟩ b x hne)
  unfold World.cell? at h ⊢
  simp only at h ⊢
  rw [e]
  exact h
theorem want_one (tol : Int) (l : List (Int × Int)) (hl : 0 < l.length) (hok : PtsOk l) (h0 : 0 ≤ tol) : wantS tol (l.take 1) = (l[0].2 - l[0].1 - tol, l[0].2 - l[0].1 + tol) := by
  have e : l.take 1 = [l[0]] := by
    rw [List.take_succ_eq_append_getElem hl]; simp
  rw [e, want_first tol _ [] (hok _ (List.getElem_mem hl)) h0]
  rfl
set_option maxRecDepth 100000 in
set_option maxHeartbeats 8000000 in
theorem rwant_any (tol : Int) (sv ev v : Value) (x y : Int) (l : List (Int × Int)) (w : World) (h0 : 0 ≤ tol) (h5 : tol ≤ 50) (hok : PtsOk l) (hl1 : 1 ≤ l.length) (hl4 : l.length ≤ 4) (hv : PairsAt w v l) :
    Calls Try.prog 56 #[.agg #[.int .i64 tol, sv, ev], .agg #[.int .i64 x, .int .i64 y, v]] w fun e w' => e = .returned (.tuple #[.agg #[.int .i64 (wantS tol l).1, .int .i64 (wantS tol l).2], .bool (decide ((wantS tol l).1 ≤ (wantS tol l).2))]) ∧ Below w.heap.size w w' := by
  obtain ⟨hpl, pa, pc, rfl, _, _⟩ := id hv
  obtain ⟨n, hn⟩ : ∃ n, l.length = n := ⟨_, rfl⟩
  have hg1 := hv
  rw [hn] at hv hpl hl1 hl4 ⊢
  have HN := Lib.hid hn
  have HO := Lib.hid hok
  obtain ⟨W, hW, q1, q2, q3, hb, hsz⟩ := al3 w (Obj.cells #[.int .i64 tol, sv, ev] 25) (Obj.cells #[.int .i64 x, .int .i64 y, .slice pa n pc] 71) (Obj.cells #[.int .i64 0, .int .i64 0] 31)
  have HV := Lib.hid (hv.below hb)
  have HR := Lib.hid q1
  have HE := Lib.hid q2
  have HQ := Lib.hid q3
  have HW := Lib.hid hW
  have HB := Lib.hid hb
  have nI : (n : Int) ≤ 4 := by omega
  have nI1 : (1 : Int) ≤ (n : Int) := by omega
  have H1 := Lib.hid (want_one tol l (by omega) hok h0)
  have hl0 : 0 < l.length := by omega
  obtain ⟨pb, po, rfl, d0, d1⟩ := (hv.below hb).get (k := 0) hl0
  obtain ⟨⟨p, q⟩, hp⟩ : ∃ p : Int × Int, l[0] = p := ⟨_, rfl⟩
  have hpk := hok l[0] (List.getElem_mem hl0)
  rw [hp] at d0 d1 hpk
  have H1' : Hid (wantS tol (l.take 1) = (q - p - tol, q - p + tol)) := by show _ = _; rw [H1.out, hp]
  clear H1
  simp only [Nat.zero_mul, Nat.add_zero] at d0 d1 hpk
  obtain ⟨a0, a9, b0, b9⟩ := hpk
  have D0 := Lib.hid d0
  have D1 := Lib.hid d1
  clear hW hb hv hg1 q1 q2 q3 hok hn hp d0 d1
  go_enter Try.func56, Try.ntmps56
  go_wp2_with fail
  rw [HW.out]
  have c0 := cellOf HR.out 0 _ rfl
  have c2 := cellOf HE.out 2 _ rfl
  have d0 := D0.out
  have d1 := D1.out
  have s1 : IntKind.i64.wrap (q - p) = q - p := by rw [IntKind.wrap_i64] <;> omega
  have s2 : IntKind.i64.wrap (q - p - tol) = q - p - tol := by rw [IntKind.wrap_i64] <;> omega
  have s3 : IntKind.i64.wrap (q - p + tol) = q - p + tol := by rw [IntKind.wrap_i64] <;> omega
  have n1 : 0 < n := by omega
  refine wp_region_noPanic ?_
  refine wp_region_last (S := (fun W' => W'.cell? ⟨w.heap.size, 0, none⟩ = some (.int .i64 tol) ∧ W'.cell? ⟨w.heap.size + 1, 2, none⟩ = some (.slice (some ⟨pb, po, none⟩) n pc) ∧ W'.cell? ⟨pb, po, none⟩ = some (.int .i64 p) ∧ W'.cell? ⟨pb, po + 1, none⟩ = some (.int .i64 q))) 30 (by kernel_rfl) (by decide) (fun inv0 => ?_)
  have hh0 := (show _ ∧ _ ∧ _ ∧ _ from ⟨c0, c2, d0, d1⟩)
  refine wpAnyZ_take (i := 0) (v := ?_) rfl (Lib.hid ⟨by as_aux_lemma => kernel_rfl, by as_aux_lemma => kernel_rfl, by as_aux_lemma => kernel_rfl, rfl⟩) (by decide) inv0 (by as_aux_lemma => kernel_rfl) (by as_aux_lemma => kernel_rfl) (fun _ _ _ h => h) (Or.inl ⟨by rfl, ?_⟩) hh0 (fun inv1 => ?_)
  rotate_left
  · intro w hSw
    try dsimp only at hSw
    go_simp
    try with_reducible rfl
  clear inv0
  try simp only [Act.put, List.getElem_toArray, List.getElem_cons_succ, List.getElem_cons_zero, List.setIfInBounds_toArray, List.set_cons_zero, List.set_cons_succ]
  refine wpAnyZ_take (i := 1) (v := ?_) rfl (Lib.hid ⟨by as_aux_lemma => kernel_rfl, by as_aux_lemma => kernel_rfl, by as_aux_lemma => kernel_rfl, rfl⟩) (by decide) inv1 (by as_aux_lemma => kernel_rfl) (by as_aux_lemma => kernel_rfl) (fun _ _ _ h => h) (Or.inl ⟨by rfl, ?_⟩) hh0 (fun inv2 => ?_)
  rotate_left
  · intro w hSw
    try dsimp only at hSw
    go_simp
    try with_reducible rfl
  clear inv1
  try simp only [Act.put, List.getElem_toArray, List.getElem_cons_succ, List.getElem_cons_zero, List.setIfInBounds_toArray, List.set_cons_zero, List.set_cons_succ]
  refine wpAnyZ_take (i := 2) (v := ?_) rfl (Lib.hid ⟨by as_aux_lemma => kernel_rfl, by as_aux_lemma => kernel_rfl, by as_aux_lemma => kernel_rfl, rfl⟩) (by decide) inv2 (by as_aux_lemma => kernel_rfl) (by as_aux_lemma => kernel_rfl) (fun _ _ _ h => h) (Or.inl ⟨by rfl, ?_⟩) hh0 (fun inv3 => ?_)
  rotate_left
  · intro w hSw
    try dsimp only at hSw
    go_simp
    try with_reducible rfl
  clear inv2
  try simp only [Act.put, List.getElem_toArray, List.getElem_cons_succ, List.getElem_cons_zero, List.setIfInBounds_toArray, List.set_cons_zero, List.set_cons_succ]
  refine wpAnyZ_take (i := 3) (v := ?_) rfl (Lib.hid ⟨by as_aux_lemma => kernel_rfl, by as_aux_lemma => kernel_rfl, by as_aux_lemma => kernel_rfl, rfl⟩) (by decide) inv3 (by as_aux_lemma => kernel_rfl) (by as_aux_lemma => kernel_rfl) (fun _ _ _ h => h) (Or.inl ⟨by rfl, ?_⟩) hh0 (fun inv4 => ?_)
  rotate_left
  · intro w hSw
    try dsimp only at hSw
    go_simp
    try with_reducible rfl
  clear inv3
  try simp only [Act.put, List.getElem_toArray, List.getElem_cons_succ, List.getElem_cons_zero, List.setIfInBounds_toArray, List.set_cons_zero, List.set_cons_succ]
  refine wpAnyZ_take (i := 4) (v := ?_) rfl (Lib.hid ⟨by as_aux_lemma => kernel_rfl, by as_aux_lemma => kernel_rfl, by as_aux_lemma => kernel_rfl, rfl⟩) (by decide) inv4 (by as_aux_lemma => kernel_rfl) (by as_aux_lemma => kernel_rfl) (fun _ _ _ h => h) (Or.inl ⟨by rfl, ?_⟩) hh0 (fun inv5 => ?_)
  rotate_left
  · intro w hSw
    try dsimp only at hSw
    go_simp
    try with_reducible rfl
  clear inv4
  try simp only [Act.put, List.getElem_toArray, List.getElem_cons_succ, List.getElem_cons_zero, List.setIfInBounds_toArray, List.set_cons_zero, List.set_cons_succ]
  refine wpAnyZ_take (i := 5) (v := ?_) rfl (Lib.hid ⟨by as_aux_lemma => kernel_rfl, by as_aux_lemma => kernel_rfl, by as_aux_lemma => kernel_rfl, rfl⟩) (by decide) inv5 (by as_aux_lemma => kernel_rfl) (by as_aux_lemma => kernel_rfl) (fun _ _ _ h => h) (Or.inl ⟨by rfl, ?_⟩) hh0 (fun inv6 => ?_)
  rotate_left
  · intro w hSw
    try dsimp only at hSw
    go_simp
    try with_reducible rfl
  clear inv5
  try simp only [Act.put, List.getElem_toArray, List.getElem_cons_succ, List.getElem_cons_zero, List.setIfInBounds_toArray, List.set_cons_zero, List.set_cons_succ]
  refine wpAnyZ_take (i := 6) (v := ?_) rfl (Lib.hid ⟨by as_aux_lemma => kernel_rfl, by as_aux_lemma => kernel_rfl, by as_aux_lemma => kernel_rfl, rfl⟩) (by decide) inv6 (by as_aux_lemma => kernel_rfl) (by as_aux_lemma => kernel_rfl) (fun _ _ _ h => h) (Or.inl ⟨by rfl, ?_⟩) hh0 (fun inv7 => ?_)
  rotate_left
  · intro w hSw
    try dsimp only at hSw
    go_simp
    try with_reducible rfl
  clear inv6
  try simp only [Act.put, List.getElem_toArray, List.getElem_cons_succ, List.getElem_cons_zero, List.setIfInBounds_toArray, List.set_cons_zero, List.set_cons_succ]
  refine wpAnyZ_take (i := 7) (v := ?_) rfl (Lib.hid ⟨by as_aux_lemma => kernel_rfl, by as_aux_lemma => kernel_rfl, by as_aux_lemma => kernel_rfl, rfl⟩) (by decide) inv7 (by as_aux_lemma => kernel_rfl) (by as_aux_lemma => kernel_rfl) (fun _ _ _ h => h) (Or.inl ⟨by rfl, ?_⟩) hh0 (fun inv8 => ?_)
  rotate_left
  · intro w hSw
    try dsimp only at hSw
    go_simp
    try with_reducible rfl
  clear inv7
  try simp only [Act.put, List.getElem_toArray, List.getElem_cons_succ, List.getElem_cons_zero, List.setIfInBounds_toArray, List.set_cons_zero, List.set_cons_succ]
  refine wpAnyZ_take (i := 8) (v := ?_) rfl (Lib.hid ⟨by as_aux_lemma => kernel_rfl, by as_aux_lemma => kernel_rfl, by as_aux_lemma => kernel_rfl, rfl⟩) (by decide) inv8 (by as_aux_lemma => kernel_rfl) (by as_aux_lemma => kernel_rfl) (fun _ _ _ h => h) (Or.inl ⟨by rfl, ?_⟩) hh0 (fun inv9 => ?_)
  rotate_left
  · intro w hSw
    try dsimp only at hSw
    go_simp
    try with_reducible rfl
  clear inv8
  try simp only [Act.put, List.getElem_toArray, List.getElem_cons_succ, List.getElem_cons_zero, List.setIfInBounds_toArray, List.set_cons_zero, List.set_cons_succ]
  refine wpAnyZ_take (i := 9) (v := ?_) rfl (Lib.hid ⟨by as_aux_lemma => kernel_rfl, by as_aux_lemma => kernel_rfl, by as_aux_lemma => kernel_rfl, rfl⟩) (by decide) inv9 (by as_aux_lemma => kernel_rfl) (by as_aux_lemma => kernel_rfl) (fun _ _ _ h => h) (Or.inl ⟨by rfl, ?_⟩) hh0 (fun inv10 => ?_)
  rotate_left
  · intro w hSw
    try dsimp only at hSw
    go_simp
    try with_reducible rfl
  clear inv9
  try simp only [Act.put, List.getElem_toArray, List.getElem_cons_succ, List.getElem_cons_zero, List.setIfInBounds_toArray, List.set_cons_zero, List.set_cons_succ]
  refine wpAnyZ_take (i := 10) (v := ?_) rfl (Lib.hid ⟨by as_aux_lemma => kernel_rfl, by as_aux_lemma => kernel_rfl, by as_aux_lemma => kernel_rfl, rfl⟩) (by decide) inv10 (by as_aux_lemma => kernel_rfl) (by as_aux_lemma => kernel_rfl) (fun _ _ _ h => h) (Or.inl ⟨by rfl, ?_⟩) hh0 (fun inv11 => ?_)
  rotate_left
  · intro w hSw
    try dsimp only at hSw
    go_simp
    try with_reducible rfl
  clear inv10
  try simp only [Act.put, List.getElem_toArray, List.getElem_cons_succ, List.getElem_cons_zero, List.setIfInBounds_toArray, List.set_cons_zero, List.set_cons_succ]
  refine wpAnyZ_take (i := 11) (v := ?_) rfl (Lib.hid ⟨by as_aux_lemma => kernel_rfl, by as_aux_lemma => kernel_rfl, by as_aux_lemma => kernel_rfl, rfl⟩) (by decide) inv11 (by as_aux_lemma => kernel_rfl) (by as_aux_lemma => kernel_rfl) (fun _ _ _ h => h) (Or.inl ⟨by rfl, ?_⟩) hh0 (fun inv12 => ?_)
  rotate_left
  · intro w hSw
    try dsimp only at hSw
    go_simp
    try with_reducible rfl
  clear inv11
  try simp only [Act.put, List.getElem_toArray, List.getElem_cons_succ, List.getElem_cons_zero, List.setIfInBounds_toArray, List.set_cons_zero, List.set_cons_succ]
  refine wpAnyZ_take (i := 12) (v := ?_) rfl (Lib.hid ⟨by as_aux_lemma => kernel_rfl, by as_aux_lemma => kernel_rfl, by as_aux_lemma => kernel_rfl, rfl⟩) (by decide) inv12 (by as_aux_lemma => kernel_rfl) (by as_aux_lemma => kernel_rfl) (fun _ _ _ h => h) (Or.inl ⟨by rfl, ?_⟩) hh0 (fun inv13 => ?_)
  rotate_left
  · intro w hSw
    try dsimp only at hSw
    go_simp
    try with_reducible rfl
  clear inv12
  try simp only [Act.put, List.getElem_toArray, List.getElem_cons_succ, List.getElem_cons_zero, List.setIfInBounds_toArray, List.set_cons_zero, List.set_cons_succ]
  refine wpAnyZ_take (i := 13) (v := ?_) rfl (Lib.hid ⟨by as_aux_lemma => kernel_rfl, by as_aux_lemma => kernel_rfl, by as_aux_lemma => kernel_rfl, rfl⟩) (by decide) inv13 (by as_aux_lemma => kernel_rfl) (by as_aux_lemma => kernel_rfl) (fun _ _ _ h => h) (Or.inl ⟨by rfl, ?_⟩) hh0 (fun inv14 => ?_)
  rotate_left
  · intro w hSw
    try dsimp only at hSw
    go_simp
    try with_reducible rfl
  clear inv13
  try simp only [Act.put, List.getElem_toArray, List.getElem_cons_succ, List.getElem_cons_zero, List.setIfInBounds_toArray, List.set_cons_zero, List.set_cons_succ]
  refine wpAnyZ_take (i := 14) (v := ?_) rfl (Lib.hid ⟨by as_aux_lemma => kernel_rfl, by as_aux_lemma => kernel_rfl, by as_aux_lemma => kernel_rfl, rfl⟩) (by decide) inv14 (by as_aux_lemma => kernel_rfl) (by as_aux_lemma => kernel_rfl) (fun _ _ _ h => h) (Or.inl ⟨by rfl, ?_⟩) hh0 (fun inv15 => ?_)
  rotate_left
  · intro w hSw
    try dsimp only at hSw
    go_simp
    try with_reducible rfl
  clear inv14
  try simp only [Act.put, List.getElem_toArray, List.getElem_cons_succ, List.getElem_cons_zero, List.setIfInBounds_toArray, List.set_cons_zero, List.set_cons_succ]
  refine wpAnyZ_take (i := 15) (v := ?_) rfl (Lib.hid ⟨by as_aux_lemma => kernel_rfl, by as_aux_lemma => kernel_rfl, by as_aux_lemma => kernel_rfl, rfl⟩) (by decide) inv15 (by as_aux_lemma => kernel_rfl) (by as_aux_lemma => kernel_rfl) (fun _ _ _ h => h) (Or.inl ⟨by rfl, ?_⟩) hh0 (fun inv16 => ?_)
  rotate_left
  · intro w hSw
    try dsimp only at hSw
    go_simp
    try with_reducible rfl
  clear inv15
  try simp only [Act.put, List.getElem_toArray, List.getElem_cons_succ, List.getElem_cons_zero, List.setIfInBounds_toArray, List.set_cons_zero, List.set_cons_succ]
  refine wpAnyZ_take (i := 16) (v := ?_) rfl (Lib.hid ⟨by as_aux_lemma => kernel_rfl, by as_aux_lemma => kernel_rfl, by as_aux_lemma => kernel_rfl, rfl⟩) (by decide) inv16 (by as_aux_lemma => kernel_rfl) (by as_aux_lemma => kernel_rfl) (fun _ _ _ h => h) (Or.inl ⟨by rfl, ?_⟩) hh0 (fun inv17 => ?_)
  rotate_left
  · intro w hSw
    try dsimp only at hSw
    go_simp
    try with_reducible rfl
  clear inv16
  try simp only [Act.put, List.getElem_toArray, List.getElem_cons_succ, List.getElem_cons_zero, List.setIfInBounds_toArray, List.set_cons_zero, List.set_cons_succ]
  refine wpAnyZ_take (i := 17) (v := ?_) rfl (Lib.hid ⟨by as_aux_lemma => kernel_rfl, by as_aux_lemma => kernel_rfl, by as_aux_lemma => kernel_rfl, rfl⟩) (by decide) inv17 (by as_aux_lemma => kernel_rfl) (by as_aux_lemma => kernel_rfl) (fun _ _ _ h => h) (Or.inl ⟨by rfl, ?_⟩) hh0 (fun inv18 => ?_)
  rotate_left
  · intro w hSw
    try dsimp only at hSw
    go_simp
    try with_reducible rfl
  clear inv17
  try simp only [Act.put, List.getElem_toArray, List.getElem_cons_succ, List.getElem_cons_zero, List.setIfInBounds_toArray, List.set_cons_zero, List.set_cons_succ]
  refine wpAnyZ_take (i := 18) (v := ?_) rfl (Lib.hid ⟨by as_aux_lemma => kernel_rfl, by as_aux_lemma => kernel_rfl, by as_aux_lemma => kernel_rfl, rfl⟩) (by decide) inv18 (by as_aux_lemma => kernel_rfl) (by as_aux_lemma => kernel_rfl) (fun _ _ _ h => h) (Or.inl ⟨by rfl, ?_⟩) hh0 (fun inv19 => ?_)
  rotate_left
  · intro w hSw
    try dsimp only at hSw
    go_simp
    try with_reducible rfl
  clear inv18
  try simp only [Act.put, List.getElem_toArray, List.getElem_cons_succ, List.getElem_cons_zero, List.setIfInBounds_toArray, List.set_cons_zero, List.set_cons_succ]
  refine wpAnyZ_take (i := 19) (v := ?_) rfl (Lib.hid ⟨by as_aux_lemma => kernel_rfl, by as_aux_lemma => kernel_rfl, by as_aux_lemma => kernel_rfl, rfl⟩) (by decide) inv19 (by as_aux_lemma => kernel_rfl) (by as_aux_lemma => kernel_rfl) (fun _ _ _ h => h) (Or.inl ⟨by rfl, ?_⟩) hh0 (fun inv20 => ?_)
  rotate_left
  · intro w hSw
    try dsimp only at hSw
    go_simp
    try with_reducible rfl
  clear inv19
  try simp only [Act.put, List.getElem_toArray, List.getElem_cons_succ, List.getElem_cons_zero, List.setIfInBounds_toArray, List.set_cons_zero, List.set_cons_succ]
  refine wpAnyZ_take (i := 20) (v := ?_) rfl (Lib.hid ⟨by as_aux_lemma => kernel_rfl, by as_aux_lemma => kernel_rfl, by as_aux_lemma => kernel_rfl, rfl⟩) (by decide) inv20 (by as_aux_lemma => kernel_rfl) (by as_aux_lemma => kernel_rfl) (fun _ _ _ h => h) (Or.inl ⟨by rfl, ?_⟩) hh0 (fun inv21 => ?_)
  rotate_left
  · intro w hSw
    try dsimp only at hSw
    go_simp
    try with_reducible rfl
  clear inv20
  try simp only [Act.put, List.getElem_toArray, List.getElem_cons_succ, List.getElem_cons_zero, List.setIfInBounds_toArray, List.set_cons_zero, List.set_cons_succ]
  refine wpAnyZ_take (i := 21) (v := ?_) rfl (Lib.hid ⟨by as_aux_lemma => kernel_rfl, by as_aux_lemma => kernel_rfl, by as_aux_lemma => kernel_rfl, rfl⟩) (by decide) inv21 (by as_aux_lemma => kernel_rfl) (by as_aux_lemma => kernel_rfl) (fun _ _ _ h => h) (Or.inl ⟨by rfl, ?_⟩) hh0 (fun inv22 => ?_)
  rotate_left
  · intro w hSw
    try dsimp only at hSw
    go_simp
    try with_reducible rfl
  clear inv21
  try simp only [Act.put, List.getElem_toArray, List.getElem_cons_succ, List.getElem_cons_zero, List.setIfInBounds_toArray, List.set_cons_zero, List.set_cons_succ]
  refine wpAnyZ_take (i := 22) (v := ?_) rfl (Lib.hid ⟨by as_aux_lemma => kernel_rfl, by as_aux_lemma => kernel_rfl, by as_aux_lemma => kernel_rfl, rfl⟩) (by decide) inv22 (by as_aux_lemma => kernel_rfl) (by as_aux_lemma => kernel_rfl) (fun _ _ _ h => h) (Or.inl ⟨by rfl, ?_⟩) hh0 (fun inv23 => ?_)
  rotate_left
  · intro w hSw
    try dsimp only at hSw
    go_simp
    try with_reducible rfl
  clear inv22
  try simp only [Act.put, List.getElem_toArray, List.getElem_cons_succ, List.getElem_cons_zero, List.setIfInBounds_toArray, List.set_cons_zero, List.set_cons_succ]
  refine wpAnyZ_take (i := 23) (v := ?_) rfl (Lib.hid ⟨by as_aux_lemma => kernel_rfl, by as_aux_lemma => kernel_rfl, by as_aux_lemma => kernel_rfl, rfl⟩) (by decide) inv23 (by as_aux_lemma => kernel_rfl) (by as_aux_lemma => kernel_rfl) (fun _ _ _ h => h) (Or.inl ⟨by rfl, ?_⟩) hh0 (fun inv24 => ?_)
  rotate_left
  · intro w hSw
    try dsimp only at hSw
    go_simp
    try with_reducible rfl
  clear inv23
  try simp only [Act.put, List.getElem_toArray, List.getElem_cons_succ, List.getElem_cons_zero, List.setIfInBounds_toArray, List.set_cons_zero, List.set_cons_succ]
  refine wpAnyZ_take (i := 24) (v := ?_) rfl (Lib.hid ⟨by as_aux_lemma => kernel_rfl, by as_aux_lemma => kernel_rfl, by as_aux_lemma => kernel_rfl, rfl⟩) (by decide) inv24 (by as_aux_lemma => kernel_rfl) (by as_aux_lemma => kernel_rfl) (fun _ _ _ h => h) (Or.inl ⟨by rfl, ?_⟩) hh0 (fun inv25 => ?_)
  rotate_left
  · intro w hSw
    try dsimp only at hSw
    go_simp
    try with_reducible rfl
  clear inv24
  try simp only [Act.put, List.getElem_toArray, List.getElem_cons_succ, List.getElem_cons_zero, List.setIfInBounds_toArray, List.set_cons_zero, List.set_cons_succ]
  refine wpAnyZ_take (i := 25) (v := ?_) rfl (Lib.hid ⟨by as_aux_lemma => kernel_rfl, by as_aux_lemma => kernel_rfl, by as_aux_lemma => kernel_rfl, rfl⟩) (by decide) inv25 (by as_aux_lemma => kernel_rfl) (by as_aux_lemma => kernel_rfl) (fun _ _ _ h => h) (Or.inl ⟨by rfl, ?_⟩) hh0 (fun inv26 => ?_)
  rotate_left
  · intro w hSw
    try dsimp only at hSw
    go_simp
    try with_reducible rfl
  clear inv25
  try simp only [Act.put, List.getElem_toArray, List.getElem_cons_succ, List.getElem_cons_zero, List.setIfInBounds_toArray, List.set_cons_zero, List.set_cons_succ]
  refine wpAnyZ_take (i := 26) (v := ?_) rfl (Lib.hid ⟨by as_aux_lemma => kernel_rfl, by as_aux_lemma => kernel_rfl, by as_aux_lemma => kernel_rfl, rfl⟩) (by decide) inv26 (by as_aux_lemma => kernel_rfl) (by as_aux_lemma => kernel_rfl) (fun _ _ _ h => h) (Or.inl ⟨by rfl, ?_⟩) hh0 (fun inv27 => ?_)
  rotate_left
  · intro w hSw
    try dsimp only at hSw
    go_simp
    try with_reducible rfl
  clear inv26
  try simp only [Act.put, List.getElem_toArray, List.getElem_cons_succ, List.getElem_cons_zero, List.setIfInBounds_toArray, List.set_cons_zero, List.set_cons_succ]
  refine wpAnyZ_take (i := 27) (v := ?_) rfl (Lib.hid ⟨by as_aux_lemma => kernel_rfl, by as_aux_lemma => kernel_rfl, by as_aux_lemma => kernel_rfl, rfl⟩) (by decide) inv27 (by as_aux_lemma => kernel_rfl) (by as_aux_lemma => kernel_rfl) (fun _ _ _ h => h) (Or.inl ⟨by rfl, ?_⟩) hh0 (fun inv28 => ?_)
  rotate_left
  · intro w hSw
    try dsimp only at hSw
    go_simp
    try with_reducible rfl
  clear inv27
  try simp only [Act.put, List.getElem_toArray, List.getElem_cons_succ, List.getElem_cons_zero, List.setIfInBounds_toArray, List.set_cons_zero, List.set_cons_succ]
  refine wpAnyZ_take (i := 28) (v := ?_) rfl (Lib.hid ⟨by as_aux_lemma => kernel_rfl, by as_aux_lemma => kernel_rfl, by as_aux_lemma => kernel_rfl, rfl⟩) (by decide) inv28 (by as_aux_lemma => kernel_rfl) (by as_aux_lemma => kernel_rfl) (fun _ _ _ h => h) (Or.inl ⟨by rfl, ?_⟩) hh0 (fun inv29 => ?_)
  rotate_left
  · intro w hSw
    try dsimp only at hSw
    go_simp
    try with_reducible rfl
  clear inv28
  try simp only [Act.put, List.getElem_toArray, List.getElem_cons_succ, List.getElem_cons_zero, List.setIfInBounds_toArray, List.set_cons_zero, List.set_cons_succ]
  refine wpAnyZ_all (rs := [29]) (by as_aux_lemma => kernel_rfl) (by simp) ?_
  intro i hi
  obtain rfl : i = 29 := by simpa using hi
  refine step_Z rfl (fun K hK => ?_)
  go_simp
  have hbn : Below W.heap.size W ((W.alloc (Obj.cells #[.int .i64 0, .int .i64 0] 31)).drew) := by go_grown
  have hh1 := (show _ ∧ _ ∧ _ ∧ _ from ⟨keepK c0 hbn, keepK c2 hbn, keepK d0 hbn, keepK d1 hbn⟩)
  refine hK.out _ _ (fun _ => hh1) ?_
  have inv30 := hinv_set inv29 (by as_aux_lemma => kernel_rfl) (by decide : 29 < 30)
  clear hK K hh0 inv29
  try simp only [Act.put, List.getElem_toArray, List.getElem_cons_succ, List.getElem_cons_zero, List.setIfInBounds_toArray, List.set_cons_zero, List.set_cons_succ]
  refine wpAnyZ_all (rs := [30]) (by as_aux_lemma => kernel_rfl) (by simp) ?_
  intro i hi
  obtain rfl : i = 30 := by simpa using hi
  refine step_Z rfl (fun K hK => ?_)
  go_simp
  refine hK.out _ _ (fun h => absurd rfl h) ?_
  clear hK K
  try simp only [Act.put, List.getElem_toArray, List.getElem_cons_succ, List.getElem_cons_zero, List.setIfInBounds_toArray, List.set_cons_zero, List.set_cons_succ]
  refine wpAnyZ_done (by as_aux_lemma => kernel_rfl) ?_ _
  refine NoPanic.normal ?_
  have hbw : Below W.heap.size W ((W.alloc (Obj.cells #[.int .i64 (q - p - tol), .int .i64 (q - p + tol)] 31)).drew) := by go_grown
  have J6 : Hid (((W.alloc (Obj.cells #[.int .i64 (q - p - tol), .int .i64 (q - p + tol)] 31)).drew).heap[w.heap.size + 3]? = some (.cells #[.int .i64 (q - p - tol), .int .i64 (q - p + tol)] 31 (0, 0))) := by show _ = _; rw [← hsz]; exact heap_alloc_new W _
  have hlr := lt_of_block HR.out
  have hle := lt_of_block HE.out
  clear c0 c2 d0 d1 hbn s1 s2 s3 D0 D1 hh1
  generalize (W.alloc (Obj.cells #[.int .i64 (q - p - tol), .int .i64 (q - p + tol)] 31)).drew = V at *
  have JB := Lib.hid hbw
  have HVV := Lib.hid (HV.out.below hbw)
  rw [show q - p - tol = (wantS tol (l.take 1)).1 by rw [H1'.out], show q - p + tol = (wantS tol (l.take 1)).2 by rw [H1'.out]] at J6
  clear H1' a0 a9 b0 b9 n1 hbw
  go_wp2_with fail
  go_loopg [7] (n - 1) (fun g v wr => ∃ k : Nat, g + k = n ∧ 1 ≤ k ∧ v = .int .i64 k ∧ Hid (wr.heap[w.heap.size + 3]? = some (.cells #[.int .i64 (wantS tol (l.take k)).1, .int .i64 (wantS tol (l.take k)).2] 31 (0, 0))) ∧ Hid (Below W.heap.size W wr))
  case atStart => exact ⟨1, by omega, Nat.le_refl _, rfl, J6, JB.out⟩
  case round =>
    obtain ⟨k, hk, hk1, rfl, J6, HL⟩ := hrel
    have R1 := Lib.hid ((HL.out.block _ hlr).trans HR.out)
    have E1 := Lib.hid ((HL.out.block _ hle).trans HE.out)
    have c0 := cellOf R1.out 0 _ rfl
    have c2 := cellOf E1.out 2 _ rfl
    have cl := lt_of_block E1.out
    by_cases hkn : k < n
    · have kI : (k : Int) < (n : Int) := by omega
      have hk' : k < l.length := by rw [HN.out]; exact hkn
      obtain ⟨pb', po', e, d0, d1⟩ := (HV.out.below HL.out).get hk'
      injection e with e
      injection e with e1 e2
      subst e1 e2
      have hpk := HO.out l[k] (List.getElem_mem hk')
      have hbd := wantS_bd tol h0 h5 l HO.out k (by omega)
      have HS := Lib.hid (wantS_succ tol l k hk')
      generalize wantS tol (l.take k) = s at *
      generalize l[k] = u at *
      obtain ⟨a, b⟩ := u
      obtain ⟨lo, hi⟩ := s
      simp only at d0 d1 hpk hbd J6
      obtain ⟨a0, a9, b0, b9⟩ := hpk
      obtain ⟨x1, x2, x3, x4⟩ := hbd
      have s1 : IntKind.i64.wrap (b - a) = b - a := by rw [IntKind.wrap_i64] <;> omega
      go_wp2_with fail
      go_quiet (fail)
      obtain ⟨V2, hV2⟩ : ∃ V2, V2 = wr.drewN nq := ⟨_, rfl⟩
      have J7 : Hid (V2.heap[w.heap.size + 3]? = some (.cells #[.int .i64 lo, .int .i64 hi] 31 (0, 0))) := by rw [hV2]; exact J6.out
      have R2 : Hid (V2.heap[w.heap.size]? = some (Obj.cells #[.int .i64 tol, sv, ev] 25)) := by rw [hV2]; exact R1.out
      have HL2 : Hid (Below W.heap.size W V2) := by rw [hV2]; exact HL.out.trans ⟨rfl, rfl, rfl, Nat.le_refl _, fun _ _ => rfl⟩
      rw [← hV2]
      clear hV2 c0 c2 cl d0 d1 s1 R1 E1 J6 HL
      have e0 := cellOf J7.out 0 _ rfl
      have e1 := cellOf J7.out 1 _ rfl
      have f0 := frozen_of_row _ _ 0 _ _ J7.out
      have f1 := frozen_of_row _ _ 1 _ _ J7.out
      have el := lt_of_block J7.out
      have c0 := cellOf R2.out 0 _ rfl
      go_wp2_with fail
      all_goals
        go_roundg (gk - 1)
        case measure => omega
        case rel =>
          refine ⟨k + 1, by omega, by omega, by go_num, ?_, two_below HL2.out (by omega)⟩
          show _ = _
          rw [HS.out]
          unfold wantStep
          simp only
          first | rw [show max lo (b - a - tol) = lo by omega] | rw [show max lo (b - a - tol) = b - a - tol by omega]
          first | rw [show min hi (b - a + tol) = hi by omega] | rw [show min hi (b - a + tol) = b - a + tol by omega]
          exact two_set J7.out
    · obtain rfl : k = n := by omega
      have e : l.take k = l := List.take_of_length_le (by rw [HN.out]; exact Nat.le_refl _)
      rw [e] at J6
      have kI : ¬ (k : Int) < (k : Int) := by omega
      have e0 := cellOf J6.out 0 _ rfl
      have e1 := cellOf J6.out 1 _ rfl
      have el := lt_of_block J6.out
      have QQ := Lib.hid ((HL.out.block _ (lt_of_block HQ.out)).trans HQ.out)
      have q0 := cellOf QQ.out 0 _ rfl
      have q1 := cellOf QQ.out 1 _ rfl
      have f0 := frozen_of_row _ _ 0 _ _ QQ.out
      have f1 := frozen_of_row _ _ 1 _ _ QQ.out
      clear hkn hk e
      go_wp2_with fail
      have f0 := frozen_of_row _ _ 0 _ _ QQ.out
      refine wp_region_noPanic ?_
      refine wp_region_held_drew (S := (fun W' => W'.cell? ⟨w.heap.size + 3, 0, none⟩ = some (.int .i64 (wantS tol l).1) ∧ W'.cell? ⟨w.heap.size + 3, 1, none⟩ = some (.int .i64 (wantS tol l).2))) (by kernel_rfl) ?_ (fun hh0 => ?_)
      · try dsimp only
        exact ⟨e0, e1⟩
      refine wpAnyH_take (i := 0) (v := ?_) rfl (by as_aux_lemma => kernel_rfl) (by as_aux_lemma => kernel_rfl) (by as_aux_lemma => kernel_rfl) (fun _ _ _ h => h) (Or.inl ⟨by rfl, ?_⟩) (by assumption) ?_
      rotate_left
      · intro w hSw
        try dsimp only at hSw
        go_simp
        try with_reducible rfl
      try simp only [Act.put, List.getElem_toArray, List.getElem_cons_succ, List.getElem_cons_zero, List.setIfInBounds_toArray, List.set_cons_zero, List.set_cons_succ]
      refine wpAnyH_take (i := 1) (v := ?_) rfl (by as_aux_lemma => kernel_rfl) (by as_aux_lemma => kernel_rfl) (by as_aux_lemma => kernel_rfl) (fun _ _ _ h => h) (Or.inl ⟨by rfl, ?_⟩) (by assumption) ?_
      rotate_left
      · intro w hSw
        try dsimp only at hSw
        go_simp
        try with_reducible rfl
      try simp only [Act.put, List.getElem_toArray, List.getElem_cons_succ, List.getElem_cons_zero, List.setIfInBounds_toArray, List.set_cons_zero, List.set_cons_succ]
      refine wpAnyH_take (i := 2) (v := ?_) rfl (by as_aux_lemma => kernel_rfl) (by as_aux_lemma => kernel_rfl) (by as_aux_lemma => kernel_rfl) (fun _ _ _ h => h) (Or.inl ⟨by rfl, ?_⟩) (by assumption) ?_
      rotate_left
      · intro w hSw
        try dsimp only at hSw
        go_simp
        try with_reducible rfl
      try simp only [Act.put, List.getElem_toArray, List.getElem_cons_succ, List.getElem_cons_zero, List.setIfInBounds_toArray, List.set_cons_zero, List.set_cons_succ]
      refine wpAnyH_take (i := 3) (v := ?_) rfl (by as_aux_lemma => kernel_rfl) (by as_aux_lemma => kernel_rfl) (by as_aux_lemma => kernel_rfl) (fun _ _ _ h => h) (Or.inl ⟨by rfl, ?_⟩) (by assumption) ?_
      rotate_left
      · intro w hSw
        try dsimp only at hSw
        go_simp
        try with_reducible rfl
      try simp only [Act.put, List.getElem_toArray, List.getElem_cons_succ, List.getElem_cons_zero, List.setIfInBounds_toArray, List.set_cons_zero, List.set_cons_succ]
      refine wpAnyH_take (i := 4) (v := ?_) rfl (by as_aux_lemma => kernel_rfl) (by as_aux_lemma => kernel_rfl) (by as_aux_lemma => kernel_rfl) (fun _ _ _ h => h) (Or.inl ⟨by rfl, ?_⟩) (by assumption) ?_
      rotate_left
      · intro w hSw
        try dsimp only at hSw
        go_simp
        try with_reducible rfl
      try simp only [Act.put, List.getElem_toArray, List.getElem_cons_succ, List.getElem_cons_zero, List.setIfInBounds_toArray, List.set_cons_zero, List.set_cons_succ]
      refine wpAnyH_take (i := 5) (v := ?_) rfl (by as_aux_lemma => kernel_rfl) (by as_aux_lemma => kernel_rfl) (by as_aux_lemma => kernel_rfl) (fun _ _ _ h => h) (Or.inl ⟨by rfl, ?_⟩) (by assumption) ?_
      rotate_left
      · intro w hSw
        try dsimp only at hSw
        go_simp
        try with_reducible rfl
      try simp only [Act.put, List.getElem_toArray, List.getElem_cons_succ, List.getElem_cons_zero, List.setIfInBounds_toArray, List.set_cons_zero, List.set_cons_succ]
      refine wpAnyH_ready (rs := [6]) (by as_aux_lemma => kernel_rfl) (by simp) ?_
      refine AllReadyH.cons rfl (fun K hK => ?_) AllReadyH.nil
      go_simp
      refine hK.out _ _ ?_ (fun hh1 => ?_)
      · try dsimp only
        exact ⟨cell_two hh0.1 (by omega), cell_two hh0.2 (by omega)⟩
      clear hK K hh0
      try simp only [Act.put, List.getElem_toArray, List.getElem_cons_succ, List.getElem_cons_zero, List.setIfInBounds_toArray, List.set_cons_zero, List.set_cons_succ]
      refine wpAnyH_ready (rs := [7]) (by as_aux_lemma => kernel_rfl) (by simp) ?_
      refine AllReadyH.cons rfl (fun K hK => ?_) AllReadyH.nil
      go_simp
      refine hK.out _ _ ?_ (fun hh2 => ?_)
      · try dsimp only
        exact hh1
      clear hK K hh1
      try simp only [Act.put, List.getElem_toArray, List.getElem_cons_succ, List.getElem_cons_zero, List.setIfInBounds_toArray, List.set_cons_zero, List.set_cons_succ]
      refine wpAnyH_done (by as_aux_lemma => kernel_rfl) ?_ _
      refine NoPanic.normal ?_
      go_wp2_with fail
      exact bodyPost_ret (span_result2 rfl _ _ (w.heap.size + 1 + 1) _ _ rfl (two_set QQ.out)) rfl ⟨rfl, (two_below (HB.out.trans (HL.out.mono HB.out.size)) (by omega)).drew⟩
end Go.Proofs.Ytojdocomkhihoaa
namespace Go.Proofs.Ytojdocomkhihoaa
open Go Go.RowKit Go.Shelf Ed

/-- The first edge that is not met, or -1. -/
def oddB (c : Cas) (l : List Int) (i : Nat) : Bool := !metK c.tol (c.eds.getD i default).pts (l.getD (c.eds.getD i default).a.toNat 0) (l.getD (c.eds.getD i default).b.toNat 0)
def oddR (c : Cas) (l : List Int) : Int := firstB (oddB c l) 0 c.eds.length
theorem oddR_eq (c : Cas) (hv : Valid c) (l : List Int) (hl : l.length ≤ 5) : oddR c l = firstB (apartB (wsC c) c.eds (padC l)) 0 c.eds.length := by
  have key : ∀ g k, k + g = c.eds.length → firstB (oddB c l) k g = firstB (apartB (wsC c) c.eds (padC l)) k g := by
    intro g
    induction g with
    | zero => intro k _; rfl
    | succ g ih =>
      intro k hk
      have e : oddB c l k = apartB (wsC c) c.eds (padC l) k := by
        have h := odd_is c hv (padC l) k (by omega)
        rw [padC_get l hl, padC_get l hl] at h
        unfold oddB
        rw [h, Bool.not_not]
      simp only [firstB, e, ih (k + 1) (by omega)]
  exact key _ 0 (by omega)
set_option maxRecDepth 100000 in
set_option maxHeartbeats 4000000 in
theorem rcosts_any (tol : Int) (shs : List Sht) (sv ev lv : Value) (l : List Int) (w : World) (hS : ShtsAt w sv shs) (hok : ∀ s, s ∈ shs → ShtOk s) (hL : IntsAt w lv l) (hl : l.length ≤ shs.length) (h5 : shs.length ≤ 5) (hbd : ∀ i, -1000 ≤ l.getD i 0 ∧ l.getD i 0 ≤ 1000) :
    Calls Try.prog 39 #[.agg #[.int .i64 tol, sv, ev], lv] w fun e w' => e = .returned (.int .i64 (costK shs l l.length)) ∧ Below w.heap.size w w' := by
  obtain ⟨n, hn⟩ : ∃ n, l.length = n := ⟨_, rfl⟩
  obtain ⟨m, hm⟩ : ∃ m, shs.length = m := ⟨_, rfl⟩
  obtain ⟨_, sa, sc, rfl, _⟩ := id hS
  obtain ⟨_, la, lc, rfl, _⟩ := id hL
  have hbk := costK_bd shs hok l hbd
  rw [hn] at hL hl ⊢
  rw [hm] at hS hl h5 hbk ⊢
  obtain ⟨W, hW⟩ : ∃ W, w.alloc (Obj.cells #[.int .i64 tol, .slice sa m sc, ev] 25) = W := ⟨_, rfl⟩
  have hb : Below w.heap.size w W := by rw [← hW]; exact (Below.refl _ _).alloc (Nat.le_refl _) _
  have HR : Hid (W.heap[w.heap.size]? = some (Obj.cells #[.int .i64 tol, .slice sa m sc, ev] 25)) := by show _ = _; rw [← hW]; exact heap_alloc_new w _
  have HSS := Lib.hid (hS.below hb)
  have HLL := Lib.hid (hL.below hb)
  have HW := Lib.hid hW
  have HB := Lib.hid hb
  have HOK := Lib.hid hok
  have HBD := Lib.hid hbd
  have HBK := Lib.hid hbk
  have HN := Lib.hid hn
  have HM := Lib.hid hm
  have nI : (n : Int) ≤ 5 := by omega
  have mI : (m : Int) ≤ 5 := by omega
  clear hW hb hS hL hok hbd hn hm hbk
  go_enter Try.func39, Try.ntmps39
  go_wp2_with fail
  rw [HW.out]
  go_loopg [5, 6] n (fun gh cv i wr => ∃ k : Nat, gh + k = n ∧ i = .int .i64 (k : Int) ∧ cv = .int .i64 (costK shs l k) ∧ Hid (Below W.heap.size W wr))
  case atStart => exact ⟨0, by omega, rfl, rfl, Below.refl _ _⟩
  case round =>
    obtain ⟨k, hk, rfl, rfl, HBB⟩ := hrel
    by_cases hlt : k < n
    · have kI : (k : Int) < (n : Int) := by omega
      have kJ : (k : Int) < (m : Int) := by omega
      have R1 := Lib.hid ((HBB.out.block _ (lt_of_block HR.out)).trans HR.out)
      have c1 := cellOf R1.out 1 _ rfl
      have cl := lt_of_block R1.out
      have hkm : k < shs.length := by rw [HM.out]; omega
      have hkn : k < l.length := by rw [HN.out]; omega
      obtain ⟨sb, so, rfl, d0, d1, d2⟩ := (HSS.out.below HBB.out).get hkm
      obtain ⟨lb, lo, rfl, e0⟩ := (HLL.out.below HBB.out).get hkn
      have hsk := HOK.out shs[k] (List.getElem_mem hkm)
      have hcs := HBK.out k (by omega)
      have hx := HBD.out k
      have HST : Hid (costK shs l (k + 1) = costK shs l k + shs[k].wt * absI l[k]) := by
        show costK shs l k + _ = _
        rw [getD_lt _ _ hkm]
        simp [List.getD_eq_getElem?_getD, hkn]
      have hgd : l.getD k 0 = l[k] := by simp [List.getD_eq_getElem?_getD, hkn]
      rw [hgd] at hx
      obtain ⟨w0, w20, m0, m6⟩ := hsk
      generalize costK shs l k = ck at *
      generalize shs[k] = s at *
      obtain ⟨nm, wt, most⟩ := s
      generalize l[k] = x at *
      simp only at d0 d1 d2 w0 w20 m0 m6 HST
      have HAB : Hid (∀ n, Calls Try.prog 69 #[.int .i64 x] (wr.drewN n) fun e w'' => e = .returned (.int .i64 (absI x)) ∧ ∃ m, w'' = wr.drewN m) := fun n => (rabs_any x (by omega) (wr.drewN n)).mono fun _ _ ⟨he, hm⟩ => ⟨he, n, hm.symm⟩
      have hz : 0 ≤ absI x ∧ absI x ≤ 1000 := by unfold absI; omega
      generalize absI x = z at *
      have hmul := mul_in (a := wt) (b := z) (A := 20) (B := 1000) (by omega) (by omega) (by omega) (by omega)
      have s1 : IntKind.i64.wrap (wt * z) = wt * z := by rw [IntKind.wrap_i64] <;> omega
      have s2 : IntKind.i64.wrap (ck + wt * z) = ck + wt * z := by rw [IntKind.wrap_i64] <;> omega
      clear hgd hkm hkn hx
      generalize hwz : wt * z = wz at *
      go_wp2_with fail
      go_quiet ((go_at_call 69; exact HAB.out _))
      have HBN : Hid (Below W.heap.size W (wr.drewN nq)) := HBB.out.trans ⟨rfl, rfl, rfl, Nat.le_refl _, fun _ _ => rfl⟩
      clear d0 d1 d2 e0 c1 cl
      go_wp2
      go_roundg (gk - 1)
      case measure => omega
      case rel => exact ⟨k + 1, by omega, by go_num, by rw [HST.out], HBN⟩
    · have kI : ¬ (k : Int) < (n : Int) := by omega
      obtain rfl : k = n := by omega
      clear hlt hk
      go_wp2
      go_ret
      exact ⟨rfl, HB.out.trans (HBB.out.mono HB.out.size)⟩
end Go.Proofs.Ytojdocomkhihoaa
namespace Go.Proofs.Ytojdocomkhihoaa
open Go Go.RowKit Go.Shelf Ed

set_option maxRecDepth 100000 in
set_option maxHeartbeats 4000000 in
theorem rodd_any (c : Cas) (hv : Valid c) (sv ev lv : Value) (l : List Int) (w : World) (hC : CasAt w c sv ev) (hL : IntsAt w lv l) (hl : l.length = c.shs.length) (hbd : ∀ i, -1000 ≤ l.getD i 0 ∧ l.getD i 0 ≤ 1000) :
    Calls Try.prog 60 #[.agg #[.int .i64 c.tol, sv, ev], lv] w fun e w' => e = .returned (.int .i64 (oddR c l)) ∧ Below w.heap.size w w' := by
  obtain ⟨n, hn⟩ : ∃ n, l.length = n := ⟨_, rfl⟩
  obtain ⟨m, hm⟩ : ∃ m, c.eds.length = m := ⟨_, rfl⟩
  obtain ⟨tol, htol⟩ : ∃ t, c.tol = t := ⟨_, rfl⟩
  obtain ⟨hS, hE⟩ := id hC
  obtain ⟨_, ea, ec, rfl, _⟩ := id hE
  obtain ⟨_, la, lc, rfl, _⟩ := id hL
  have m8 := hv.m8
  have n5 := hv.n5
  rw [← hl, hn] at n5
  rw [hn] at hL ⊢
  rw [hm] at hE m8 ⊢
  rw [htol]
  obtain ⟨W, hW⟩ : ∃ W, w.alloc (Obj.cells #[.int .i64 tol, sv, .slice ea m ec] 25) = W := ⟨_, rfl⟩
  have hb : Below w.heap.size w W := by rw [← hW]; exact (Below.refl _ _).alloc (Nat.le_refl _) _
  have HR : Hid (W.heap[w.heap.size]? = some (Obj.cells #[.int .i64 tol, sv, .slice ea m ec] 25)) := by show _ = _; rw [← hW]; exact heap_alloc_new w _
  have HEE := Lib.hid (hE.below hb)
  have HLL := Lib.hid (hL.below hb)
  have HW := Lib.hid hW
  have HB := Lib.hid hb
  have HV := Lib.hid hv
  have HBD := Lib.hid hbd
  have HN := Lib.hid hn
  have HM := Lib.hid hm
  have HNL : Hid (n = c.shs.length) := by show _ = _; rw [← hn, hl]
  have HTOL := Lib.hid htol
  have nI : (n : Int) ≤ 5 := by omega
  have mI : (m : Int) ≤ 8 := by omega
  obtain ⟨res, hres⟩ : ∃ r, oddR c l = r := ⟨_, rfl⟩
  have HRS := Lib.hid hres
  rw [hres]
  clear hW hb hS hE hL hv hbd hn hm hC hl htol hres
  go_enter Try.func60, Try.ntmps60
  go_wp2_with fail
  rw [HW.out]
  go_loopg [5] m (fun gh i wr => ∃ k : Nat, gh + k = m ∧ i = .int .i64 (k : Int) ∧ Hid (∀ j, j < k → oddB c l j = false) ∧ Hid (Below W.heap.size W wr))
  case atStart => exact ⟨0, by omega, rfl, fun j hj => absurd hj (Nat.not_lt_zero _), Below.refl _ _⟩
  case round =>
    obtain ⟨k, hk, rfl, HZ, HBB⟩ := hrel
    have R1 := Lib.hid ((HBB.out.block _ (lt_of_block HR.out)).trans HR.out)
    have c0 := cellOf R1.out 0 _ rfl
    have c1 := cellOf R1.out 1 _ rfl
    have c2 := cellOf R1.out 2 _ rfl
    have cl := lt_of_block R1.out
    by_cases hlt : k < m
    · have kI : (k : Int) < (m : Int) := by omega
      have hkm : k < c.eds.length := by rw [HM.out]; omega
      obtain ⟨eb, eo, pa, pc, rfl, d0, d1, d2, hpp⟩ := (HEE.out.below HBB.out).get hkm
      have hed := HV.out.ed _ (List.getElem_mem hkm)
      have hOB : Hid (oddB c l k = !metK tol c.eds[k].pts (l.getD c.eds[k].a.toNat 0) (l.getD c.eds[k].b.toNat 0)) := by
        show _ = _
        unfold oddB
        rw [getD_lt _ _ hkm, HTOL.out]
      obtain ⟨xa0, xan, xb0, xbn, xne, xp1, xp4, xpt⟩ := hed
      rw [← HNL.out] at xan xbn
      generalize c.eds[k] = d at *
      obtain ⟨da, db, ps⟩ := d
      simp only at d0 d1 d2 hpp hOB xa0 xan xb0 xbn xpt
      obtain ⟨np, hnp⟩ : ∃ np, ps.length = np := ⟨_, rfl⟩
      rw [hnp] at d2 hpp
      obtain ⟨ia, rfl⟩ : ∃ i : Nat, da = i := ⟨da.toNat, by omega⟩
      obtain ⟨ib, rfl⟩ : ∃ i : Nat, db = i := ⟨db.toNat, by omega⟩
      simp only [Int.toNat_natCast] at hOB
      have hia : ia < l.length := by rw [HN.out]; omega
      have hib : ib < l.length := by rw [HN.out]; omega
      obtain ⟨lb, lo, rfl, e0⟩ := (HLL.out.below HBB.out).get hia
      obtain ⟨lb', lo', e, e1⟩ := (HLL.out.below HBB.out).get hib
      injection e with e
      injection e with e2 e3
      subst e2 e3
      have hxa := HBD.out ia
      have hxb := HBD.out ib
      rw [show l.getD ia 0 = l[ia] by simp [List.getD_eq_getElem?_getD, hia]] at hxa hOB
      rw [show l.getD ib 0 = l[ib] by simp [List.getD_eq_getElem?_getD, hib]] at hxb hOB
      have HPP := Lib.hid hpp
      have HPT : Hid (∀ p, p ∈ ps → (0 ≤ p.1 ∧ p.1 ≤ 9000) ∧ 0 ≤ p.2 ∧ p.2 ≤ 9000) := fun p hp => by have := xpt p hp; omega
      generalize l[ia] = xa at *
      generalize l[ib] = xb at *
      clear hpp hnp xpt xp1 xp4 xne hkm hia hib
      obtain ⟨wa, hwa⟩ : ∃ wa, wr.alloc (Obj.cells #[.int .i64 (ia : Int), .int .i64 (ib : Int), .slice pa np pc] 71) = wa := ⟨_, rfl⟩
      have hba : Below wr.heap.size wr wa := by rw [← hwa]; exact (Below.refl _ _).alloc (Nat.le_refl _) _
      have HX := Lib.hid (show wa.heap[wr.heap.size]? = some (Obj.cells #[.int .i64 (ia : Int), .int .i64 (ib : Int), .slice pa np pc] 71) by rw [← hwa]; exact heap_alloc_new wr _)
      have HWA := Lib.hid hwa
      have HBA := Lib.hid hba
      have HPA := Lib.hid (HPP.out.below hba)
      have R2 := Lib.hid ((hba.block _ (lt_of_block R1.out)).trans R1.out)
      have E0 := Lib.hid (keepK e0 hba)
      have E1 := Lib.hid (keepK e1 hba)
      clear hwa hba
      go_wp2_with fail
      rw [HWA.out]
      clear d0 d1 d2 c0 c1 c2 cl e0 e1
      have c0 := cellOf R2.out 0 _ rfl
      have c1 := cellOf R2.out 1 _ rfl
      have c2 := cellOf R2.out 2 _ rfl
      have x0 := cellOf HX.out 0 _ rfl
      have x1 := cellOf HX.out 1 _ rfl
      have x2 := cellOf HX.out 2 _ rfl
      have e0 := E0.out
      have e1 := E1.out
      have xl := lt_of_block HX.out
      obtain ⟨u, hu⟩ : ∃ u, wr.heap.size = u := ⟨_, rfl⟩
      rw [hu] at x0 x1 x2 xl ⊢
      have HF : Hid (∀ W', Below wa.heap.size wa W' → Calls Try.prog 84 #[.agg #[.int .i64 tol, sv, .slice (some ⟨eb, eo, none⟩) m ec], .agg #[.int .i64 (ia : Int), .int .i64 (ib : Int), .slice pa np pc], .int .i64 xa, .int .i64 xb] W' fun e w' => e = .returned (.bool (metK tol ps xa xb)) ∧ Below W'.heap.size W' w') := fun W' hb => rmet_any tol sv _ _ _ _ xa xb ps W' (by omega) (by omega) HPT.out (HPA.out.below hb)
      obtain ⟨bm, hbm⟩ : ∃ b, metK tol ps xa xb = b := ⟨_, rfl⟩
      rw [hbm] at HF hOB
      clear hbm hu
      go_region_held3 (fun W' => (W'.cell? ⟨w.heap.size, 0, none⟩ = some (.int .i64 tol) ∧ W'.cell? ⟨w.heap.size, 1, none⟩ = some sv ∧ W'.cell? ⟨w.heap.size, 2, none⟩ = some (.slice (some ⟨eb, eo, none⟩) m ec)) ∧ (W'.cell? ⟨u, 0, none⟩ = some (.int .i64 (ia : Int)) ∧ W'.cell? ⟨u, 1, none⟩ = some (.int .i64 (ib : Int)) ∧ W'.cell? ⟨u, 2, none⟩ = some (.slice pa np pc)) ∧ W'.cell? ⟨lb, lo + ia, none⟩ = some (.int .i64 xa) ∧ W'.cell? ⟨lb, lo + ib, none⟩ = some (.int .i64 xb))
        (first | exact ⟨⟨c0, c1, c2⟩, ⟨x0, x1, x2⟩, e0, e1⟩ | exact ⟨⟨kpB hB8 c0, kpB hB8 c1, kpB hB8 c2⟩, ⟨kpB hB8 x0, kpB hB8 x1, kpB hB8 x2⟩, kpB hB8 e0, kpB hB8 e1⟩)
        (first | (go_at_call 84; refine (HF.out _ (by go_grown)).mono ?_; rintro e w8 ⟨rfl, hb8⟩; have hB8 := bnx (B := wa.heap.size) (a := wa) (by go_grown) hb8 (by simp)))
      have HL8 := Lib.hid (HBB.out.trans ((HBA.out.mono HBB.out.size).trans (hB8.mono (Nat.le_trans HBB.out.size HBA.out.size))))
      clear hB8 hb8 c0 c1 c2 x0 x1 x2 e0 e1 xl HF
      cases bm
      · have hr : oddR c l = (k : Int) := firstB_at _ _ k (by rw [HM.out]; omega) HZ.out hOB.out
        rw [HRS.out] at hr
        subst hr
        go_wp2
        go_ret
        exact ⟨rfl, HB.out.trans (HL8.out.mono HB.out.size)⟩
      · have HZ2 : Hid (∀ j, j < k + 1 → oddB c l j = false) := fun j hj => by
          by_cases e : j = k
          · subst e; exact hOB.out
          · exact HZ.out j (by omega)
        clear HZ hOB
        go_wp2
        go_roundg (gk - 1)
        case measure => omega
        case rel => exact ⟨k + 1, by omega, by go_num, HZ2, HL8⟩
    · have kI : ¬ (k : Int) < (m : Int) := by omega
      obtain rfl : k = m := by omega
      have hr : oddR c l = -1 := firstB_no _ _ (by rw [HM.out]; exact HZ.out)
      rw [HRS.out] at hr
      subst hr
      clear hlt hk
      go_wp2
      go_ret
      exact ⟨rfl, HB.out.trans (HBB.out.mono HB.out.size)⟩
end Go.Proofs.Ytojdocomkhihoaa
namespace Go.Proofs.Ytojdocomkhihoaa
open Go Go.RowKit Go.Shelf Ed

def inM (c : Cas) (l : List Int) (i : Nat) : Bool := inB (-(c.shs.getD i default).most) (c.shs.getD i default).most (l.getD i 0)
theorem chgE_err {c : Cas} {l : List Int} (h : errC c ≠ 0) : chgE c l = errC c := by unfold chgE; rw [if_pos h]
theorem chgE_len {c : Cas} {l : List Int} (h : errC c = 0) (h2 : l.length ≠ c.shs.length) : chgE c l = 3 := by unfold chgE; rw [if_neg (by simp [h]), if_pos h2]
theorem chgE_out {c : Cas} {l : List Int} (h : errC c = 0) (h2 : l.length = c.shs.length) (k : Nat) (hk : k < l.length) (hx : inM c l k = false) : chgE c l = 7 := by
  unfold chgE
  rw [if_neg (by simp [h]), if_neg (by simp [h2]), if_neg]
  intro h3
  rw [List.all_eq_true] at h3
  have := h3 k (List.mem_range.2 (by omega))
  unfold inM at hx
  rw [hx] at this
  cases this
theorem chgE_in {c : Cas} {l : List Int} (h : errC c = 0) (h2 : l.length = c.shs.length) (hx : ∀ k, k < l.length → inM c l k = true) : chgE c l = 0 := by
  unfold chgE
  rw [if_neg (by simp [h]), if_neg (by simp [h2]), if_pos]
  rw [List.all_eq_true]
  intro k hk
  exact hx k (by have := List.mem_range.1 hk; omega)
set_option maxRecDepth 100000 in
set_option maxHeartbeats 4000000 in
theorem rchanges_any (c : Cas) (sv ev lv : Value) (l : List Int) (w : World) (hC : CasAt w c sv ev) (hL : IntsAt w lv l) :
    Calls Try.prog 59 #[.agg #[.int .i64 c.tol, sv, ev], lv] w fun e w' => e = .returned (.int .i64 (chgE c l)) ∧ Below w.heap.size w w' := by
  obtain ⟨n, hn⟩ : ∃ n, l.length = n := ⟨_, rfl⟩
  obtain ⟨m, hm⟩ : ∃ m, c.shs.length = m := ⟨_, rfl⟩
  obtain ⟨tol, htol⟩ : ∃ t, c.tol = t := ⟨_, rfl⟩
  obtain ⟨hS, hE⟩ := id hC
  obtain ⟨lm, sa, sc, rfl, _⟩ := id hS
  obtain ⟨_, ea, ec, rfl, _⟩ := id hE
  obtain ⟨ll, la, lc, rfl, _⟩ := id hL
  obtain ⟨q, hq⟩ : ∃ q, c.eds.length = q := ⟨_, rfl⟩
  rw [hn] at hL ll ⊢
  rw [hm] at hS lm hC ⊢
  rw [hq] at hC ⊢
  obtain ⟨W, hW⟩ : ∃ W, w.alloc (Obj.cells #[.int .i64 tol, .slice sa m sc, .slice ea q ec] 25) = W := ⟨_, rfl⟩
  have hb : Below w.heap.size w W := by rw [← hW]; exact (Below.refl _ _).alloc (Nat.le_refl _) _
  have HCK := Lib.hid (rcheck_any c _ _ W (hC.below hb))
  rw [htol] at HCK ⊢
  have HR : Hid (W.heap[w.heap.size]? = some (Obj.cells #[.int .i64 tol, .slice sa m sc, .slice ea q ec] 25)) := by show _ = _; rw [← hW]; exact heap_alloc_new w _
  have HSS := Lib.hid (hS.below hb)
  have HLL := Lib.hid (hL.below hb)
  have HW := Lib.hid hW
  have HB := Lib.hid hb
  have HN := Lib.hid hn
  have HM := Lib.hid hm
  have nI : (n : Int) ≤ 4611686018427387904 := by omega
  have mI : (m : Int) ≤ 4611686018427387904 := by omega
  obtain ⟨res, hres⟩ : ∃ r, chgE c l = r := ⟨_, rfl⟩
  have HRS := Lib.hid hres
  rw [hres]
  clear hW hb hS hE hL hn hm hC hq htol hres
  go_enter Try.func59, Try.ntmps59
  go_wp2_with fail
  rw [HW.out]
  have c0 := cellOf HR.out 0 _ rfl
  have c1 := cellOf HR.out 1 _ rfl
  have c2 := cellOf HR.out 2 _ rfl
  have cl := lt_of_block HR.out
  go_wp2_with fail
  refine HCK.out.mono ?_
  rintro e w1 ⟨rfl, hb1⟩
  have R1 := Lib.hid ((hb1.block _ (lt_of_block HR.out)).trans HR.out)
  have HB1 := Lib.hid (HB.out.trans (hb1.mono HB.out.size))
  have HS1 := Lib.hid (HSS.out.below hb1)
  have HL1 := Lib.hid (HLL.out.below hb1)
  clear hb1 HB HSS HLL HCK HW HR c0 c1 c2 cl
  obtain ⟨⟨k1, k2, er⟩, hk⟩ : ∃ x, checkC c = x := ⟨_, rfl⟩
  have HER : Hid (errC c = er) := by show _ = _; unfold errC; rw [hk]
  rw [hk]
  clear hk
  have main : ∀ er', ((er' = 0 ∧ errC c = 0 ∧ n = m) ∨ (er' ≠ 0 ∧ er' = res)) → True := fun _ _ => trivial
  clear main
  have c1 := cellOf R1.out 1 _ rfl
  have cl := lt_of_block R1.out
  by_cases h0 : er = 0
  · subst h0
    by_cases hnm : n = m
    · have tnm : ((n : Int) != (m : Int)) = false := by simp [hnm]
      have HNM := Lib.hid hnm
      clear hnm
      go_wp2_with fail
      go_loopg [7, 8] n (fun gh e i wr => ∃ (k : Nat) (er : Int), gh + k = n ∧ i = .int .i64 (k : Int) ∧ e = .int .i64 er ∧ Hid ((er = 0 ∧ ∀ j, j < k → inM c l j = true) ∨ (er ≠ 0 ∧ er = res)) ∧ Hid (Below w1.heap.size w1 wr))
      case atStart => exact ⟨0, 0, by omega, rfl, rfl, Or.inl ⟨rfl, fun j hj => absurd hj (Nat.not_lt_zero _)⟩, Below.refl _ _⟩
      case round =>
        clear c1 cl tnm
        obtain ⟨k, er, hk, rfl, rfl, HZ, HBB⟩ := hrel
        by_cases hlt : k < n
        · have kI : (k : Int) < (n : Int) := by omega
          by_cases h0 : er = 0
          · subst h0
            have R2 := Lib.hid ((HBB.out.block _ (lt_of_block R1.out)).trans R1.out)
            have c1 := cellOf R2.out 1 _ rfl
            have cl := lt_of_block R2.out
            have hkm : k < c.shs.length := by rw [HM.out, ← HNM.out]; exact hlt
            have hkn : k < l.length := by rw [HN.out]; exact hlt
            have kJ : (k : Int) < (m : Int) := by have := HNM.out; omega
            obtain ⟨sb, so, rfl, d0, d1, d2⟩ := (HS1.out.below HBB.out).get hkm
            obtain ⟨lb, lo, rfl, e0⟩ := (HL1.out.below HBB.out).get hkn
            have HIN : Hid (inM c l k = inB (-c.shs[k].most) c.shs[k].most l[k]) := by
              show _ = _
              unfold inM
              rw [getD_lt _ _ hkm]
              simp [List.getD_eq_getElem?_getD, hkn]
            have hsk := (valid_of HER.out).sh _ (List.getElem_mem hkm)
            obtain ⟨w0, w20, m0, m6⟩ := hsk
            generalize c.shs[k] = s at *
            obtain ⟨nm, wt, most⟩ := s
            generalize l[k] = x at *
            simp only at d0 d1 d2 w0 w20 m0 m6 HIN
            have s1 : IntKind.i64.wrap (-most) = -most := by rw [IntKind.wrap_i64] <;> omega
            have HAB : Hid (∀ n, Calls Try.prog 51 #[.int .i64 x, .int .i64 (-most), .int .i64 most] (wr.drewN n) fun e w'' => e = .returned (.bool (inB (-most) most x)) ∧ ∃ m, w'' = wr.drewN m) := fun n => (rin_any x (-most) most (wr.drewN n)).mono fun _ _ ⟨he, hm⟩ => ⟨he, n, hm.symm⟩
            obtain ⟨bb, hbb⟩ : ∃ b, inB (-most) most x = b := ⟨_, rfl⟩
            rw [hbb] at HAB HIN
            clear hbb hkm hkn
            go_wp2_with fail
            go_quiet ((go_at_call 51; exact HAB.out _))
            have HBN : Hid (Below w1.heap.size w1 (wr.drewN nq)) := HBB.out.trans ⟨rfl, rfl, rfl, Nat.le_refl _, fun _ _ => rfl⟩
            clear d0 d1 d2 e0 c1 cl
            have hk2 : k < n := hlt
            cases bb
            · have hr : chgE c l = 7 := chgE_out HER.out (by rw [HN.out, HM.out]; exact HNM.out) k (by rw [HN.out]; exact hlt) HIN.out
              rw [HRS.out] at hr
              have HR7 := Lib.hid hr
              clear hr
              go_wp2
              go_roundg (gk - 1)
              case measure => omega
              case rel => exact ⟨k + 1, 7, by omega, by go_num, rfl, Or.inr ⟨by decide, HR7.out.symm⟩, HBN⟩
            · have HZ2 : Hid (∀ j, j < k + 1 → inM c l j = true) := fun j hj => by
                by_cases e : j = k
                · subst e; exact HIN.out
                · rcases HZ.out with h | h
                  · exact h.2 j (by omega)
                  · exact absurd rfl h.1
              clear HIN HZ
              go_wp2
              go_roundg (gk - 1)
              case measure => omega
              case rel => exact ⟨k + 1, 0, by omega, by go_num, rfl, Or.inl ⟨rfl, HZ2.out⟩, HBN⟩
          · have tz : (er == 0) = false := by simp [h0]
            obtain rfl : er = res := by
              rcases HZ.out with h | h
              · exact absurd h.1 h0
              · exact h.2
            clear h0 HZ
            go_wp2
            go_ret
            exact ⟨rfl, HB1.out.trans (HBB.out.mono HB1.out.size)⟩
        · have kI : ¬ (k : Int) < (n : Int) := by omega
          have hr : er = res := by
            rcases HZ.out with ⟨h, h2⟩ | h
            · have h3 := chgE_in HER.out (by rw [HN.out, HM.out]; exact HNM.out) (fun j hj => h2 j (by have := HN.out; omega))
              rw [h, ← HRS.out, h3]
            · exact h.2
          subst hr
          clear hlt hk HZ
          go_wp2
          go_ret
          exact ⟨rfl, HB1.out.trans (HBB.out.mono HB1.out.size)⟩
    · have tnm : ((n : Int) != (m : Int)) = true := by simp; omega
      have hr := chgE_len HER.out (show l.length ≠ c.shs.length by rw [HN.out, HM.out]; exact hnm)
      rw [HRS.out] at hr
      subst hr
      clear hnm
      go_wp2_with fail
      go_loopg [7, 8] n (fun gh ee i wr => ee = .int .i64 3 ∧ i = .int .i64 0 ∧ Hid (Below w1.heap.size w1 wr))
      case atStart => exact ⟨rfl, rfl, Below.refl _ _⟩
      case round =>
        obtain ⟨rfl, rfl, HBB⟩ := hrel
        clear c1 cl tnm
        by_cases hlt : 0 < n
        · have kI : (0 : Int) < (n : Int) := by omega
          go_wp2
          go_ret
          exact ⟨rfl, HB1.out.trans (HBB.out.mono HB1.out.size)⟩
        · have kI : ¬ (0 : Int) < (n : Int) := by omega
          clear hlt
          go_wp2
          go_ret
          exact ⟨rfl, HB1.out.trans (HBB.out.mono HB1.out.size)⟩
  · have tz : (er == 0) = false := by simp [h0]
    have hr := chgE_err (c := c) (l := l) (by rw [HER.out]; exact h0)
    rw [HRS.out, HER.out] at hr
    subst hr
    clear h0
    go_wp2_with fail
    go_loopg [7, 8] n (fun gh ee i wr => ee = .int .i64 res ∧ i = .int .i64 0 ∧ Hid (Below w1.heap.size w1 wr))
    case atStart => exact ⟨rfl, rfl, Below.refl _ _⟩
    case round =>
      obtain ⟨rfl, rfl, HBB⟩ := hrel
      clear c1 cl
      by_cases hlt : 0 < n
      · have kI : (0 : Int) < (n : Int) := by omega
        go_wp2
        go_ret
        exact ⟨rfl, HB1.out.trans (HBB.out.mono HB1.out.size)⟩
      · have kI : ¬ (0 : Int) < (n : Int) := by omega
        clear hlt
        go_wp2
        go_ret
        exact ⟨rfl, HB1.out.trans (HBB.out.mono HB1.out.size)⟩
set_option maxRecDepth 100000 in
set_option maxHeartbeats 4000000 in
theorem ragrees_any (c : Cas) (sv ev lv : Value) (l : List Int) (w : World) (hC : CasAt w c sv ev) (hL : IntsAt w lv l) :
    Calls Try.prog 21 #[.agg #[.int .i64 c.tol, sv, ev], lv] w fun e w' => e = .returned (.tuple #[.int .i64 (agreesC c l).1, .int .i64 (agreesC c l).2]) ∧ Below w.heap.size w w' := by
  obtain ⟨sa, n, sc, rfl⟩ : ∃ a n cc, sv = .slice a n cc := by obtain ⟨_, a, cap, h, _⟩ := hC.shs; exact ⟨_, _, _, h⟩
  obtain ⟨ea, m, ec, rfl⟩ : ∃ a n cc, ev = .slice a n cc := by obtain ⟨_, a, cap, h, _⟩ := hC.eds; exact ⟨_, _, _, h⟩
  obtain ⟨la, q, lc, rfl⟩ : ∃ a n cc, lv = .slice a n cc := by obtain ⟨_, a, cap, h, _⟩ := hL; exact ⟨_, _, _, h⟩
  obtain ⟨tol, htol⟩ : ∃ t, c.tol = t := ⟨_, rfl⟩
  obtain ⟨W, hW⟩ : ∃ W, w.alloc (Obj.cells #[.int .i64 tol, .slice sa n sc, .slice ea m ec] 25) = W := ⟨_, rfl⟩
  have hb : Below w.heap.size w W := by rw [← hW]; exact (Below.refl _ _).alloc (Nat.le_refl _) _
  have HCK := Lib.hid (rchanges_any c _ _ _ l W (hC.below hb) (hL.below hb))
  have HTOL := Lib.hid htol
  rw [htol] at HCK ⊢
  have HR : Hid (W.heap[w.heap.size]? = some (Obj.cells #[.int .i64 tol, .slice sa n sc, .slice ea m ec] 25)) := by show _ = _; rw [← hW]; exact heap_alloc_new w _
  have HC := Lib.hid (hC.below hb)
  have HL := Lib.hid (hL.below hb)
  have HW := Lib.hid hW
  have HB := Lib.hid hb
  obtain ⟨res, hres⟩ : ∃ r, agreesC c l = r := ⟨_, rfl⟩
  have HRS : Hid (res = if chgE c l ≠ 0 then (0, chgE c l) else (firstB (apartB (wsC c) c.eds (padC l)) 0 c.eds.length, 0)) := by show _ = _; rw [← hres]; rfl
  rw [hres]
  clear hW hb hC hL htol hres
  go_enter Try.func21, Try.ntmps21
  go_wp2_with fail
  rw [HW.out]
  have c0 := cellOf HR.out 0 _ rfl
  have c1 := cellOf HR.out 1 _ rfl
  have c2 := cellOf HR.out 2 _ rfl
  have cl := lt_of_block HR.out
  go_wp2_with fail
  refine HCK.out.mono ?_
  rintro e w1 ⟨rfl, hb1⟩
  have R1 := Lib.hid ((hb1.block _ (lt_of_block HR.out)).trans HR.out)
  have HB1 := Lib.hid (HB.out.trans (hb1.mono HB.out.size))
  have HC1 := Lib.hid (HC.out.below hb1)
  have HL1 := Lib.hid (HL.out.below hb1)
  clear hb1 HB HC HL HCK HW HR c0 c1 c2 cl
  by_cases h0 : chgE c l = 0
  · rw [if_neg (by simp [h0])] at HRS
    obtain rfl := HRS.out
    have hbd := chg_bd c l h0
    rw [h0]
    have HOD := Lib.hid (rodd_any c hbd.1 _ _ _ l w1 HC1.out HL1.out hbd.2.1 (fun i => by
      have h := hbd.2.2.2 i
      rw [padC_get l (by rw [hbd.2.1]; exact hbd.1.n5)] at h
      omega))
    rw [oddR_eq c hbd.1 l (by rw [hbd.2.1]; exact hbd.1.n5), HTOL.out] at HOD
    clear hbd h0
    have c0 := cellOf R1.out 0 _ rfl
    have c1 := cellOf R1.out 1 _ rfl
    have c2 := cellOf R1.out 2 _ rfl
    have cl := lt_of_block R1.out
    go_wp2_with fail
    refine HOD.out.mono ?_
    rintro e w2 ⟨rfl, hb2⟩
    have HB2 := Lib.hid (HB1.out.trans (hb2.mono HB1.out.size))
    clear hb2 c0 c1 c2 cl
    go_wp2_with fail
    go_ret2
    exact ⟨rfl, HB2.out⟩
  · rw [if_pos h0] at HRS
    obtain rfl := HRS.out
    obtain ⟨er, her⟩ : ∃ x, chgE c l = x := ⟨_, rfl⟩
    rw [her] at h0 ⊢
    have tz : (er != 0) = true := by simp [h0]
    have HE := Lib.hid her
    clear h0 her HRS
    go_wp2_with fail
    go_ret2
    exact ⟨by rw [HE.out]; rfl, HB1.out⟩
set_option maxRecDepth 100000 in
set_option maxHeartbeats 4000000 in
theorem rcost_any (c : Cas) (sv ev lv : Value) (l : List Int) (w : World) (hC : CasAt w c sv ev) (hL : IntsAt w lv l) :
    Calls Try.prog 23 #[.agg #[.int .i64 c.tol, sv, ev], lv] w fun e w' => e = .returned (.tuple #[.int .i64 (costC c l).1, .int .i64 (costC c l).2]) ∧ Below w.heap.size w w' := by
  obtain ⟨sa, n, sc, rfl⟩ : ∃ a n cc, sv = .slice a n cc := by obtain ⟨_, a, cap, h, _⟩ := hC.shs; exact ⟨_, _, _, h⟩
  obtain ⟨ea, m, ec, rfl⟩ : ∃ a n cc, ev = .slice a n cc := by obtain ⟨_, a, cap, h, _⟩ := hC.eds; exact ⟨_, _, _, h⟩
  obtain ⟨la, q, lc, rfl⟩ : ∃ a n cc, lv = .slice a n cc := by obtain ⟨_, a, cap, h, _⟩ := hL; exact ⟨_, _, _, h⟩
  obtain ⟨tol, htol⟩ : ∃ t, c.tol = t := ⟨_, rfl⟩
  obtain ⟨W, hW⟩ : ∃ W, w.alloc (Obj.cells #[.int .i64 tol, .slice sa n sc, .slice ea m ec] 25) = W := ⟨_, rfl⟩
  have hb : Below w.heap.size w W := by rw [← hW]; exact (Below.refl _ _).alloc (Nat.le_refl _) _
  have HCK := Lib.hid (rchanges_any c _ _ _ l W (hC.below hb) (hL.below hb))
  have HTOL := Lib.hid htol
  rw [htol] at HCK ⊢
  have HR : Hid (W.heap[w.heap.size]? = some (Obj.cells #[.int .i64 tol, .slice sa n sc, .slice ea m ec] 25)) := by show _ = _; rw [← hW]; exact heap_alloc_new w _
  have HC := Lib.hid (hC.below hb)
  have HL := Lib.hid (hL.below hb)
  have HW := Lib.hid hW
  have HB := Lib.hid hb
  obtain ⟨res, hres⟩ : ∃ r, costC c l = r := ⟨_, rfl⟩
  have HRS : Hid (res = if chgE c l ≠ 0 then (0, chgE c l) else (costK c.shs (padC l) c.shs.length, 0)) := by show _ = _; rw [← hres]; rfl
  rw [hres]
  clear hW hb hC hL htol hres
  go_enter Try.func23, Try.ntmps23
  go_wp2_with fail
  rw [HW.out]
  have c0 := cellOf HR.out 0 _ rfl
  have c1 := cellOf HR.out 1 _ rfl
  have c2 := cellOf HR.out 2 _ rfl
  have cl := lt_of_block HR.out
  go_wp2_with fail
  refine HCK.out.mono ?_
  rintro e w1 ⟨rfl, hb1⟩
  have R1 := Lib.hid ((hb1.block _ (lt_of_block HR.out)).trans HR.out)
  have HB1 := Lib.hid (HB.out.trans (hb1.mono HB.out.size))
  have HC1 := Lib.hid (HC.out.below hb1)
  have HL1 := Lib.hid (HL.out.below hb1)
  clear hb1 HB HC HL HCK HW HR c0 c1 c2 cl
  by_cases h0 : chgE c l = 0
  · rw [if_neg (by simp [h0])] at HRS
    obtain rfl := HRS.out
    have hbd := chg_bd c l h0
    rw [h0]
    have hg : ∀ i, (padC l).getD i 0 = l.getD i 0 := padC_get l (by rw [hbd.2.1]; exact hbd.1.n5)
    have HOD := Lib.hid (rcosts_any tol c.shs _ (.slice ea m ec) _ l w1 HC1.out.shs hbd.1.sh HL1.out (by rw [hbd.2.1]; exact Nat.le_refl _) hbd.1.n5 (fun i => by
      have h := hbd.2.2.2 i
      rw [hg] at h
      omega))
    rw [show costK c.shs l l.length = costK c.shs (padC l) c.shs.length by
      rw [hbd.2.1]
      have : ∀ k, costK c.shs l k = costK c.shs (padC l) k := by
        intro k
        induction k with
        | zero => rfl
        | succ k ih => simp only [costK, ih, hg]
      exact this _] at HOD
    clear hbd h0 hg
    have c0 := cellOf R1.out 0 _ rfl
    have c1 := cellOf R1.out 1 _ rfl
    have c2 := cellOf R1.out 2 _ rfl
    have cl := lt_of_block R1.out
    go_wp2_with fail
    refine HOD.out.mono ?_
    rintro e w2 ⟨rfl, hb2⟩
    have HB2 := Lib.hid (HB1.out.trans (hb2.mono HB1.out.size))
    clear hb2 c0 c1 c2 cl
    go_wp2_with fail
    go_ret2
    exact ⟨rfl, HB2.out⟩
  · rw [if_pos h0] at HRS
    obtain rfl := HRS.out
    obtain ⟨er, her⟩ : ∃ x, chgE c l = x := ⟨_, rfl⟩
    rw [her] at h0 ⊢
    have tz : (er != 0) = true := by simp [h0]
    have HE := Lib.hid her
    clear h0 her HRS
    go_wp2_with fail
    go_ret2
    exact ⟨by rw [HE.out]; rfl, HB1.out⟩
end Go.Proofs.Ytojdocomkhihoaa
namespace Go.Proofs.Ytojdocomkhihoaa
open Go Go.RowKit Go.Shelf Ed

theorem wantsA_err {c : Cas} {i : Int} (h : errC c ≠ 0) : wantsA c i = ((0, 0), errC c) := by unfold wantsA; rw [if_pos h]
theorem wantsA_none {c : Cas} {i : Int} (h : errC c = 0) (h2 : inB 0 ((c.eds.length : Int) - 1) i = false) : wantsA c i = ((0, 0), 4) := by unfold wantsA; rw [if_neg (by simp [h]), if_pos h2]
theorem wantsA_ok {c : Cas} {i : Int} (h : errC c = 0) (h2 : inB 0 ((c.eds.length : Int) - 1) i = true) : wantsA c i = if (wantF c i.toNat).2 < (wantF c i.toNat).1 then ((0, 0), 9) else (wantF c i.toNat, 0) := by unfold wantsA; rw [if_neg (by simp [h]), if_neg (by simp [h2])]
set_option maxRecDepth 100000 in
set_option maxHeartbeats 8000000 in
theorem rwants_any (c : Cas) (sv ev : Value) (i : Int) (w : World) (hC : CasAt w c sv ev) :
    Calls Try.prog 19 #[.agg #[.int .i64 c.tol, sv, ev], .int .i64 i] w fun e w' => e = .returned (.tuple #[.agg #[.int .i64 (wantsA c i).1.1, .int .i64 (wantsA c i).1.2], .int .i64 (wantsA c i).2]) ∧ Below w.heap.size w w' := by
  obtain ⟨hS, hE⟩ := id hC
  obtain ⟨_, sa, sc, rfl, _⟩ := id hS
  obtain ⟨lm, ea, ec, rfl, _⟩ := id hE
  obtain ⟨n, hn⟩ : ∃ n, c.shs.length = n := ⟨_, rfl⟩
  obtain ⟨m, hm⟩ : ∃ m, c.eds.length = m := ⟨_, rfl⟩
  obtain ⟨tol, htol⟩ : ∃ t, c.tol = t := ⟨_, rfl⟩
  rw [hn] at hC ⊢
  rw [hm] at hC hE lm ⊢
  obtain ⟨W, hW, q1, q2, hb, hsz⟩ := al2 w (Obj.cells #[.int .i64 tol, .slice sa n sc, .slice ea m ec] 25) (Obj.cells #[.int .i64 0, .int .i64 0] 31)
  have HCK := Lib.hid (rcheck_any c _ _ W (hC.below hb))
  rw [htol] at HCK ⊢
  have HR := Lib.hid q1
  have HQ := Lib.hid q2
  have HE := Lib.hid (hE.below hb)
  have HW := Lib.hid hW
  have HB := Lib.hid hb
  have HM := Lib.hid hm
  have HTOL := Lib.hid htol
  have mI : (m : Int) ≤ 4611686018427387904 := by omega
  obtain ⟨⟨⟨r1, r2⟩, r3⟩, hres⟩ : ∃ r, wantsA c i = r := ⟨_, rfl⟩
  have HRS := Lib.hid hres
  rw [hres]
  simp only
  clear hW hb hS hE hC hn hm htol hres q1 q2 hsz
  go_enter Try.func19, Try.ntmps19
  go_wp2_with fail
  rw [HW.out]
  have c0 := cellOf HR.out 0 _ rfl
  have c1 := cellOf HR.out 1 _ rfl
  have c2 := cellOf HR.out 2 _ rfl
  have cl := lt_of_block HR.out
  go_wp2_with fail
  refine HCK.out.mono ?_
  rintro e w1 ⟨rfl, hb1⟩
  have R1 := Lib.hid ((hb1.block _ (lt_of_block HR.out)).trans HR.out)
  have Q1 := Lib.hid ((hb1.block _ (lt_of_block HQ.out)).trans HQ.out)
  have HB1 := Lib.hid (HB.out.trans (hb1.mono HB.out.size))
  have HE1 := Lib.hid (HE.out.below hb1)
  clear hb1 HB HE HCK HW HR HQ c0 c1 c2 cl
  obtain ⟨⟨k1, k2, er⟩, hk⟩ : ∃ x, checkC c = x := ⟨_, rfl⟩
  have HER : Hid (errC c = er) := by show _ = _; unfold errC; rw [hk]
  rw [hk]
  clear hk
  have c0 := cellOf R1.out 0 _ rfl
  have c1 := cellOf R1.out 1 _ rfl
  have c2 := cellOf R1.out 2 _ rfl
  have cl := lt_of_block R1.out
  have q0 := cellOf Q1.out 0 _ rfl
  have q1 := cellOf Q1.out 1 _ rfl
  have f0 := frozen_of_row _ _ 0 _ _ Q1.out
  have f1 := frozen_of_row _ _ 1 _ _ Q1.out
  have ql := lt_of_block Q1.out
  by_cases h0 : er = 0
  · subst h0
    have s1 : IntKind.i64.wrap ((m : Int) - 1) = (m : Int) - 1 := by rw [IntKind.wrap_i64] <;> omega
    go_wp2_with fail
    refine (rin_any i 0 ((m : Int) - 1) w1).mono ?_
    rintro e w' ⟨rfl, rfl⟩
    cases hin : inB 0 ((m : Int) - 1) i
    · have hr := wantsA_none HER.out (show inB 0 ((c.eds.length : Int) - 1) i = false by rw [HM.out]; exact hin)
      rw [HRS.out] at hr
      simp only [Prod.mk.injEq] at hr
      obtain ⟨⟨rfl, rfl⟩, rfl⟩ := hr
      clear hin
      go_wp2_with fail
      exact bodyPost_ret (span_result2 rfl _ _ (w.heap.size + 1) _ _ rfl (two_set Q1.out)) rfl ⟨rfl, two_below HB1.out (by omega)⟩
    · have hr := wantsA_ok HER.out (show inB 0 ((c.eds.length : Int) - 1) i = true by rw [HM.out]; exact hin)
      rw [HRS.out] at hr
      have HR2 := Lib.hid hr
      have hin' : 0 ≤ i ∧ i < m := by unfold inB at hin; simp at hin; omega
      obtain ⟨i0, i1⟩ := hin'
      obtain ⟨k, rfl⟩ : ∃ k : Nat, i = k := ⟨i.toNat, by omega⟩
      have hkm : k < c.eds.length := by rw [HM.out]; omega
      rw [show wantF c (k : Int).toNat = wantS tol c.eds[k].pts by unfold wantF; rw [Int.toNat_natCast, getD_lt _ _ hkm, HTOL.out]] at HR2
      have hv := valid_of HER.out
      have hed := hv.ed _ (List.getElem_mem hkm)
      obtain ⟨eb, eo, pa, pc, rfl, d0, d1, d2, hpp⟩ := HE1.out.get hkm
      have HF : Hid (∀ W', Below w1.heap.size w1 W' → Calls Try.prog 56 #[.agg #[.int .i64 tol, .slice sa n sc, .slice (some ⟨eb, eo, none⟩) m ec], .agg #[.int .i64 c.eds[k].a, .int .i64 c.eds[k].b, .slice pa c.eds[k].pts.length pc]] W' fun e w' => e = .returned (.tuple #[.agg #[.int .i64 (wantS tol c.eds[k].pts).1, .int .i64 (wantS tol c.eds[k].pts).2], .bool (decide ((wantS tol c.eds[k].pts).1 ≤ (wantS tol c.eds[k].pts).2))]) ∧ Below W'.heap.size W' w') := fun W' hb => by
        have h := rwant_any c.tol (.slice sa n sc) (.slice (some ⟨eb, eo, none⟩) m ec) (.slice pa c.eds[k].pts.length pc) c.eds[k].a c.eds[k].b c.eds[k].pts W' hv.t0 hv.t50 hed.pt hed.p1 hed.p4 (hpp.below hb)
        rw [HTOL.out] at h
        exact h
      generalize wantS tol c.eds[k].pts = s at *
      generalize c.eds[k] = d at *
      obtain ⟨da, db, ps⟩ := d
      obtain ⟨lo, hi⟩ := s
      simp only at d0 d1 d2 HF HR2
      obtain ⟨np, hnp⟩ : ∃ np, ps.length = np := ⟨_, rfl⟩
      rw [hnp] at d2 HF
      have kI : (k : Int) < (m : Int) := i1
      clear hin hed hv hpp hnp hkm hr i0 i1
      go_wp2_with fail
      go_cut [9, 10] (fun v b wx => b = .bool (decide (lo ≤ hi)) ∧ ∃ g, v = .pointer (some ⟨g, 0, none⟩) ∧ Hid (wx.heap[g]? = some (.cells #[.int .i64 lo, .int .i64 hi] 31 (0, 0))) ∧ w1.heap.size ≤ g ∧ Hid (Below w1.heap.size w1 wx))
      case first =>
        have KA : ∀ W' : World, Below w1.heap.size w1 W' → (W'.cell? ⟨w.heap.size, 0, none⟩ = some (.int .i64 tol) ∧ W'.cell? ⟨w.heap.size, 1, none⟩ = some (.slice sa n sc) ∧ W'.cell? ⟨w.heap.size, 2, none⟩ = some (.slice (some ⟨eb, eo, none⟩) m ec) ∧ W'.cell? ⟨eb, eo + k * 3, none⟩ = some (.int .i64 da) ∧ W'.cell? ⟨eb, eo + k * 3 + 1, none⟩ = some (.int .i64 db) ∧ W'.cell? ⟨eb, eo + k * 3 + 2, none⟩ = some (.slice pa np pc) ∧ Below w1.heap.size w1 W') := fun W' hb => ⟨keepK c0 hb, keepK c1 hb, keepK c2 hb, keepK d0 hb, keepK d1 hb, keepK d2 hb, hb⟩
        refine wp_region_noPanic ?_
        refine wp_region_held_drew (S := (fun W' => W'.cell? ⟨w.heap.size, 0, none⟩ = some (.int .i64 tol) ∧ W'.cell? ⟨w.heap.size, 1, none⟩ = some (.slice sa n sc) ∧ W'.cell? ⟨w.heap.size, 2, none⟩ = some (.slice (some ⟨eb, eo, none⟩) m ec) ∧ W'.cell? ⟨eb, eo + k * 3, none⟩ = some (.int .i64 da) ∧ W'.cell? ⟨eb, eo + k * 3 + 1, none⟩ = some (.int .i64 db) ∧ W'.cell? ⟨eb, eo + k * 3 + 2, none⟩ = some (.slice pa np pc) ∧ Below w1.heap.size w1 W')) (by kernel_rfl) ?_ (fun hh0 => ?_)
        · exact KA _ (Below.refl _ _).drew
        refine wpAnyH_take (i := 0) (v := ?_) rfl (by as_aux_lemma => kernel_rfl) (by as_aux_lemma => kernel_rfl) (by as_aux_lemma => kernel_rfl) (fun _ _ _ h => h) (Or.inl ⟨by rfl, ?_⟩) (by assumption) ?_
        rotate_left
        · intro w hSw
          try dsimp only at hSw
          go_simp
          try with_reducible rfl
        try simp only [Act.put, List.getElem_toArray, List.getElem_cons_succ, List.getElem_cons_zero, List.setIfInBounds_toArray, List.set_cons_zero, List.set_cons_succ]
        refine wpAnyH_take (i := 1) (v := ?_) rfl (by as_aux_lemma => kernel_rfl) (by as_aux_lemma => kernel_rfl) (by as_aux_lemma => kernel_rfl) (fun _ _ _ h => h) (Or.inl ⟨by rfl, ?_⟩) (by assumption) ?_
        rotate_left
        · intro w hSw
          try dsimp only at hSw
          go_simp
          try with_reducible rfl
        try simp only [Act.put, List.getElem_toArray, List.getElem_cons_succ, List.getElem_cons_zero, List.setIfInBounds_toArray, List.set_cons_zero, List.set_cons_succ]
        refine wpAnyH_take (i := 2) (v := ?_) rfl (by as_aux_lemma => kernel_rfl) (by as_aux_lemma => kernel_rfl) (by as_aux_lemma => kernel_rfl) (fun _ _ _ h => h) (Or.inl ⟨by rfl, ?_⟩) (by assumption) ?_
        rotate_left
        · intro w hSw
          try dsimp only at hSw
          go_simp
          try with_reducible rfl
        try simp only [Act.put, List.getElem_toArray, List.getElem_cons_succ, List.getElem_cons_zero, List.setIfInBounds_toArray, List.set_cons_zero, List.set_cons_succ]
        refine wpAnyH_take (i := 3) (v := ?_) rfl (by as_aux_lemma => kernel_rfl) (by as_aux_lemma => kernel_rfl) (by as_aux_lemma => kernel_rfl) (fun _ _ _ h => h) (Or.inl ⟨by rfl, ?_⟩) (by assumption) ?_
        rotate_left
        · intro w hSw
          try dsimp only at hSw
          go_simp
          try with_reducible rfl
        try simp only [Act.put, List.getElem_toArray, List.getElem_cons_succ, List.getElem_cons_zero, List.setIfInBounds_toArray, List.set_cons_zero, List.set_cons_succ]
        refine wpAnyH_take (i := 4) (v := ?_) rfl (by as_aux_lemma => kernel_rfl) (by as_aux_lemma => kernel_rfl) (by as_aux_lemma => kernel_rfl) (fun _ _ _ h => h) (Or.inl ⟨by rfl, ?_⟩) (by assumption) ?_
        rotate_left
        · intro w hSw
          try dsimp only at hSw
          go_simp
          try with_reducible rfl
        try simp only [Act.put, List.getElem_toArray, List.getElem_cons_succ, List.getElem_cons_zero, List.setIfInBounds_toArray, List.set_cons_zero, List.set_cons_succ]
        refine wpAnyH_take (i := 5) (v := ?_) rfl (by as_aux_lemma => kernel_rfl) (by as_aux_lemma => kernel_rfl) (by as_aux_lemma => kernel_rfl) (fun _ _ _ h => h) (Or.inl ⟨by rfl, ?_⟩) (by assumption) ?_
        rotate_left
        · intro w hSw
          try dsimp only at hSw
          go_simp
          try with_reducible rfl
        try simp only [Act.put, List.getElem_toArray, List.getElem_cons_succ, List.getElem_cons_zero, List.setIfInBounds_toArray, List.set_cons_zero, List.set_cons_succ]
        refine wpAnyH_ready (rs := [6, 10]) (by as_aux_lemma => kernel_rfl) (by simp) ?_
        refine AllReadyH.cons rfl (fun K hK => ?_) (AllReadyH.cons rfl (fun K hK => ?_) AllReadyH.nil)
        · skip
          go_simp
          refine (HF.out _ hh0.2.2.2.2.2.2).mono ?_
          rintro e w8 ⟨rfl, hb8⟩
          refine hK.out _ _ (KA _ (Below.trans hh0.2.2.2.2.2.2 (Below.mono hb8 (hh0.2.2.2.2.2.2).size))) (fun hh1 => ?_)
          clear hK K
          try simp only [Act.put, List.getElem_toArray, List.getElem_cons_succ, List.getElem_cons_zero, List.setIfInBounds_toArray, List.set_cons_zero, List.set_cons_succ]
          refine wpAnyH_take (i := 7) (v := ?_) rfl (by as_aux_lemma => kernel_rfl) (by as_aux_lemma => kernel_rfl) (by as_aux_lemma => kernel_rfl) (fun _ _ _ h => h) (Or.inl ⟨by rfl, ?_⟩) (by assumption) ?_
          rotate_left
          · intro w hSw
            try dsimp only at hSw
            go_simp
            try with_reducible rfl
          try simp only [Act.put, List.getElem_toArray, List.getElem_cons_succ, List.getElem_cons_zero, List.setIfInBounds_toArray, List.set_cons_zero, List.set_cons_succ]
          refine wpAnyH_take (i := 8) (v := ?_) rfl (by as_aux_lemma => kernel_rfl) (by as_aux_lemma => kernel_rfl) (by as_aux_lemma => kernel_rfl) (fun _ _ _ h => h) (Or.inl ⟨by rfl, ?_⟩) (by assumption) ?_
          rotate_left
          · intro w hSw
            try dsimp only at hSw
            go_simp
            try with_reducible rfl
          try simp only [Act.put, List.getElem_toArray, List.getElem_cons_succ, List.getElem_cons_zero, List.setIfInBounds_toArray, List.set_cons_zero, List.set_cons_succ]
          refine wpAnyH_take (i := 9) (v := ?_) rfl (by as_aux_lemma => kernel_rfl) (by as_aux_lemma => kernel_rfl) (by as_aux_lemma => kernel_rfl) (fun _ _ _ h => h) (Or.inl ⟨by rfl, ?_⟩) (by assumption) ?_
          rotate_left
          · intro w hSw
            try dsimp only at hSw
            go_simp
            try with_reducible rfl
          try simp only [Act.put, List.getElem_toArray, List.getElem_cons_succ, List.getElem_cons_zero, List.setIfInBounds_toArray, List.set_cons_zero, List.set_cons_succ]
          refine wpAnyH_ready (rs := [10]) (by as_aux_lemma => kernel_rfl) (by simp) ?_
          refine AllReadyH.cons rfl (fun K hK => ?_) AllReadyH.nil
          go_simp
          refine hK.out _ _ (KA _ ((hh1.2.2.2.2.2.2).alloc (hh1.2.2.2.2.2.2).size _)) (fun hh2 => ?_)
          clear hK K
          try simp only [Act.put, List.getElem_toArray, List.getElem_cons_succ, List.getElem_cons_zero, List.setIfInBounds_toArray, List.set_cons_zero, List.set_cons_succ]
          refine wpAnyH_ready (rs := [11]) (by as_aux_lemma => kernel_rfl) (by simp) ?_
          refine AllReadyH.cons rfl (fun K hK => ?_) AllReadyH.nil
          go_simp
          refine hK.out _ _ ?_ (fun hh3 => ?_)
          · first | exact KA _ (two_below hh2.2.2.2.2.2.2 (by omega)) | exact KA _ ((hh2.2.2.2.2.2.2).setCell (by simp; omega) _) | exact KA _ ((hh0.2.2.2.2.2.2).alloc (hh0.2.2.2.2.2.2).size _) | exact KA _ ((hh1.2.2.2.2.2.2).alloc (hh1.2.2.2.2.2.2).size _)
          clear hK K
          try simp only [Act.put, List.getElem_toArray, List.getElem_cons_succ, List.getElem_cons_zero, List.setIfInBounds_toArray, List.set_cons_zero, List.set_cons_succ]
          refine wpAnyH_ready (rs := [12]) (by as_aux_lemma => kernel_rfl) (by simp) ?_
          refine AllReadyH.cons rfl (fun K hK => ?_) AllReadyH.nil
          go_simp
          refine hK.out _ _ hh3 (fun hh4 => ?_)
          clear hK K
          try simp only [Act.put, List.getElem_toArray, List.getElem_cons_succ, List.getElem_cons_zero, List.setIfInBounds_toArray, List.set_cons_zero, List.set_cons_succ]
          refine wpAnyH_done (by as_aux_lemma => kernel_rfl) ?_ _
          refine NoPanic.normal ?_
          have HBZ := Lib.hid (hh4.2.2.2.2.2.2)
          go_wp2_with fail
          go_meet
          case rel => first | exact ⟨rfl, _, rfl, heap_alloc_new w8 _, (hb8.size |> fun h => by have := hh0.2.2.2.2.2.2.size; omega), HBZ⟩ | exact ⟨rfl, _, rfl, two_set z8, Nat.le_refl _, HBZ⟩
        · skip
          go_simp
          refine hK.out _ _ (KA _ ((hh0.2.2.2.2.2.2).alloc (hh0.2.2.2.2.2.2).size _)) (fun hh1 => ?_)
          clear hK K
          try simp only [Act.put, List.getElem_toArray, List.getElem_cons_succ, List.getElem_cons_zero, List.setIfInBounds_toArray, List.set_cons_zero, List.set_cons_succ]
          refine wpAnyH_ready (rs := [6]) (by as_aux_lemma => kernel_rfl) (by simp) ?_
          refine AllReadyH.cons rfl (fun K hK => ?_) AllReadyH.nil
          go_simp
          refine (HF.out _ hh1.2.2.2.2.2.2).mono ?_
          rintro e w8 ⟨rfl, hb8⟩
          have z8 := (hb8.block w1.heap.size (by simp)).trans (heap_alloc_new w1.drew (Obj.cells #[.int .i64 0, .int .i64 0] 31))
          have y0 := cellOf z8 0 _ rfl
          have y1 := cellOf z8 1 _ rfl
          have g0 := frozen_of_row _ _ 0 _ _ z8
          have g1 := frozen_of_row _ _ 1 _ _ z8
          have zl := lt_of_block z8
          refine hK.out _ _ (KA _ (Below.trans hh1.2.2.2.2.2.2 (Below.mono hb8 (hh1.2.2.2.2.2.2).size))) (fun hh2 => ?_)
          clear hK K
          try simp only [Act.put, List.getElem_toArray, List.getElem_cons_succ, List.getElem_cons_zero, List.setIfInBounds_toArray, List.set_cons_zero, List.set_cons_succ]
          refine wpAnyH_take (i := 7) (v := ?_) rfl (by as_aux_lemma => kernel_rfl) (by as_aux_lemma => kernel_rfl) (by as_aux_lemma => kernel_rfl) (fun _ _ _ h => h) (Or.inl ⟨by rfl, ?_⟩) (by assumption) ?_
          rotate_left
          · intro w hSw
            try dsimp only at hSw
            go_simp
            try with_reducible rfl
          try simp only [Act.put, List.getElem_toArray, List.getElem_cons_succ, List.getElem_cons_zero, List.setIfInBounds_toArray, List.set_cons_zero, List.set_cons_succ]
          refine wpAnyH_take (i := 8) (v := ?_) rfl (by as_aux_lemma => kernel_rfl) (by as_aux_lemma => kernel_rfl) (by as_aux_lemma => kernel_rfl) (fun _ _ _ h => h) (Or.inl ⟨by rfl, ?_⟩) (by assumption) ?_
          rotate_left
          · intro w hSw
            try dsimp only at hSw
            go_simp
            try with_reducible rfl
          try simp only [Act.put, List.getElem_toArray, List.getElem_cons_succ, List.getElem_cons_zero, List.setIfInBounds_toArray, List.set_cons_zero, List.set_cons_succ]
          refine wpAnyH_take (i := 9) (v := ?_) rfl (by as_aux_lemma => kernel_rfl) (by as_aux_lemma => kernel_rfl) (by as_aux_lemma => kernel_rfl) (fun _ _ _ h => h) (Or.inl ⟨by rfl, ?_⟩) (by assumption) ?_
          rotate_left
          · intro w hSw
            try dsimp only at hSw
            go_simp
            try with_reducible rfl
          try simp only [Act.put, List.getElem_toArray, List.getElem_cons_succ, List.getElem_cons_zero, List.setIfInBounds_toArray, List.set_cons_zero, List.set_cons_succ]
          refine wpAnyH_ready (rs := [11]) (by as_aux_lemma => kernel_rfl) (by simp) ?_
          refine AllReadyH.cons rfl (fun K hK => ?_) AllReadyH.nil
          go_simp
          refine hK.out _ _ ?_ (fun hh3 => ?_)
          · first | exact KA _ (two_below hh2.2.2.2.2.2.2 (by omega)) | exact KA _ ((hh2.2.2.2.2.2.2).setCell (by simp; omega) _) | exact KA _ ((hh0.2.2.2.2.2.2).alloc (hh0.2.2.2.2.2.2).size _) | exact KA _ ((hh1.2.2.2.2.2.2).alloc (hh1.2.2.2.2.2.2).size _)
          clear hK K
          try simp only [Act.put, List.getElem_toArray, List.getElem_cons_succ, List.getElem_cons_zero, List.setIfInBounds_toArray, List.set_cons_zero, List.set_cons_succ]
          refine wpAnyH_ready (rs := [12]) (by as_aux_lemma => kernel_rfl) (by simp) ?_
          refine AllReadyH.cons rfl (fun K hK => ?_) AllReadyH.nil
          go_simp
          refine hK.out _ _ hh3 (fun hh4 => ?_)
          clear hK K
          try simp only [Act.put, List.getElem_toArray, List.getElem_cons_succ, List.getElem_cons_zero, List.setIfInBounds_toArray, List.set_cons_zero, List.set_cons_succ]
          refine wpAnyH_done (by as_aux_lemma => kernel_rfl) ?_ _
          refine NoPanic.normal ?_
          have HBZ := Lib.hid (hh4.2.2.2.2.2.2)
          go_wp2_with fail
          go_meet
          case rel => first | exact ⟨rfl, _, rfl, heap_alloc_new w8 _, (hb8.size |> fun h => by have := hh0.2.2.2.2.2.2.size; omega), HBZ⟩ | exact ⟨rfl, _, rfl, two_set z8, Nat.le_refl _, HBZ⟩
      case rest =>
        obtain ⟨rfl, g, rfl, hg, hgl, hbw⟩ := hcut
        have HG := Lib.hid hg
        have Q2 := Lib.hid ((hbw.block _ ql).trans Q1.out)
        have HB2 := Lib.hid (HB1.out.trans (hbw.mono HB1.out.size))
        clear c0 c1 c2 cl d0 d1 d2 q0 q1 f0 f1 hbw hg Q1 HB1 R1 HE1 HF
        have x0 := cellOf HG.out 0 _ rfl
        have x1 := cellOf HG.out 1 _ rfl
        have xl := lt_of_block HG.out
        have q0 := cellOf Q2.out 0 _ rfl
        have q1 := cellOf Q2.out 1 _ rfl
        have f0 := frozen_of_row _ _ 0 _ _ Q2.out
        have f1 := frozen_of_row _ _ 1 _ _ Q2.out
        have ql2 := lt_of_block Q2.out
        have hne : w.heap.size + 1 ≠ g := by omega
        have hne' : g ≠ w.heap.size + 1 := by omega
        by_cases hlt : hi < lo
        · have hr := HR2.out
          rw [if_pos hlt] at hr
          simp only [Prod.mk.injEq] at hr
          obtain ⟨⟨rfl, rfl⟩, rfl⟩ := hr
          have td : decide (lo ≤ hi) = false := by simp; omega
          rw [td]
          clear hlt HR2 td
          go_wp2_with fail
          exact bodyPost_ret (span_result2 rfl _ _ (w.heap.size + 1) _ _ rfl (two_set Q2.out)) rfl ⟨rfl, two_below HB2.out (by omega)⟩
        · have hr := HR2.out
          rw [if_neg hlt] at hr
          simp only [Prod.mk.injEq] at hr
          obtain ⟨⟨rfl, rfl⟩, rfl⟩ := hr
          have td : decide (r1 ≤ r2) = true := by simp; omega
          rw [td]
          clear hlt HR2 td
          go_wp2_with fail
          exact bodyPost_ret (span_result2 rfl _ _ (w.heap.size + 1) _ _ rfl (two_set Q2.out)) rfl ⟨rfl, two_below HB2.out (by omega)⟩
  · have tz : (er == 0) = false := by simp [h0]
    have tz2 : (er != 0) = true := by simp [h0]
    have hr := wantsA_err (c := c) (i := i) (by rw [HER.out]; exact h0)
    rw [HRS.out, HER.out] at hr
    simp only [Prod.mk.injEq] at hr
    obtain ⟨⟨rfl, rfl⟩, rfl⟩ := hr
    clear h0
    go_wp2_with fail
    exact bodyPost_ret (span_result2 rfl _ _ (w.heap.size + 1) _ _ rfl (two_set Q1.out)) rfl ⟨rfl, two_below HB1.out (by omega)⟩
end Go.Proofs.Ytojdocomkhihoaa
