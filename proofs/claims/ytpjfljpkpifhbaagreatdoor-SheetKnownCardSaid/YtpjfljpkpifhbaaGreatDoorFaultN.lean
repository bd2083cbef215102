/- The first fault of a list of notes: noteFault for every note, and firstFault over them, in package sheet. -/
import Derived.Test.YtpjfljpkpifhbaaGreatDoorFault
set_option linter.unusedSimpArgs false
set_option linter.unusedVariables false
namespace Go.Proofs.YtpjfljpkpifhbaaGreatDoor
open Go Go.RowKit Hs

set_option maxHeartbeats 1000000 in
theorem noteFault_o (iv : Int) (pa qa : Option Addr) (pn pc qn qc : Nat) (wd : Int) (n : Note) (w : World) (hk : kindB n = false) :
    Calls Tryz.prog 40 #[lookedV iv (.slice pa pn pc) (.slice qa qn qc) wd, noteV n] w fun e w' => e = .returned (.int .i64 (noteErr iv pn n)) ∧ Below w.heap.size w w' := by
  have HR := Lib.hid (ne_6 iv pn n hk)
  have hsay : sayV iv n = .nilIface := by
    have hk' : ¬ (1 ≤ n.k ∧ n.k ≤ 4) := by unfold kindB at hk; simp at hk; omega
    unfold sayV
    rw [if_neg (by omega), if_neg (by omega), if_neg (by omega), if_neg (by omega)]
  clear hk
  go_enter Tryz.func40, Tryz.ntmps40
  go_wp2_with fail
  refine (saying_any _ _ _ _ _ _ _ _ n _).mono ?_
  rintro e w1 ⟨rfl, hb⟩
  rw [hsay]
  have hB : Below w.heap.size w w1 := (((Below.refl _ _).alloc (Nat.le_refl _) _).alloc (by simp) _).trans (hb.mono (by simp; omega))
  clear hb hsay
  go_wp2
  go_ret
  exact ⟨by rw [HR.out]; rfl, hB⟩

theorem noteFault_any (iv : Int) (pa qa : Option Addr) (pn pc qn qc : Nat) (wd : Int) (n : Note) (w : World) (hiv : 1 ≤ iv) (hiv2 : iv ≤ 1000) (hp1 : 1 ≤ pn) (hpn : pn ≤ 8) :
    Calls Tryz.prog 40 #[lookedV iv (.slice pa pn pc) (.slice qa qn qc) wd, noteV n] w fun e w' => e = .returned (.int .i64 (noteErr iv pn n)) ∧ Below w.heap.size w w' := by
  cases hk : kindB n
  · exact noteFault_o iv pa qa pn pc qn qc wd n w hk
  · obtain ⟨k, a, b, lo, hi⟩ := n
    have : k = 1 ∨ k = 2 ∨ k = 3 ∨ k = 4 := by unfold kindB at hk; simp at hk; omega
    rcases this with rfl | rfl | rfl | rfl
    · exact noteFault_1 iv pa qa pn pc qn qc wd a b lo hi w hiv hiv2 hp1 hpn
    · exact noteFault_2 iv pa qa pn pc qn qc wd a b lo hi w hiv hiv2 hp1 hpn
    · exact noteFault_3 iv pa qa pn pc qn qc wd a b lo hi w hiv hiv2 hp1 hpn
    · exact noteFault_4 iv pa qa pn pc qn qc wd a b lo hi w hiv hiv2 hp1 hpn

/-- The error of the k-th note. -/
def ntErr (iv np : Int) (l : List Note) (k : Nat) : Int := match l[k]? with | some n => noteErr iv np n | none => 0

set_option maxRecDepth 100000 in
set_option maxHeartbeats 1000000 in
theorem firstFaultN_any (iv : Int) (pa qa : Option Addr) (pn pc qn qc : Nat) (nv : Value) (l : List Note) (w : World) (hiv : 1 ≤ iv) (hiv2 : iv ≤ 1000) (hp1 : 1 ≤ pn) (hpn : pn ≤ 8) (hN : NotesAt w.heap.size w nv l) (hlen : l.length ≤ 12) :
    Calls Tryz.prog 39 #[nv, .func (.func 40) #[.agg #[.int .i64 iv, .slice pa pn pc, .slice qa qn qc, .int .i64 0]] #[]] w fun e w' =>
      e = .returned (.tuple #[.int .i64 (firstBad (ntErr iv pn l) l.length).1, .int .i64 (firstBad (ntErr iv pn l) l.length).2]) ∧ Below w.heap.size w w' := by
  obtain ⟨_, a, cap, rfl, hc⟩ := hN
  have HC := Lib.hid hc
  clear hc
  have hlen' : (l.length : Int) ≤ 12 := by omega
  go_enter Tryz.func39, Tryz.ntmps39
  go_wp2
  go_loopw [11] (fun i wr => ∃ k : Nat, k ≤ l.length ∧ i = .int .i64 k ∧ Hid ((∀ j, j < k → ntErr iv pn l j = 0) ∧ Below w.heap.size w wr)) (fun i _ => l.length - (intOf i).toNat)
  case atStart => exact ⟨0, Nat.zero_le _, rfl, fun j hj => by omega, Below.refl _ _⟩
  case round =>
    obtain ⟨k, hk, rfl, HR⟩ := hrel
    by_cases hlt : k < l.length
    · obtain ⟨b, o, rfl, hb, hcc⟩ := HC.out (by intro e; simp [e] at hlt)
      obtain ⟨d0, d1, d2, d3, d4⟩ := hcc k hlt
      obtain ⟨r1, r2⟩ := HR.out
      have e0 := (r2.cell (p := ⟨b, o + k * 5, none⟩) hb).trans d0
      have e1 := (r2.cell (p := ⟨b, o + k * 5 + 1, none⟩) hb).trans d1
      have e2 := (r2.cell (p := ⟨b, o + k * 5 + 2, none⟩) hb).trans d2
      have e3 := (r2.cell (p := ⟨b, o + k * 5 + 3, none⟩) hb).trans d3
      have e4 := (r2.cell (p := ⟨b, o + k * 5 + 4, none⟩) hb).trans d4
      have hpe : ntErr iv pn l k = noteErr iv pn l[k] := by unfold ntErr; rw [List.getElem?_eq_getElem hlt]
      have HPE := Lib.hid hpe
      clear hpe hcc d0 d1 d2 d3 d4 r1 r2
      generalize l[k] = x at *
      go_wp2_with fail
      refine (noteFault_any iv pa qa pn pc qn qc 0 x _ hiv hiv2 hp1 hpn).mono ?_
      rintro e w1 ⟨rfl, hb1⟩
      obtain ⟨r1, r2⟩ := HR.out
      rw [← HPE.out]
      have hB1 : Below w.heap.size w w1 := (r2.alloc r2.size _).trans (hb1.mono (by rw [World.size_alloc]; have := r2.size; omega))
      by_cases hz : ntErr iv pn l k = 0
      · have tz : (ntErr iv pn l k != 0) = false := by simp [hz]
        have hn1 : Hid ((∀ j, j < k + 1 → ntErr iv pn l j = 0) ∧ Below w.heap.size w w1) := by
          refine ⟨fun j hj => ?_, hB1⟩
          rcases Nat.lt_or_ge j k with g | g
          · exact r1 j g
          · obtain rfl : j = k := by omega
            exact hz
        clear hz hb1 r1 r2 hB1 HR e0 e1 e2 e3 e4
        go_wp2
        go_roundw
        case rel => exact ⟨k + 1, by omega, by go_num, hn1⟩
        case measure => simp [intOf]; omega
      · have tz : (ntErr iv pn l k != 0) = true := by simp [hz]
        have hfin := Lib.hid (firstBad_at (ntErr iv pn l) l.length k hlt r1 hz)
        clear hz hb1 r1 r2 HR e0 e1 e2 e3 e4
        go_wp2
        go_ret2
        exact ⟨by rw [hfin.out]; rfl, hB1⟩
    · have hkl : k = l.length := by omega
      obtain ⟨r1, r2⟩ := HR.out
      have hfin := Lib.hid (firstBad_none (ntErr iv pn l) l.length (fun j hj => r1 j (by omega)))
      clear hkl r1
      go_wp2
      go_ret2
      exact ⟨by rw [hfin.out]; rfl, r2⟩

set_option maxHeartbeats 400000 in
theorem nameFault_any (w : World) : Calls Tryz.prog 38 #[] w fun e w' => e = .returned (.func (.func 56) #[] #[.pointer (some ⟨w.heap.size + 1, 0, none⟩)]) ∧ (w.alloc (.map #[] 0)).alloc (.cells #[.map (some w.heap.size)] 100) = w' := by
  have hmm := @run_makeMap Tryz.prog
  go_enter Tryz.func38, Tryz.ntmps38
  go_wp2
  go_ret
  exact ⟨rfl, rfl⟩
end Go.Proofs.YtpjfljpkpifhbaaGreatDoor
