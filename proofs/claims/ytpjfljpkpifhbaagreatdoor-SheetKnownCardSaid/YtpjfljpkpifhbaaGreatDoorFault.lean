/- The first fault of a list: firstFault and nameFault of package sheet. -/
import Derived.Test.YtpjfljpkpifhbaaGreatDoorSeen
import Derived.Test.YtpjfljpkpifhbaaGreatDoorNf
set_option linter.unusedSimpArgs false
set_option linter.unusedVariables false
namespace Go.Proofs.YtpjfljpkpifhbaaGreatDoor
open Go Go.RowKit Hs

/-- The first number below n at which f is not 0, and f there; 0 and 0, if there is none. -/
def firstBad (f : Nat → Int) (n : Nat) : Int × Int := match (List.range n).find? (fun k => f k != 0) with | some k => ((k : Int), f k) | none => (0, 0)
theorem firstBad_at (f : Nat → Int) (n k : Nat) (hk : k < n) (h : ∀ j, j < k → f j = 0) (hb : f k ≠ 0) : firstBad f n = ((k : Int), f k) := by
  unfold firstBad
  have : (List.range n).find? (fun k => f k != 0) = some k := by
    rw [List.find?_range_eq_some]
    exact ⟨by simpa using hb, by simpa using hk, fun j hj => by simp [h j hj]⟩
  rw [this]
theorem firstBad_none (f : Nat → Int) (n : Nat) (h : ∀ j, j < n → f j = 0) : firstBad f n = (0, 0) := by
  unfold firstBad
  have : (List.range n).find? (fun k => f k != 0) = none := by
    rw [List.find?_eq_none]
    intro x hx
    simp [h x (by simpa using hx)]
  rw [this]

/-- A value reads as a list of strings. Its block lies below n. -/
def StrsAt (n : Nat) (w : World) (v : Value) (l : List ByteArray) : Prop :=
  l.length ≤ 4611686018427387904 ∧ ∃ a cap, v = .slice a l.length cap ∧ (l ≠ [] → ∃ b o, a = some ⟨b, o, none⟩ ∧ b < n ∧ ∀ k (h : k < l.length), w.cell? ⟨b, o + k, none⟩ = some (.string l[k]))
theorem StrsAt.keep {n : Nat} {w w' : World} {v : Value} {l : List ByteArray} (h : StrsAt n w v l) (hk : ∀ b o, b < n → w'.cell? ⟨b, o, none⟩ = w.cell? ⟨b, o, none⟩) : StrsAt n w' v l := by
  obtain ⟨h1, a, cap, rfl, h2⟩ := h
  refine ⟨h1, a, cap, rfl, fun hne => ?_⟩
  obtain ⟨b, o, rfl, hb, hc⟩ := h2 hne
  exact ⟨b, o, rfl, hb, fun k hk' => by rw [hk b _ hb]; exact hc k hk'⟩
theorem StrsAt.below {n : Nat} {w w' : World} {v : Value} {l : List ByteArray} (h : StrsAt n w v l) (hb : Below n w w') : StrsAt n w' v l := h.keep fun b o h => hb.cell (p := ⟨b, o, none⟩) h
theorem StrsAt.mono {n n' : Nat} {w : World} {v : Value} {l : List ByteArray} (h : StrsAt n w v l) (hn : n ≤ n') : StrsAt n' w v l := by
  obtain ⟨h1, a, cap, rfl, h2⟩ := h
  refine ⟨h1, a, cap, rfl, fun hne => ?_⟩
  obtain ⟨b, o, rfl, hb, hc⟩ := h2 hne
  exact ⟨b, o, rfl, Nat.lt_of_lt_of_le hb hn, hc⟩

def byts (l : List ByteArray) : List (List UInt8) := l.map (·.data.toList)
/-- The error of the k-th name. -/
def ptErr (l : List ByteArray) (k : Nat) : Int := nameErr ((byts l).take k) ((byts l).getD k [])

set_option maxRecDepth 100000 in
set_option maxHeartbeats 1000000 in
theorem firstFaultS_any (pv : Value) (Bm Bv : Nat) (l : List ByteArray) (w : World) (hP : StrsAt w.heap.size w pv l) (hlen : l.length ≤ 8) (hsz : ∀ s, s ∈ l → s.size ≤ 140737488351232)
    (hv : w.cell? ⟨Bv, 0, none⟩ = some (.map (some Bm))) (hS : SeenAt w Bm []) (n0 : Nat) (hn0 : n0 ≤ Bm) (hP0 : StrsAt n0 w pv l) (hne : Bv ≠ Bm) :
    Calls Tryz.prog 37 #[pv, .func (.func 56) #[] #[.pointer (some ⟨Bv, 0, none⟩)]] w fun e w' =>
      e = .returned (.tuple #[.int .i64 (firstBad (ptErr l) l.length).1, .int .i64 (firstBad (ptErr l) l.length).2]) ∧ Below n0 w w' := by
  obtain ⟨_, a, cap, rfl, hc⟩ := hP0
  have HS := Lib.hid hS
  have HC := Lib.hid hc
  have HSZ := Lib.hid hsz
  clear hS hc hsz hP
  have hlen' : (l.length : Int) ≤ 8 := by omega
  go_enter Tryz.func37, Tryz.ntmps37
  go_wp2
  go_loopw [11] (fun i wr => ∃ k : Nat, k ≤ l.length ∧ i = .int .i64 k ∧ Hid (SeenAt wr Bm ((byts l).take k) ∧ (∀ j, j < k → ptErr l j = 0) ∧ Below n0 w wr ∧ wr.cell? ⟨Bv, 0, none⟩ = some (.map (some Bm)))) (fun i _ => l.length - (intOf i).toNat)
  case atStart => exact ⟨0, Nat.zero_le _, rfl, by simpa using HS.out, fun j hj => by omega, Below.refl _ _, hv⟩
  case round =>
    obtain ⟨k, hk, rfl, HR⟩ := hrel
    clear hv
    by_cases hlt : k < l.length
    · obtain ⟨b, o, rfl, hb, hcc⟩ := HC.out (by intro e; simp [e] at hlt)
      obtain ⟨r1, r2, r3, r4⟩ := HR.out
      have hck := (r3.cell (p := ⟨b, o + k, none⟩) hb).trans (hcc k hlt)
      have hsk := HSZ.out l[k] (List.getElem_mem hlt)
      have hget : (byts l).getD k [] = l[k].data.toList := by simp [byts, List.getD_eq_getElem?_getD, hlt]
      have htk : (byts l).take (k + 1) = (byts l).take k ++ [l[k].data.toList] := by
        rw [List.take_succ_eq_append_getElem (by simpa [byts] using hlt)]
        simp [byts]
      have hpe : ptErr l k = nameErr ((byts l).take k) l[k].data.toList := by unfold ptErr; rw [hget]
      have HPE := Lib.hid hpe
      have HTK := Lib.hid htk
      clear hget htk hpe hcc
      generalize l[k] = s at hck hsk HPE HTK
      have hcall := nameFault1_any s Bm Bv ((byts l).take k) wr hsk r4 r1 (by simp [byts]; omega)
      have HCL := Lib.hid hcall
      clear hcall r1 r2 r3 r4
      go_wp2_with fail
      refine HCL.out.mono ?_
      rintro e w1 ⟨rfl, hs1, hg1⟩
      obtain ⟨r1, r2, r3, r4⟩ := HR.out
      rw [← HPE.out]
      have hB1 : Below n0 w w1 := r3.trans ⟨hg1.os, hg1.tape, hg1.output, hg1.size, fun j hj => hg1.block j (by have := r1.lt; omega) (by simp; omega)⟩
      have hv1 := hg1.cell r4 (by simpa using hne)
      by_cases hz : ptErr l k = 0
      · have tz : (ptErr l k != 0) = false := by simp [hz]
        have hn1 : Hid (SeenAt w1 Bm ((byts l).take (k + 1)) ∧ (∀ j, j < k + 1 → ptErr l j = 0) ∧ Below n0 w w1 ∧ w1.cell? ⟨Bv, 0, none⟩ = some (.map (some Bm))) := by
          refine ⟨?_, fun j hj => ?_, hB1, hv1⟩
          · rw [HTK.out]
            unfold afterName at hs1
            rwa [if_pos (HPE.out ▸ hz)] at hs1
          · rcases Nat.lt_or_ge j k with g | g
            · exact r2 j g
            · obtain rfl : j = k := by omega
              exact hz
        clear hz hs1 hg1 r1 r2 r3 r4 hB1 hv1 HR
        go_wp2
        go_roundw
        case rel => exact ⟨k + 1, by omega, by go_num, hn1⟩
        case measure => simp [intOf]; omega
      · have tz : (ptErr l k != 0) = true := by simp [hz]
        have hfin := Lib.hid (firstBad_at (ptErr l) l.length k hlt r2 hz)
        clear hz hs1 hg1 r1 r2 r3 r4 hv1 HR
        go_wp2
        go_ret2
        exact ⟨by rw [hfin.out]; rfl, hB1⟩
    · have hkl : k = l.length := by omega
      obtain ⟨r1, r2, r3, r4⟩ := HR.out
      have hfin := Lib.hid (firstBad_none (ptErr l) l.length (fun j hj => r2 j (by omega)))
      clear hkl r1 r2 r4
      go_wp2
      go_ret2
      exact ⟨by rw [hfin.out]; rfl, r3⟩
end Go.Proofs.YtpjfljpkpifhbaaGreatDoor
