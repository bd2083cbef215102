/- Names that were seen: the closure of nameFault in package sheet. -/
import Derived.Test.YtacmaddjpaebfaaGreatDoorName
import Derived.Test.YtacmaddjpaebfaaGreatDoorNotes
import Derived.Maps.Own
import Derived.Maps.OwnOps
import Derived.Maps.OwnSet
import Derived.Test.YtacmaddjpaebfaaGreatDoorNf
set_option linter.unusedSimpArgs false
set_option linter.unusedVariables false
namespace Go.Proofs.YtacmaddjpaebfaaGreatDoor
open Go Go.RowKit Go.Maps Go.WideMaps Hs

/-- Block b is a map of the names of a list. -/
def SeenAt (w : World) (b : Nat) (l : List (List UInt8)) : Prop :=
  ∃ D : DataW Unit, w.ownsMap Tryz.prog 9 (plainElem Tryz.prog 4) b l.length D ∧ IsMap D ∧ ∀ key : List UInt8, D.atKey (.string key) (.lit (.bool false)) = .lit (.bool (decide (key ∈ l)))
theorem SeenAt.lt {w : World} {b : Nat} {l : List (List UInt8)} (h : SeenAt w b l) : b < w.heap.size := by obtain ⟨D, h1, _⟩ := h; exact h1.lt
theorem SeenAt.kept {w w' : World} {b : Nat} {l : List (List UInt8)} (h : SeenAt w b l) {row : Option Nat} (hg : w.grownBy w' row) (hne : some b ≠ row) : SeenAt w' b l := by
  obtain ⟨D, h1, h2, h3⟩ := h
  exact ⟨D, h1.kept hg hne, h2, h3⟩
theorem SeenAt.made (w : World) : SeenAt (w.alloc (.map #[] 0)) w.heap.size [] := by
  refine ⟨.map [], World.ownsMap_made _ _ _ _, ⟨_, rfl⟩, fun key => ?_⟩
  simp [DataW.atKey]
theorem keyB : Keyed Tryz.prog 9 := string_keyed Tryz.underlying9

/-- The error of a name, behind others. -/
def nameErr (seen : List (List UInt8)) (s : List UInt8) : Int := if nameB s = false then 6 else if s ∈ seen then 5 else 0

/-- The names that were seen behind one more. -/
def afterName (seen : List (List UInt8)) (s : List UInt8) : List (List UInt8) := if nameErr seen s = 0 then seen ++ [s] else seen

theorem plainElem_bool_inv {H : Type} {P : Program} {e : TypeId} (he : P.underlying e = some .bool) {v : Value} {z : DataW H × List MemPlace} (h : plainElem P e v = some z) : ∃ b, v = .bool b ∧ z = (.lit (.bool b), []) := by
  unfold plainElem at h
  rw [he] at h
  cases v <;> simp at h
  exact ⟨_, rfl, h.symm⟩

set_option maxRecDepth 100000 in
set_option maxHeartbeats 1000000 in
theorem nameFault1_any (s : ByteArray) (Bm Bv : Nat) (l : List (List UInt8)) (w : World) (hs : s.size ≤ 140737488351232) (hv : w.cell? ⟨Bv, 0, none⟩ = some (.map (some Bm))) (hS : SeenAt w Bm l) (hl : l.length ≤ 1000) :
    Calls Tryz.prog 94 #[.string s, .pointer (some ⟨Bv, 0, none⟩)] w fun e w' => e = .returned (.int .i64 (nameErr l s.data.toList)) ∧ SeenAt w' Bm (afterName l s.data.toList) ∧ w.grownBy w' (some Bm) := by
  have HS := Lib.hid hS
  clear hS
  go_enter Tryz.func94, Tryz.ntmps94
  go_wp2_with fail
  refine (name_any s w hs).mono ?_
  rintro e w1 ⟨rfl, hb⟩
  have hv1 := (hb.cell (p := ⟨Bv, 0, none⟩) (World.block_lt_of_cell? w ⟨Bv, 0, none⟩ hv)).trans hv
  have hg1 := below_grownBy hb
  have HS1 := Lib.hid (HS.out.kept hg1 (by simp))
  have HG1 := Lib.hid hg1
  clear hb hv hg1
  cases hn : nameB s.data.toList
  · have he : nameErr l s.data.toList = 6 := by unfold nameErr; rw [if_pos hn]
    have HE := Lib.hid he
    clear he
    go_wp2
    go_ret
    refine ⟨by rw [HE.out]; rfl, by unfold afterName; rw [HE.out, if_neg (by decide)]; exact HS1.out, ⟨HG1.out.os, HG1.out.tape, HG1.out.output, HG1.out.size, fun k hk _ => HG1.out.block k hk (by simp)⟩⟩
  · obtain ⟨D, o1, o2, o3⟩ := HS1.out
    have hkey : keyOf Tryz.prog 9 (.string s) = some (.string s.data.toList) := keyOf_string_mk Tryz.underlying9 (by unfold maxLen; omega)
    obtain ⟨v, ps, hrun, hvv⟩ := o1.lookup keyB Tryz.underlying127 (Tryz.zeroValue4 w1) (plainElem_bool Tryz.underlying4 false) hkey
    obtain ⟨b, rfl, hb⟩ := plainElem_bool_inv Tryz.underlying4 hvv
    have hb' : b = decide (s.data.toList ∈ l) := by
      have := o3 s.data.toList
      simp only [Prod.mk.injEq] at hb
      rw [hb.1] at this
      simpa using this
    have O1 := Lib.hid o1
    have O3 := Lib.hid o3
    clear hb hvv o3
    cases b
    · have he : nameErr l s.data.toList = 0 := by
        unfold nameErr
        rw [if_neg (by rw [hn]; decide), if_neg (by simpa using hb'.symm)]
      have HE := Lib.hid he
      clear he hb'
      go_wp2_with (at_mapUpdate; refine wpList_mapUpdate_own _ rfl _ _ _ 127 rfl 9 4 keyB Tryz.underlying127 _ Bm l.length D rfl O1.out (by unfold maxLen; omega) _ _ _ rfl rfl hkey _ [] (plainElem_bool Tryz.underlying4 true) ?_; intro w2 hown2 hgrow2)
      go_ret
      refine ⟨by rw [HE.out]; rfl, ?_, ?_⟩
      · unfold afterName
        rw [HE.out, if_pos rfl]
        refine ⟨D.put (.string s.data.toList) (.lit (.bool true)), by simpa using hown2, o2.put _ _, fun key => ?_⟩
        by_cases e : key = s.data.toList
        · subst e
          rw [atKey_put_same o2 (by simp [WideAt.IsKeyLit])]
          simp
        · rw [atKey_put_other (by simpa using e), O3.out key]
          simp [e]
      · exact ⟨hgrow2.os.trans HG1.out.os, hgrow2.tape.trans HG1.out.tape, hgrow2.output.trans HG1.out.output, Nat.le_trans HG1.out.size hgrow2.size, fun k hk hne => (hgrow2.block k (Nat.lt_of_lt_of_le hk HG1.out.size) hne).trans (HG1.out.block k hk (by simp))⟩
    · have he : nameErr l s.data.toList = 5 := by
        unfold nameErr
        rw [if_neg (by rw [hn]; decide), if_pos (by simpa using hb'.symm)]
      have HE := Lib.hid he
      clear he hb'
      go_wp2
      go_ret
      refine ⟨by rw [HE.out]; rfl, by unfold afterName; rw [HE.out, if_neg (by decide)]; exact HS1.out, ⟨HG1.out.os, HG1.out.tape, HG1.out.output, HG1.out.size, fun k hk _ => HG1.out.block k hk (by simp)⟩⟩
end Go.Proofs.YtacmaddjpaebfaaGreatDoor
/- The first fault of a list: firstFault and nameFault of package sheet. -/
namespace Go.Proofs.YtacmaddjpaebfaaGreatDoor
open Go Go.RowKit Hs

/-- The first number below n at which f is not 0, and f there; 0 and 0, if there is none. -/
def firstBad (f : Nat → Int) (n : Nat) : Int × Int := match (List.range n).find? (fun k => f k != 0) with | some k => ((k : Int), f k) | none => (0, 0)
theorem firstBad_at (f : Nat → Int) (n k : Nat) (hk : k < n) (h : ∀ j, j < k → f j = 0) (hb : f k ≠ 0) : firstBad f n = ((k : Int), f k) := by
  unfold firstBad
  have : (List.range n).find? (fun k => f k != 0) = some k := by
    rw [List.find?_range_eq_some]
    exact ⟨by simpa using hb, by simpa using hk, fun j hj => by simp [h j hj]⟩
  rw [this]
theorem firstBad_none (f : Nat → Int) (n : Nat) (h : ∀ j, j < n → f j = 0) : firstBad f n = (0, 0) := by
  unfold firstBad
  have : (List.range n).find? (fun k => f k != 0) = none := by
    rw [List.find?_eq_none]
    intro x hx
    simp [h x (by simpa using hx)]
  rw [this]

/-- A value reads as a list of strings. Its block lies below n. -/
def StrsAt (n : Nat) (w : World) (v : Value) (l : List ByteArray) : Prop :=
  l.length ≤ 4611686018427387904 ∧ ∃ a cap, v = .slice a l.length cap ∧ (l ≠ [] → ∃ b o, a = some ⟨b, o, none⟩ ∧ b < n ∧ ∀ k (h : k < l.length), w.cell? ⟨b, o + k, none⟩ = some (.string l[k]))
theorem StrsAt.keep {n : Nat} {w w' : World} {v : Value} {l : List ByteArray} (h : StrsAt n w v l) (hk : ∀ b o, b < n → w'.cell? ⟨b, o, none⟩ = w.cell? ⟨b, o, none⟩) : StrsAt n w' v l := by
  obtain ⟨h1, a, cap, rfl, h2⟩ := h
  refine ⟨h1, a, cap, rfl, fun hne => ?_⟩
  obtain ⟨b, o, rfl, hb, hc⟩ := h2 hne
  exact ⟨b, o, rfl, hb, fun k hk' => by rw [hk b _ hb]; exact hc k hk'⟩
theorem StrsAt.below {n : Nat} {w w' : World} {v : Value} {l : List ByteArray} (h : StrsAt n w v l) (hb : Below n w w') : StrsAt n w' v l := h.keep fun b o h => hb.cell (p := ⟨b, o, none⟩) h
theorem StrsAt.mono {n n' : Nat} {w : World} {v : Value} {l : List ByteArray} (h : StrsAt n w v l) (hn : n ≤ n') : StrsAt n' w v l := by
  obtain ⟨h1, a, cap, rfl, h2⟩ := h
  refine ⟨h1, a, cap, rfl, fun hne => ?_⟩
  obtain ⟨b, o, rfl, hb, hc⟩ := h2 hne
  exact ⟨b, o, rfl, Nat.lt_of_lt_of_le hb hn, hc⟩

def byts (l : List ByteArray) : List (List UInt8) := l.map (·.data.toList)
/-- The error of the k-th name. -/
def ptErr (l : List ByteArray) (k : Nat) : Int := nameErr ((byts l).take k) ((byts l).getD k [])

set_option maxRecDepth 100000 in
set_option maxHeartbeats 1000000 in
theorem firstFaultS_any (pv : Value) (Bm Bv : Nat) (l : List ByteArray) (w : World) (hP : StrsAt w.heap.size w pv l) (hlen : l.length ≤ 8) (hsz : ∀ s, s ∈ l → s.size ≤ 140737488351232)
    (hv : w.cell? ⟨Bv, 0, none⟩ = some (.map (some Bm))) (hS : SeenAt w Bm []) (n0 : Nat) (hn0 : n0 ≤ Bm) (hP0 : StrsAt n0 w pv l) (hne : Bv ≠ Bm) :
    Calls Tryz.prog 55 #[pv, .func (.func 94) #[] #[.pointer (some ⟨Bv, 0, none⟩)]] w fun e w' =>
      e = .returned (.tuple #[.int .i64 (firstBad (ptErr l) l.length).1, .int .i64 (firstBad (ptErr l) l.length).2]) ∧ Below n0 w w' := by
  obtain ⟨_, a, cap, rfl, hc⟩ := hP0
  have HS := Lib.hid hS
  have HC := Lib.hid hc
  have HSZ := Lib.hid hsz
  clear hS hc hsz hP
  have hlen' : (l.length : Int) ≤ 8 := by omega
  go_enter Tryz.func55, Tryz.ntmps55
  go_wp2
  go_loopw [11] (fun i wr => ∃ k : Nat, k ≤ l.length ∧ i = .int .i64 k ∧ Hid (SeenAt wr Bm ((byts l).take k) ∧ (∀ j, j < k → ptErr l j = 0) ∧ Below n0 w wr ∧ wr.cell? ⟨Bv, 0, none⟩ = some (.map (some Bm)))) (fun i _ => l.length - (intOf i).toNat)
  case atStart => exact ⟨0, Nat.zero_le _, rfl, by simpa using HS.out, fun j hj => by omega, Below.refl _ _, hv⟩
  case round =>
    obtain ⟨k, hk, rfl, HR⟩ := hrel
    clear hv
    by_cases hlt : k < l.length
    · obtain ⟨b, o, rfl, hb, hcc⟩ := HC.out (by intro e; simp [e] at hlt)
      obtain ⟨r1, r2, r3, r4⟩ := HR.out
      have hck := (r3.cell (p := ⟨b, o + k, none⟩) hb).trans (hcc k hlt)
      have hsk := HSZ.out l[k] (List.getElem_mem hlt)
      have hget : (byts l).getD k [] = l[k].data.toList := by simp [byts, List.getD_eq_getElem?_getD, hlt]
      have htk : (byts l).take (k + 1) = (byts l).take k ++ [l[k].data.toList] := by
        rw [List.take_succ_eq_append_getElem (by simpa [byts] using hlt)]
        simp [byts]
      have hpe : ptErr l k = nameErr ((byts l).take k) l[k].data.toList := by unfold ptErr; rw [hget]
      have HPE := Lib.hid hpe
      have HTK := Lib.hid htk
      clear hget htk hpe hcc
      generalize l[k] = s at hck hsk HPE HTK
      have hcall := nameFault1_any s Bm Bv ((byts l).take k) wr hsk r4 r1 (by simp [byts]; omega)
      have HCL := Lib.hid hcall
      clear hcall r1 r2 r3 r4
      go_wp2_with fail
      refine HCL.out.mono ?_
      rintro e w1 ⟨rfl, hs1, hg1⟩
      obtain ⟨r1, r2, r3, r4⟩ := HR.out
      rw [← HPE.out]
      have hB1 : Below n0 w w1 := r3.trans ⟨hg1.os, hg1.tape, hg1.output, hg1.size, fun j hj => hg1.block j (by have := r1.lt; omega) (by simp; omega)⟩
      have hv1 := hg1.cell r4 (by simpa using hne)
      by_cases hz : ptErr l k = 0
      · have tz : (ptErr l k != 0) = false := by simp [hz]
        have hn1 : Hid (SeenAt w1 Bm ((byts l).take (k + 1)) ∧ (∀ j, j < k + 1 → ptErr l j = 0) ∧ Below n0 w w1 ∧ w1.cell? ⟨Bv, 0, none⟩ = some (.map (some Bm))) := by
          refine ⟨?_, fun j hj => ?_, hB1, hv1⟩
          · rw [HTK.out]
            unfold afterName at hs1
            rwa [if_pos (HPE.out ▸ hz)] at hs1
          · rcases Nat.lt_or_ge j k with g | g
            · exact r2 j g
            · obtain rfl : j = k := by omega
              exact hz
        clear hz hs1 hg1 r1 r2 r3 r4 hB1 hv1 HR
        go_wp2
        go_roundw
        case rel => exact ⟨k + 1, by omega, by go_num, hn1⟩
        case measure => simp [intOf]; omega
      · have tz : (ptErr l k != 0) = true := by simp [hz]
        have hfin := Lib.hid (firstBad_at (ptErr l) l.length k hlt r2 hz)
        clear hz hs1 hg1 r1 r2 r3 r4 hv1 HR
        go_wp2
        go_ret2
        exact ⟨by rw [hfin.out]; rfl, hB1⟩
    · have hkl : k = l.length := by omega
      obtain ⟨r1, r2, r3, r4⟩ := HR.out
      have hfin := Lib.hid (firstBad_none (ptErr l) l.length (fun j hj => r2 j (by omega)))
      clear hkl r1 r2 r4
      go_wp2
      go_ret2
      exact ⟨by rw [hfin.out]; rfl, r3⟩
end Go.Proofs.YtacmaddjpaebfaaGreatDoor
/- The first fault of a list of notes: noteFault for every note, and firstFault over them, in package sheet. -/
namespace Go.Proofs.YtacmaddjpaebfaaGreatDoor
open Go Go.RowKit Hs

set_option maxHeartbeats 1000000 in
theorem noteFault_o (iv : Int) (pa qa : Option Addr) (pn pc qn qc : Nat) (wd : Int) (n : Note) (w : World) (hk : kindB n = false) :
    Calls Tryz.prog 58 #[lookedV iv (.slice pa pn pc) (.slice qa qn qc) wd, noteV n] w fun e w' => e = .returned (.int .i64 (noteErr iv pn n)) ∧ Below w.heap.size w w' := by
  have HR := Lib.hid (ne_6 iv pn n hk)
  have hsay : sayV iv n = .nilIface := by
    have hk' : ¬ (1 ≤ n.k ∧ n.k ≤ 4) := by unfold kindB at hk; simp at hk; omega
    unfold sayV
    rw [if_neg (by omega), if_neg (by omega), if_neg (by omega), if_neg (by omega)]
  clear hk
  go_enter Tryz.func58, Tryz.ntmps58
  go_wp2_with fail
  refine (saying_any _ _ _ _ _ _ _ _ n _).mono ?_
  rintro e w1 ⟨rfl, hb⟩
  rw [hsay]
  have hB : Below w.heap.size w w1 := (((Below.refl _ _).alloc (Nat.le_refl _) _).alloc (by simp) _).trans (hb.mono (by simp; omega))
  clear hb hsay
  go_wp2
  go_ret
  exact ⟨by rw [HR.out]; rfl, hB⟩

theorem noteFault_any (iv : Int) (pa qa : Option Addr) (pn pc qn qc : Nat) (wd : Int) (n : Note) (w : World) (hiv : 1 ≤ iv) (hiv2 : iv ≤ 1000) (hp1 : 1 ≤ pn) (hpn : pn ≤ 8) :
    Calls Tryz.prog 58 #[lookedV iv (.slice pa pn pc) (.slice qa qn qc) wd, noteV n] w fun e w' => e = .returned (.int .i64 (noteErr iv pn n)) ∧ Below w.heap.size w w' := by
  cases hk : kindB n
  · exact noteFault_o iv pa qa pn pc qn qc wd n w hk
  · obtain ⟨k, a, b, lo, hi⟩ := n
    have : k = 1 ∨ k = 2 ∨ k = 3 ∨ k = 4 := by unfold kindB at hk; simp at hk; omega
    rcases this with rfl | rfl | rfl | rfl
    · exact noteFault_1 iv pa qa pn pc qn qc wd a b lo hi w hiv hiv2 hp1 hpn
    · exact noteFault_2 iv pa qa pn pc qn qc wd a b lo hi w hiv hiv2 hp1 hpn
    · exact noteFault_3 iv pa qa pn pc qn qc wd a b lo hi w hiv hiv2 hp1 hpn
    · exact noteFault_4 iv pa qa pn pc qn qc wd a b lo hi w hiv hiv2 hp1 hpn

/-- The error of the k-th note. -/
def ntErr (iv np : Int) (l : List Note) (k : Nat) : Int := match l[k]? with | some n => noteErr iv np n | none => 0

set_option maxRecDepth 100000 in
set_option maxHeartbeats 1000000 in
theorem firstFaultN_any (iv : Int) (pa qa : Option Addr) (pn pc qn qc : Nat) (nv : Value) (l : List Note) (w : World) (hiv : 1 ≤ iv) (hiv2 : iv ≤ 1000) (hp1 : 1 ≤ pn) (hpn : pn ≤ 8) (hN : NotesAt w.heap.size w nv l) (hlen : l.length ≤ 12) :
    Calls Tryz.prog 57 #[nv, .func (.func 58) #[.agg #[.int .i64 iv, .slice pa pn pc, .slice qa qn qc, .int .i64 0]] #[]] w fun e w' =>
      e = .returned (.tuple #[.int .i64 (firstBad (ntErr iv pn l) l.length).1, .int .i64 (firstBad (ntErr iv pn l) l.length).2]) ∧ Below w.heap.size w w' := by
  obtain ⟨_, a, cap, rfl, hc⟩ := hN
  have HC := Lib.hid hc
  clear hc
  have hlen' : (l.length : Int) ≤ 12 := by omega
  go_enter Tryz.func57, Tryz.ntmps57
  go_wp2
  go_loopw [11] (fun i wr => ∃ k : Nat, k ≤ l.length ∧ i = .int .i64 k ∧ Hid ((∀ j, j < k → ntErr iv pn l j = 0) ∧ Below w.heap.size w wr)) (fun i _ => l.length - (intOf i).toNat)
  case atStart => exact ⟨0, Nat.zero_le _, rfl, fun j hj => by omega, Below.refl _ _⟩
  case round =>
    obtain ⟨k, hk, rfl, HR⟩ := hrel
    by_cases hlt : k < l.length
    · obtain ⟨b, o, rfl, hb, hcc⟩ := HC.out (by intro e; simp [e] at hlt)
      obtain ⟨d0, d1, d2, d3, d4⟩ := hcc k hlt
      obtain ⟨r1, r2⟩ := HR.out
      have e0 := (r2.cell (p := ⟨b, o + k * 5, none⟩) hb).trans d0
      have e1 := (r2.cell (p := ⟨b, o + k * 5 + 1, none⟩) hb).trans d1
      have e2 := (r2.cell (p := ⟨b, o + k * 5 + 2, none⟩) hb).trans d2
      have e3 := (r2.cell (p := ⟨b, o + k * 5 + 3, none⟩) hb).trans d3
      have e4 := (r2.cell (p := ⟨b, o + k * 5 + 4, none⟩) hb).trans d4
      have hpe : ntErr iv pn l k = noteErr iv pn l[k] := by unfold ntErr; rw [List.getElem?_eq_getElem hlt]
      have HPE := Lib.hid hpe
      clear hpe hcc d0 d1 d2 d3 d4 r1 r2
      generalize l[k] = x at *
      go_wp2_with fail
      refine (noteFault_any iv pa qa pn pc qn qc 0 x _ hiv hiv2 hp1 hpn).mono ?_
      rintro e w1 ⟨rfl, hb1⟩
      obtain ⟨r1, r2⟩ := HR.out
      rw [← HPE.out]
      have hB1 : Below w.heap.size w w1 := (r2.alloc r2.size _).trans (hb1.mono (by rw [World.size_alloc]; have := r2.size; omega))
      by_cases hz : ntErr iv pn l k = 0
      · have tz : (ntErr iv pn l k != 0) = false := by simp [hz]
        have hn1 : Hid ((∀ j, j < k + 1 → ntErr iv pn l j = 0) ∧ Below w.heap.size w w1) := by
          refine ⟨fun j hj => ?_, hB1⟩
          rcases Nat.lt_or_ge j k with g | g
          · exact r1 j g
          · obtain rfl : j = k := by omega
            exact hz
        clear hz hb1 r1 r2 hB1 HR e0 e1 e2 e3 e4
        go_wp2
        go_roundw
        case rel => exact ⟨k + 1, by omega, by go_num, hn1⟩
        case measure => simp [intOf]; omega
      · have tz : (ntErr iv pn l k != 0) = true := by simp [hz]
        have hfin := Lib.hid (firstBad_at (ntErr iv pn l) l.length k hlt r1 hz)
        clear hz hb1 r1 r2 HR e0 e1 e2 e3 e4
        go_wp2
        go_ret2
        exact ⟨by rw [hfin.out]; rfl, hB1⟩
    · have hkl : k = l.length := by omega
      obtain ⟨r1, r2⟩ := HR.out
      have hfin := Lib.hid (firstBad_none (ntErr iv pn l) l.length (fun j hj => r1 j (by omega)))
      clear hkl r1
      go_wp2
      go_ret2
      exact ⟨by rw [hfin.out]; rfl, r2⟩

set_option maxHeartbeats 400000 in
theorem nameFault_any (w : World) : Calls Tryz.prog 56 #[] w fun e w' => e = .returned (.func (.func 94) #[] #[.pointer (some ⟨w.heap.size + 1, 0, none⟩)]) ∧ (w.alloc (.map #[] 0)).alloc (.cells #[.map (some w.heap.size)] 127) = w' := by
  have hmm := @run_makeMap Tryz.prog
  go_enter Tryz.func56, Tryz.ntmps56
  go_wp2
  go_ret
  exact ⟨rfl, rfl⟩
end Go.Proofs.YtacmaddjpaebfaaGreatDoor
