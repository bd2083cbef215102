/- SheetNotes: the call returns true. Condition: the tables of Go's library are laid. -/
import Derived.Test.YtpmnnomeaaaenaaGreatDoorSol
import Derived.Test.YtpmnnomeaaaenaaGreatDoorPw
import Derived.Test.YtpmnnomeaaaenaaGreatDoorHts
import Derived.Test.YtpmnnomeaaaenaaGreatDoorHigh
import Derived.Test.YtpmnnomeaaaenaaGreatDoorArg
import Derived.Test.YtpmnnomeaaaenaaGreatDoorFew
import Derived.OwnWalk
import Derived.Laws.AppendOwn
import Derived.Test.YtpmnnomeaaaenaaGreatDoorData
import Derived.Test.YtpmnnomeaaaenaaGreatDoorBnd
import Derived.Test.YtpmnnomeaaaenaaGreatDoorApt
import Derived.Test.YtpmnnomeaaaenaaGreatDoorRef
import Derived.Test.YtpmnnomeaaaenaaGreatDoorCmp
import Derived.StillTailTactics
import Derived.Deep.RegionHeld3
import Derived.Deep.RegionWith
import Derived.Test.YtpmnnomeaaaenaaGreatDoorLaws
import Derived.Maps.AppendAt
import Derived.Test.YtpmnnomeaaaenaaGreatDoorAwake
set_option linter.unusedSimpArgs false
set_option linter.unusedVariables false
namespace Go.Proofs.YtpmnnomeaaaenaaGreatDoor
namespace Fct
open Go Go.RowKit Hs Dc

theorem asc_range (n : Nat) : Asc n ((List.range n).map Int.ofNat) := by
  refine ⟨?_, fun x hx => ?_⟩
  · rw [List.pairwise_map]
    exact (List.pairwise_lt_range (n := n)).imp (fun h => by simpa using h)
  · obtain ⟨a, ha, rfl⟩ := List.mem_map.1 hx
    have := List.mem_range.1 ha
    simp; omega
theorem havK_iff (l : List Note) (list : List Int) (inn : Bool) (x : Note) : ∀ k, x ∈ havK l list inn k ↔ ∃ j, j < k ∧ decide ((j : Int) ∈ list) = inn ∧ l[j]? = some x := by
  intro k
  induction k with
  | zero => simp [havK]
  | succ k ih =>
    rw [havK]
    split
    · rename_i h
      rw [List.mem_append, ih]
      constructor
      · rintro (⟨j, h1, h2, h3⟩ | h1)
        · exact ⟨j, by omega, h2, h3⟩
        · exact ⟨k, by omega, h, by simpa using h1⟩
      · rintro ⟨j, h1, h2, h3⟩
        by_cases e : j = k
        · subst e; right; simpa using h3
        · left; exact ⟨j, by omega, h2, h3⟩
    · rename_i h
      rw [ih]
      constructor
      · rintro ⟨j, h1, h2, h3⟩; exact ⟨j, by omega, h2, h3⟩
      · rintro ⟨j, h1, h2, h3⟩
        by_cases e : j = k
        · subst e; exact absurd h2 h
        · exact ⟨j, by omega, h2, h3⟩
theorem havK_nil (l : List Note) : ∀ k, k ≤ l.length → havK l [] false k = l.take k := by
  intro k
  induction k with
  | zero => intro _; rfl
  | succ k ih =>
    intro hk
    rw [havK, if_pos (by simp), ih (by omega), List.take_add_one]
theorem fitB_none (iv : Int) : fitB iv 0 [] = true := by
  rw [fitB_iff]
  refine ⟨fun _ => 0, fun a b ha hb => ?_, fun x hx => by simp [bdsL] at hx⟩
  have := unbFar_ent ⟨a, ha⟩ ⟨b, hb⟩
  simp only at this
  show (0 : Int) - 0 ≤ _
  rw [this]
  split <;> omega
theorem wrong_facts {s : Sheet} (h : ValidS s) : Asc s.notes.length (wrongL s) ∧ fitB s.iv 0 (havK s.notes (wrongL s) false s.notes.length) = true ∧
    ∀ t, Asc s.notes.length t → fitB s.iv 0 (havK s.notes t false s.notes.length) = true → (wrongL s).length ≤ t.length := by
  have e1 : wrongL s = fewS s.notes.length (wrongG s) := by unfold wrongL; rw [errS_zero h, if_pos rfl]
  obtain ⟨s1, s2⟩ := fewS_spec (wrongG s) s.notes.length
  have hnone : havK s.notes ((List.range s.notes.length).map Int.ofNat) false s.notes.length = [] := by
    rw [List.eq_nil_iff_forall_not_mem]
    intro x hx
    rw [havK_iff] at hx
    obtain ⟨j, hj, hd, _⟩ := hx
    rw [decide_eq_false_iff_not] at hd
    exact hd (List.mem_map.2 ⟨j, List.mem_range.2 hj, rfl⟩)
  have hall : wrongG s ((List.range s.notes.length).map Int.ofNat) = true := by
    unfold wrongG
    rw [hnone]
    exact fitB_none _
  have hg := (s2 _ (asc_range _) hall).1
  refine ⟨by rw [e1]; exact s1, ?_, fun t ht hb => ?_⟩
  · rw [← e1] at hg
    exact hg
  · rw [e1]
    exact (s2 t ht hb).2
def SpM (w : World) (g : Nat) (M : List Int) (n : Nat) : Prop := ∀ i, i < n → w.cell? ⟨g, i * 2, none⟩ = some (.int .i64 (-(ent M 8 i))) ∧ w.cell? ⟨g, i * 2 + 1, none⟩ = some (.int .i64 (ent M i 8))
theorem SpM.below {w w' : World} {g : Nat} {M : List Int} {n : Nat} (h : SpM w g M n) (hb : Below w.heap.size w w') : SpM w' g M n := fun i hi =>
  ⟨(hb.cell (p := ⟨g, i * 2, none⟩) (World.block_lt_of_cell? w _ (h i hi).1)).trans (h i hi).1, (hb.cell (p := ⟨g, i * 2 + 1, none⟩) (World.block_lt_of_cell? w _ (h i hi).2)).trans (h i hi).2⟩
theorem spm_of {n : Nat} {w : World} {v : Value} {s : Sheet} (h : SpansAt n w v (heightS s)) : ∃ g, v = .slice (some ⟨g, 0, none⟩) s.pts.length s.pts.length ∧ SpM w g (measM s) s.pts.length := by
  obtain ⟨g, e, _, _, hc⟩ := h
  have hl : (heightS s).length = s.pts.length := by simp [heightS]
  rw [hl] at e
  refine ⟨g, e, fun i hi => ?_⟩
  obtain ⟨c0, c1⟩ := hc i (by omega)
  have hE : (heightS s)[i]'(by omega) = (-(ent (measM s) 8 i), ent (measM s) i 8) := by
    simp only [heightS, List.getElem_map, List.getElem_range]
    rfl
  rw [hE] at c0 c1
  exact ⟨c0, c1⟩
theorem highS_len (s : Sheet) : (highS s).length ≤ s.pts.length := by
  unfold highS
  split
  · exact topsK_le _ _ _
  · simp
theorem one_notes {w : World} {g : Nat} {k a b lo hi : Int} (h : w.heap[g]? = some (.cells #[.int .i64 k, .int .i64 a, .int .i64 b, .int .i64 lo, .int .i64 hi] 67 (0, 0))) : NotesAt w.heap.size w (.slice (some ⟨g, 0, none⟩) 1 1) [⟨k, a, b, lo, hi⟩] := by
  refine ⟨by simp, some ⟨g, 0, none⟩, 1, rfl, fun _ => ⟨g, 0, rfl, lt_of_block h, fun j hj => ?_⟩⟩
  obtain rfl : j = 0 := by simpa using hj
  exact ⟨cellOf h 0 _ rfl, cellOf h 1 _ rfl, cellOf h 2 _ rfl, cellOf h 3 _ rfl, cellOf h 4 _ rfl⟩
theorem mod_nat (x n : Nat) : ((x : Int)).tmod (n : Int) = ((x % n : Nat) : Int) := by
  rw [Int.tmod_eq_emod_of_nonneg (by omega)]
  exact (Int.natCast_emod x n).symm
end Fct
end Go.Proofs.YtpmnnomeaaaenaaGreatDoor
namespace Go.Proofs.YtpmnnomeaaaenaaGreatDoor
open Go Go.RowKit Hs

/-- A value reads as a list of numbers of 16 bits. -/
def U16At (w : World) (v : Value) (l : List Nat) : Prop :=
  l.length ≤ 4611686018427387904 ∧ ∃ a cap, v = .slice a l.length cap ∧ (l ≠ [] → ∃ b o, a = some ⟨b, o, none⟩ ∧ ∀ k, k < l.length → w.cell? ⟨b, o + k, none⟩ = some (.int .u16 (l.getD k 0)) ∧ l.getD k 0 ≤ 65535)
theorem U16At.below {w w' : World} {v : Value} {l : List Nat} (h : U16At w v l) (hb : Below w.heap.size w w') : U16At w' v l := by
  obtain ⟨h1, a, cap, rfl, h2⟩ := h
  refine ⟨h1, a, cap, rfl, fun hne => ?_⟩
  obtain ⟨b, o, rfl, hc⟩ := h2 hne
  exact ⟨b, o, rfl, fun k hk => ⟨(hb.cell (p := ⟨b, o + k, none⟩) (World.block_lt_of_cell? w _ (hc k hk).1)).trans (hc k hk).1, (hc k hk).2⟩⟩
def turnS (l : List Nat) (n : Nat) : Nat := if l = [] then 0 else l.getD (n % l.length) 0
theorem turnS_le {w : World} {v : Value} {l : List Nat} (h : U16At w v l) (n : Nat) : turnS l n ≤ 65535 := by
  unfold turnS
  split
  · omega
  · rename_i hne
    obtain ⟨_, a, cap, rfl, h2⟩ := h
    obtain ⟨b, o, _, hc⟩ := h2 hne
    exact (hc _ (Nat.mod_lt _ (List.length_pos_iff.2 hne))).2
theorem tmod_nat (x n : Nat) : ((x : Int)).tmod (n : Int) = ((x % n : Nat) : Int) := by
  rw [Int.tmod_eq_emod_of_nonneg (by omega)]
  exact (Int.natCast_emod x n).symm
set_option maxRecDepth 100000 in
set_option maxHeartbeats 1000000 in
theorem turn_any (v : Value) (l : List Nat) (n : Nat) (w : World) (hv : U16At w v l) (hn : n ≤ 1000) :
    Calls Tryz.prog 51 #[v, .int .i64 n] w fun e w' => e = .returned (.int .i64 (turnS l n)) ∧ w = w' := by
  obtain ⟨hm, a, cap, rfl, hc⟩ := hv
  have hm' : (l.length : Int) ≤ 4611686018427387904 := by omega
  by_cases hl : l = []
  · subst hl
    go_enter Tryz.func51, Tryz.ntmps51
    go_wp2
    go_ret
    exact ⟨rfl, rfl⟩
  · obtain ⟨b, o, rfl, hd⟩ := hc hl
    have hp := List.length_pos_iff.2 hl
    have hlt : n % l.length < l.length := Nat.mod_lt _ hp
    obtain ⟨hck, hle⟩ := hd _ hlt
    have HE : Hid (turnS l n = l.getD (n % l.length) 0) := by show _ = _; unfold turnS; rw [if_neg hl]
    have e1 := tmod_nat n l.length
    generalize n % l.length = k at *
    generalize l.getD k 0 = z at *
    have z0 : ((l.length : Int) == 0) = false := by rw [beq_eq_false_iff_ne]; omega
    have p1 : (1 : Int) ≤ (l.length : Int) := by omega
    have kl : (k : Int) < (l.length : Int) := by omega
    have zl : (z : Int) ≤ 65535 := by omega
    clear hc hd hl
    go_enter Tryz.func51, Tryz.ntmps51
    go_wp2
    go_ret
    exact ⟨by rw [HE.out]; rfl, rfl⟩

/-- The heights of Truth: those of the first k points. -/
def truthS (l : List Nat) (k : Nat) : List Int := (List.range k).map fun i => ((turnS l i % 9001 : Nat) : Int)
theorem truthS_len (l : List Nat) (k : Nat) : (truthS l k).length = k := by simp [truthS]
theorem truthS_succ (l : List Nat) (k : Nat) : truthS l (k + 1) = truthS l k ++ [((turnS l k % 9001 : Nat) : Int)] := by simp [truthS, List.range_succ]
def TruthP (l : List Nat) (np : Nat) (w : World) (e : Ending) (w' : World) : Prop := ∃ v, e = .returned v ∧ IntsAt w' v (truthS l np) ∧ Below w.heap.size w w'
set_option maxRecDepth 100000 in
set_option maxHeartbeats 2000000 in
theorem truth_any (s : Sheet) (pv nv xv : Value) (l : List Nat) (w : World) (hS : SheetAt w.heap.size w pv nv s) (hx : U16At w xv l) (hnp : s.pts.length ≤ 8) :
    Calls Tryz.prog 42 #[.agg #[.int .i64 s.iv, pv, nv], xv] w (TruthP l s.pts.length w) := by
  obtain ⟨i0, hi⟩ := info_of_underlying Tryz.underlying3
  have HI : Hid (i0.zero = some (.int .i64 0) ∧ i0.size = 1 ∧ i0.bytes = 8) := by
    have h := intInfo
    rw [hi] at h
    simp at h
    exact h
  obtain ⟨iv, pts, notes⟩ := s
  obtain ⟨lp, pa, pc, rfl, _⟩ := id hS.pts
  simp only at hnp lp ⊢
  have B0 : Below w.heap.size w (w.alloc (Obj.cells #[.int .i64 iv, .slice pa pts.length pc, nv] 25)) := by go_grown
  have HA := Lib.hid (heap_alloc_new w (Obj.cells #[.int .i64 iv, .slice pa pts.length pc, nv] 25))
  have HX := Lib.hid (hx.below B0)
  have HB := Lib.hid B0
  obtain ⟨_, xa, xc, rfl, _⟩ := id hx
  clear B0 hx hS
  have pI : (pts.length : Int) ≤ 8 := by omega
  go_enter Tryz.func42, Tryz.ntmps42
  go_wp2
  generalize w.alloc (Obj.cells #[.int .i64 iv, .slice pa pts.length pc, nv] 25) = W at *
  have hAlt := lt_of_block HA.out
  go_loopw [5, 6] (fun v i wr => ∃ (k m : Nat) (sa : Option Addr) (sc : Nat), k ≤ pts.length ∧ Hid (m = k) ∧ i = .int .i64 k ∧ v = .slice sa m sc ∧ wr.ownsRow W.heap.size 3 1 v m ((truthS l k).map (Value.int .i64)) ∧ Hid (Below W.heap.size W wr)) (fun _ i _ => pts.length - (intOf i).toNat)
  case atStart => exact ⟨0, 0, none, 0, Nat.zero_le _, rfl, rfl, rfl, World.ownsRow_nil _ _ _ _, Below.refl _ _⟩
  case round =>
    obtain ⟨k, m, sa, sc, hk, hmk, rfl, rfl, hown, HBk⟩ := hrel
    have hAk := (HBk.out.block _ hAlt).trans HA.out
    have a1 := cellOf hAk 1 _ rfl
    have hs2 := HBk.out.size
    by_cases hlt : k < pts.length
    · have kl : (k : Int) < (pts.length : Int) := by omega
      have k8 : (k : Int) ≤ 7 := by omega
      have HTN := Lib.hid (turn_any (.slice xa l.length xc) l k wr (HX.out.below HBk.out) (by omega))
      have hz := turnS_le (HX.out.below HBk.out) k
      have HT : Hid (truthS l (k + 1) = truthS l k ++ [((turnS l k % 9001 : Nat) : Int)]) := truthS_succ l k
      generalize turnS l k = z at *
      have zI : (z : Int) ≤ 65535 := by omega
      have HZ : Hid (((z % 9001 : Nat) : Int) = (z : Int) % 9001) := by show _ = _; omega
      go_wp2_with fail
      refine HTN.out.mono ?_
      rintro e w' ⟨rfl, rfl⟩
      have hownA := hown.alloc (Obj.cells #[.int .i64 ((z : Int) % 9001)] 3)
      clear HTN a1
      go_wp2_with (first
        | (at_builtin; refine wpList_append_own _ rfl _ _ 43 rfl W.heap.size 3 i0 (.int .i64 0) 1 8 Tryz.underlying43 hi HI.out.1 HI.out.2.1 HI.out.2.2 rfl (by decide) _ _ _ rfl hownA ⟨wr.heap.size, 0, none⟩ 1 1 [.int .i64 ((z : Int) % 9001)] rfl rfl ?c1 ?c2 ?c3 ?c4 ?c5 ?_))
      case c1 =>
        intro j u hj
        match j, hj with
        | 0, hj => simp at hj; subst hj; simp [Addr.add]
      case c2 => intro u hu; simp at hu; subst hu; rfl
      case c3 => have := hmk.out; unfold maxLen; omega
      case c4 => have := hmk.out; omega
      case c5 => simp; omega
      · intro v' w3 hown3 hgrow _
        have hB3 : Below W.heap.size W w3 := (HBk.out.alloc hs2 (Obj.cells #[.int .i64 ((z : Int) % 9001)] 3)).grown hgrow (by simp; omega) (fun g hg => (hownA.lt g hg).1)
        obtain ⟨sa', sc', rfl⟩ := own_slice hown3
        have HB3 := Lib.hid hB3
        have HMK : Hid (m + 1 = k + 1) := by show _ = _; rw [hmk.out]
        have ho3 : w3.ownsRow W.heap.size 3 1 (.slice sa' (m + 1) sc') (m + 1) ((truthS l (k + 1)).map (Value.int .i64)) := by
          rw [HT.out, List.map_append, HZ.out]
          exact hown3
        clear hgrow hownA hB3 hown3
        go_wp2
        go_round
        case rel => exact ⟨k + 1, m + 1, sa', sc', by omega, HMK, by go_num, rfl, ho3, HB3⟩
        case measure => simp [intOf]; omega
    · obtain rfl : k = pts.length := by omega
      have hl := truthS_len l pts.length
      have HIN : Hid (IntsAt wr (.slice sa m sc) (truthS l pts.length)) := intsAt_own (by rw [hl, ← hmk.out]; have := hmk.out; subst this; exact hown) (by omega)
      have hBB := Lib.hid (HB.out.trans (HBk.out.mono HB.out.size))
      clear hl
      go_wp2
      go_ret
      exact ⟨_, rfl, HIN.out, hBB.out⟩
end Go.Proofs.YtpmnnomeaaaenaaGreatDoor
namespace Go.Proofs.YtpmnnomeaaaenaaGreatDoor
open Go Go.RowKit Hs Dc Fct

/-- A note as it is told of two heights. -/
def toldX (iv ha hb less more : Int) (x : Note) : Note :=
  if x.k = 1 then { x with lo := max 0 (ha - less), hi := min 9000 (ha + more) }
  else if x.k = 2 then { x with lo := ha / iv, hi := ha / iv + 1 }
  else if x.k = 4 then { x with lo := max (-9000) (ha - hb - less), hi := min 9000 (ha - hb + more) }
  else x
def lessS (off : List Nat) (i : Nat) : Int := ((turnS off (2 * i) % 50 : Nat) : Int)
def moreS (off : List Nat) (i : Nat) : Int := ((turnS off (2 * i + 1) % 50 : Nat) : Int)
def hAt (h : List Int) (z : Int) : Int := h.getD z.toNat 0
def toldN (iv : Int) (h : List Int) (off : List Nat) (i : Nat) (x : Note) : Note := toldX iv (hAt h x.a) (hAt h x.b) (lessS off i) (moreS off i) x
/-- Whether it is told at all. -/
def toldB (iv : Int) (pts : List ByteArray) (h : List Int) (off : List Nat) (i : Nat) (x : Note) : Bool :=
  !(decide (x.k = 3) && !(hAt h x.a == hAt h x.b)) && (errS ⟨iv, pts, [toldN iv h off i x]⟩ == 0)
/-- The notes that are told, of the first k. -/
def toldL (iv : Int) (pts : List ByteArray) (notes : List Note) (h : List Int) (off : List Nat) : Nat → List Note
  | 0 => []
  | k + 1 => match notes[k]? with
    | none => toldL iv pts notes h off k
    | some x => if toldB iv pts h off k x then toldL iv pts notes h off k ++ [toldN iv h off k x] else toldL iv pts notes h off k
theorem toldL_le (iv : Int) (pts : List ByteArray) (notes : List Note) (h : List Int) (off : List Nat) : ∀ k, (toldL iv pts notes h off k).length ≤ k := by
  intro k
  induction k with
  | zero => exact Nat.le_refl _
  | succ k ih =>
    rw [toldL]
    split
    · omega
    · split
      · rw [List.length_append, List.length_singleton]; omega
      · omega
theorem toldL_mem (iv : Int) (pts : List ByteArray) (notes : List Note) (h : List Int) (off : List Nat) (z : Note) : ∀ k, z ∈ toldL iv pts notes h off k → ∃ i x, i < notes.length ∧ x ∈ notes ∧ toldB iv pts h off i x = true ∧ z = toldN iv h off i x := by
  intro k
  induction k with
  | zero => intro hz; cases hz
  | succ k ih =>
    intro hz
    rw [toldL] at hz
    split at hz
    · exact ih hz
    · rename_i x hx
      split at hz
      · rename_i hb
        rcases List.mem_append.1 hz with h1 | h1
        · exact ih h1
        · obtain ⟨hk, _⟩ := List.getElem?_eq_some_iff.1 hx
          exact ⟨k, x, hk, List.mem_of_getElem? hx, hb, List.mem_singleton.1 h1⟩
      · exact ih hz
theorem told_err {iv : Int} {pts : List ByteArray} {x : Note} (h : errS ⟨iv, pts, [x]⟩ = 0) : noteErr iv pts.length x = 0 :=
  ((check_valid ⟨iv, pts, [x]⟩).1 h).err0 x (by simp)
theorem err_parts {iv np : Int} {x : Note} (h : noteErr iv np x = 0) :
    kindB x = true ∧ withinB 0 (np - 1) [x.a, x.b] = true ∧ ¬ (over x = x.a ∨ over x = 8 ∧ x.b ≠ 0) ∧ withinB (endLo x) (endHi iv x) [x.lo, x.hi] = true ∧ ¬ (x.hi < x.lo ∨ x.k = 2 ∧ x.lo = x.hi) := by
  unfold noteErr at h
  split at h
  · cases h
  split at h
  · cases h
  split at h
  · cases h
  split at h
  · cases h
  split at h
  · cases h
  rename_i h1 h2 h3 h4 h5
  exact ⟨by simpa using h1, by simpa using h2, h3, by simpa using h4, h5⟩

theorem told_valid {s : Sheet} (hv : ValidS s) (h : List Int) (off : List Nat) : ValidS ⟨s.iv, s.pts, toldL s.iv s.pts s.notes h off s.notes.length⟩ := by
  refine hv.with_ _ (Nat.le_trans (toldL_le _ _ _ _ _ _) hv.nn) fun z hz => ?_
  obtain ⟨i, x, _, _, hb, rfl⟩ := toldL_mem _ _ _ _ _ z _ hz
  unfold toldB at hb
  rw [Bool.and_eq_true] at hb
  exact told_err (by simpa using hb.2)

def hF (h : List Int) (n : Nat) : Int := h.getD n 0
def HtsOk (h : List Int) : Prop := h.length ≤ 8 ∧ ∀ z, z ∈ h → 0 ≤ z ∧ z ≤ 9000
theorem HtsOk.bd {h : List Int} (ok : HtsOk h) (n : Nat) : 0 ≤ hF h n ∧ hF h n ≤ 9000 := by
  unfold hF
  by_cases hn : n < h.length
  · rw [List.getD_eq_getElem?_getD, List.getElem?_eq_getElem hn]
    exact ok.2 _ (List.getElem_mem hn)
  · rw [List.getD_eq_getElem?_getD, List.getElem?_eq_none (by omega)]
    simp
theorem HtsOk.ground {h : List Int} (ok : HtsOk h) : hF h 8 = 0 := by
  unfold hF
  rw [List.getD_eq_getElem?_getD, List.getElem?_eq_none ok.1]
  rfl
theorem hF_fin9 (h : List Int) (z : Int) (h0 : 0 ≤ z) (h8 : z ≤ 8) : hF h (fin9 z) = hAt h z := by
  have : ((fin9 z : Nat) : Int) = z := fin9_val z h0 h8
  unfold hF hAt
  rw [show ((fin9 z : Fin 9) : Nat) = z.toNat by omega]
theorem less_bd (off : List Nat) (i : Nat) : 0 ≤ lessS off i ∧ lessS off i ≤ 49 := by unfold lessS; omega
theorem more_bd (off : List Nat) (i : Nat) : 0 ≤ moreS off i ∧ moreS off i ≤ 49 := by unfold moreS; omega
theorem ediv_bd (x iv : Int) (h : 1 ≤ iv) : x / iv * iv ≤ x ∧ x < (x / iv + 1) * iv := by
  have h1 := Int.emod_nonneg x (show iv ≠ 0 by omega)
  have h2 := Int.emod_lt_of_pos x (show 0 < iv by omega)
  have h3 := Int.mul_ediv_add_emod x iv
  rw [Int.mul_comm] at h3
  rw [Int.add_mul]
  omega
theorem told_keeps {s : Sheet} (hv : ValidS s) {h : List Int} (ok : HtsOk h) (off : List Nat) {i : Nat} {x : Note} (hx : x ∈ s.notes) (hb : toldB s.iv s.pts h off i x = true) : NoteM s.iv 0 (toldN s.iv h off i x) (hF h) := by
  unfold toldB at hb
  rw [Bool.and_eq_true] at hb
  have he : noteErr s.iv s.pts.length (toldN s.iv h off i x) = 0 := told_err (by simpa using hb.2)
  have hkeep := hb.1
  have ok2 := noteOk_of _ _ _ hv.iv1 (by have := hv.np8; omega) he
  have hx0 := hv.ok x hx
  have ha := hF_fin9 h x.a hx0.a0 (by have := hx0.a8; omega)
  have hbb := hF_fin9 h x.b hx0.b0 (by have := hx0.b8; omega)
  have h8 := ok.ground
  have b1 := ok.bd (fin9 x.a)
  have b2 := ok.bd (fin9 x.b)
  obtain ⟨l1, l2⟩ := less_bd off i
  obtain ⟨m1, m2⟩ := more_bd off i
  have d := ediv_bd (hAt h x.a) s.iv hv.iv1
  have e8 : ((fin9 8) : Nat) = 8 := rfl
  have hl0 := ok2.l0
  have hh9 := ok2.h9
  have hle := ok2.le
  clear hb
  rw [NoteM_iff]
  unfold toldN at *
  generalize lessS off i = less at *
  generalize moreS off i = more at *
  unfold toldX at *
  rcases hx0.kind with e | e | e | e
  · simp only [e, if_true, over, hiOf, loOf, true_or, show ¬ ((1 : Int) = 2) by decide, if_false, e8, h8, ha] at *
    rw [cl_id _ (by omega) (by omega), cl_id _ (by omega) (by omega)]
    omega
  · simp only [e, if_true, over, hiOf, loOf, or_true, show ¬ ((2 : Int) = 1) by decide, if_false, e8, h8, ha] at *
    rw [cl_id _ (by omega) (by omega), cl_id _ (by omega) (by omega)]
    omega
  · have HQ : noteErr s.iv s.pts.length x = 0 → x.lo = 0 ∧ x.hi = 0 := fun he => by
      have h4 := (err_parts he).2.2.2.1
      have q1 : endLo x = 0 := by simp [endLo, e]
      have q2 : endHi s.iv x = 0 := by simp [endHi, e]
      rw [q1, q2] at h4
      simp [withinB] at h4
      omega
    simp only [e, show ¬ ((3 : Int) = 1) by decide, show ¬ ((3 : Int) = 2) by decide, show ¬ ((3 : Int) = 4) by decide, if_false, over, hiOf, loOf, or_self, ha, hbb] at *
    have hq : hAt h x.a = hAt h x.b := by simpa using hkeep
    have hx' := HQ he
    rw [cl_id _ (by omega) (by omega), cl_id _ (by omega) (by omega)]
    omega
  · simp only [e, if_true, show ¬ ((4 : Int) = 1) by decide, show ¬ ((4 : Int) = 2) by decide, if_false, over, hiOf, loOf, or_self, ha, hbb] at *
    rw [cl_id _ (by omega) (by omega), cl_id _ (by omega) (by omega)]
    omega
theorem told_sol {h : List Int} (ok : HtsOk h) : Sol 9 (ent unbFar) (hF h) := by
  intro a b ha hb
  have u := unbFar_ent ⟨a, ha⟩ ⟨b, hb⟩
  simp only at u
  rw [u]
  have b1 := ok.bd a
  have b2 := ok.bd b
  have g := ok.ground
  split
  · omega
  · rename_i hc
    by_cases e : a = b
    · subst e; omega
    · have : a = 8 := by
        rcases Nat.lt_or_ge a 8 with h1 | h1
        · exact absurd ⟨e, by omega⟩ hc
        · omega
      subst this; omega
/-- The sheet that Told returns. -/
def toldS (s : Sheet) (h : List Int) (off : List Nat) : Sheet := ⟨s.iv, s.pts, toldL s.iv s.pts s.notes h off s.notes.length⟩
theorem told_tr {s : Sheet} (hv : ValidS s) {h : List Int} (ok : HtsOk h) (off : List Nat) : TrB (bdsL s.iv 0 (toldS s h off).notes) (hF h) := by
  rw [TrB_notes]
  refine ⟨told_sol ok, fun z hz => ?_⟩
  obtain ⟨i, x, _, hx, hb, rfl⟩ := toldL_mem _ _ _ _ _ z _ hz
  exact told_keeps hv ok off hx hb

/-- What is answered of a sheet to whose notes some heights keep. -/
structure TruthS (t : Sheet) (h : List Int) : Prop where
  valid : ValidS t
  fit : fitB t.iv 0 t.notes = true
  lo : ∀ a, a < 8 → -(ent (measM t) 8 a) ≤ hF h a
  hi : ∀ a, a < 8 → hF h a ≤ ent (measM t) a 8
  d1 : ∀ a b, a < 9 → b < 9 → hF h a - hF h b ≤ ent (measM t) a b
  wrong : wrongL t = []
  wid : ∀ r, WidIs t r → r = 0
theorem truth_of {t : Sheet} (hv : ValidS t) {h : List Int} (ok : HtsOk h) (ht : TrB (bdsL t.iv 0 t.notes) (hF h)) : TruthS t h := by
  have hf : fitB t.iv 0 t.notes = true := (fitB_iff _ _ _).2 ⟨_, ht⟩
  have hM := (meas_fit hv hf).1
  have hd : ∀ a b, a < 9 → b < 9 → hF h a - hF h b ≤ ent (measM t) a b := fun a b ha hb => by
    rw [hM]
    exact (farM_most t.iv 0 t.notes hf ha hb).1 _ ht
  have h8 := ok.ground
  refine ⟨hv, hf, fun a ha => ?_, fun a ha => ?_, hd, ?_, fun r hr => ?_⟩
  · have := hd 8 a (by omega) (by omega)
    omega
  · have := hd a 8 (by omega) (by omega)
    omega
  · obtain ⟨_, _, h3⟩ := wrong_facts hv
    have := h3 [] (Asc.nil _) (by rw [havK_nil _ _ (Nat.le_refl _), List.take_length]; exact hf)
    exact List.length_eq_zero_iff.1 (by simpa using this)
  · obtain ⟨_, h2, _⟩ := hr
    rcases Nat.eq_zero_or_pos r with e | e
    · exact e
    · have := h2 0 e
      rw [show (((0 : Nat) : Int)) = 0 from rfl, hf] at this
      cases this
theorem TruthS.top {t : Sheet} {h : List Int} (T : TruthS t h) {p : Nat} (hp : p < t.pts.length) (hb : ∀ q, q < t.pts.length → hF h q ≤ hF h p) : (p : Int) ∈ highS t := by
  have hn := T.valid.np8
  unfold highS
  rw [if_pos (meas_fit T.valid T.fit).2]
  unfold topsK
  refine List.mem_map.2 ⟨p, List.mem_filter.2 ⟨List.mem_range.2 hp, ?_⟩, rfl⟩
  unfold topB
  rw [List.all_eq_true]
  intro b hbm
  have hbn := List.mem_range.1 hbm
  have := T.d1 p b (by omega) (by omega)
  have h2 := hb b hbn
  unfold ent at this
  exact decide_eq_true (by omega)
theorem TruthS.apart {t : Sheet} {h : List Int} (T : TruthS t h) {a b : Nat} (ha : a < t.pts.length) (hb : b < t.pts.length) :
    ∃ lo hi o, apartS t a b = ((lo, hi), o, 0) ∧ lo ≤ hF h a - hF h b ∧ hF h a - hF h b ≤ hi ∧ (o = 2 → 0 < hF h a - hF h b) ∧ (o = 1 → hF h a - hF h b < 0) ∧ (o = 3 → hF h a - hF h b = 0) ∧ 0 ≤ o ∧ o ≤ 3 := by
  have hn := T.valid.np8
  have d1 := T.d1 a b (by omega) (by omega)
  have d2 := T.d1 b a (by omega) (by omega)
  unfold ent at d1 d2
  refine ⟨-((measM t)[b * 9 + a]?.getD 0), (measM t)[a * 9 + b]?.getD 0, orderV (-((measM t)[b * 9 + a]?.getD 0)) ((measM t)[a * 9 + b]?.getD 0), ?_, ?_, ?_, ?_⟩
  · unfold apartS
    rw [if_neg (by rw [errS_zero T.valid]; simp), if_neg (by simp; omega), if_neg (by rw [(meas_fit T.valid T.fit).2]; simp)]
    simp
  · omega
  · omega
  · have d3 : -(hF h a - hF h b) ≤ (measM t)[b * 9 + a]?.getD 0 := by omega
    clear d2
    generalize hF h a - hF h b = d at *
    generalize (measM t)[b * 9 + a]?.getD 0 = u at *
    generalize (measM t)[a * 9 + b]?.getD 0 = v at *
    unfold orderV
    split
    · omega
    · split
      · omega
      · split <;> omega
end Go.Proofs.YtpmnnomeaaaenaaGreatDoor
namespace Go.Proofs.YtpmnnomeaaaenaaGreatDoor
open Go Go.RowKit Hs Dc

theorem over1 (a b lo hi : Int) : over ⟨1, a, b, lo, hi⟩ = 8 := by simp [over]
theorem over4 (a b lo hi : Int) : over ⟨4, a, b, lo, hi⟩ = b := by simp [over]
/-- A note that is moved by d. -/
def moveN (d : Int) (x : Note) : Note :=
  if x.k = 1 then { x with lo := max 0 (min 9000 (x.lo + d)), hi := max 0 (min 9000 (x.hi + d)) }
  else if x.k = 4 then { x with lo := max (-9000) (min 9000 (x.lo + d)), hi := max (-9000) (min 9000 (x.hi + d)) }
  else x
theorem move_err {iv np : Int} {x : Note} (d : Int) (h : noteErr iv np x = 0) : noteErr iv np (moveN d x) = 0 := by
  obtain ⟨h1, h2, h3, h4, h5⟩ := err_parts h
  unfold moveN
  split
  · rename_i e
    refine ne_0 _ _ _ h1 h2 h3 ?_ ?_
    · simp [withinB, endLo, endHi, e]; omega
    · simp only [e]
      omega
  · split
    · rename_i e
      refine ne_0 _ _ _ h1 h2 h3 ?_ ?_
      · simp [withinB, endLo, endHi, e]; omega
      · simp only [e]
        omega
    · exact h
/-- The first k notes moved. -/
def moveL (l : List Note) (f : Nat → Int) (k : Nat) : List Note := l.mapIdx fun i x => if i < k then moveN (f i) x else x
theorem moveL_len (l : List Note) (f : Nat → Int) (k : Nat) : (moveL l f k).length = l.length := by simp [moveL]
theorem moveL_get (l : List Note) (f : Nat → Int) (k : Nat) (i : Nat) (h : i < l.length) : (moveL l f k)[i]'(by rw [moveL_len]; exact h) = if i < k then moveN (f i) l[i] else l[i] := by simp [moveL]
theorem moveL_zero (l : List Note) (f : Nat → Int) : moveL l f 0 = l := by
  apply List.ext_getElem (moveL_len l f 0)
  intro i h1 h2
  rw [moveL_get l f 0 i h2, if_neg (by omega)]
theorem moveL_mem {l : List Note} {f : Nat → Int} {k : Nat} {z : Note} (h : z ∈ moveL l f k) : ∃ x, x ∈ l ∧ (z = x ∨ ∃ i, z = moveN (f i) x) := by
  obtain ⟨i, hi, rfl⟩ := List.getElem_of_mem h
  have hi' : i < l.length := by rw [moveL_len] at hi; exact hi
  rw [moveL_get l f k i hi']
  refine ⟨l[i], List.getElem_mem hi', ?_⟩
  split
  · exact .inr ⟨i, rfl⟩
  · exact .inl rfl
theorem move_keeps {iv np by' : Int} {x : Note} {h : Nat → Int} (hiv : 1 ≤ iv) (hnp : np ≤ 8) (he : noteErr iv np x = 0) (hs : Sol 9 (ent unbFar) h) (hx : NoteM iv 0 x h) (d : Int) (h1 : -by' ≤ d) (h2 : d ≤ by') (h3 : by' ≤ 100) : NoteM iv by' (moveN d x) h := by
  have ok := noteOk_of iv np x hiv hnp he
  have e8 : ((fin9 8) : Nat) = 8 := rfl
  rw [NoteM_iff] at hx ⊢
  have l0 := ok.l0
  have l9 := ok.l9
  have h0 := ok.h0
  have h9 := ok.h9
  have o0 := ok.o0
  have o8 := ok.o8
  have a0 := ok.a0
  have a8 := ok.a8
  have va := fin9_val x.a a0 (by omega)
  have vo := fin9_val (over x) o0 o8
  have s1 := hs (fin9 x.a) (fin9 (over x)) (by omega) (by omega)
  have s2 := hs (fin9 (over x)) (fin9 x.a) (by omega) (by omega)
  have u1 := unbFar_ent (fin9 x.a) (fin9 (over x))
  have u2 := unbFar_ent (fin9 (over x)) (fin9 x.a)
  rw [u1] at s1
  rw [u2] at s2
  rw [cl_id _ (by omega) (by omega), cl_id _ (by omega) (by omega)] at hx
  clear u1 u2
  unfold moveN
  split
  · rename_i e
    have ho : over x = 8 := by simp [over, e]
    simp only [over1, hiOf, loOf, e, show ¬ ((1 : Int) = 2) by decide, if_false] at *
    simp only [ho, e8] at *
    generalize h (fin9 x.a) = p at *
    generalize h 8 = q at *
    have t1 : p - q ≤ 9000 := by split at s1 <;> omega
    have t2 : q - p ≤ 0 := by rw [if_neg (by omega)] at s2; omega
    clear s1 s2
    rw [cl_id _ (by omega) (by omega), cl_id _ (by omega) (by omega)]
    omega
  · split
    · rename_i e1 e
      have ho : over x = x.b := by simp [over, e]
      simp only [ho, over4, hiOf, loOf, e, show ¬ ((4 : Int) = 2) by decide, if_false] at *
      generalize h (fin9 x.a) = p at *
      generalize h (fin9 x.b) = q at *
      have t1 : p - q ≤ 9000 := by split at s1 <;> omega
      have t2 : q - p ≤ 9000 := by split at s2 <;> omega
      clear s1 s2
      rw [cl_id _ (by omega) (by omega), cl_id _ (by omega) (by omega)]
      omega
    · rw [cl_id _ (by omega) (by omega), cl_id _ (by omega) (by omega)]
      omega
/-- A note that is wider, as looser makes it. -/
def looseN (iv by' : Int) (x : Note) : Note :=
  if x.k = 1 then { x with lo := max 0 (x.lo - by'), hi := min 9000 (x.hi + by') }
  else if x.k = 2 then { x with k := 1, lo := max 0 (x.lo * iv - by'), hi := min 9000 (x.hi * iv + by') }
  else if x.k = 3 then { x with k := 4, lo := max (-9000) (x.lo - by'), hi := min 9000 (x.hi + by') }
  else { x with lo := max (-9000) (x.lo - by'), hi := min 9000 (x.hi + by') }
theorem loose_err {iv np by' : Int} {x : Note} (hiv : 1 ≤ iv) (hnp : np ≤ 8) (h0 : 0 ≤ by') (h9 : by' ≤ 9000) (h : noteErr iv np x = 0) : noteErr iv np (looseN iv by' x) = 0 := by
  have ok := noteOk_of iv np x hiv hnp h
  obtain ⟨h1, h2, h3, h4, h5⟩ := err_parts h
  have c0 := ok.c0
  unfold looseN
  rcases ok.kind with e | e | e | e
  · rw [if_pos e]
    simp [withinB, endLo, endHi, e] at h4
    refine ne_0 _ _ _ h1 h2 h3 ?_ ?_
    · simp [withinB, endLo, endHi, e]; omega
    · simp only [e]; omega
  · obtain ⟨c1, c2, c3⟩ := c0 e
    rw [if_neg (by omega), if_pos e]
    refine ne_0 _ _ _ rfl h2 ?_ ?_ ?_
    · simp only [over, e, or_true, true_or, if_true] at h3 ⊢
      exact h3
    · simp [withinB, endLo, endHi]; omega
    · simp; omega
  · rw [if_neg (by omega), if_neg (by omega), if_pos e]
    simp [withinB, endLo, endHi, e] at h4
    refine ne_0 _ _ _ rfl h2 ?_ ?_ ?_
    · simp only [over, e] at h3 ⊢
      simpa using h3
    · simp [withinB, endLo, endHi]; omega
    · simp; omega
  · rw [if_neg (by omega), if_neg (by omega), if_neg (by omega)]
    simp [withinB, endLo, endHi, e] at h4
    refine ne_0 _ _ _ h1 h2 h3 ?_ ?_
    · simp [withinB, endLo, endHi, e]; omega
    · simp only [e]; omega
theorem loose_truth {iv np by' : Int} {x : Note} {h : Nat → Int} (hiv : 1 ≤ iv) (hnp : np ≤ 8) (hb0 : 0 ≤ by') (hb9 : by' ≤ 9000) (he : noteErr iv np x = 0) (hs : Sol 9 (ent unbFar) h) : NoteM iv 0 (looseN iv by' x) h ↔ NoteM iv by' x h := by
  have ok := noteOk_of iv np x hiv hnp he
  have e8 : ((fin9 8) : Nat) = 8 := rfl
  rw [NoteM_iff, NoteM_iff]
  have l0 := ok.l0
  have l9 := ok.l9
  have h0 := ok.h0
  have h9 := ok.h9
  have o0 := ok.o0
  have o8 := ok.o8
  have a0 := ok.a0
  have a8 := ok.a8
  have c0 := ok.c0
  have va := fin9_val x.a a0 (by omega)
  have vo := fin9_val (over x) o0 o8
  have s1 := hs (fin9 x.a) (fin9 (over x)) (by omega) (by omega)
  have s2 := hs (fin9 (over x)) (fin9 x.a) (by omega) (by omega)
  have u1 := unbFar_ent (fin9 x.a) (fin9 (over x))
  have u2 := unbFar_ent (fin9 (over x)) (fin9 x.a)
  rw [u1] at s1
  rw [u2] at s2
  clear u1 u2
  have t1 : h (fin9 x.a) - h (fin9 (over x)) ≤ 9000 := by split at s1 <;> omega
  have t2 : h (fin9 (over x)) - h (fin9 x.a) ≤ 9000 := by split at s2 <;> omega
  have t3 : over x = 8 → h (fin9 (over x)) - h (fin9 x.a) ≤ 0 := fun e => by rw [if_neg (by rw [e]; simp [e8])] at s2; omega
  clear s1 s2
  unfold looseN
  rcases ok.kind with e | e | e | e
  · rw [if_pos e]
    have ho : over x = 8 := by simp [over, e]
    have t3 := t3 ho
    simp only [over, hiOf, loOf, e, true_or, if_true, show ¬ ((1 : Int) = 2) by decide, if_false, e8] at *
    generalize h (fin9 x.a) = p at *
    generalize h 8 = q at *
    rw [cl_id _ (by omega) (by omega), cl_id _ (by omega) (by omega), cl_id _ (by omega) (by omega), cl_id _ (by omega) (by omega)]
    omega
  · obtain ⟨c1, c2, c3⟩ := c0 e
    rw [if_neg (by omega), if_pos e]
    have ho : over x = 8 := by simp [over, e]
    have t3 := t3 ho
    simp only [over, hiOf, loOf, e, true_or, or_true, if_true, show ¬ ((1 : Int) = 2) by decide, if_false, e8] at *
    generalize h (fin9 x.a) = p at *
    generalize h 8 = q at *
    generalize x.lo * iv = lo at *
    generalize x.hi * iv = hi at *
    rw [cl_id _ (by omega) (by omega), cl_id _ (by omega) (by omega), cl_id _ (by omega) (by omega), cl_id _ (by omega) (by omega)]
    omega
  · rw [if_neg (by omega), if_neg (by omega), if_pos e]
    clear t3
    simp only [over, hiOf, loOf, e, show ¬ ((3 : Int) = 1) by decide, show ¬ ((3 : Int) = 2) by decide, show ¬ ((4 : Int) = 1) by decide, show ¬ ((4 : Int) = 2) by decide, or_self, if_false, e8] at *
    generalize h (fin9 x.a) = p at *
    generalize h (fin9 x.b) = q at *
    rw [cl_id _ (by omega) (by omega), cl_id _ (by omega) (by omega), cl_id _ (by omega) (by omega), cl_id _ (by omega) (by omega)]
    omega
  · rw [if_neg (by omega), if_neg (by omega), if_neg (by omega)]
    clear t3
    simp only [over, hiOf, loOf, e, show ¬ ((4 : Int) = 1) by decide, show ¬ ((4 : Int) = 2) by decide, or_self, if_false, e8] at *
    generalize h (fin9 x.a) = p at *
    generalize h (fin9 x.b) = q at *
    rw [cl_id _ (by omega) (by omega), cl_id _ (by omega) (by omega), cl_id _ (by omega) (by omega), cl_id _ (by omega) (by omega)]
    omega
def looseL (iv by' : Int) (l : List Note) : List Note := l.map (looseN iv by')
theorem loose_valid {s : Sheet} (hv : ValidS s) {by' : Int} (h0 : 0 ≤ by') (h9 : by' ≤ 9000) : ValidS ⟨s.iv, s.pts, looseL s.iv by' s.notes⟩ := by
  refine hv.with_ _ (by rw [looseL, List.length_map]; exact hv.nn) fun z hz => ?_
  obtain ⟨x, hx, rfl⟩ := List.mem_map.1 hz
  exact loose_err hv.iv1 (by have := hv.np8; omega) h0 h9 (hv.err0 x hx)
theorem loose_fit {s : Sheet} (hv : ValidS s) {by' : Int} (h0 : 0 ≤ by') (h9 : by' ≤ 9000) : fitB s.iv 0 (looseL s.iv by' s.notes) = fitB s.iv by' s.notes := by
  refine fitB_ext fun h => ?_
  rw [TrB_notes, TrB_notes]
  refine and_congr_right fun hs => ?_
  have key : ∀ x, x ∈ s.notes → (NoteM s.iv 0 (looseN s.iv by' x) h ↔ NoteM s.iv by' x h) := fun x hx => loose_truth hv.iv1 (by have := hv.np8; omega) h0 h9 (hv.err0 x hx) hs
  unfold looseL
  exact ⟨fun q x hx => (key x hx).1 (q _ (List.mem_map.2 ⟨x, hx, rfl⟩)), fun q z hz => by
    obtain ⟨x, hx, rfl⟩ := List.mem_map.1 hz
    exact (key x hx).2 (q x hx)⟩
theorem fit_9000 {s : Sheet} (hv : ValidS s) : fitB s.iv 9000 s.notes = true := by
  rw [fitB_iff]
  refine ⟨fun _ => 0, ?_⟩
  rw [TrB_notes]
  refine ⟨fun a b ha hb => ?_, fun x hx => ?_⟩
  · have := unbFar_ent ⟨a, ha⟩ ⟨b, hb⟩
    simp only at this
    show (0 : Int) - 0 ≤ _
    rw [this]
    split <;> omega
  · have ok := hv.ok x hx
    rw [NoteM_iff]
    have l0 := ok.l0
    have l9 := ok.l9
    have h0 := ok.h0
    have h9 := ok.h9
    rw [cl_id _ (by omega) (by omega), cl_id _ (by omega) (by omega)]
    omega
theorem wid_fit {s : Sheet} (hv : ValidS s) {r : Nat} (h : WidIs s r) : fitB s.iv r s.notes = true := by
  obtain ⟨h1, _, h3⟩ := h
  rcases Nat.lt_or_ge r 9000 with q | q
  · exact h3 q
  · obtain rfl : r = 9000 := by omega
    exact fit_9000 hv
theorem wid_zero {s : Sheet} {r : Nat} (h : WidIs s r) : fitB s.iv 0 s.notes = decide (r = 0) := by
  obtain ⟨_, h2, h3⟩ := h
  by_cases e : r = 0
  · subst e
    rw [decide_eq_true rfl]
    exact h3 (by omega)
  · rw [decide_eq_false e]
    exact h2 0 (by omega)
theorem wid_le {s : Sheet} {r : Nat} (h : WidIs s r) {b : Nat} (hb : fitB s.iv b s.notes = true) : r ≤ b := by
  obtain ⟨_, h2, _⟩ := h
  rcases Nat.lt_or_ge b r with q | q
  · rw [h2 b q] at hb; cases hb
  · exact q
/-- Told notes that are moved by at most so much are mended by so much. -/
theorem moved_fit {s : Sheet} (hv : ValidS s) {h : List Int} (ok : HtsOk h) (off : List Nat) {by' : Nat} (hby : by' ≤ 100) (f : Nat → Int) (hf : ∀ i, -(by' : Int) ≤ f i ∧ f i ≤ by') :
    ValidS ⟨s.iv, s.pts, moveL (toldS s h off).notes f (toldS s h off).notes.length⟩ ∧ fitB s.iv by' (moveL (toldS s h off).notes f (toldS s h off).notes.length) = true := by
  have ht := told_tr hv ok off
  have hv' : ValidS (toldS s h off) := told_valid hv h off
  rw [TrB_notes] at ht
  generalize hN : (toldS s h off).notes = N at *
  have he : ∀ x, x ∈ N → noteErr s.iv s.pts.length x = 0 := fun x hx => hv'.err0 x (by rw [hN]; exact hx)
  refine ⟨hv.with_ _ ?_ fun z hz => ?_, ?_⟩
  · rw [moveL_len, ← hN]
    exact hv'.nn
  · obtain ⟨x, hx, rfl | ⟨i, rfl⟩⟩ := moveL_mem hz
    · exact he _ hx
    · exact move_err _ (he x hx)
  · rw [fitB_iff]
    refine ⟨hF h, ?_⟩
    rw [TrB_notes]
    refine ⟨ht.1, fun z hz => ?_⟩
    obtain ⟨i, hi, rfl⟩ := List.getElem_of_mem hz
    have hi' : i < N.length := by rw [moveL_len] at hi; exact hi
    rw [moveL_get _ _ _ i hi', if_pos hi']
    have hx := List.getElem_mem hi'
    exact move_keeps hv.iv1 (by have := hv.np8; omega) (he _ hx) ht.1 (ht.2 _ hx) _ (hf i).1 (hf i).2 (by omega)
end Go.Proofs.YtpmnnomeaaaenaaGreatDoor
namespace Hs
/-- Compared number by number, the former is first. -/
def lx : List Int → List Int → Prop
  | a :: p, b :: q => a < b ∨ a = b ∧ lx p q
  | _, _ => False
theorem lx_append (l s t : List Int) : lx (l ++ s) (l ++ t) ↔ lx s t := by
  induction l with
  | nil => rfl
  | cons x l ih =>
    show x < x ∨ x = x ∧ lx (l ++ s) (l ++ t) ↔ _
    rw [ih]
    exact ⟨fun h => h.elim (fun h => absurd h (Int.lt_irrefl x)) (·.2), fun h => .inr ⟨rfl, h⟩⟩
theorem lx_irrefl : ∀ l, ¬ lx l l := by
  intro l
  induction l with
  | nil => exact fun h => h
  | cons x l ih => exact fun h => h.elim (fun h => absurd h (Int.lt_irrefl x)) (fun h => ih h.2)
theorem lx_asymm : ∀ a b, lx a b → ¬ lx b a := by
  intro a
  induction a with
  | nil => intro b h; cases b <;> exact h.elim
  | cons x a ih =>
    intro b
    cases b with
    | nil => intro h; exact h.elim
    | cons y b =>
      rintro (h | ⟨rfl, h⟩) (k | ⟨e, k⟩)
      · omega
      · omega
      · omega
      · exact ih b h k
/-- The former is shorter, or as long and not behind. -/
def noLater (e u : List Int) : Prop := e.length < u.length ∨ e = u ∨ e.length = u.length ∧ lx e u

theorem extK_first (g : List Int → Bool) (n : Nat) : ∀ k l best, k ≤ n → Asc n l → (∀ x, x ∈ l → x < ((n - k : Nat) : Int)) →
    (best ≠ [] → ∀ t, t ≠ [] → (∀ x, x ∈ t → ((n - k : Nat) : Int) ≤ x) → lx best (l ++ t)) →
    (extK g n k best l = best ∨ ∃ t, t ≠ [] ∧ extK g n k best l = l ++ t ∧ (∀ x, x ∈ t → ((n - k : Nat) : Int) ≤ x) ∧ (best ≠ [] → (extK g n k best l).length < best.length)) ∧
    ∀ t, t ≠ [] → Asc n (l ++ t) → (∀ x, x ∈ t → ((n - k : Nat) : Int) ≤ x) → g (l ++ t) = true → extK g n k best l ≠ [] ∧ noLater (extK g n k best l) (l ++ t) := by
  intro k
  induction k with
  | zero =>
    intro l best _ _ _ _
    refine ⟨.inl rfl, fun t ht ha hlo _ => ?_⟩
    match t, ht with
    | x :: t', _ =>
      have h1 := (ha.2 x (by simp)).2
      have h2 := hlo x (by simp)
      omega
  | succ k ih =>
    intro l best hk hl hlt hH
    have hi0 : (0 : Int) ≤ ((n - (k + 1) : Nat) : Int) := by omega
    have hin : ((n - (k + 1) : Nat) : Int) < (n : Int) := by omega
    have hs := hl.snoc hi0 hin hlt
    have hlt' : ∀ x, x ∈ l → x < ((n - k : Nat) : Int) := fun x hx => by have := hlt x hx; omega
    have hik : ((n - (k + 1) : Nat) : Int) < ((n - k : Nat) : Int) := by omega
    generalize hi : ((n - (k + 1) : Nat) : Int) = i at *
    rw [extK, hi]
    split
    · rename_i hc
      refine ⟨.inl rfl, fun t ht _ hlo _ => ⟨hc.1, ?_⟩⟩
      have h0 : 0 < t.length := List.length_pos_iff.2 ht
      have h1 := hc.2
      have h2 := hH hc.1 t ht hlo
      by_cases he : best.length < (l ++ t).length
      · exact .inl he
      · exact .inr (.inr ⟨by rw [List.length_append] at he ⊢; omega, h2⟩)
    · rename_i hc
      split
      · rename_i hg
        obtain ⟨a, _⟩ := ih l (l ++ [i]) (by omega) hl hlt' (fun _ t ht hlo => by
          rw [lx_append]
          match t, ht with
          | x :: t', _ => exact .inl (by have := hlo x (by simp); omega))
        have hE : extK g n k (l ++ [i]) l = l ++ [i] := by
          rcases a with e | ⟨t, ht, e, _, hlen⟩
          · exact e
          · have := hlen (by simp)
            rw [e, List.length_append, List.length_append, List.length_singleton] at this
            have h0 : 0 < t.length := List.length_pos_iff.2 ht
            omega
        rw [hE]
        refine ⟨.inr ⟨[i], by simp, rfl, fun x hx => by rw [List.mem_singleton.1 hx]; exact Int.le_refl _, fun hb => ?_⟩, fun t ht _ hlo _ => ⟨by simp, ?_⟩⟩
        · rcases Nat.lt_or_ge (l ++ [i]).length best.length with q | q
          · exact q
          · exact absurd ⟨hb, by simpa using q⟩ hc
        · match t, ht with
          | x :: t', _ =>
            by_cases h1 : t' = []
            · subst h1
              have hx := hlo x (by simp)
              by_cases hxe : x = i
              · subst hxe; exact .inr (.inl rfl)
              · exact .inr (.inr ⟨by simp, (lx_append _ _ _).2 (.inl (by omega))⟩)
            · have h0 : 0 < t'.length := List.length_pos_iff.2 h1
              exact .inl (by simp; omega)
      · rename_i hg
        have hsx : ∀ x, x ∈ l ++ [i] → x < ((n - k : Nat) : Int) := fun x hx => by
          rcases List.mem_append.1 hx with h' | h'
          · exact hlt' x h'
          · rw [List.mem_singleton.1 h']; omega
        obtain ⟨a1, c1⟩ := ih (l ++ [i]) best (by omega) hs hsx (fun hb t _ hlo => by
          have := hH hb (i :: t) (by simp) (fun x hx => by
            rcases List.mem_cons.1 hx with rfl | hx
            · exact Int.le_refl _
            · have := hlo x hx; omega)
          simpa using this)
        generalize hE1 : extK g n k best (l ++ [i]) = E1 at *
        obtain ⟨a2, c2⟩ := ih l E1 (by omega) hl hlt' (fun hb t ht hlo => by
          rcases a1 with e | ⟨t1, _, e, _, _⟩
          · subst e
            exact hH hb t ht (fun x hx => by have := hlo x hx; omega)
          · rw [e, List.append_assoc, lx_append]
            match t, ht with
            | x :: t', _ => exact .inl (by have := hlo x (by simp); omega))
        generalize hE : extK g n k E1 l = E at *
        have hEE : E = E1 ∨ E1 ≠ [] ∧ E.length < E1.length ∧ E ≠ [] ∨ E1 = [] := by
          rcases a2 with e | ⟨t2, ht2, e, _, h2⟩
          · exact .inl e
          · by_cases q : E1 = []
            · exact .inr (.inr q)
            · exact .inr (.inl ⟨q, h2 q, by rw [e]; simp [ht2]⟩)
        refine ⟨?_, fun t ht ha hlo hgt => ?_⟩
        · rcases a2 with e | ⟨t2, ht2, e, hl2, h2⟩
          · rcases a1 with e1 | ⟨t1, ht1, e1, hl1, h1⟩
            · exact .inl (e.trans e1)
            · refine .inr ⟨i :: t1, by simp, by rw [e, e1]; simp, fun x hx => ?_, fun hb => by rw [e]; exact h1 hb⟩
              rcases List.mem_cons.1 hx with rfl | hx
              · exact Int.le_refl _
              · have := hl1 x hx; omega
          · refine .inr ⟨t2, ht2, e, fun x hx => by have := hl2 x hx; omega, fun hb => ?_⟩
            rcases a1 with e1 | ⟨t1, ht1, e1, hl1, h1⟩
            · subst e1; exact h2 hb
            · have := h1 hb
              have := h2 (by rw [e1]; simp)
              omega
        · match t, ht with
          | x :: t', _ =>
            have hpw := (List.pairwise_append.1 ha.1).2.1
            rw [List.pairwise_cons] at hpw
            have hx := hlo x (by simp)
            by_cases he : x = i
            · subst he
              have e : l ++ x :: t' = (l ++ [x]) ++ t' := by simp
              by_cases ht' : t' = []
              · subst ht'
                exact absurd hgt hg
              · obtain ⟨p1, p2⟩ := c1 t' ht' (e ▸ ha) (fun y hy => by have := hpw.1 y hy; omega) (e ▸ hgt)
                rw [e]
                rcases hEE with q | ⟨_, q2, q3⟩ | q
                · rw [q]; exact ⟨p1, p2⟩
                · refine ⟨q3, .inl ?_⟩
                  rcases p2 with p | p | p
                  · omega
                  · rw [← p]; exact q2
                  · omega
                · exact absurd q p1
            · exact c2 (x :: t') (by simp) ha (fun y hy => by
                rcases List.mem_cons.1 hy with rfl | hy
                · omega
                · have := hpw.1 y hy; omega) hgt
/-- No good list is before the one of fewest. -/
theorem fewS_first (g : List Int → Bool) (n : Nat) (t : List Int) (ht : Asc n t) (hg : g t = true) : noLater (fewS n g) t := by
  unfold fewS
  split
  · rename_i h
    by_cases e : t = []
    · subst e; exact .inr (.inl rfl)
    · exact .inl (List.length_pos_iff.2 e)
  · rename_i h
    have ht0 : t ≠ [] := by rintro rfl; exact h hg
    exact ((extK_first g n n [] [] (Nat.le_refl _) (Asc.nil n) (fun x hx => by cases hx) (fun h => absurd rfl h)).2 t ht0 (by simpa using ht) (fun x hx => by have := (ht.2 x hx).1; omega) (by simpa using hg)).2

/-- All ascending lists of m numbers from f on, below n, in their order. -/
def lstK (n : Nat) : Nat → Nat → List (List Int)
  | 0, _ => [[]]
  | m + 1, f => (List.range (n - f)).flatMap fun d => (lstK n m (f + d + 1)).map fun r => ((f + d : Nat) : Int) :: r
theorem lstK_mem (n : Nat) : ∀ m f l, l ∈ lstK n m f ↔ l.length = m ∧ Asc n l ∧ ∀ x, x ∈ l → (f : Int) ≤ x := by
  intro m
  induction m with
  | zero =>
    intro f l
    rw [lstK, List.mem_singleton]
    constructor
    · rintro rfl
      exact ⟨rfl, Asc.nil n, fun x hx => by cases hx⟩
    · rintro ⟨h, _, _⟩
      exact List.length_eq_zero_iff.1 h
  | succ m ih =>
    intro f l
    rw [lstK]
    simp only [List.mem_flatMap, List.mem_map, List.mem_range, ih]
    constructor
    · rintro ⟨d, hd, r, ⟨h1, h2, h3⟩, rfl⟩
      refine ⟨by simp [h1], ⟨List.pairwise_cons.2 ⟨fun y hy => by have := h3 y hy; omega, h2.1⟩, fun x hx => ?_⟩, fun x hx => ?_⟩
      · rcases List.mem_cons.1 hx with rfl | hx
        · omega
        · exact h2.2 x hx
      · rcases List.mem_cons.1 hx with rfl | hx
        · omega
        · have := h3 x hx; omega
    · rintro ⟨h1, h2, h3⟩
      match l, h1 with
      | x :: r, h1 =>
        have hx := h2.2 x (by simp)
        have hf := h3 x (by simp)
        have hpw := List.pairwise_cons.1 h2.1
        refine ⟨x.toNat - f, by omega, r, ⟨by simpa using h1, ⟨hpw.2, fun y hy => h2.2 y (by simp [hy])⟩, fun y hy => by have := hpw.1 y hy; omega⟩, ?_⟩
        rw [show ((f + (x.toNat - f) : Nat) : Int) = x by omega]
theorem lstK_sorted (n : Nat) : ∀ m f, (lstK n m f).Pairwise lx := by
  intro m
  induction m with
  | zero => intro f; exact List.pairwise_singleton _ _
  | succ m ih =>
    intro f
    rw [lstK]
    refine List.pairwise_flatMap.2 ⟨fun d _ => ?_, ?_⟩
    · rw [List.pairwise_map]
      exact (ih (f + d + 1)).imp fun h => .inr ⟨rfl, h⟩
    · refine List.pairwise_lt_range.imp fun {a b} hab => ?_
      intro x hx y hy
      obtain ⟨r, _, rfl⟩ := List.mem_map.1 hx
      obtain ⟨s, _, rfl⟩ := List.mem_map.1 hy
      exact .inl (by omega)
/-- What is first good among the lists of the least length is what fewest finds. -/
theorem few_first (g : List Int → Bool) (n m k : Nat) (hk : k < (lstK n m 0).length) (hg : g (lstK n m 0)[k] = true)
    (hless : ∀ m', m' < m → ∀ l, l ∈ lstK n m' 0 → g l = false) (hno : ∀ j (hj : j < k), g ((lstK n m 0)[j]'(by omega)) = false) : (lstK n m 0)[k] = fewS n g := by
  obtain ⟨h1, h2, _⟩ := (lstK_mem n m 0 _).1 (List.getElem_mem hk)
  obtain ⟨s1, s2⟩ := fewS_spec g n
  obtain ⟨s3, s4⟩ := s2 _ h2 hg
  have hin : fewS n g ∈ lstK n (fewS n g).length 0 := (lstK_mem n _ 0 _).2 ⟨rfl, s1, fun x hx => (s1.2 x hx).1⟩
  have hl : (fewS n g).length = m := by
    rcases Nat.lt_or_ge (fewS n g).length m with q | q
    · have := hless _ q _ hin
      rw [this] at s3; cases s3
    · omega
  rw [hl] at hin
  obtain ⟨j, hj, e⟩ := List.getElem_of_mem hin
  rcases Nat.lt_trichotomy j k with q | q | q
  · have := hno j q
    rw [e, s3] at this; cases this
  · subst q; exact e
  · have hlx := List.pairwise_iff_getElem.1 (lstK_sorted n m 0) k j hk hj q
    rw [e] at hlx
    rcases fewS_first g n _ h2 hg with p | p | p
    · omega
    · exact p.symm
    · exact absurd hlx (lx_asymm _ _ p.2)
end Hs
namespace Go.Proofs.YtpmnnomeaaaenaaGreatDoor
open Go Go.RowKit Hs Dc

/-- The indices below n. -/
def ixL (n : Nat) : List Int := (List.range n).map Int.ofNat
theorem ixL_succ (n : Nat) : ixL (n + 1) = ixL n ++ [(n : Int)] := by unfold ixL; rw [List.range_succ, List.map_append]; rfl
theorem ixL_len (n : Nat) : (ixL n).length = n := by simp [ixL]
theorem ixL_in (n : Nat) : ∀ z, z ∈ ixL n → 0 ≤ z ∧ z < (n : Int) := by
  intro z hz
  unfold ixL at hz
  obtain ⟨i, hi, rfl⟩ := List.mem_map.1 hz
  have := List.mem_range.1 hi
  exact ⟨Int.natCast_nonneg i, by show (i : Int) < n; omega⟩
theorem pick_all (l : List Note) : pickL l (ixL l.length) = l := by
  apply List.ext_getElem (by simp [pickL, ixL])
  intro i h1 h2
  simp [pickL, ixL, List.getD_eq_getElem?_getD, h2]
theorem all_ok {s : Sheet} (hv : ValidS s) : ∀ x, x ∈ s.notes → NtOk s.iv s.pts.length x := fun x hx => ntOk_of hv.iv1 hv.np8 (hv.err0 x hx)

theorem jx_of {np i : Nat} (hnp : np ≤ 8) (hi : i < np + 1) : ∃ b, (b < np ∨ b = 8) ∧ jx np b = i := by
  by_cases h : i < np
  · exact ⟨i, .inl h, if_pos h⟩
  · exact ⟨8, .inr rfl, by unfold jx; rw [if_neg (by omega)]; omega⟩
theorem refM_bd9 {iv : Int} {np : Nat} (hnp : np ≤ 8) {l : List Note} (hl : ∀ x, x ∈ l → NtOk iv np x) (hf : fitB iv 0 l = true) : ∀ i j, i < np + 1 → j < np + 1 → -9000 ≤ refM iv 0 np l i j ∧ refM iv 0 np l i j ≤ 9000 := by
  intro i j hi hj
  obtain ⟨b, hb, rfl⟩ := jx_of hnp hi
  obtain ⟨a, ha, rfl⟩ := jx_of hnp hj
  rw [refM_ent hnp (Int.le_refl 0) (by omega) hl hf ha hb]
  have hc := (farM_closed iv 0 l hf).1
  rcases Nat.lt_or_ge a 8 with a8 | a8 <;> rcases Nat.lt_or_ge b 8 with b8 | b8
  · have h1 := farM_apart iv l hf a8 b8
    omega
  · obtain rfl : b = 8 := by omega
    have h1 := farM_ends iv l hf a8
    omega
  · obtain rfl : a = 8 := by omega
    have h1 := farM_ends iv l hf b8
    omega
  · obtain rfl : a = 8 := by omega
    obtain rfl : b = 8 := by omega
    rw [hc.diag 8 (by omega)]
    omega
theorem refM_lo {iv : Int} {np : Nat} (hnp : np ≤ 8) {l : List Note} (hl : ∀ x, x ∈ l → NtOk iv np x) (hf : fitB iv 0 l = true) {i : Nat} (hi : i < np) : refM iv 0 np l i np = ent (farM iv 0 l) 8 i := by
  have h := refM_ent hnp (Int.le_refl 0) (by omega) hl hf (a := 8) (b := i) (.inr rfl) (.inl hi)
  rw [show jx np i = i from if_pos hi, show jx np 8 = np by unfold jx; rw [if_neg (by omega)]] at h
  exact h
theorem refM_hi {iv : Int} {np : Nat} (hnp : np ≤ 8) {l : List Note} (hl : ∀ x, x ∈ l → NtOk iv np x) (hf : fitB iv 0 l = true) {i : Nat} (hi : i < np) : refM iv 0 np l np i = ent (farM iv 0 l) i 8 := by
  have h := refM_ent hnp (Int.le_refl 0) (by omega) hl hf (a := i) (b := 8) (.inl hi) (.inr rfl)
  rw [show jx np i = i from if_pos hi, show jx np 8 = np by unfold jx; rw [if_neg (by omega)]] at h
  exact h
theorem refM_two {iv : Int} {np : Nat} (hnp : np ≤ 8) {l : List Note} (hl : ∀ x, x ∈ l → NtOk iv np x) (hf : fitB iv 0 l = true) {a b : Nat} (ha : a < np) (hb : b < np) : refM iv 0 np l a b = ent (farM iv 0 l) b a := by
  have h := refM_ent hnp (Int.le_refl 0) (by omega) hl hf (a := b) (b := a) (.inl hb) (.inl ha)
  rw [show jx np a = a from if_pos ha, show jx np b = b from if_pos hb] at h
  exact h
/-- The first k spans that the reference tells. -/
def rhtL (F : Mx) (np k : Nat) : List (Int × Int) := (List.range k).map fun i => (-(F i np), F np i)
theorem rhtL_succ (F : Mx) (np k : Nat) : rhtL F np (k + 1) = rhtL F np k ++ [(-(F k np), F np k)] := by unfold rhtL; rw [List.range_succ, List.map_append]; rfl
theorem rhtL_len (F : Mx) (np k : Nat) : (rhtL F np k).length = k := by simp [rhtL]
/-- The cells of spans. -/
def spnC (l : List (Int × Int)) : List Value := l.flatMap fun x => [.int .i64 x.1, .int .i64 x.2]
theorem spnC_snoc (l : List (Int × Int)) (x : Int × Int) : spnC (l ++ [x]) = spnC l ++ [.int .i64 x.1, .int .i64 x.2] := by unfold spnC; rw [List.flatMap_append]; simp
theorem rhtL_all {s : Sheet} (hv : ValidS s) (hf : fitB s.iv 0 s.notes = true) : rhtL (refM s.iv 0 s.pts.length s.notes) s.pts.length s.pts.length = heightS s := by
  unfold rhtL heightS
  apply List.map_congr_left
  intro a ha
  have ha := List.mem_range.1 ha
  rw [refM_lo hv.np8 (all_ok hv) hf ha, refM_hi hv.np8 (all_ok hv) hf ha, (meas_fit hv hf).1]
  rfl
theorem spnC_get (l : List (Int × Int)) : ∀ k (h : k < l.length), (spnC l)[k * 2]? = some (.int .i64 l[k].1) ∧ (spnC l)[k * 2 + 1]? = some (.int .i64 l[k].2) := by
  induction l with
  | nil => intro k h; simp at h
  | cons x l ih =>
    intro k h
    have e : spnC (x :: l) = .int .i64 x.1 :: .int .i64 x.2 :: spnC l := by simp [spnC]
    rw [e]
    cases k with
    | zero => exact ⟨rfl, rfl⟩
    | succ k =>
      have := ih k (by simpa using h)
      rw [show (k + 1) * 2 = k * 2 + 1 + 1 by omega]
      simpa using this
theorem spnC_len (l : List (Int × Int)) : (spnC l).length = l.length * 2 := by
  induction l with
  | nil => rfl
  | cons x l ih => rw [show spnC (x :: l) = .int .i64 x.1 :: .int .i64 x.2 :: spnC l by simp [spnC]]; simp; omega
end Go.Proofs.YtpmnnomeaaaenaaGreatDoor
namespace Go.Proofs.YtpmnnomeaaaenaaGreatDoor
open Go Go.RowKit Hs Dc

theorem below_next {B : Nat} {a b c : World} (h : Below B a b) (k : Below b.heap.size b c) (hB : B ≤ b.heap.size) : Below B a c := h.trans (k.mono hB)
def AllP (n : Nat) (w : World) (e : Ending) (w' : World) : Prop := ∃ v, e = .returned v ∧ IntsAt w' v (ixL n) ∧ Below w.heap.size w w'

set_option maxRecDepth 100000 in
set_option maxHeartbeats 2000000 in
theorem all_any (s : Sheet) (pv nv : Value) (w : World) (hN : NotesAt w.heap.size w nv s.notes) (hn : s.notes.length ≤ 12) :
    Calls Tryz.prog 68 #[.agg #[.int .i64 s.iv, pv, nv]] w (AllP s.notes.length w) := by
  obtain ⟨i0, hi⟩ := info_of_underlying Tryz.underlying3
  have HI : Hid (i0.zero = some (.int .i64 0) ∧ i0.size = 1 ∧ i0.bytes = 8) := by
    have h := intInfo
    rw [hi] at h
    simp at h
    exact h
  obtain ⟨iv, pts, notes⟩ := s
  obtain ⟨ln, na, nc, rfl, _⟩ := id hN
  simp only at hN hn ln ⊢
  have HA := Lib.hid (heap_alloc_new w (Obj.cells #[.int .i64 iv, pv, .slice na notes.length nc] 25))
  have B0 : Below w.heap.size w (w.alloc (Obj.cells #[.int .i64 iv, pv, .slice na notes.length nc] 25)) := by go_grown
  have HB0 := Lib.hid B0
  clear hN B0
  go_enter Tryz.func68, Tryz.ntmps68
  go_wp2_with fail
  generalize w.alloc (Obj.cells #[.int .i64 iv, pv, .slice na notes.length nc] 25) = W at *
  have hlt0 := lt_of_block HA.out
  have nI : (notes.length : Int) ≤ 12 := by omega
  go_loopw [3, 4] (fun v i wr => ∃ k : Nat, k ≤ notes.length ∧ i = .int .i64 k ∧ wr.ownsRow W.heap.size 3 1 v (ixL k).length ((ixL k).map (Value.int .i64)) ∧ Hid (Below W.heap.size W wr)) (fun _ i _ => notes.length - (intOf i).toNat)
  case atStart => exact ⟨0, Nat.zero_le _, rfl, World.ownsRow_nil _ _ _ _, Below.refl _ _⟩
  case round =>
    obtain ⟨k, hk, rfl, hown, HB⟩ := hrel
    have kI : (k : Int) ≤ 12 := by omega
    have a2 := cellOf ((HB.out.block w.heap.size hlt0).trans HA.out) 2 _ rfl
    by_cases hlt : k < notes.length
    · have kl : (k : Int) < (notes.length : Int) := by omega
      have HT : Hid (ixL (k + 1) = ixL k ++ [(k : Int)]) := ixL_succ k
      have hkl := ixL_len k
      have hs2 := HB.out.size
      have hownA := hown.alloc (Obj.cells #[.int .i64 k] 3)
      go_wp2_with (first
        | (at_builtin; refine wpList_append_own _ rfl _ _ 43 rfl W.heap.size 3 i0 (.int .i64 0) 1 8 Tryz.underlying43 hi HI.out.1 HI.out.2.1 HI.out.2.2 rfl (by decide) _ _ _ rfl hownA ⟨wr.heap.size, 0, none⟩ 1 1 [.int .i64 k] rfl rfl ?c1 ?c2 ?c3 ?c4 ?c5 ?_))
      case c1 =>
        intro j u hj
        match j, hj with
        | 0, hj => simp at hj; subst hj; simp [Addr.add]
      case c2 => intro u hu; simp at hu; subst hu; rfl
      case c3 => unfold maxLen; omega
      case c4 => omega
      case c5 => simp; omega
      intro v' w3 hown3 hgrow _
      have hB3 : Below W.heap.size W w3 := (HB.out.alloc hs2 (Obj.cells #[.int .i64 k] 3)).grown hgrow (by simp; omega) (fun g hg => (hownA.lt g hg).1)
      have HB3 := Lib.hid hB3
      have HO3 : Hid (w3.ownsRow W.heap.size 3 1 v' (ixL (k + 1)).length ((ixL (k + 1)).map (Value.int .i64))) := by show w3.ownsRow _ _ _ _ _ _; rw [HT.out]; simpa [ixL_len] using hown3
      clear hgrow hownA hB3 hown hown3 HT
      go_wp2
      go_round
      case rel => exact ⟨k + 1, by omega, by go_num, HO3.out, HB3⟩
      case measure => simp [intOf]; omega
    · obtain rfl : k = notes.length := by omega
      have HIN := Lib.hid (intsAt_own hown (by rw [ixL_len]; omega))
      clear hown hlt
      go_wp2
      go_ret
      exact ⟨_, rfl, HIN.out, HB0.out.trans (HB.out.mono HB0.out.size)⟩

theorem all_from {s : Sheet} {pv nv : Value} {w w' : World} (hS : SheetAt w.heap.size w pv nv s) (hn : s.notes.length ≤ 12) (hb : Below w.heap.size w w') :
    Calls Tryz.prog 68 #[.agg #[.int .i64 s.iv, pv, nv]] w' (AllP s.notes.length w') := all_any s pv nv w' ((hS.notes.below hb).mono hb.size) hn
def BndAll (s : Sheet) (w : World) (e : Ending) (w' : World) : Prop :=
  ∃ (g c : Nat) (r : Nat → Nat), e = .returned (.tuple #[.slice (some ⟨g, 0, none⟩) (s.pts.length + 1) c, .bool (fitB s.iv 0 s.notes)]) ∧ NarP w.heap.size w (s.pts.length + 1) g r (refM s.iv 0 s.pts.length s.notes) w'
theorem bounds_from {s : Sheet} {pv nv lv : Value} {w w8 w' : World} (hS : SheetAt w.heap.size w pv nv s) (hv : ValidS s) (hL : IntsAt w8 lv (ixL s.notes.length)) (hb : Below w.heap.size w w') (hb8 : Below w8.heap.size w8 w') :
    Calls Tryz.prog 67 #[.agg #[.int .i64 s.iv, pv, nv], lv, .int .i64 0] w' (BndAll s w') := by
  refine (bounds_any s pv nv lv (ixL s.notes.length) 0 w' ((hS.below hb).mono hb.size) hv (hL.below hb8) (ixL_in _) (by omega)).mono ?_
  rintro e w2 ⟨g, c, r, rfl, hN⟩
  rw [pick_all] at hN ⊢
  refine ⟨g, c, r, ?_, hN⟩
  rw [refB_iff hv.np8 (by omega) (by omega) (all_ok hv)]
  rfl

set_option maxRecDepth 100000 in
set_option maxHeartbeats 4000000 in
theorem rfits_any (s : Sheet) (pv nv : Value) (w : World) (hS : SheetAt w.heap.size w pv nv s) (hcap : CapOk pv) :
    Calls Tryz.prog 21 #[.agg #[.int .i64 s.iv, pv, nv]] w fun e w' => e = .returned (.tuple #[.bool (fitsS s), .int .i64 (errS s)]) ∧ Below w.heap.size w w' := by
  obtain ⟨iv, pts, notes⟩ := s
  obtain ⟨lp, pa, pc, rfl, _⟩ := id hS.pts
  obtain ⟨ln, na, nc, rfl, _⟩ := id hS.notes
  simp only at hS lp ln ⊢
  have HS := Lib.hid hS
  have B0 : Below w.heap.size w (w.alloc (Obj.cells #[.int .i64 iv, .slice pa pts.length pc, .slice na notes.length nc] 25)) := by go_grown
  have HC := Lib.hid (rcheck_any ⟨iv, pts, notes⟩ (.slice pa pts.length pc) (.slice na notes.length nc) (w.alloc (Obj.cells #[.int .i64 iv, .slice pa pts.length pc, .slice na notes.length nc] 25)) ((hS.below B0).mono B0.size) hcap)
  clear hS
  go_enter Tryz.func21, Tryz.ntmps21
  go_wp2_with fail
  refine HC.out.mono ?_
  rintro e w1 ⟨rfl, hb1⟩
  have HB1 := Lib.hid (below_next B0 hb1 B0.size)
  have HA1 := Lib.hid ((hb1.block w.heap.size (by simp)).trans (heap_alloc_new w (Obj.cells #[.int .i64 iv, .slice pa pts.length pc, .slice na notes.length nc] 25)))
  obtain ⟨p, q, r, hpq⟩ : ∃ p q r, Hid (checkS ⟨iv, pts, notes⟩ = (p, q, r)) := ⟨_, _, _, rfl⟩
  rw [hpq.out]
  have HE : Hid (errS ⟨iv, pts, notes⟩ = r) := by show _ = _; unfold errS; rw [hpq.out]
  clear hb1 B0 HC
  by_cases hr : r = 0
  · have tr : (r != 0) = false := by simp [hr]
    have hv := (check_valid ⟨iv, pts, notes⟩).1 (by rw [hpq.out]; exact hr)
    have HV := Lib.hid hv
    have HS1 := Lib.hid ((HS.out.below HB1.out).mono HB1.out.size)
    have HF : Hid (fitsS ⟨iv, pts, notes⟩ = fitB iv 0 notes ∧ r = 0) := ⟨fitsS_of hv, hr⟩
    have a0 := cellOf HA1.out 0 _ rfl
    have a1 := cellOf HA1.out 1 _ rfl
    have a2 := cellOf HA1.out 2 _ rfl
    have ht := lt_of_block HA1.out
    have hn12 : notes.length ≤ 12 := hv.nn
    clear hr hv HS
    go_wp2_with fail
    go_region_held3 (fun W' => W'.cell? ⟨w.heap.size, 0, none⟩ = some (.int .i64 iv) ∧ W'.cell? ⟨w.heap.size, 1, none⟩ = some (.slice pa pts.length pc) ∧ W'.cell? ⟨w.heap.size, 2, none⟩ = some (.slice na notes.length nc))
      (first | exact ⟨a0, a1, a2⟩ | exact ⟨c0, c1, c2⟩ | exact ⟨d0, d1, d2⟩)
      (first
        | (go_at_call 68; refine (all_from HS1.out hn12 (by go_grown)).mono ?_; rintro e w8 ⟨lv, rfl, hL8, hb8⟩; have hB8 := below_next (B := w1.heap.size) (a := w1) (by go_grown) hb8 (by simp); have c0 := (hB8.cell (p := ⟨w.heap.size, 0, none⟩) ht).trans a0; have c1 := (hB8.cell (p := ⟨w.heap.size, 1, none⟩) ht).trans a1; have c2 := (hB8.cell (p := ⟨w.heap.size, 2, none⟩) ht).trans a2)
        | (go_at_call 67; refine (bounds_from HS1.out HV.out hL8 (hB8.trans (by go_grown)) (by go_grown)).mono ?_; rintro e w9 ⟨g9, c9, r9, rfl, hN9⟩; have hB9 := below_next (B := w1.heap.size) (a := w1) (hB8.trans (by go_grown)) hN9.below (Nat.le_trans hB8.size (by simp)); have d0 := (hB9.cell (p := ⟨w.heap.size, 0, none⟩) ht).trans a0; have d1 := (hB9.cell (p := ⟨w.heap.size, 1, none⟩) ht).trans a1; have d2 := (hB9.cell (p := ⟨w.heap.size, 2, none⟩) ht).trans a2))
    all_goals
      have HB9 := Lib.hid (HB1.out.trans (hB9.mono HB1.out.size))
      clear hB8 hB9 hN9 hb8 hL8 a0 a1 a2 c0 c1 c2 d0 d1 d2
      go_wp2
      go_ret2
      exact ⟨by rw [HF.out.1, HE.out, HF.out.2]; rfl, HB9.out⟩
  · have tr : (r != 0) = true := by simp [hr]
    have HZ : Hid (fitsS ⟨iv, pts, notes⟩ = false) := by show _ = _; unfold fitsS; rw [HE.out, if_neg hr]
    clear hr
    go_wp2
    go_ret2
    exact ⟨by rw [HZ.out, HE.out]; rfl, HB1.out⟩

/-- What bound of the reference leaves. -/
def BoundP (s : Sheet) (w : World) (e : Ending) (w' : World) : Prop :=
  (measE s ≠ 0 ∧ e = .returned (.tuple #[.slice none 0 0, .int .i64 (measE s)]) ∧ Below w.heap.size w w') ∨
  (ValidS s ∧ fitB s.iv 0 s.notes = true ∧ ∃ (g c : Nat) (r : Nat → Nat), e = .returned (.tuple #[.slice (some ⟨g, 0, none⟩) (s.pts.length + 1) c, .int .i64 0]) ∧ NarP w.heap.size w (s.pts.length + 1) g r (refM s.iv 0 s.pts.length s.notes) w')

set_option maxRecDepth 100000 in
set_option maxHeartbeats 4000000 in
theorem bound_any (s : Sheet) (pv nv : Value) (w : World) (hS : SheetAt w.heap.size w pv nv s) (hcap : CapOk pv) :
    Calls Tryz.prog 71 #[.agg #[.int .i64 s.iv, pv, nv]] w (BoundP s w) := by
  obtain ⟨iv, pts, notes⟩ := s
  obtain ⟨lp, pa, pc, rfl, _⟩ := id hS.pts
  obtain ⟨ln, na, nc, rfl, _⟩ := id hS.notes
  simp only at hS lp ln ⊢
  have HS := Lib.hid hS
  have B0 : Below w.heap.size w (w.alloc (Obj.cells #[.int .i64 iv, .slice pa pts.length pc, .slice na notes.length nc] 25)) := by go_grown
  have HC := Lib.hid (rcheck_any ⟨iv, pts, notes⟩ (.slice pa pts.length pc) (.slice na notes.length nc) (w.alloc (Obj.cells #[.int .i64 iv, .slice pa pts.length pc, .slice na notes.length nc] 25)) ((hS.below B0).mono B0.size) hcap)
  clear hS
  go_enter Tryz.func71, Tryz.ntmps71
  go_wp2_with fail
  refine HC.out.mono ?_
  rintro e w1 ⟨rfl, hb1⟩
  have HB1 := Lib.hid (below_next B0 hb1 B0.size)
  have HA1 := Lib.hid ((hb1.block w.heap.size (by simp)).trans (heap_alloc_new w (Obj.cells #[.int .i64 iv, .slice pa pts.length pc, .slice na notes.length nc] 25)))
  obtain ⟨p, q, r, hpq⟩ : ∃ p q r, Hid (checkS ⟨iv, pts, notes⟩ = (p, q, r)) := ⟨_, _, _, rfl⟩
  rw [hpq.out]
  have HE : Hid (errS ⟨iv, pts, notes⟩ = r) := by show _ = _; unfold errS; rw [hpq.out]
  clear hb1 B0 HC
  by_cases hr : r = 0
  · have tr : (r != 0) = false := by simp [hr]
    have hv := (check_valid ⟨iv, pts, notes⟩).1 (by rw [hpq.out]; exact hr)
    have HV := Lib.hid hv
    have HS1 := Lib.hid ((HS.out.below HB1.out).mono HB1.out.size)
    have a0 := cellOf HA1.out 0 _ rfl
    have a1 := cellOf HA1.out 1 _ rfl
    have a2 := cellOf HA1.out 2 _ rfl
    have ht := lt_of_block HA1.out
    have hn12 : notes.length ≤ 12 := hv.nn
    clear hr hv HS
    go_wp2_with fail
    go_region_held3 (fun W' => W'.cell? ⟨w.heap.size, 0, none⟩ = some (.int .i64 iv) ∧ W'.cell? ⟨w.heap.size, 1, none⟩ = some (.slice pa pts.length pc) ∧ W'.cell? ⟨w.heap.size, 2, none⟩ = some (.slice na notes.length nc))
      (first | exact ⟨a0, a1, a2⟩ | exact ⟨c0, c1, c2⟩ | exact ⟨d0, d1, d2⟩)
      (first
        | (go_at_call 68; refine (all_from HS1.out hn12 (by go_grown)).mono ?_; rintro e w8 ⟨lv, rfl, hL8, hb8⟩; have hB8 := below_next (B := w1.heap.size) (a := w1) (by go_grown) hb8 (by simp); have c0 := (hB8.cell (p := ⟨w.heap.size, 0, none⟩) ht).trans a0; have c1 := (hB8.cell (p := ⟨w.heap.size, 1, none⟩) ht).trans a1; have c2 := (hB8.cell (p := ⟨w.heap.size, 2, none⟩) ht).trans a2)
        | (go_at_call 67; refine (bounds_from HS1.out HV.out hL8 (hB8.trans (by go_grown)) (by go_grown)).mono ?_; rintro e w9 ⟨g9, c9, r9, rfl, hN9⟩; have hB9 := below_next (B := w1.heap.size) (a := w1) (hB8.trans (by go_grown)) hN9.below (Nat.le_trans hB8.size (by simp)); have hM9 := hN9.mx.mono (B' := w.heap.size) (Nat.le_trans HB1.out.size (Nat.le_trans hB8.size (by simp))); have d0 := (hB9.cell (p := ⟨w.heap.size, 0, none⟩) ht).trans a0; have d1 := (hB9.cell (p := ⟨w.heap.size, 1, none⟩) ht).trans a1; have d2 := (hB9.cell (p := ⟨w.heap.size, 2, none⟩) ht).trans a2))
    all_goals
      have HB9 := Lib.hid (HB1.out.trans (hB9.mono HB1.out.size))
      have HM9 := Lib.hid hM9
      clear hB8 hB9 hN9 hM9 hb8 hL8 a0 a1 a2 c0 c1 c2 d0 d1 d2
      obtain ⟨f, hf⟩ : ∃ f, Hid (fitB iv 0 notes = f) := ⟨_, rfl⟩
      rw [hf.out]
      cases f
      · have HZ : Hid (measE ⟨iv, pts, notes⟩ = 9) := meas_no HV.out hf.out
        go_wp2
        go_ret2
        exact .inl ⟨by rw [HZ.out]; decide, by rw [HZ.out]; rfl, HB9.out⟩
      · go_wp2
        go_ret2
        exact .inr ⟨HV.out, hf.out, g9, c9, r9, rfl, HM9.out, HB9.out⟩
  · have tr : (r != 0) = true := by simp [hr]
    have HZ : Hid (measE ⟨iv, pts, notes⟩ = r) := by show _ = _; unfold measE; rw [HE.out, if_neg hr]
    have HR := Lib.hid hr
    clear hr
    go_wp2
    go_ret2
    exact .inl ⟨by rw [HZ.out]; exact HR.out, by rw [HZ.out]; rfl, HB1.out⟩
end Go.Proofs.YtpmnnomeaaaenaaGreatDoor
namespace Go.Proofs.YtpmnnomeaaaenaaGreatDoor
open Go Go.RowKit Hs

set_option maxRecDepth 100000 in
/-- Numbers are appended to a row of the call's own, at the step of a region that draws its order. -/
theorem run_ints (w : World) (ty : TypeId) (base : Nat) (v sv : Value) (xs l : List Int) (hown : w.ownsRow base 3 1 v xs.length (xs.map (Value.int .i64))) (hl : IntsAt w sv l) (hb : base ≤ w.heap.size)
    (hlen : xs.length + l.length ≤ 1000) :
    ∃ v' w', (Builtin.append_ #[43, 43] ty #[v, sv]).run Tryz.prog w = .ok v' w' ∧ w'.ownsRow base 3 1 v' (xs ++ l).length ((xs ++ l).map (Value.int .i64)) ∧ w.grownBy w' v.ownBlock := by
  obtain ⟨i0, hi⟩ := info_of_underlying Tryz.underlying3
  have HI : i0.zero = some (.int .i64 0) ∧ i0.size = 1 ∧ i0.bytes = 8 := by
    have h := intInfo
    rw [hi] at h
    simp at h
    exact h
  obtain ⟨_, A, c, rfl, hc⟩ := hl
  cases A with
  | none =>
    have hn : l = [] := by
      cases l with
      | nil => rfl
      | cons x l => obtain ⟨_, _, h, _⟩ := hc (by simp); cases h
    subst hn
    have hrun : (Builtin.append_ #[43, 43] ty #[v, .slice none 0 c]).run Tryz.prog w = .ok v w := by
      rcases hown.2 with ⟨rfl, h0⟩ | ⟨g, cap, cur, rfl, _, _, h1, _⟩
      · simp [Builtin.append_, run_underlying Tryz.underlying43, sizeOf, typeInfo, hi, Builtin.lenOf, Builtin.firstCells]
      · simp [Builtin.append_, run_underlying Tryz.underlying43, sizeOf, typeInfo, hi, Builtin.lenOf, Builtin.firstCells, h1, storeCells]
    exact ⟨v, w, hrun, by rw [List.append_nil]; exact hown, grown_refl w _⟩
  | some ad =>
    have hcells : ∀ j u, (l.map (Value.int .i64))[j]? = some u → w.cell? (ad.add j) = some u := by
      intro j u hu
      have hj : j < l.length := by have := (List.getElem?_eq_some_iff.1 hu).1; simpa using this
      obtain ⟨b, o, e, hk⟩ := hc (by rintro rfl; simp at hj)
      injection e with e
      subst e
      rw [Go.WideShapes.add_plain, hk j hj, ← hu]
      simp [List.getD_eq_getElem?_getD, hj]
    obtain ⟨v', w', h1, h2, h3, _, _⟩ := run_append_own_at (P := Tryz.prog) w base 43 ty 3 i0 _ 1 8 Tryz.underlying43 hi HI.1 HI.2.1 HI.2.2 rfl (by decide) v xs.length _ hown ad l.length c (l.map (Value.int .i64)) (by simp) hcells
      (by intro u hu; obtain ⟨x, _, rfl⟩ := List.mem_map.1 hu; rfl) (by unfold maxLen; omega) (by omega) hb
    exact ⟨v', w', h1, by rw [List.map_append, List.length_append]; exact h2, h3⟩
theorem own_slice_m {w : World} {base e size n : Nat} {v : Value} {xs : List Value} (h : w.ownsRow base e size v n xs) : ∃ m sa sc, m = n ∧ v = .slice sa m sc := by
  obtain ⟨sa, sc, rfl⟩ := own_slice h
  exact ⟨n, sa, sc, rfl, rfl⟩
end Go.Proofs.YtpmnnomeaaaenaaGreatDoor
namespace Go.Proofs.YtpmnnomeaaaenaaGreatDoor
open Go Go.RowKit Hs Dc

theorem own_tag {w : World} {base e size n : Nat} {v : Value} {xs : List Value} (h : w.ownsRow base e size v n xs) {g : Nat} (hg : v.ownBlock = some g) : ∃ cur, w.heap[g]? = some (.cells cur e (0, 0)) := by
  rcases h.2 with ⟨rfl, _⟩ | ⟨g', cap, cur, rfl, _, q, _⟩
  · simp [Value.ownBlock] at hg
  · simp [Value.ownBlock] at hg
    subst hg
    exact ⟨cur, q⟩
theorem own_apart2 {w : World} {b1 b2 s1 s2 n1 n2 : Nat} {v1 v2 : Value} {x1 x2 : List Value} (h1 : w.ownsRow b1 3 s1 v1 n1 x1) (h2 : w.ownsRow b2 43 s2 v2 n2 x2) : v1.ownBlock = none ∨ v1.ownBlock ≠ v2.ownBlock := by
  rcases e : v1.ownBlock with _ | g
  · exact .inl rfl
  · refine .inr fun e2 => ?_
    obtain ⟨c1, q1⟩ := own_tag h1 e
    obtain ⟨c2, q2⟩ := own_tag h2 e2.symm
    rw [q1] at q2
    injection q2 with q
    injection q with _ q
    exact absurd q (by decide)

/-- A row of lists of the call's own, each in a row of its own. -/
structure LsIn (B : Nat) (w : World) (v : Value) (cur : List Value) (L : List (List Int)) : Prop where
  outer : w.ownsRow B 43 1 v L.length cur
  inn : ∀ k (h : k < L.length), ∃ vk, cur[k]? = some vk ∧ w.ownsRow B 3 1 vk L[k].length (L[k].map (Value.int .i64))
theorem LsIn.up {B : Nat} {w w' : World} {v : Value} {cur : List Value} {L : List (List Int)} (h : LsIn B w v cur L) (hb : Below w.heap.size w w') : LsIn B w' v cur L :=
  ⟨own_below h.outer hb, fun k hk => by
    obtain ⟨vk, h1, h2⟩ := h.inn k hk
    exact ⟨vk, h1, own_below h2 hb⟩⟩
theorem LsIn.base {B B' : Nat} {w : World} {v : Value} {cur : List Value} {L : List (List Int)} (h : LsIn B w v cur L) (hB : B' ≤ B) : LsIn B' w v cur L :=
  ⟨own_base h.outer hB, fun k hk => by
    obtain ⟨vk, h1, h2⟩ := h.inn k hk
    exact ⟨vk, h1, own_base h2 hB⟩⟩
theorem LsIn.nil (B : Nat) (w : World) : LsIn B w (.slice none 0 0) [] [] := ⟨World.ownsRow_nil _ _ _ _, fun k hk => by simp at hk⟩
theorem LsIn.one (w : World) (B : Nat) (hB : B ≤ w.heap.size) : LsIn B (w.alloc (.cells #[.slice none 0 0] 43)) (.slice (some ⟨w.heap.size, 0, none⟩) 1 1) [.slice none 0 0] [[]] := by
  refine ⟨⟨rfl, .inr ⟨w.heap.size, 1, _, rfl, hB, heap_alloc_new w _, Nat.le_refl _, by decide, rfl, rfl⟩⟩, fun k hk => ?_⟩
  obtain rfl : k = 0 := by simpa using hk
  exact ⟨_, rfl, World.ownsRow_nil _ _ _ _⟩
theorem LsIn.next {B : Nat} {w w3 w4 : World} {v u v' : Value} {cur : List Value} {L : List (List Int)} {l : List Int} (h : LsIn B w v cur L) (hw : B ≤ w.heap.size) (hb3 : Below w.heap.size w w3)
    (hu : w3.ownsRow w.heap.size 3 1 u l.length (l.map (Value.int .i64))) (hg : w3.grownBy w4 v.ownBlock) (ho : w4.ownsRow B 43 1 v' (L.length + 1) (cur ++ [u])) :
    LsIn B w4 v' (cur ++ [u]) (L ++ [l]) := by
  have h3 := h.up hb3
  have hcl : cur.length = L.length := by have := h.outer.1; omega
  refine ⟨by rw [List.length_append]; exact ho, fun k hk => ?_⟩
  by_cases e : k < L.length
  · obtain ⟨vk, q1, q2⟩ := h3.inn k e
    rw [List.getElem_append_left e]
    exact ⟨vk, by rw [List.getElem?_append_left (by omega)]; exact q1, q2.kept hg (own_apart2 q2 h3.outer)⟩
  · obtain rfl : k = L.length := by simp at hk; omega
    have e2 : (L ++ [l])[L.length] = l := by simp
    rw [e2]
    exact ⟨u, by rw [List.getElem?_append_right (by omega), hcl]; simp, own_base (hu.kept hg (own_apart2 hu h3.outer)) hw⟩
theorem LsIn.cell {B : Nat} {w : World} {v : Value} {cur : List Value} {L : List (List Int)} (h : LsIn B w v cur L) {k : Nat} (hk : k < L.length) :
    ∃ (g c m : Nat) (sa : Option Addr) (sc : Nat), v = .slice (some ⟨g, 0, none⟩) L.length c ∧ m = L[k].length ∧ w.cell? ⟨g, k, none⟩ = some (.slice sa m sc) ∧ w.ownsRow B 3 1 (.slice sa m sc) L[k].length (L[k].map (Value.int .i64)) := by
  have h' := h.outer
  obtain ⟨vk, h1, h2⟩ := h.inn k hk
  rcases h'.2 with ⟨_, e⟩ | ⟨g, cap, cu, rfl, _⟩
  · omega
  · obtain ⟨sa, sc, rfl⟩ := own_slice h2
    exact ⟨g, cap, _, sa, sc, rfl, rfl, (h'.cellAt k (by omega)).trans h1, h2⟩
theorem LsIn.shape {B : Nat} {w : World} {v : Value} {cur : List Value} {L : List (List Int)} (h : LsIn B w v cur L) : ∃ (sa : Option Addr) (sc : Nat), v = .slice sa L.length sc := own_slice h.outer

/-- The blocks from B on that were there are as they were. -/
structure KeepIn (B : Nat) (w w' : World) : Prop where
  size : w.heap.size ≤ w'.heap.size
  same : ∀ g, B ≤ g → g < w.heap.size → w'.heap[g]? = w.heap[g]?
theorem KeepIn.refl (B : Nat) (w : World) : KeepIn B w w := ⟨Nat.le_refl _, fun _ _ _ => rfl⟩
theorem own_keep {w w' : World} {B e size n : Nat} {v : Value} {xs : List Value} (h : w.ownsRow B e size v n xs) (hk : KeepIn B w w') : w'.ownsRow B e size v n xs := by
  refine ⟨h.1, ?_⟩
  rcases h.2 with h | ⟨g, cap, cur, r1, r2, r3, r4⟩
  · exact .inl h
  · exact .inr ⟨g, cap, cur, r1, r2, (hk.same g r2 (lt_of_block r3)).trans r3, r4⟩
theorem LsIn.keep {B : Nat} {w w' : World} {v : Value} {cur : List Value} {L : List (List Int)} (h : LsIn B w v cur L) (hk : KeepIn B w w') : LsIn B w' v cur L :=
  ⟨own_keep h.outer hk, fun k hl => by
    obtain ⟨vk, h1, h2⟩ := h.inn k hl
    exact ⟨vk, h1, own_keep h2 hk⟩⟩
/-- What stands while the lists of one call are put behind what is there. -/
structure LoopL (B : Nat) (w0 : World) (B1 : Nat) (w2 : World) (v : Value) (cur : List Value) (L : List (List Int)) (W : World) : Prop where
  ls : LsIn B W v cur L
  below : Below B w0 W
  keep : KeepIn B1 w2 W
  away : ∀ g, v.ownBlock = some g → g < B1 ∨ w2.heap.size ≤ g
theorem LoopL.next {B B1 : Nat} {w0 w2 W w3 w4 : World} {v u v' : Value} {cur : List Value} {L : List (List Int)} {l : List Int} (h : LoopL B w0 B1 w2 v cur L W) (hw : B ≤ W.heap.size) (hb3 : Below W.heap.size W w3)
    (hu : w3.ownsRow W.heap.size 3 1 u l.length (l.map (Value.int .i64))) (hg : w3.grownBy w4 v.ownBlock) (ho : w4.ownsRow B 43 1 v' (L.length + 1) (cur ++ [u])) (hat : v'.ownBlock = v.ownBlock ∨ v'.ownBlock = some w3.heap.size) :
    LoopL B w0 B1 w2 v' (cur ++ [u]) (L ++ [l]) w4 := by
  have hs3 := hb3.size
  have hk := h.keep.size
  refine ⟨h.ls.next hw hb3 hu hg ho, (h.below.trans (hb3.mono hw)).grown hg (by omega) (fun g e => (h.ls.outer.lt g e).1), ⟨Nat.le_trans hk (Nat.le_trans hs3 hg.size), fun g h1 h2 => ?_⟩, fun g e => ?_⟩
  · refine (hg.block g (by omega) (fun e => ?_)).trans ((hb3.block g (by omega)).trans (h.keep.same g h1 h2))
    rcases h.away g e.symm with q | q <;> omega
  · rcases hat with q | q
    · exact h.away g (q.symm.trans e)
    · rw [q] at e
      injection e with e
      omega
theorem own_lit1 (W : World) (x : Int) : (W.alloc (.cells #[.int .i64 x] 3)).ownsRow W.heap.size 3 1 (.slice (some ⟨W.heap.size, 0, none⟩) 1 1) [x].length ([x].map (Value.int .i64)) :=
  ⟨rfl, .inr ⟨W.heap.size, 1, _, rfl, Nat.le_refl _, heap_alloc_new _ _, Nat.le_refl _, by decide, rfl, rfl⟩⟩
/-- Numbers are appended to a row of the call's own, at an operation. -/
theorem wpl_ints {ops : Array Oper} {rest : List Oper} {o : Oper} {a : Act} {Q : Exit → Act → World → Prop} {w : World} (hgd : o.guard = none) (s x : Operand)
    (ho : o.op = .call { callee := .builtin .append, args := #[s, x], argTypes := #[43, 43] })
    (base : Nat) (v sv : Value) (xs l : List Int) (hs : a.eval s = v) (hx : a.eval x = sv) (hown : w.ownsRow base 3 1 v xs.length (xs.map (Value.int .i64))) (hl : IntsAt w sv l) (hb : base ≤ w.heap.size)
    (hlen : xs.length + l.length ≤ 1000)
    (h : ∀ v' w', w'.ownsRow base 3 1 v' (xs ++ l).length ((xs ++ l).map (Value.int .i64)) → w.grownBy w' v.ownBlock → wpList Tryz.prog ops Q rest (a.put o.dst v') w') : wpList Tryz.prog ops Q (o :: rest) a w := by
  refine wpList_plain hgd fun K hK => ?_
  obtain ⟨v', w', hr, h2, h3⟩ := run_ints w o.type base v sv xs l hown hl hb hlen
  unfold Oper.wp execOp
  simp only [ho, resolve, invoke, builtin, Sem.run_bind, Sem.run_pure, Result.andThen_ok, List.map_toArray, List.map_cons, List.map_nil, hs, hx, hr]
  exact hK _ _ (h v' w' h2 h3)

/-- The lists that begin with one of the first j numbers. -/
def lstP (n m f j : Nat) : List (List Int) := (List.range j).flatMap fun d => (lstK n m (f + d + 1)).map fun r => ((f + d : Nat) : Int) :: r
theorem lstP_zero (n m f : Nat) : lstP n m f 0 = [] := rfl
theorem lstP_succ (n m f j : Nat) : lstP n m f (j + 1) = lstP n m f j ++ (lstK n m (f + j + 1)).map fun r => ((f + j : Nat) : Int) :: r := by
  unfold lstP
  rw [List.range_succ, List.flatMap_append]
  simp
theorem lstK_len (n : Nat) : ∀ m f, f ≤ n → (lstK n m f).length ≤ 2 ^ (n - f) := by
  intro m
  induction m with
  | zero => intro f _; exact Nat.one_le_two_pow
  | succ m ih =>
    intro f hf
    have key : ∀ j, j ≤ n - f → (lstP n m f j).length + 2 ^ (n - f - j) ≤ 2 ^ (n - f) := by
      intro j
      induction j with
      | zero => intro _; simp [lstP]
      | succ j ihj =>
        intro hj
        have h1 := ihj (by omega)
        have h2 := ih (f + j + 1) (by omega)
        rw [lstP_succ, List.length_append, List.length_map]
        have e : n - f - j = (n - (f + j + 1)) + 1 := by omega
        rw [e, Nat.pow_succ] at h1
        rw [show n - f - (j + 1) = n - (f + j + 1) by omega]
        omega
    have := key (n - f) (Nat.le_refl _)
    rw [show lstK n (m + 1) f = lstP n m f (n - f) from rfl]
    exact Nat.le_trans (Nat.le_add_right _ _) this
theorem lstK_len12 {n m f : Nat} (hn : n ≤ 12) : (lstK n m f).length ≤ 4096 := by
  rcases Nat.lt_or_ge n f with h | h
  · cases m with
    | zero => simp [lstK]
    | succ m => rw [show lstK n (m + 1) f = lstP n m f (n - f) from rfl, show n - f = 0 by omega]; simp [lstP]
  · have := lstK_len n m f h
    have h2 : 2 ^ (n - f) ≤ 2 ^ 12 := Nat.pow_le_pow_right (by decide) (by omega)
    omega
theorem lstP_len12 {n m f : Nat} (hn : n ≤ 12) : ∀ j, j ≤ 12 → (lstP n m f j).length ≤ j * 4096 := by
  intro j
  induction j with
  | zero => intro _; simp [lstP]
  | succ j ih =>
    intro hj
    have h1 := ih (by omega)
    have h2 := lstK_len12 (n := n) (m := m) (f := f + j + 1) hn
    rw [lstP_succ, List.length_append, List.length_map]
    omega
theorem lstK_in {n m f : Nat} {l : List Int} (h : l ∈ lstK n m f) : l.length = m := ((lstK_mem n m f l).1 h).1

set_option maxRecDepth 100000 in
set_option maxHeartbeats 4000000 in
theorem lists_any (n : Nat) (hn : n ≤ 12) : ∀ (m f : Nat) (F M : Int) (w : World), F = (f : Int) → M = (m : Int) → f ≤ 13 → m ≤ 12 →
    Calls Tryz.prog 103 #[.int .i64 F, .int .i64 n, .int .i64 M] w fun e w' => ∃ v cur, e = .returned v ∧ LsIn w.heap.size w' v cur (lstK n m f) ∧ Below w.heap.size w w' := by
  obtain ⟨i0, hi⟩ := info_of_underlying Tryz.underlying3
  have HI : Hid (i0.zero = some (.int .i64 0) ∧ i0.size = 1 ∧ i0.bytes = 8) := by
    have h := intInfo
    rw [hi] at h
    simp at h
    exact h
  obtain ⟨j0, hj⟩ := info_of_underlying Tryz.underlying43
  have HJ : Hid (j0.zero = some (.slice none 0 0) ∧ j0.size = 1 ∧ j0.bytes = 24) := by
    have h := rowInfo
    rw [hj] at h
    simp at h
    exact h
  intro m
  induction m with
  | zero =>
    intro f F M w hF hM hf _
    have tz : (M == 0) = true := by simp [hM]
    have HL := Lib.hid (LsIn.one w w.heap.size (Nat.le_refl _))
    clear hF hM hf
    go_enter Tryz.func103, Tryz.ntmps103
    go_wp2
    go_ret
    exact ⟨_, _, rfl, HL.out, (Below.refl _ _).alloc (Nat.le_refl _) _⟩
  | succ m ih =>
    intro f F M w hF hM hf hm
    have tz : (M == 0) = false := by rw [beq_eq_false_iff_ne]; omega
    have HIH : Hid (∀ (f : Nat) (F M : Int) (w : World), F = (f : Int) → M = (m : Int) → f ≤ 13 →
        Calls Tryz.prog 103 #[.int .i64 F, .int .i64 n, .int .i64 M] w fun e w' => ∃ v cur, e = .returned v ∧ LsIn w.heap.size w' v cur (lstK n m f) ∧ Below w.heap.size w w') := fun f F M w h1 h2 h3 => ih f F M w h1 h2 h3 (by omega)
    have HM := Lib.hid hM
    have nI : (n : Int) ≤ 12 := by omega
    have fI : (f : Int) ≤ 13 := by omega
    have mI : M ≤ 12 := by omega
    have mI2 : 1 ≤ M := by omega
    subst hF
    clear ih hM
    go_enter Tryz.func103, Tryz.ntmps103
    go_wp2_with fail
    go_loopw [7, 8] (fun v i wr => ∃ (d : Nat) (I : Int) (cur : List Value), d ≤ n - f ∧ Hid (I = ((f + d : Nat) : Int)) ∧ i = .int .i64 I ∧ Hid (LsIn w.heap.size wr v cur (lstP n m f d) ∧ Below w.heap.size w wr)) (fun _ i _ => 30 - (intOf i).toNat)
    case atStart => exact ⟨0, f, [], Nat.zero_le _, by show _ = _; simp, rfl, LsIn.nil _ _, Below.refl _ _⟩
    case round =>
      obtain ⟨d, I, cur, hd, HII, rfl, HL⟩ := hrel
      have hI := HII.out
      have hI13 : 0 ≤ I ∧ I ≤ 25 := by omega
      by_cases hlt : I < (n : Int)
      · have hc := HIH.out (f + d + 1) (I + 1) (M - 1) wr (by omega) (by have := HM.out; omega) (by omega)
        have HC := Lib.hid hc
        have hd2 : d < n - f := by omega
        have I0 := hI13.1
        have I25 := hI13.2
        clear hc hI
        go_wp2_with fail
        refine HC.out.mono ?_
        rintro e w2 ⟨v2, cur2, rfl, hL2, hb2⟩
        have hs1 := HL.out.2.size
        obtain ⟨B1, HB1⟩ : ∃ B1, Hid (B1 = wr.heap.size) := ⟨_, rfl⟩
        have HB1w : Hid (w.heap.size ≤ B1) := by show _ ≤ _; rw [HB1.out]; exact hs1
        have HR2 : Hid (LsIn B1 w2 v2 cur2 (lstK n m (f + d + 1))) := by rw [HB1.out]; exact hL2
        obtain ⟨ra, rc, rfl⟩ := hL2.shape
        obtain ⟨R, HRR⟩ : ∃ R, Hid (lstK n m (f + d + 1) = R) := ⟨_, rfl⟩
        have HRl : Hid (R.length ≤ 4096 ∧ (lstP n m f d).length ≤ 49152) := ⟨by rw [← HRR.out]; exact lstK_len12 hn, Nat.le_trans (lstP_len12 hn d (by omega)) (by omega)⟩
        have HRm : Hid (∀ l, l ∈ R → l.length = m) := fun l hl => lstK_in (by rw [HRR.out]; exact hl)
        have HPS := Lib.hid (lstP_succ n m f d)
        have HLP : Hid (∃ v, LoopL w.heap.size w B1 w2 v cur (lstP n m f d) w2 ∧ v = v) := ⟨_, ⟨HL.out.1.up hb2, below_next HL.out.2 hb2 hs1, KeepIn.refl _ _, fun g hg => .inl (by rw [HB1.out]; exact (HL.out.1.outer.lt g hg).2)⟩, rfl⟩
        have HLP0 := Lib.hid (LoopL.mk (B1 := B1) (HL.out.1.up hb2) (below_next HL.out.2 hb2 hs1) (KeepIn.refl B1 w2) (fun g hg => .inl (by rw [HB1.out]; exact (HL.out.1.outer.lt g hg).2)))
        rw [HRR.out] at HR2 HPS ⊢
        clear hL2 hb2 HL HC hs1 HB1 HLP
        generalize lstP n m f d = P at *
        obtain ⟨rn, hrn⟩ : ∃ rn, Hid (R.length = rn) := ⟨_, rfl⟩
        rw [hrn.out]
        have rnI : (rn : Int) ≤ 4096 := by have := HRl.out.1; have := hrn.out; omega
        go_wp2_with fail
        go_loopw [7, 10] (fun v i wr2 => ∃ (k : Nat) (cur : List Value), k ≤ rn ∧ i = .int .i64 k ∧ Hid (LoopL w.heap.size w B1 w2 v cur (P ++ (R.take k).map fun r => I :: r) wr2)) (fun _ i _ => rn - (intOf i).toNat)
        case atStart => exact ⟨0, cur, Nat.zero_le _, rfl, by show LoopL _ _ _ _ _ _ _ _; simpa using HLP0.out⟩
        case round =>
          obtain ⟨k, cur3, hk, rfl, HLL⟩ := hrel
          by_cases hkl : k < rn
          · have kl : (k : Int) < (rn : Int) := by omega
            have hkR : k < R.length := by rw [hrn.out]; exact hkl
            have HRW := HR2.out.keep HLL.out.keep
            obtain ⟨g, c, m', sa, sc, hv, hm', hcell, hrow⟩ := HRW.cell hkR
            simp only [Value.slice.injEq] at hv
            obtain ⟨rfl, _, rfl⟩ := hv
            have hlm := HRm.out R[k] (List.getElem_mem hkR)
            have HTK : Hid (P ++ (R.take (k + 1)).map (fun r => I :: r) = (P ++ (R.take k).map fun r => I :: r) ++ [I :: R[k]]) := by show _ = _; rw [List.take_succ_eq_append_getElem hkR, List.map_append, List.append_assoc]; rfl
            have hLn : (P ++ (R.take k).map fun r => I :: r).length ≤ 60000 := by
              have h1 := HRl.out.1
              have h2 := HRl.out.2
              simp only [List.length_append, List.length_map, List.length_take]
              omega
            have hB0 : Below wr.heap.size wr (wr.alloc (Obj.cells #[.int .i64 I] 3)) := (Below.refl _ _).alloc (Nat.le_refl _) _
            have HIN := Lib.hid ((intsAt_own hrow (by omega)).below hB0)
            have HL1 := own_lit1 wr I
            have hcl := HLL.out.ls.outer
            have hww := HLL.out.below.size
            generalize (P ++ (R.take k).map fun r => I :: r) = L at *
            generalize R[k] = l at *
            have hlt0 := World.block_lt_of_cell? wr _ hcell
            clear hrow HRW HLP0
            have ml : l.length ≤ 12 := by omega
            clear hm'
            go_wp2_with (first
              | (at_builtin; refine wpl_ints rfl _ _ rfl wr.heap.size _ _ [I] l rfl rfl HL1 HIN.out (by simp) (by simp; omega) ?_))
            intro u w3 hu hgrow
            have hB3 : Below wr.heap.size wr w3 := hB0.grown hgrow (by simp) (fun g hg => by simp [Value.ownBlock] at hg; omega)
            have hs3 := hB3.size
            obtain ⟨um, ua, uc, hum, rfl⟩ := own_slice_m hu
            have HB3 := Lib.hid (hB3.alloc hs3 (Obj.cells #[.slice ua um uc] 43))
            have HU := Lib.hid (hu.alloc (Obj.cells #[.slice ua um uc] 43))
            have hvo := (own_below hcl hB3).alloc (Obj.cells #[.slice ua um uc] 43)
            clear hgrow hB3 hu hcl HL1 HIN hcell hB0 hum
            go_wp2_with (first
              | (at_builtin; refine wpList_append_own_at _ rfl _ _ 93 rfl w.heap.size 43 j0 (.slice none 0 0) 1 24 Tryz.underlying93 hj HJ.out.1 HJ.out.2.1 HJ.out.2.2 rfl (by decide) _ _ _ rfl hvo ⟨w3.heap.size, 0, none⟩ 1 1 [.slice ua um uc] rfl rfl ?d1 ?d2 ?d3 ?d4 ?d5 ?_))
            case d1 =>
              intro j u hj
              match j, hj with
              | 0, hj => simp at hj; subst hj; simp [Addr.add]
            case d2 => intro u hu; simp at hu; subst hu; rfl
            case d3 => unfold maxLen; omega
            case d4 => omega
            case d5 => simp; omega
            intro v' w4 ho4 hgrow4 _ hat4
            have HNX := Lib.hid (HLL.out.next (l := I :: l) hww HB3.out (by simpa [hlm] using HU.out) hgrow4 ho4 (by simpa using hat4))
            rw [← HTK.out] at HNX
            clear hgrow4 ho4 hat4 hvo HU HB3 HTK HLL
            go_wp2
            go_round
            case rel => exact ⟨k + 1, _, by omega, by go_num, HNX⟩
            case measure => simp [intOf]; omega
          · have e : k = rn := by omega
            have HNX : Hid (∃ cur, LsIn w.heap.size wr _ cur (lstP n m f (d + 1)) ∧ Below w.heap.size w wr) := ⟨cur3, by
              have h := HLL.out.ls
              rw [e, ← hrn.out, List.take_length] at h
              rw [HPS.out, ← HII.out]
              exact h, HLL.out.below⟩
            obtain ⟨cur4, HN4, HN5⟩ := HNX.out
            have HN6 := Lib.hid (And.intro HN4 HN5)
            have HII2 : Hid (I + 1 = ((f + (d + 1) : Nat) : Int)) := by show _ = _; have := HII.out; omega
            have hms : I + 1 ≤ 26 := by omega
            clear HNX HN4 HN5 HLL hk e
            go_wp2
            go_roundw
            case rel => exact ⟨d + 1, I + 1, cur4, by omega, HII2, rfl, HN6⟩
            case measure => simp [intOf]; omega
      · have HE : Hid (d = n - f) := by show _ = _; omega
        clear hI
        have hfn := HL.out
        rw [HE.out] at hfn
        have HFN := Lib.hid hfn
        clear hfn
        have hnI : ¬ (I < (n : Int)) := hlt
        clear HL
        go_wp2
        go_ret
        exact ⟨_, rfl, ⟨cur, HFN.out.1⟩, HFN.out.2⟩
end Go.Proofs.YtpmnnomeaaaenaaGreatDoor
namespace Go.Proofs.YtpmnnomeaaaenaaGreatDoor
open Go Go.RowKit Hs Dc

/-- The numbers below k that are not in a list. -/
def woL (l : List Int) (k : Nat) : List Int := ((List.range k).filter fun i : Nat => !decide ((i : Int) ∈ l)).map Int.ofNat
theorem woL_succ (l : List Int) (k : Nat) : woL l (k + 1) = if decide ((k : Int) ∈ l) = true then woL l k else woL l k ++ [(k : Int)] := by
  unfold woL
  rw [List.range_succ, List.filter_append, List.map_append]
  by_cases h : (k : Int) ∈ l <;> simp [h]
theorem woL_le (l : List Int) (k : Nat) : (woL l k).length ≤ k := by
  unfold woL
  rw [List.length_map]
  exact Nat.le_trans (List.length_filter_le _ _) (by simp)
theorem woL_mem (l : List Int) (k : Nat) (z : Int) : z ∈ woL l k ↔ ∃ i : Nat, i < k ∧ (i : Int) ∉ l ∧ z = i := by
  unfold woL
  simp only [List.mem_map, List.mem_filter, List.mem_range]
  constructor
  · rintro ⟨i, ⟨h1, h2⟩, rfl⟩
    exact ⟨i, h1, by simpa using h2, rfl⟩
  · rintro ⟨i, h1, h2, rfl⟩
    exact ⟨i, ⟨h1, by simpa using h2⟩, rfl⟩
theorem woL_in (l : List Int) (k : Nat) : ∀ z, z ∈ woL l k → 0 ≤ z ∧ z < (k : Int) := by
  intro z hz
  obtain ⟨i, h, _, rfl⟩ := (woL_mem l k z).1 hz
  omega
theorem pick_mem {l : List Note} {L : List Int} (hL : ∀ z, z ∈ L → 0 ≤ z ∧ z < (l.length : Int)) (x : Note) : x ∈ pickL l L ↔ ∃ z, z ∈ L ∧ l[z.toNat]? = some x := by
  unfold pickL
  rw [List.mem_map]
  constructor
  · rintro ⟨z, hz, rfl⟩
    have := hL z hz
    exact ⟨z, hz, by rw [List.getElem?_eq_getElem (by omega), List.getD_eq_getElem?_getD, List.getElem?_eq_getElem (by omega)]; rfl⟩
  · rintro ⟨z, hz, e⟩
    exact ⟨z, hz, by rw [List.getD_eq_getElem?_getD, e]; rfl⟩
theorem fit_pick (iv : Int) {l : List Note} {list : List Int} (h : Asc l.length list) : fitB iv 0 (pickL l list) = fitB iv 0 (havK l list true l.length) := by
  have key : ∀ x, x ∈ pickL l list ↔ x ∈ havK l list true l.length := fun x => by
    rw [pick_mem h.2, Fct.havK_iff]
    constructor
    · rintro ⟨z, hz, e⟩
      have := h.2 z hz
      exact ⟨z.toNat, by omega, by rw [show ((z.toNat : Nat) : Int) = z by omega]; exact decide_eq_true hz, e⟩
    · rintro ⟨j, _, hj, e⟩
      exact ⟨j, of_decide_eq_true hj, by simpa using e⟩
  rw [Bool.eq_iff_iff]
  exact ⟨fitB_sub fun x hx => (key x).2 hx, fitB_sub fun x hx => (key x).1 hx⟩
theorem fit_wo (iv : Int) (l : List Note) (list : List Int) : fitB iv 0 (pickL l (woL list l.length)) = fitB iv 0 (havK l list false l.length) := by
  have key : ∀ x, x ∈ pickL l (woL list l.length) ↔ x ∈ havK l list false l.length := fun x => by
    rw [pick_mem (woL_in _ _), Fct.havK_iff]
    constructor
    · rintro ⟨z, hz, e⟩
      obtain ⟨i, h1, h2, rfl⟩ := (woL_mem _ _ _).1 hz
      exact ⟨i, h1, decide_eq_false h2, by simpa using e⟩
    · rintro ⟨j, hj, hn, e⟩
      exact ⟨j, (woL_mem _ _ _).2 ⟨j, hj, of_decide_eq_false hn, rfl⟩, by simpa using e⟩
  rw [Bool.eq_iff_iff]
  exact ⟨fitB_sub fun x hx => (key x).2 hx, fitB_sub fun x hx => (key x).1 hx⟩
theorem asc_length {n : Nat} {l : List Int} (h : Asc n l) : l.length ≤ n := by
  have hm : l ∈ lstK n l.length 0 := (lstK_mem n _ 0 _).2 ⟨rfl, h, fun x hx => (h.2 x hx).1⟩
  have key : ∀ m f, (lstK n m f) ≠ [] → m ≤ n - f ∨ m = 0 := by
    intro m
    induction m with
    | zero => intro f _; exact .inr rfl
    | succ m ih =>
      intro f hf
      obtain ⟨x, hx⟩ := List.exists_mem_of_ne_nil _ hf
      rw [lstK] at hx
      obtain ⟨d, hd, hx⟩ := List.mem_flatMap.1 hx
      obtain ⟨r, hr, _⟩ := List.mem_map.1 hx
      have hd := List.mem_range.1 hd
      rcases ih (f + d + 1) (List.ne_nil_of_mem hr) with q | q <;> omega
  rcases key _ 0 (List.ne_nil_of_mem hm) with q | q <;> omega
theorem fewS_none (g : List Int → Bool) (n : Nat) (h : ∀ t, Asc n t → g t = false) : fewS n g = [] := by
  unfold fewS
  rw [if_neg (by rw [h [] (Asc.nil n)]; decide)]
  obtain ⟨a, _⟩ := extK_spec g n n [] [] (Nat.le_refl _) (.inl rfl) (Asc.nil n) (fun x hx => by cases hx)
  rcases a with e | ⟨e1, e2⟩
  · exact e
  · rw [h _ e2] at e1; cases e1

set_option maxRecDepth 100000 in
set_option maxHeartbeats 2000000 in
theorem without_any (n : Nat) (v : Value) (l : List Int) (w : World) (hv : IntsAt w v l) (hn : n ≤ 12) :
    Calls Tryz.prog 104 #[.int .i64 n, v] w fun e w' => ∃ v', e = .returned v' ∧ IntsAt w' v' (woL l n) ∧ Below w.heap.size w w' := by
  obtain ⟨i0, hi⟩ := info_of_underlying Tryz.underlying3
  have HI : Hid (i0.zero = some (.int .i64 0) ∧ i0.size = 1 ∧ i0.bytes = 8) := by
    have h := intInfo
    rw [hi] at h
    simp at h
    exact h
  obtain ⟨_, la, lc, rfl, _⟩ := id hv
  have HV := Lib.hid hv
  have nI : (n : Int) ≤ 12 := by omega
  clear hv
  go_enter Tryz.func104, Tryz.ntmps104
  go_wp2
  go_loopw [5, 6] (fun v i wr => ∃ k : Nat, k ≤ n ∧ i = .int .i64 k ∧ wr.ownsRow w.heap.size 3 1 v (woL l k).length ((woL l k).map (Value.int .i64)) ∧ Hid (Below w.heap.size w wr)) (fun _ i _ => n - (intOf i).toNat)
  case atStart => exact ⟨0, Nat.zero_le _, rfl, World.ownsRow_nil _ _ _ _, Below.refl _ _⟩
  case round =>
    obtain ⟨k, hk, rfl, hown, HB⟩ := hrel
    by_cases hlt : k < n
    · have kl : (k : Int) < (n : Int) := by omega
      have HH := Lib.hid (has_any (k : Int) _ l wr (HV.out.below HB.out))
      have HT := Lib.hid (woL_succ l k)
      have hkl := woL_le l k
      have hs2 := HB.out.size
      generalize decide ((k : Int) ∈ l) = d at *
      go_wp2_with fail
      refine HH.out.mono ?_
      rintro e w' ⟨rfl, rfl⟩
      clear HH
      cases d
      · rw [if_neg (by decide)] at HT
        have hownA := hown.alloc (Obj.cells #[.int .i64 k] 3)
        go_wp2_with (first
          | (at_builtin; refine wpList_append_own _ rfl _ _ 43 rfl w.heap.size 3 i0 (.int .i64 0) 1 8 Tryz.underlying43 hi HI.out.1 HI.out.2.1 HI.out.2.2 rfl (by decide) _ _ _ rfl hownA ⟨wr.heap.size, 0, none⟩ 1 1 [.int .i64 k] rfl rfl ?c1 ?c2 ?c3 ?c4 ?c5 ?_))
        case c1 =>
          intro j u hj
          match j, hj with
          | 0, hj => simp at hj; subst hj; simp [Addr.add]
        case c2 => intro u hu; simp at hu; subst hu; rfl
        case c3 => unfold maxLen; omega
        case c4 => omega
        case c5 => simp; omega
        intro v' w3 hown3 hgrow _
        have HB3 : Hid (Below w.heap.size w w3) := (HB.out.alloc hs2 (Obj.cells #[.int .i64 k] 3)).grown hgrow (by simp; omega) (fun g hg => (hownA.lt g hg).1)
        have HO3 : Hid (w3.ownsRow w.heap.size 3 1 v' (woL l (k + 1)).length ((woL l (k + 1)).map (Value.int .i64))) := by show w3.ownsRow _ _ _ _ _ _; rw [HT.out]; simpa using hown3
        clear hgrow hownA hown hown3 HT
        go_wp2
        go_round
        case rel => exact ⟨k + 1, by omega, by go_num, HO3.out, HB3⟩
        case measure => simp [intOf]; omega
      · rw [if_pos rfl] at HT
        go_wp2
        go_round
        case rel => exact ⟨k + 1, by omega, by go_num, by rw [HT.out]; exact hown, HB⟩
        case measure => simp [intOf]; omega
    · have e : k = n := by omega
      subst e
      have hkl := woL_le l k
      have HIN := Lib.hid (intsAt_own hown (by omega))
      clear hown
      go_wp2
      go_ret
      exact ⟨_, rfl, HIN.out, HB.out⟩

def BndS (s : Sheet) (L : List Int) (w : World) (e : Ending) (w' : World) : Prop :=
  ∃ (g c : Nat), e = .returned (.tuple #[.slice (some ⟨g, 0, none⟩) (s.pts.length + 1) c, .bool (fitB s.iv 0 (pickL s.notes L))]) ∧ Below w.heap.size w w'
theorem bounds_sub {s : Sheet} {pv nv lv : Value} {L : List Int} {w0 w : World} (hS : SheetAt w0.heap.size w0 pv nv s) (hb : Below w0.heap.size w0 w) (hv : ValidS s) (hL : IntsAt w lv L) (hl : ∀ z, z ∈ L → 0 ≤ z ∧ z < (s.notes.length : Int)) :
    Calls Tryz.prog 67 #[.agg #[.int .i64 s.iv, pv, nv], lv, .int .i64 0] w (BndS s L w) := by
  refine (bounds_any s pv nv lv L 0 w ((hS.below hb).mono hb.size) hv hL hl (by omega)).mono ?_
  rintro e w2 ⟨g, c, r, rfl, hN⟩
  refine ⟨g, c, ?_, hN.below⟩
  rw [refB_iff hv.np8 (by omega) (by omega) (pick_ok hv hl)]
  rfl
def WoP (n : Nat) (l : List Int) (w : World) (e : Ending) (w' : World) : Prop := ∃ v', e = .returned v' ∧ IntsAt w' v' (woL l n) ∧ Below w.heap.size w w'

set_option maxRecDepth 100000 in
set_option maxHeartbeats 4000000 in
theorem rfewest_any (s : Sheet) (pv nv : Value) (alone fit : Bool) (G : List Int → Bool) (w : World) (hS : SheetAt w.heap.size w pv nv s) (hv : ValidS s)
    (hG : ∀ l, Asc s.notes.length l → (fitB s.iv 0 (pickL s.notes (if alone = true then l else woL l s.notes.length)) == fit) = G l) :
    Calls Tryz.prog 78 #[.agg #[.int .i64 s.iv, pv, nv], .bool alone, .bool fit] w fun e w' => ∃ v, e = .returned v ∧ IntsAt w' v (fewS s.notes.length G) ∧ Below w.heap.size w w' := by
  obtain ⟨iv, pts, notes⟩ := s
  obtain ⟨lp, pa, pc, rfl, _⟩ := id hS.pts
  obtain ⟨ln, na, nc, rfl, _⟩ := id hS.notes
  have nn : notes.length ≤ 12 := hv.nn
  simp only at hS hG lp ln ⊢
  have HV := Lib.hid hv
  have HG := Lib.hid hG
  have B0 : Below w.heap.size w (w.alloc (Obj.cells #[.int .i64 iv, .slice pa pts.length pc, .slice na notes.length nc] 25)) := by go_grown
  have HB0 := Lib.hid B0
  have HS0 := Lib.hid ((hS.below B0).mono B0.size)
  have HA := Lib.hid (heap_alloc_new w (Obj.cells #[.int .i64 iv, .slice pa pts.length pc, .slice na notes.length nc] 25))
  obtain ⟨n, HN⟩ : ∃ n, Hid (notes.length = n) := ⟨_, rfl⟩
  clear hS hv hG B0
  have nI : (notes.length : Int) ≤ 12 := by omega
  go_enter Tryz.func78, Tryz.ntmps78
  go_wp2_with fail
  generalize w.alloc (Obj.cells #[.int .i64 iv, .slice pa pts.length pc, .slice na notes.length nc] 25) = W at *
  have hlt0 := lt_of_block HA.out
  go_loopw [7] (fun i wr => ∃ m : Nat, m ≤ notes.length + 1 ∧ i = .int .i64 m ∧ Hid ((∀ m', m' < m → ∀ l, l ∈ lstK notes.length m' 0 → G l = false) ∧ Below W.heap.size W wr)) (fun i _ => notes.length + 1 - (intOf i).toNat)
  case atStart => exact ⟨0, Nat.zero_le _, rfl, fun m' h => by omega, Below.refl _ _⟩
  case round =>
    obtain ⟨m, hm, rfl, HR⟩ := hrel
    have a2 := cellOf ((HR.out.2.block w.heap.size hlt0).trans HA.out) 2 _ rfl
    have mI : (m : Int) ≤ 13 := by omega
    by_cases hlt : m ≤ notes.length
    · have ml : (m : Int) ≤ (notes.length : Int) := by omega
      have HL := Lib.hid (lists_any notes.length nn m 0 0 (m : Int) wr rfl rfl (by omega) (by omega))
      go_wp2_with fail
      refine HL.out.mono ?_
      rintro e w2 ⟨v2, cur2, rfl, hL2, hb2⟩
      obtain ⟨ra, rc, rfl⟩ := hL2.shape
      have HB2 := Lib.hid (below_next HR.out.2 hb2 HR.out.2.size)
      have HLS := Lib.hid hL2
      have HNO := Lib.hid HR.out.1
      obtain ⟨R, HRR⟩ : ∃ R, Hid (lstK notes.length m 0 = R) := ⟨_, rfl⟩
      have HRl : Hid (R.length ≤ 4096) := by show R.length ≤ 4096; rw [← HRR.out]; exact lstK_len12 nn
      rw [HRR.out] at HLS ⊢
      obtain ⟨rn, hrn⟩ : ∃ rn, Hid (R.length = rn) := ⟨_, rfl⟩
      rw [hrn.out]
      have rnI : (rn : Int) ≤ 4096 := by have := HRl.out; have := hrn.out; omega
      clear hL2 hb2 HR HL a2
      go_wp2_with fail
      go_loopw [9] (fun i wr => ∃ k : Nat, k ≤ rn ∧ i = .int .i64 k ∧ Hid ((∀ j (h : j < R.length), j < k → G R[j] = false) ∧ Below w2.heap.size w2 wr)) (fun i _ => rn - (intOf i).toNat)
      case atStart => exact ⟨0, Nat.zero_le _, rfl, fun j _ h => by omega, Below.refl _ _⟩
      case round =>
        obtain ⟨k, hk, rfl, HK⟩ := hrel
        by_cases hkl : k < rn
        · have kl : (k : Int) < (rn : Int) := by omega
          have hkR : k < R.length := by rw [hrn.out]; exact hkl
          have HRW := HLS.out.up HK.out.2
          obtain ⟨g, c, m', sa, sc, hvv, hm', hcell, hrow⟩ := HRW.cell hkR
          simp only [Value.slice.injEq] at hvv
          obtain ⟨rfl, _, rfl⟩ := hvv
          obtain ⟨hRl, hRa, _⟩ := (lstK_mem notes.length m 0 R[k]).1 (by rw [HRR.out]; exact List.getElem_mem hkR)
          have HINT := Lib.hid (intsAt_own hrow (by omega))
          have HGR := Lib.hid (HG.out R[k] hRa)
          have HIR := Lib.hid hRa.2
          have HFW : Hid (G R[k] = true → R[k] = fewS notes.length G) := fun hg => by
            have h := few_first G notes.length m k (by rw [HRR.out]; exact hkR) (by simpa only [HRR.out] using hg) HNO.out (fun j hj => by simpa only [HRR.out] using HK.out.1 j (by omega) hj)
            simpa only [HRR.out] using h
          have HNX : Hid (G R[k] = false → ∀ j (h : j < R.length), j < k + 1 → G R[j] = false) := fun hg j h hj => by
            rcases Nat.lt_or_ge j k with q | q
            · exact HK.out.1 j h q
            · obtain rfl : j = k := by omega
              exact hg
          have HBW := Lib.hid (below_next HB2.out HK.out.2 HB2.out.size)
          have HBk := Lib.hid HK.out.2
          have a0 := cellOf ((HBW.out.block w.heap.size hlt0).trans HA.out) 0 _ rfl
          have a1 := cellOf ((HBW.out.block w.heap.size hlt0).trans HA.out) 1 _ rfl
          have a2 := cellOf ((HBW.out.block w.heap.size hlt0).trans HA.out) 2 _ rfl
          have hlA : w.heap.size < wr.heap.size := Nat.lt_of_lt_of_le hlt0 HBW.out.size
          have hlg := World.block_lt_of_cell? wr _ hcell
          simp only at hlg
          have HCE := Lib.hid hcell
          generalize R[k] = l at *
          clear hrow HRW hm' hRl hRa HK
          cases alone
          · simp only [Bool.false_eq_true, if_false] at HGR
            have HWO := Lib.hid (fun (w' : World) (hb : Below wr.heap.size wr w') => (without_any notes.length (.slice sa m' sc) l w' (HINT.out.below hb) nn : Calls Tryz.prog 104 #[.int .i64 notes.length, .slice sa m' sc] w' (WoP notes.length l w')))
            go_wp2_with fail
            go_region_held3 (fun W' => W'.cell? ⟨w.heap.size, 2, none⟩ = some (.slice na notes.length nc) ∧ W'.cell? ⟨g, k, none⟩ = some (.slice sa m' sc))
              (first | exact ⟨a2, hcell⟩ | exact ⟨c0, c1⟩)
              (first | (go_at_call 104; refine (HWO.out _ (by go_grown)).mono ?_; rintro e w8 ⟨lv, rfl, hL8, hb8⟩; have hB8 := below_next (B := wr.heap.size) (a := wr) (by go_grown) hb8 (by simp); have c0 := (hB8.cell (p := ⟨w.heap.size, 2, none⟩) hlA).trans a2; have c1 := (hB8.cell (p := ⟨g, k, none⟩) hlg).trans hcell))
            all_goals
              have hL9 := hL8
              have b0 := (hB8.cell (p := ⟨w.heap.size, 0, none⟩) hlA).trans a0
              have b1 := (hB8.cell (p := ⟨w.heap.size, 1, none⟩) hlA).trans a1
              have HBS := Lib.hid (bounds_sub HS0.out (below_next HBW.out hB8 HBW.out.size) HV.out hL8 (woL_in l notes.length))
              clear a0 a1 a2 hcell hb8 hL8
              go_wp2_with fail
              refine HBS.out.mono ?_
              rintro e w9 ⟨g9, c9, rfl, hb9⟩
              have hB9 := below_next hB8 hb9 hB8.size
              have hcell9 := (hB9.cell (p := ⟨g, k, none⟩) hlg).trans HCE.out
              have hGR := HGR.out
              simp only at hGR ⊢
              generalize fitB iv 0 (pickL notes (woL l notes.length)) = b at *
              have HB9 := Lib.hid (below_next HBW.out hB9 HBW.out.size)
              have HB9k := Lib.hid (below_next HBk.out hB9 HBk.out.size)
              have HI9 := Lib.hid (HINT.out.below hB9)
              rcases hg : G l with _ | _
              · rw [hg] at hGR
                have HN1 := Lib.hid (HNX.out hg)
                clear hg HNX HFW hb9 hB9 hcell9 HBS HGR HCE hL9 hB8 c0 c1 b0 b1
                go_wp2
                go_roundw
                case rel => exact ⟨k + 1, by omega, by go_num, HN1.out, HB9k.out⟩
                case measure => simp [intOf]; omega
              · rw [hg] at hGR
                have HFE := Lib.hid (HFW.out hg)
                have HBZ := Lib.hid (HB0.out.trans (HB9.out.mono HB0.out.size))
                rw [HFE.out] at HI9
                clear hg HNX HFW hb9 hB9 HBS HGR HCE hL9 hB8 c0 c1 b0 b1
                go_wp2
                go_ret
                exact ⟨_, rfl, HI9.out, HBZ.out⟩
          · simp only [if_true] at HGR
            have HBS := Lib.hid (bounds_sub HS0.out HBW.out HV.out HINT.out HIR.out)
            clear hlA
            go_wp2_with fail
            refine HBS.out.mono ?_
            rintro e w9 ⟨g9, c9, rfl, hb9⟩
            have hB9 := hb9
            have hcell9 := (hB9.cell (p := ⟨g, k, none⟩) hlg).trans HCE.out
            have hGR := HGR.out
            simp only at hGR ⊢
            generalize fitB iv 0 (pickL notes l) = b at *
            have HB9 := Lib.hid (below_next HBW.out hB9 HBW.out.size)
            have HB9k := Lib.hid (below_next HBk.out hB9 HBk.out.size)
            have HI9 := Lib.hid (HINT.out.below hB9)
            rcases hg : G l with _ | _
            · rw [hg] at hGR
              have HN1 := Lib.hid (HNX.out hg)
              clear hg HNX HFW hb9 hB9 hcell9 HBS HGR HCE a0 a1 a2 hcell
              go_wp2
              go_roundw
              case rel => exact ⟨k + 1, by omega, by go_num, HN1.out, HB9k.out⟩
              case measure => simp [intOf]; omega
            · rw [hg] at hGR
              have HFE := Lib.hid (HFW.out hg)
              have HBZ := Lib.hid (HB0.out.trans (HB9.out.mono HB0.out.size))
              rw [HFE.out] at HI9
              clear hg HNX HFW hb9 hB9 HBS HGR HCE a0 a1 a2 hcell
              go_wp2
              go_ret
              exact ⟨_, rfl, HI9.out, HBZ.out⟩
        · have e : k = rn := by omega
          have HNA : Hid (∀ l, l ∈ R → G l = false) := fun l hl => by
            obtain ⟨j, hj, rfl⟩ := List.getElem_of_mem hl
            exact HK.out.1 j hj (by rw [e, ← hrn.out]; exact hj)
          have HNB : Hid ((∀ m', m' < m + 1 → ∀ l, l ∈ lstK notes.length m' 0 → G l = false) ∧ Below W.heap.size W wr) := ⟨fun m' h l hl => by
            rcases Nat.lt_or_ge m' m with q | q
            · exact HNO.out m' q l hl
            · obtain rfl : m' = m := by omega
              exact HNA.out l (by rw [← HRR.out]; exact hl), below_next HB2.out HK.out.2 HB2.out.size⟩
          clear e HK hk
          go_wp2
          go_roundw
          case rel => exact ⟨m + 1, by omega, by go_num, HNB.out⟩
          case measure => simp [intOf]; omega
    · have HFN : Hid (fewS notes.length G = []) := fewS_none G notes.length fun t ht => by
        have hl := asc_length ht
        exact HR.out.1 t.length (by omega) t ((lstK_mem _ _ 0 _).2 ⟨rfl, ht, fun x hx => (ht.2 x hx).1⟩)
      have HBZ := Lib.hid (HB0.out.trans (HR.out.2.mono HB0.out.size))
      have ml : ¬ ((m : Int) ≤ (notes.length : Int)) := by omega
      clear HR
      go_wp2
      go_ret
      refine ⟨_, rfl, ?_, HBZ.out⟩
      rw [HFN.out]
      exact ⟨by simp, none, 0, rfl, fun h => absurd rfl h⟩
end Go.Proofs.YtpmnnomeaaaenaaGreatDoor
namespace Go.Proofs.YtpmnnomeaaaenaaGreatDoor
open Go Go.RowKit Hs Dc

theorem ints_nil (w : World) : IntsAt w (.slice none 0 0) [] := ⟨by simp, none, 0, rfl, fun h => absurd rfl h⟩

set_option maxRecDepth 100000 in
set_option maxHeartbeats 4000000 in
theorem rproof_any (s : Sheet) (pv nv : Value) (w : World) (hS : SheetAt w.heap.size w pv nv s) (hcap : CapOk pv) :
    Calls Tryz.prog 31 #[.agg #[.int .i64 s.iv, pv, nv]] w fun e w' => ∃ v, e = .returned (.tuple #[v, .int .i64 (proofE s)]) ∧ IntsAt w' v (proofL s) ∧ Below w.heap.size w w' := by
  obtain ⟨iv, pts, notes⟩ := s
  obtain ⟨lp, pa, pc, rfl, _⟩ := id hS.pts
  obtain ⟨ln, na, nc, rfl, _⟩ := id hS.notes
  simp only at hS lp ln ⊢
  have HS := Lib.hid hS
  have B0 : Below w.heap.size w (w.alloc (Obj.cells #[.int .i64 iv, .slice pa pts.length pc, .slice na notes.length nc] 25)) := by go_grown
  have HC := Lib.hid (rfits_any ⟨iv, pts, notes⟩ (.slice pa pts.length pc) (.slice na notes.length nc) (w.alloc (Obj.cells #[.int .i64 iv, .slice pa pts.length pc, .slice na notes.length nc] 25)) ((hS.below B0).mono B0.size) hcap)
  clear hS
  go_enter Tryz.func31, Tryz.ntmps31
  go_wp2_with fail
  refine HC.out.mono ?_
  rintro e w1 ⟨rfl, hb1⟩
  have HB1 := Lib.hid (below_next B0 hb1 B0.size)
  have HA1 := Lib.hid ((hb1.block w.heap.size (by simp)).trans (heap_alloc_new w (Obj.cells #[.int .i64 iv, .slice pa pts.length pc, .slice na notes.length nc] 25)))
  have HS1 := Lib.hid ((HS.out.below HB1.out).mono HB1.out.size)
  obtain ⟨r, HE⟩ : ∃ r, Hid (errS ⟨iv, pts, notes⟩ = r) := ⟨_, rfl⟩
  obtain ⟨f, HF⟩ : ∃ f, Hid (fitsS ⟨iv, pts, notes⟩ = f) := ⟨_, rfl⟩
  rw [HE.out, HF.out]
  have a0 := cellOf HA1.out 0 _ rfl
  have a1 := cellOf HA1.out 1 _ rfl
  have a2 := cellOf HA1.out 2 _ rfl
  clear hb1 B0 HC HS
  by_cases hr : r = 0
  · have tr : (r != 0) = false := by simp [hr]
    have t0 : (r == 0) = true := by simp [hr]
    have hv := (check_valid ⟨iv, pts, notes⟩).1 (HE.out.trans hr)
    have hf : fitB iv 0 notes = f := (fitsS_of hv).symm.trans HF.out
    have HPE : Hid (proofE ⟨iv, pts, notes⟩ = if f = true then 4 else 0) := by show _ = _; unfold proofE; rw [HE.out.trans hr, if_pos rfl, hf]
    have HPL : Hid (proofL ⟨iv, pts, notes⟩ = if f = true then [] else fewS notes.length (proofG ⟨iv, pts, notes⟩)) := by show _ = _; unfold proofL; rw [HE.out.trans hr, if_pos rfl, hf]
    have HW := Lib.hid (rfewest_any ⟨iv, pts, notes⟩ (.slice pa pts.length pc) (.slice na notes.length nc) true false (proofG ⟨iv, pts, notes⟩) w1 HS1.out hv (fun l hl => by
      rw [if_pos rfl, fit_pick iv hl]
      unfold proofG
      simp only
      cases fitB iv 0 (havK notes l true notes.length) <;> rfl))
    clear hr hv hf
    cases f
    · rw [if_neg Bool.false_ne_true] at HPE HPL
      go_wp2_with fail
      refine HW.out.mono ?_
      rintro e w2 ⟨v, rfl, hi, hb⟩
      have HB2 := Lib.hid (below_next HB1.out hb HB1.out.size)
      have HI2 := Lib.hid hi
      clear hb hi HW
      go_wp2
      go_ret2
      exact ⟨_, by rw [HPE.out]; rfl, by rw [HPL.out]; exact HI2.out, HB2.out⟩
    · rw [if_pos rfl] at HPE HPL
      clear HW
      go_wp2
      go_ret2
      exact ⟨_, by rw [HPE.out]; rfl, by rw [HPL.out]; exact ints_nil _, HB1.out⟩
  · have tr : (r != 0) = true := by simp [hr]
    have t0 : (r == 0) = false := by simp [hr]
    have HPE : Hid (proofE ⟨iv, pts, notes⟩ = r) := by show _ = _; unfold proofE; rw [HE.out, if_neg hr]
    have HPL : Hid (proofL ⟨iv, pts, notes⟩ = []) := by show _ = _; unfold proofL; rw [HE.out, if_neg hr]
    clear hr
    go_wp2
    go_ret2
    exact ⟨_, by rw [HPE.out]; rfl, by rw [HPL.out]; exact ints_nil _, HB1.out⟩

set_option maxRecDepth 100000 in
set_option maxHeartbeats 4000000 in
theorem rwrong_any (s : Sheet) (pv nv : Value) (w : World) (hS : SheetAt w.heap.size w pv nv s) (hcap : CapOk pv) :
    Calls Tryz.prog 33 #[.agg #[.int .i64 s.iv, pv, nv]] w fun e w' => ∃ v, e = .returned (.tuple #[v, .int .i64 (errS s)]) ∧ IntsAt w' v (wrongL s) ∧ Below w.heap.size w w' := by
  obtain ⟨iv, pts, notes⟩ := s
  obtain ⟨lp, pa, pc, rfl, _⟩ := id hS.pts
  obtain ⟨ln, na, nc, rfl, _⟩ := id hS.notes
  simp only at hS lp ln ⊢
  have HS := Lib.hid hS
  have B0 : Below w.heap.size w (w.alloc (Obj.cells #[.int .i64 iv, .slice pa pts.length pc, .slice na notes.length nc] 25)) := by go_grown
  have HC := Lib.hid (rcheck_any ⟨iv, pts, notes⟩ (.slice pa pts.length pc) (.slice na notes.length nc) (w.alloc (Obj.cells #[.int .i64 iv, .slice pa pts.length pc, .slice na notes.length nc] 25)) ((hS.below B0).mono B0.size) hcap)
  clear hS
  go_enter Tryz.func33, Tryz.ntmps33
  go_wp2_with fail
  refine HC.out.mono ?_
  rintro e w1 ⟨rfl, hb1⟩
  have HB1 := Lib.hid (below_next B0 hb1 B0.size)
  have HA1 := Lib.hid ((hb1.block w.heap.size (by simp)).trans (heap_alloc_new w (Obj.cells #[.int .i64 iv, .slice pa pts.length pc, .slice na notes.length nc] 25)))
  have HS1 := Lib.hid ((HS.out.below HB1.out).mono HB1.out.size)
  obtain ⟨p, q, r, hpq⟩ : ∃ p q r, Hid (checkS ⟨iv, pts, notes⟩ = (p, q, r)) := ⟨_, _, _, rfl⟩
  rw [hpq.out]
  have HE : Hid (errS ⟨iv, pts, notes⟩ = r) := by show _ = _; unfold errS; rw [hpq.out]
  have a0 := cellOf HA1.out 0 _ rfl
  have a1 := cellOf HA1.out 1 _ rfl
  have a2 := cellOf HA1.out 2 _ rfl
  clear hb1 B0 HC HS
  by_cases hr : r = 0
  · have tr : (r != 0) = false := by simp [hr]
    have hv := (check_valid ⟨iv, pts, notes⟩).1 (HE.out.trans hr)
    have HPL : Hid (wrongL ⟨iv, pts, notes⟩ = fewS notes.length (wrongG ⟨iv, pts, notes⟩)) := by show _ = _; unfold wrongL; rw [HE.out.trans hr, if_pos rfl]
    have HW := Lib.hid (rfewest_any ⟨iv, pts, notes⟩ (.slice pa pts.length pc) (.slice na notes.length nc) false true (wrongG ⟨iv, pts, notes⟩) w1 HS1.out hv (fun l hl => by
      rw [if_neg Bool.false_ne_true, fit_wo iv notes l]
      unfold wrongG
      simp only
      cases fitB iv 0 (havK notes l false notes.length) <;> rfl))
    have HR := Lib.hid hr
    clear hr hv
    go_wp2_with fail
    refine HW.out.mono ?_
    rintro e w2 ⟨v, rfl, hi, hb⟩
    have HB2 := Lib.hid (below_next HB1.out hb HB1.out.size)
    have HI2 := Lib.hid hi
    clear hb hi HW
    go_wp2
    go_ret2
    exact ⟨_, by rw [HE.out, HR.out]; rfl, by rw [HPL.out]; exact HI2.out, HB2.out⟩
  · have tr : (r != 0) = true := by simp [hr]
    have HPL : Hid (wrongL ⟨iv, pts, notes⟩ = []) := by show _ = _; unfold wrongL; rw [HE.out, if_neg hr]
    clear hr
    go_wp2
    go_ret2
    exact ⟨_, by rw [HE.out]; rfl, by rw [HPL.out]; exact ints_nil _, HB1.out⟩

/-- Bounds of all notes, wider. -/
def BndW (s : Sheet) (wd : Nat) (w : World) (e : Ending) (w' : World) : Prop :=
  ∃ (g c : Nat), e = .returned (.tuple #[.slice (some ⟨g, 0, none⟩) (s.pts.length + 1) c, .bool (fitB s.iv wd s.notes)]) ∧ Below w.heap.size w w'
theorem bounds_wd {s : Sheet} {pv nv lv : Value} {w w8 w' : World} (hS : SheetAt w.heap.size w pv nv s) (hv : ValidS s) (hL : IntsAt w8 lv (ixL s.notes.length)) (hb : Below w.heap.size w w') (hb8 : Below w8.heap.size w8 w') {wd : Nat} (hwd : wd ≤ 18000) :
    Calls Tryz.prog 67 #[.agg #[.int .i64 s.iv, pv, nv], lv, .int .i64 wd] w' (BndW s wd w') := by
  refine (bounds_any s pv nv lv (ixL s.notes.length) wd w' ((hS.below hb).mono hb.size) hv (hL.below hb8) (ixL_in _) hwd).mono ?_
  rintro e w2 ⟨g, c, r, rfl, hN⟩
  rw [pick_all] at hN ⊢
  refine ⟨g, c, ?_, hN.below⟩
  rw [refB_iff hv.np8 (by omega) (by omega) (all_ok hv)]
theorem all_again {s : Sheet} {pv nv : Value} {w w' : World} (hS : SheetAt w.heap.size w pv nv s) (hn : s.notes.length ≤ 12) (hb : Below w.heap.size w w') :
    Calls Tryz.prog 68 #[.agg #[.int .i64 s.iv, pv, nv]] w' (AllP s.notes.length w') := all_from hS hn hb

set_option maxRecDepth 100000 in
set_option maxHeartbeats 4000000 in
theorem rwider_any (s : Sheet) (pv nv : Value) (w : World) (hS : SheetAt w.heap.size w pv nv s) (hcap : CapOk pv) :
    Calls Tryz.prog 35 #[.agg #[.int .i64 s.iv, pv, nv]] w fun e w' => ∃ r : Nat, e = .returned (.tuple #[.int .i64 r, .int .i64 (errS s)]) ∧ WidPost s r ∧ Below w.heap.size w w' := by
  obtain ⟨iv, pts, notes⟩ := s
  obtain ⟨lp, pa, pc, rfl, _⟩ := id hS.pts
  obtain ⟨ln, na, nc, rfl, _⟩ := id hS.notes
  simp only at hS lp ln ⊢
  have HS := Lib.hid hS
  have B0 : Below w.heap.size w (w.alloc (Obj.cells #[.int .i64 iv, .slice pa pts.length pc, .slice na notes.length nc] 25)) := by go_grown
  have HC := Lib.hid (rcheck_any ⟨iv, pts, notes⟩ (.slice pa pts.length pc) (.slice na notes.length nc) (w.alloc (Obj.cells #[.int .i64 iv, .slice pa pts.length pc, .slice na notes.length nc] 25)) ((hS.below B0).mono B0.size) hcap)
  clear hS
  go_enter Tryz.func35, Tryz.ntmps35
  go_wp2_with fail
  refine HC.out.mono ?_
  rintro e w1 ⟨rfl, hb1⟩
  have HB1 := Lib.hid (below_next B0 hb1 B0.size)
  have HA1 := Lib.hid ((hb1.block w.heap.size (by simp)).trans (heap_alloc_new w (Obj.cells #[.int .i64 iv, .slice pa pts.length pc, .slice na notes.length nc] 25)))
  have HS1 := Lib.hid ((HS.out.below HB1.out).mono HB1.out.size)
  obtain ⟨p, q, r, hpq⟩ : ∃ p q r, Hid (checkS ⟨iv, pts, notes⟩ = (p, q, r)) := ⟨_, _, _, rfl⟩
  rw [hpq.out]
  have HE : Hid (errS ⟨iv, pts, notes⟩ = r) := by show _ = _; unfold errS; rw [hpq.out]
  have hsz := HB1.out.size
  have hlt0 := lt_of_block HA1.out
  clear hb1 B0 HC HS
  by_cases hr : r = 0
  · have tr : (r != 0) = false := by simp [hr]
    have HV := Lib.hid ((check_valid ⟨iv, pts, notes⟩).1 (HE.out.trans hr))
    have HR := Lib.hid hr
    have hn12 : notes.length ≤ 12 := HV.out.nn
    clear hr
    go_wp2_with fail
    go_loopw [7, 8] (fun a b wr => ∃ lo hi : Nat, a = .int .i64 lo ∧ b = .int .i64 hi ∧ lo ≤ hi ∧ hi ≤ 18000 ∧ Hid ((∀ t : Nat, t < lo → fitB iv t notes = false) ∧ (hi = 18000 ∨ fitB iv hi notes = true) ∧ Below w1.heap.size w1 wr)) (fun a b _ => (intOf b).toNat - (intOf a).toNat)
    case atStart => exact ⟨0, 18000, rfl, rfl, by omega, by omega, fun t h => by omega, .inl rfl, Below.refl _ _⟩
    case round =>
      obtain ⟨lo, hi, rfl, rfl, hlh, hh, HL⟩ := hrel
      have hiI : (hi : Int) ≤ 18000 := by omega
      have lhI : (lo : Int) ≤ (hi : Int) := by omega
      by_cases hlt : lo < hi
      · have ltI : (lo : Int) < (hi : Int) := by omega
        obtain ⟨mid, hmid⟩ : ∃ mid : Nat, (lo + hi) / 2 = mid := ⟨_, rfl⟩
        have et : ((lo : Int) + (hi : Int)).tdiv 2 = (mid : Int) := by rw [Int.tdiv_eq_ediv_of_nonneg (by omega)]; omega
        have m1 : lo ≤ mid := by omega
        have m2 : mid < hi := by omega
        have midI : (mid : Int) ≤ 18000 := by omega
        have HAr := Lib.hid ((HL.out.2.2.block w.heap.size hlt0).trans HA1.out)
        have a0 := cellOf HAr.out 0 _ rfl
        have a1 := cellOf HAr.out 1 _ rfl
        have a2 := cellOf HAr.out 2 _ rfl
        have ht := lt_of_block HAr.out
        have HSr := Lib.hid ((HS1.out.below HL.out.2.2).mono HL.out.2.2.size)
        have hwd : mid ≤ 18000 := by omega
        clear hmid
        go_wp2_with fail
        go_region_held3 (fun W' => W'.cell? ⟨w.heap.size, 0, none⟩ = some (.int .i64 iv) ∧ W'.cell? ⟨w.heap.size, 1, none⟩ = some (.slice pa pts.length pc) ∧ W'.cell? ⟨w.heap.size, 2, none⟩ = some (.slice na notes.length nc))
          (first | exact ⟨a0, a1, a2⟩ | exact ⟨c0, c1, c2⟩ | exact ⟨d0, d1, d2⟩)
          (first
            | (go_at_call 68; refine (all_from HSr.out hn12 (by go_grown)).mono ?_; rintro e w8 ⟨lv, rfl, hL8, hb8⟩; have hB8 := below_next (B := wr.heap.size) (a := wr) (by go_grown) hb8 (by simp); have c0 := (hB8.cell (p := ⟨w.heap.size, 0, none⟩) ht).trans a0; have c1 := (hB8.cell (p := ⟨w.heap.size, 1, none⟩) ht).trans a1; have c2 := (hB8.cell (p := ⟨w.heap.size, 2, none⟩) ht).trans a2)
            | (go_at_call 67; refine (bounds_wd HSr.out HV.out hL8 (hB8.trans (by go_grown)) (by go_grown) hwd).mono ?_; rintro e w9 ⟨g9, c9, rfl, hN9⟩; have hB9 := below_next (B := wr.heap.size) (a := wr) (hB8.trans (by go_grown)) hN9 (Nat.le_trans hB8.size (by simp)); have d0 := (hB9.cell (p := ⟨w.heap.size, 0, none⟩) ht).trans a0; have d1 := (hB9.cell (p := ⟨w.heap.size, 1, none⟩) ht).trans a1; have d2 := (hB9.cell (p := ⟨w.heap.size, 2, none⟩) ht).trans a2))
        all_goals
          have HB9 := Lib.hid (below_next HL.out.2.2 hB9 HL.out.2.2.size)
          clear hB8 hB9 hN9 hb8 hL8 a0 a1 a2 c0 c1 c2 d0 d1 d2
          have HLO : Hid (fitB iv mid notes = false → ∀ t : Nat, t < mid + 1 → fitB iv t notes = false) := fun hf t h => by
            rcases e : fitB iv t notes with _ | _
            · rfl
            · rw [fitB_mono iv notes (show (t : Int) ≤ (mid : Int) by omega) e] at hf; cases hf
          have HL0 := Lib.hid HL.out.1
          have HL1 := Lib.hid HL.out.2.1
          rcases hf : fitB iv mid notes with _ | _
          · have HN1 : Hid ((∀ t : Nat, t < mid + 1 → fitB iv t notes = false) ∧ (hi = 18000 ∨ fitB iv hi notes = true) ∧ Below w1.heap.size w1 w9) := ⟨HLO.out hf, HL1.out, HB9.out⟩
            clear HLO hf HL et
            go_wp2
            go_roundw
            case rel => exact ⟨mid + 1, hi, by go_num, rfl, by omega, hh, HN1.out⟩
            case measure => simp [intOf]; omega
          · have HN1 : Hid ((∀ t : Nat, t < lo → fitB iv t notes = false) ∧ (mid = 18000 ∨ fitB iv mid notes = true) ∧ Below w1.heap.size w1 w9) := ⟨HL0.out, .inr hf, HB9.out⟩
            clear HLO hf HL et
            go_wp2
            go_roundw
            case rel => exact ⟨lo, mid, rfl, rfl, m1, by omega, HN1.out⟩
            case measure => simp [intOf]; omega
      · have e : hi = lo := by omega
        have HWP : Hid (WidPost ⟨iv, pts, notes⟩ lo) := by
          show WidPost _ _
          unfold WidPost
          rw [if_pos (HE.out.trans HR.out)]
          have h9 := fit_9000 HV.out
          simp only at h9
          have hle : lo ≤ 9000 := by
            rcases Nat.lt_or_ge 9000 lo with q | q
            · have := HL.out.1 9000 q
              rw [show ((9000 : Nat) : Int) = 9000 from rfl, h9] at this
              cases this
            · exact q
          refine ⟨hle, HL.out.1, fun _ => ?_⟩
          rcases HL.out.2.1 with q | q
          · omega
          · rw [e] at q; exact q
        have HBZ := Lib.hid (HB1.out.trans (HL.out.2.2.mono hsz))
        clear HL e
        go_wp2
        go_ret2
        exact ⟨lo, by rw [HE.out, HR.out]; rfl, HWP.out, HBZ.out⟩
  · have tr : (r != 0) = true := by simp [hr]
    have HWP : Hid (WidPost ⟨iv, pts, notes⟩ 0) := by show WidPost _ _; unfold WidPost; rw [if_neg (by rw [HE.out]; exact hr)]
    clear hr
    go_wp2
    go_ret2
    exact ⟨0, by rw [HE.out]; rfl, HWP.out, HB1.out⟩
end Go.Proofs.YtpmnnomeaaaenaaGreatDoor
namespace Go.Proofs.YtpmnnomeaaaenaaGreatDoor
open Go Go.RowKit Hs Dc

/-- What stands through the calls. -/
structure NtsA (w0 : World) (bA : Nat) (oA : Obj) (pv nv : Value) (s : Sheet) (w : World) : Prop where
  a : w.heap[bA]? = some oA
  s : SheetAt w.heap.size w pv nv s
  T : Tabs w
  B : Below w0.heap.size w0 w
theorem NtsA.up {w0 : World} {bA : Nat} {oA : Obj} {pv nv : Value} {s : Sheet} {w w' : World} (h : NtsA w0 bA oA pv nv s w) (hb : Below w.heap.size w w') : NtsA w0 bA oA pv nv s w' :=
  ⟨(hb.block _ (lt_of_block h.a)).trans h.a, (h.s.below hb).mono hb.size, h.T.below hb, h.B.trans (hb.mono h.B.size)⟩
theorem proofL_le (s : Sheet) : (proofL s).length ≤ s.notes.length := by
  unfold proofL
  split
  · split
    · simp
    · exact asc_length (fewS_spec _ _).1
  · simp
theorem wrongL_le (s : Sheet) : (wrongL s).length ≤ s.notes.length := by
  unfold wrongL
  split
  · exact asc_length (fewS_spec _ _).1
  · simp

set_option maxRecDepth 100000 in
set_option maxHeartbeats 8000000 in
theorem lnotes_any (s : Sheet) (pv nv : Value) (w : World) (hS : SheetAt w.heap.size w pv nv s) (hcap : CapOk pv) (hT : Tabs w) :
    Calls Tryz.prog 5 #[.agg #[.int .i64 s.iv, pv, nv]] w fun e w' => e = .returned (.bool true) ∧ Below w.heap.size w w' := by
  obtain ⟨iv, pts, notes⟩ := s
  obtain ⟨ln, na, nc, rfl, _⟩ := id hS.notes
  obtain ⟨lp, pa, pc, rfl, _⟩ := id hS.pts
  simp only at hS ln lp ⊢
  have B0 : Below w.heap.size w (w.alloc (Obj.cells #[.int .i64 iv, .slice pa pts.length pc, .slice na notes.length nc] 25)) := by go_grown
  have HS0 : Hid (NtsA w w.heap.size (Obj.cells #[.int .i64 iv, .slice pa pts.length pc, .slice na notes.length nc] 25 (0, 0)) (.slice pa pts.length pc) (.slice na notes.length nc) ⟨iv, pts, notes⟩ (w.alloc (Obj.cells #[.int .i64 iv, .slice pa pts.length pc, .slice na notes.length nc] 25))) :=
    ⟨heap_alloc_new w _, (hS.below B0).mono B0.size, hT.below B0, B0⟩
  clear B0 hS hT
  go_enter Tryz.func5, Tryz.ntmps5
  go_wp2_with fail
  generalize (w.alloc (Obj.cells #[.int .i64 iv, .slice pa pts.length pc, .slice na notes.length nc] 25)) = w0 at *
  refine (Proof_any ⟨iv, pts, notes⟩ (.slice pa pts.length pc) (.slice na notes.length nc) w0 HS0.out.s).mono ?_
  rintro e w1 ⟨v1, rfl, hown, hb⟩
  have HS1 := Lib.hid (HS0.out.up hb)
  have hle : (proofL ⟨iv, pts, notes⟩).length ≤ notes.length := proofL_le ⟨iv, pts, notes⟩
  have HI := Lib.hid (intsAt_own hown (by omega))
  obtain ⟨z, HZ⟩ : ∃ z, Hid (proofE ⟨iv, pts, notes⟩ = z) := ⟨_, rfl⟩
  rw [HZ.out]
  clear hown hle
  clear hb HS0
  have a0 := cellOf HS1.out.a 0 _ rfl
  have a1 := cellOf HS1.out.a 1 _ rfl
  have a2 := cellOf HS1.out.a 2 _ rfl
  go_wp2_with fail
  refine (rproof_any ⟨iv, pts, notes⟩ (.slice pa pts.length pc) (.slice na notes.length nc) w1 HS1.out.s hcap).mono ?_
  rintro e w2 ⟨v2, rfl, hi, hb⟩
  have HS2 := Lib.hid (HS1.out.up hb)
  clear a0 a1 a2
  have HQ := Lib.hid (ints_eq v1 v2 (proofL ⟨iv, pts, notes⟩) w2 (HI.out.below hb) hi)
  rw [HZ.out]
  clear hi HI
  clear hb HS1
  go_wp2_with fail
  refine HQ.out.mono ?_
  rintro e w3 ⟨rfl, hb⟩
  have HS3 := Lib.hid (HS2.out.up hb)
  clear hb HS2 HQ
  have tz : (z != z) = false := by simp
  have a0 := cellOf HS3.out.a 0 _ rfl
  have a1 := cellOf HS3.out.a 1 _ rfl
  have a2 := cellOf HS3.out.a 2 _ rfl
  go_wp2_with fail
  refine (Wrong_any ⟨iv, pts, notes⟩ (.slice pa pts.length pc) (.slice na notes.length nc) w3 HS3.out.s).mono ?_
  rintro e w4 ⟨v3, rfl, hown, hb⟩
  have HS4 := Lib.hid (HS3.out.up hb)
  clear a0 a1 a2
  have hle : (wrongL ⟨iv, pts, notes⟩).length ≤ notes.length := wrongL_le ⟨iv, pts, notes⟩
  have HI := Lib.hid (intsAt_own hown (by omega))
  obtain ⟨y, HY⟩ : ∃ y, Hid (errS ⟨iv, pts, notes⟩ = y) := ⟨_, rfl⟩
  rw [HY.out]
  clear hown hle
  clear hb HS3
  have a0 := cellOf HS4.out.a 0 _ rfl
  have a1 := cellOf HS4.out.a 1 _ rfl
  have a2 := cellOf HS4.out.a 2 _ rfl
  go_wp2_with fail
  refine (rwrong_any ⟨iv, pts, notes⟩ (.slice pa pts.length pc) (.slice na notes.length nc) w4 HS4.out.s hcap).mono ?_
  rintro e w5 ⟨v4, rfl, hi, hb⟩
  have HS5 := Lib.hid (HS4.out.up hb)
  clear a0 a1 a2
  have HQ := Lib.hid (ints_eq v3 v4 (wrongL ⟨iv, pts, notes⟩) w5 (HI.out.below hb) hi)
  rw [HY.out]
  clear hi HI
  clear hb HS4
  go_wp2_with fail
  refine HQ.out.mono ?_
  rintro e w6 ⟨rfl, hb⟩
  have HS6 := Lib.hid (HS5.out.up hb)
  clear hb HS5 HQ
  have ty : (y != y) = false := by simp
  have a0 := cellOf HS6.out.a 0 _ rfl
  have a1 := cellOf HS6.out.a 1 _ rfl
  have a2 := cellOf HS6.out.a 2 _ rfl
  go_wp2_with fail
  refine (Wider_any ⟨iv, pts, notes⟩ (.slice pa pts.length pc) (.slice na notes.length nc) w6 HS6.out.s).mono ?_
  rintro e w7 ⟨r1, rfl, hp1, hb⟩
  have HS7 := Lib.hid (HS6.out.up hb)
  clear a0 a1 a2
  have HP1 := Lib.hid hp1
  rw [HY.out]
  clear hp1
  clear hb HS6
  have a0 := cellOf HS7.out.a 0 _ rfl
  have a1 := cellOf HS7.out.a 1 _ rfl
  have a2 := cellOf HS7.out.a 2 _ rfl
  go_wp2_with fail
  refine (rwider_any ⟨iv, pts, notes⟩ (.slice pa pts.length pc) (.slice na notes.length nc) w7 HS7.out.s hcap).mono ?_
  rintro e w8 ⟨r2, rfl, hp2, hb⟩
  have HS8 := Lib.hid (HS7.out.up hb)
  clear a0 a1 a2
  have hrr : r2 = r1 := by
    have hp1 := HP1.out
    unfold WidPost at hp1 hp2
    split at hp1
    · rename_i h
      rw [if_pos h] at hp2
      exact WidIs.unique (fun _ => rfl) hp2 hp1
    · rename_i h
      rw [if_neg h] at hp2
      rw [hp1, hp2]
  subst hrr
  rw [HY.out]
  clear hp2 HP1
  clear hb HS7
  have t1 : ((r2 : Int) == (r2 : Int)) = true := by simp
  have t2 : (y == y) = true := by simp
  go_wp2_with fail
  refine (awake_any _ HS8.out.T).mono ?_
  rintro e wA ⟨rfl, hb⟩
  have HBA := Lib.hid (HS8.out.B.trans (hb.mono HS8.out.B.size))
  clear hb
  go_wp2
  go_ret
  exact ⟨rfl, HBA.out⟩
end Go.Proofs.YtpmnnomeaaaenaaGreatDoor
