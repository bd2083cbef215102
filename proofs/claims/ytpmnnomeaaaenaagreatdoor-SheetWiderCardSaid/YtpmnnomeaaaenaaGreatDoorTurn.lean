/- The statements' function turn: the n-th number of a list, by turns. -/
import Derived.Test.YtpmnnomeaaaenaaGreatDoorSol
import Derived.Test.YtpmnnomeaaaenaaGreatDoorArg
import Derived.Test.YtpmnnomeaaaenaaGreatDoorFew
import Derived.OwnWalk
import Derived.Laws.AppendOwn
set_option linter.unusedSimpArgs false
set_option linter.unusedVariables false
namespace Go.Proofs.YtpmnnomeaaaenaaGreatDoor
open Go Go.RowKit Hs

/-- A value reads as a list of numbers of 16 bits. -/
def U16At (w : World) (v : Value) (l : List Nat) : Prop :=
  l.length ≤ 4611686018427387904 ∧ ∃ a cap, v = .slice a l.length cap ∧ (l ≠ [] → ∃ b o, a = some ⟨b, o, none⟩ ∧ ∀ k, k < l.length → w.cell? ⟨b, o + k, none⟩ = some (.int .u16 (l.getD k 0)) ∧ l.getD k 0 ≤ 65535)
theorem U16At.below {w w' : World} {v : Value} {l : List Nat} (h : U16At w v l) (hb : Below w.heap.size w w') : U16At w' v l := by
  obtain ⟨h1, a, cap, rfl, h2⟩ := h
  refine ⟨h1, a, cap, rfl, fun hne => ?_⟩
  obtain ⟨b, o, rfl, hc⟩ := h2 hne
  exact ⟨b, o, rfl, fun k hk => ⟨(hb.cell (p := ⟨b, o + k, none⟩) (World.block_lt_of_cell? w _ (hc k hk).1)).trans (hc k hk).1, (hc k hk).2⟩⟩
def turnS (l : List Nat) (n : Nat) : Nat := if l = [] then 0 else l.getD (n % l.length) 0
theorem turnS_le {w : World} {v : Value} {l : List Nat} (h : U16At w v l) (n : Nat) : turnS l n ≤ 65535 := by
  unfold turnS
  split
  · omega
  · rename_i hne
    obtain ⟨_, a, cap, rfl, h2⟩ := h
    obtain ⟨b, o, _, hc⟩ := h2 hne
    exact (hc _ (Nat.mod_lt _ (List.length_pos_iff.2 hne))).2
theorem tmod_nat (x n : Nat) : ((x : Int)).tmod (n : Int) = ((x % n : Nat) : Int) := by
  rw [Int.tmod_eq_emod_of_nonneg (by omega)]
  exact (Int.natCast_emod x n).symm
set_option maxRecDepth 100000 in
set_option maxHeartbeats 1000000 in
theorem turn_any (v : Value) (l : List Nat) (n : Nat) (w : World) (hv : U16At w v l) (hn : n ≤ 1000) :
    Calls Tryz.prog 51 #[v, .int .i64 n] w fun e w' => e = .returned (.int .i64 (turnS l n)) ∧ w = w' := by
  obtain ⟨hm, a, cap, rfl, hc⟩ := hv
  have hm' : (l.length : Int) ≤ 4611686018427387904 := by omega
  by_cases hl : l = []
  · subst hl
    go_enter Tryz.func51, Tryz.ntmps51
    go_wp2
    go_ret
    exact ⟨rfl, rfl⟩
  · obtain ⟨b, o, rfl, hd⟩ := hc hl
    have hp := List.length_pos_iff.2 hl
    have hlt : n % l.length < l.length := Nat.mod_lt _ hp
    obtain ⟨hck, hle⟩ := hd _ hlt
    have HE : Hid (turnS l n = l.getD (n % l.length) 0) := by show _ = _; unfold turnS; rw [if_neg hl]
    have e1 := tmod_nat n l.length
    generalize n % l.length = k at *
    generalize l.getD k 0 = z at *
    have z0 : ((l.length : Int) == 0) = false := by rw [beq_eq_false_iff_ne]; omega
    have p1 : (1 : Int) ≤ (l.length : Int) := by omega
    have kl : (k : Int) < (l.length : Int) := by omega
    have zl : (z : Int) ≤ 65535 := by omega
    clear hc hd hl
    go_enter Tryz.func51, Tryz.ntmps51
    go_wp2
    go_ret
    exact ⟨by rw [HE.out]; rfl, rfl⟩

/-- The heights of Truth: those of the first k points. -/
def truthS (l : List Nat) (k : Nat) : List Int := (List.range k).map fun i => ((turnS l i % 9001 : Nat) : Int)
theorem truthS_len (l : List Nat) (k : Nat) : (truthS l k).length = k := by simp [truthS]
theorem truthS_succ (l : List Nat) (k : Nat) : truthS l (k + 1) = truthS l k ++ [((turnS l k % 9001 : Nat) : Int)] := by simp [truthS, List.range_succ]
def TruthP (l : List Nat) (np : Nat) (w : World) (e : Ending) (w' : World) : Prop := ∃ v, e = .returned v ∧ IntsAt w' v (truthS l np) ∧ Below w.heap.size w w'
set_option maxRecDepth 100000 in
set_option maxHeartbeats 2000000 in
theorem truth_any (s : Sheet) (pv nv xv : Value) (l : List Nat) (w : World) (hS : SheetAt w.heap.size w pv nv s) (hx : U16At w xv l) (hnp : s.pts.length ≤ 8) :
    Calls Tryz.prog 42 #[.agg #[.int .i64 s.iv, pv, nv], xv] w (TruthP l s.pts.length w) := by
  obtain ⟨i0, hi⟩ := info_of_underlying Tryz.underlying3
  have HI : Hid (i0.zero = some (.int .i64 0) ∧ i0.size = 1 ∧ i0.bytes = 8) := by
    have h := intInfo
    rw [hi] at h
    simp at h
    exact h
  obtain ⟨iv, pts, notes⟩ := s
  obtain ⟨lp, pa, pc, rfl, _⟩ := id hS.pts
  simp only at hnp lp ⊢
  have B0 : Below w.heap.size w (w.alloc (Obj.cells #[.int .i64 iv, .slice pa pts.length pc, nv] 25)) := by go_grown
  have HA := Lib.hid (heap_alloc_new w (Obj.cells #[.int .i64 iv, .slice pa pts.length pc, nv] 25))
  have HX := Lib.hid (hx.below B0)
  have HB := Lib.hid B0
  obtain ⟨_, xa, xc, rfl, _⟩ := id hx
  clear B0 hx hS
  have pI : (pts.length : Int) ≤ 8 := by omega
  go_enter Tryz.func42, Tryz.ntmps42
  go_wp2
  generalize w.alloc (Obj.cells #[.int .i64 iv, .slice pa pts.length pc, nv] 25) = W at *
  have hAlt := lt_of_block HA.out
  go_loopw [5, 6] (fun v i wr => ∃ (k m : Nat) (sa : Option Addr) (sc : Nat), k ≤ pts.length ∧ Hid (m = k) ∧ i = .int .i64 k ∧ v = .slice sa m sc ∧ wr.ownsRow W.heap.size 3 1 v m ((truthS l k).map (Value.int .i64)) ∧ Hid (Below W.heap.size W wr)) (fun _ i _ => pts.length - (intOf i).toNat)
  case atStart => exact ⟨0, 0, none, 0, Nat.zero_le _, rfl, rfl, rfl, World.ownsRow_nil _ _ _ _, Below.refl _ _⟩
  case round =>
    obtain ⟨k, m, sa, sc, hk, hmk, rfl, rfl, hown, HBk⟩ := hrel
    have hAk := (HBk.out.block _ hAlt).trans HA.out
    have a1 := cellOf hAk 1 _ rfl
    have hs2 := HBk.out.size
    by_cases hlt : k < pts.length
    · have kl : (k : Int) < (pts.length : Int) := by omega
      have k8 : (k : Int) ≤ 7 := by omega
      have HTN := Lib.hid (turn_any (.slice xa l.length xc) l k wr (HX.out.below HBk.out) (by omega))
      have hz := turnS_le (HX.out.below HBk.out) k
      have HT : Hid (truthS l (k + 1) = truthS l k ++ [((turnS l k % 9001 : Nat) : Int)]) := truthS_succ l k
      generalize turnS l k = z at *
      have zI : (z : Int) ≤ 65535 := by omega
      have HZ : Hid (((z % 9001 : Nat) : Int) = (z : Int) % 9001) := by show _ = _; omega
      go_wp2_with fail
      refine HTN.out.mono ?_
      rintro e w' ⟨rfl, rfl⟩
      have hownA := hown.alloc (Obj.cells #[.int .i64 ((z : Int) % 9001)] 3)
      clear HTN a1
      go_wp2_with (first
        | (at_builtin; refine wpList_append_own _ rfl _ _ 43 rfl W.heap.size 3 i0 (.int .i64 0) 1 8 Tryz.underlying43 hi HI.out.1 HI.out.2.1 HI.out.2.2 rfl (by decide) _ _ _ rfl hownA ⟨wr.heap.size, 0, none⟩ 1 1 [.int .i64 ((z : Int) % 9001)] rfl rfl ?c1 ?c2 ?c3 ?c4 ?c5 ?_))
      case c1 =>
        intro j u hj
        match j, hj with
        | 0, hj => simp at hj; subst hj; simp [Addr.add]
      case c2 => intro u hu; simp at hu; subst hu; rfl
      case c3 => have := hmk.out; unfold maxLen; omega
      case c4 => have := hmk.out; omega
      case c5 => simp; omega
      · intro v' w3 hown3 hgrow _
        have hB3 : Below W.heap.size W w3 := (HBk.out.alloc hs2 (Obj.cells #[.int .i64 ((z : Int) % 9001)] 3)).grown hgrow (by simp; omega) (fun g hg => (hownA.lt g hg).1)
        obtain ⟨sa', sc', rfl⟩ := own_slice hown3
        have HB3 := Lib.hid hB3
        have HMK : Hid (m + 1 = k + 1) := by show _ = _; rw [hmk.out]
        have ho3 : w3.ownsRow W.heap.size 3 1 (.slice sa' (m + 1) sc') (m + 1) ((truthS l (k + 1)).map (Value.int .i64)) := by
          rw [HT.out, List.map_append, HZ.out]
          exact hown3
        clear hgrow hownA hB3 hown3
        go_wp2
        go_round
        case rel => exact ⟨k + 1, m + 1, sa', sc', by omega, HMK, by go_num, rfl, ho3, HB3⟩
        case measure => simp [intOf]; omega
    · obtain rfl : k = pts.length := by omega
      have hl := truthS_len l pts.length
      have HIN : Hid (IntsAt wr (.slice sa m sc) (truthS l pts.length)) := intsAt_own (by rw [hl, ← hmk.out]; have := hmk.out; subst this; exact hown) (by omega)
      have hBB := Lib.hid (HB.out.trans (HBk.out.mono HB.out.size))
      clear hl
      go_wp2
      go_ret
      exact ⟨_, rfl, HIN.out, hBB.out⟩
end Go.Proofs.YtpmnnomeaaaenaaGreatDoor
