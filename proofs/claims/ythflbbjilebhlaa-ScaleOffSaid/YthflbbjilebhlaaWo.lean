/- The reference of scale: Every. -/
import Derived.Test.YthflbbjilebhlaaWb
import Derived.Test.YthflbbjilebhlaaUn
set_option linter.unusedSimpArgs false
set_option linter.unusedVariables false
namespace Go.Proofs.Ythflbbjilebhlaa
open Go Go.RowKit Go.Shelf Sc

def evP (p : Nat) : Scl := (((p / 30 + 1 : Nat) : Int), ((p % 30 + 1 : Nat) : Int))
/-- All scales, by up, then down. -/
def everyTo (n : Nat) : List Scl := ((List.range n).map evP).filter fun s => !comB s.1 s.2
def everyL : List Scl := everyTo 900
def scsL (l : List Scl) : List Value := l.flatMap fun s => [.int .i64 s.1, .int .i64 s.2]
theorem scsL_len (l : List Scl) : (scsL l).length = l.length * 2 := by
  induction l with
  | nil => rfl
  | cons s l ih =>
    have e : scsL (s :: l) = .int .i64 s.1 :: .int .i64 s.2 :: scsL l := by simp [scsL]
    rw [e, List.length_cons, List.length_cons, ih, List.length_cons]
    omega
theorem evP_at (a b : Nat) (h : b < 30) : evP (a * 30 + b) = (((a + 1 : Nat) : Int), ((b + 1 : Nat) : Int)) := by
  unfold evP
  rw [show (a * 30 + b) / 30 = a by omega, show (a * 30 + b) % 30 = b by omega]
theorem everyTo_no {n : Nat} (h : comB (evP n).1 (evP n).2 = true) : everyTo (n + 1) = everyTo n := by
  unfold everyTo
  rw [List.range_succ, List.map_append, List.filter_append]
  simp [h]
theorem everyTo_yes {n : Nat} (h : comB (evP n).1 (evP n).2 = false) : everyTo (n + 1) = everyTo n ++ [evP n] := by
  unfold everyTo
  rw [List.range_succ, List.map_append, List.filter_append]
  simp [h]
theorem everyTo_len (n : Nat) : (everyTo n).length ≤ n := by
  unfold everyTo
  exact Nat.le_trans (List.length_filter_le _ _) (by simp)
theorem scInfo : (Try.prog.info? 27).map (fun i => (i.zero, i.size, i.bytes)) = some (some (.agg #[.int .i64 0, .int .i64 0]), 2, 16) := by kernel_rfl
theorem scsL_get (l : List Scl) : ∀ k (h : k < l.length), (scsL l)[k * 2]? = some (.int .i64 l[k].1) ∧ (scsL l)[k * 2 + 1]? = some (.int .i64 l[k].2) := by
  induction l with
  | nil => intro k h; simp at h
  | cons s l ih =>
    intro k h
    have e : scsL (s :: l) = .int .i64 s.1 :: .int .i64 s.2 :: scsL l := by simp [scsL]
    rw [e]
    cases k with
    | zero => simp
    | succ k =>
      have := ih k (by simpa using h)
      rw [show (k + 1) * 2 = k * 2 + 1 + 1 by omega]
      simpa using this
theorem pairs_own {w : World} {base : Nat} {v : Value} {l : List Scl} (h : w.ownsRow base 27 2 v l.length (scsL l)) (hl : l.length ≤ 4611686018427387904) : PairsAt w v l := by
  rcases h.2 with ⟨rfl, h0⟩ | ⟨g, cap, cur, rfl, hb, hg, hnc, hcm, hcs, htake⟩
  · have : l = [] := List.length_eq_zero_iff.1 h0
    subst this
    exact ⟨by simp, none, 0, rfl, by simp, fun hne => absurd rfl hne⟩
  · refine ⟨hl, _, cap, rfl, hnc, fun _ => ⟨g, 0, rfl, fun k hk => ?_⟩⟩
    rw [Nat.zero_add]
    obtain ⟨h1, h2⟩ := scsL_get l k hk
    have hlen := scsL_len l
    have a1 := h.cellAt (k * 2) (by omega)
    have a2 := h.cellAt (k * 2 + 1) (by omega)
    rw [a1, a2]
    exact ⟨h1, h2⟩
set_option maxRecDepth 100000 in
set_option maxHeartbeats 8000000 in
theorem rEvery_any (w : World) :
    Calls Try.prog 69 #[] w fun e w' => ∃ v, e = .returned v ∧ w'.ownsRow w.heap.size 27 2 v everyL.length (scsL everyL) ∧ Below w.heap.size w w' := by
  go_enter Try.func69, Try.ntmps69
  go_wp2
  go_loopg [1, 2, 3] 30 (fun g v1 i _ wr => ∃ (a q : Nat) (a1 : Option Addr) (c1 : Nat), g + a = 30 ∧ i = .int .i64 ((a + 1 : Nat) : Int) ∧ v1 = .slice a1 q c1 ∧ Hid ((everyTo (a * 30)).length = q) ∧ Hid (wr.ownsRow w.heap.size 27 2 (.slice a1 q c1) q (scsL (everyTo (a * 30)))) ∧ Hid (Below w.heap.size w wr))
  case atStart => exact ⟨0, 0, none, 0, by omega, rfl, rfl, rfl, World.ownsRow_nil .., Below.refl _ _⟩
  case round =>
    obtain ⟨a, q, a1, c1, hk, rfl, rfl, HQ, HO, HL⟩ := hrel
    by_cases hlt : a < 30
    · obtain ⟨g', rfl⟩ : ∃ g', gk = g' + 1 := ⟨gk - 1, by omega⟩
      have aI : ((a + 1 : Nat) : Int) ≤ 30 := by omega
      have a1I : (1 : Int) ≤ ((a + 1 : Nat) : Int) := by omega
      obtain ⟨u, hu⟩ : ∃ u : Int, ((a + 1 : Nat) : Int) = u := ⟨_, rfl⟩
      have HU := Lib.hid hu
      rw [hu] at aI a1I ⊢
      clear hu
      go_wp2
      go_loopg [1, 3] 30 (fun g v1 i wr => ∃ (b q : Nat) (a1 : Option Addr) (c1 : Nat), g + b = 30 ∧ i = .int .i64 ((b + 1 : Nat) : Int) ∧ v1 = .slice a1 q c1 ∧ Hid ((everyTo (a * 30 + b)).length = q) ∧ Hid (wr.ownsRow w.heap.size 27 2 (.slice a1 q c1) q (scsL (everyTo (a * 30 + b)))) ∧ Hid (Below w.heap.size w wr))
      case atStart => exact ⟨0, q, a1, c1, by omega, rfl, rfl, HQ, HO, HL⟩
      case round =>
        obtain ⟨b, q, a1, c1, hb, rfl, rfl, HQ, HO, HL⟩ := hrel
        by_cases hbt : b < 30
        · have bI : ((b + 1 : Nat) : Int) ≤ 30 := by omega
          have b1I : (1 : Int) ≤ ((b + 1 : Nat) : Int) := by omega
          have hev := evP_at a b hbt
          rw [HU.out] at hev
          obtain ⟨d, hd⟩ : ∃ d : Int, ((b + 1 : Nat) : Int) = d := ⟨_, rfl⟩
          have HD := Lib.hid hd
          rw [hd] at bI b1I hev ⊢
          clear hd
          have hcall := rcommon_any u d wr ⟨a1I, aI⟩ ⟨b1I, bI⟩
          obtain ⟨cb, hcb⟩ : ∃ x, comB u d = x := ⟨_, rfl⟩
          rw [hcb] at hcall
          have HCB : Hid (comB (evP (a * 30 + b)).1 (evP (a * 30 + b)).2 = cb) := by show _ = _; rw [hev]; exact hcb
          have HEV := Lib.hid hev
          have HCL := Lib.hid hcall
          have wd : IntKind.i64.wrap (d + 1) = d + 1 := by rw [IntKind.wrap_i64] <;> omega
          clear hcall hcb hev
          go_wp2_with fail
          refine HCL.out.mono ?_
          rintro e wx ⟨rfl, rfl⟩
          cases cb
          · have HY := Lib.hid (everyTo_yes HCB.out)
            rw [HEV.out] at HY
            have hq9 : q ≤ 900 := by rw [← HQ.out]; exact Nat.le_trans (everyTo_len _) (by omega)
            have hba : Below wr.heap.size wr (wr.alloc (Obj.cells #[.int .i64 u, .int .i64 d] 27)) := by go_grown
            have HBA := Lib.hid hba
            have hs8 : w.heap.size ≤ (wr.alloc (Obj.cells #[.int .i64 u, .int .i64 d] 27)).heap.size := by have := HL.out.size; have := hba.size; omega
            have hc2 : ∀ j x, [Value.int .i64 u, Value.int .i64 d][j]? = some x → (wr.alloc (Obj.cells #[.int .i64 u, .int .i64 d] 27)).cell? ⟨wr.heap.size, 0 + j, none⟩ = some x := fun j x hx => by
              rw [Nat.zero_add]
              exact cellOf (heap_alloc_new wr (Obj.cells #[.int .i64 u, .int .i64 d] 27)) j x (by simpa using hx)
            have HC2 := Lib.hid hc2
            clear hba hc2
            go_wp2_with (at_builtin; refine wpl_appS rfl _ _ 42 27 rfl Try.underlying42 _ 2 16 scInfo rfl (by decide) w.heap.size q _ _ wr.heap.size 0 1 [.int .i64 u, .int .i64 d] rfl rfl (own_below HO.out HBA.out) rfl HC2.out (by intro x hx; simp at hx; rcases hx with rfl | rfl <;> rfl) hs8 (by unfold maxLen; omega) (by omega) ?_)
            intro v' w8 hown8 hg8 _
            have L8 : Hid (Below w.heap.size w w8) := (HL.out.trans (HBA.out.mono HL.out.size)).grown hg8 hs8 (fun g hg => (HO.out.lt g hg).1)
            obtain ⟨va, vc, rfl⟩ := own_slice hown8
            have O8 : Hid (w8.ownsRow w.heap.size 27 2 (.slice va (q + 1) vc) (q + 1) (scsL (everyTo (a * 30 + (b + 1))))) := by
              show World.ownsRow ..
              rw [show a * 30 + (b + 1) = a * 30 + b + 1 by omega, HY.out]
              unfold scsL at hown8 ⊢
              rw [List.flatMap_append]
              exact hown8
            have Q8 : Hid ((everyTo (a * 30 + (b + 1))).length = q + 1) := by show _ = _; rw [show a * 30 + (b + 1) = a * 30 + b + 1 by omega, HY.out, List.length_append, HQ.out]; rfl
            clear hown8 hg8
            go_wp2_with fail
            go_roundg (gk - 1)
            case measure => omega
            case rel => exact ⟨b + 1, q + 1, va, vc, by omega, by rw [← HD.out]; go_num, rfl, Q8, O8, L8⟩
          · have hno := everyTo_no HCB.out
            have O8 : Hid (wr.ownsRow w.heap.size 27 2 (.slice a1 q c1) q (scsL (everyTo (a * 30 + (b + 1))))) := by show World.ownsRow ..; rw [show a * 30 + (b + 1) = a * 30 + b + 1 by omega, hno]; exact HO.out
            have Q8 : Hid ((everyTo (a * 30 + (b + 1))).length = q) := by show _ = _; rw [show a * 30 + (b + 1) = a * 30 + b + 1 by omega, hno]; exact HQ.out
            clear hno
            go_wp2_with fail
            go_roundg (gk - 1)
            case measure => omega
            case rel => exact ⟨b + 1, q, a1, c1, by omega, by rw [← HD.out]; go_num, rfl, Q8, O8, HL⟩
        · obtain rfl : b = 30 := by omega
          have bI : ¬ (((30 + 1 : Nat) : Int) ≤ 30) := by omega
          have O8 : Hid (wr.ownsRow w.heap.size 27 2 (.slice a1 q c1) q (scsL (everyTo ((a + 1) * 30)))) := by show World.ownsRow ..; rw [show (a + 1) * 30 = a * 30 + 30 by omega]; exact HO.out
          have Q8 : Hid ((everyTo ((a + 1) * 30)).length = q) := by show _ = _; rw [show (a + 1) * 30 = a * 30 + 30 by omega]; exact HQ.out
          have wu : IntKind.i64.wrap (u + 1) = u + 1 := by rw [IntKind.wrap_i64] <;> omega
          have L8 := Lib.hid HL.out
          clear HO HQ HL hbt hb
          go_wp2
          go_roundg g'
          case measure => omega
          case rel => exact ⟨a + 1, q, a1, c1, by omega, by rw [← HU.out]; go_num, rfl, Q8, O8, L8⟩
    · obtain rfl : a = 30 := by omega
      have aI : ¬ (((30 + 1 : Nat) : Int) ≤ 30) := by omega
      have O8 : Hid (wr.ownsRow w.heap.size 27 2 (.slice a1 q c1) everyL.length (scsL everyL)) := by
        have h := HO.out
        have e : everyL.length = q := HQ.out
        show World.ownsRow ..
        rw [e]
        exact h
      have L8 := Lib.hid HL.out
      clear hlt hk HO HL
      go_wp2
      go_ret
      exact ⟨_, rfl, O8.out, L8.out⟩
end Go.Proofs.Ythflbbjilebhlaa
