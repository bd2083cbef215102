/- Package scale: the error of marks. -/
import Derived.Test.YthflbbjilebhlaaUd
set_option linter.unusedSimpArgs false
set_option linter.unusedVariables false
namespace Go.Proofs.Ythflbbjilebhlaa
open Go Go.RowKit Sc

set_option maxRecDepth 100000 in
set_option maxHeartbeats 4000000 in
theorem markFault_any (m : Mrk) (n : Nat) (w : World) (hn : n ≤ 8) :
    Calls Try.prog 103 #[.agg #[.int .i64 m.pt, .int .i64 m.lo, .int .i64 m.hi], .int .i64 n] w fun e w' => e = .returned (.int .i64 (mrkE n m)) ∧ Below w.heap.size w w' := by
  obtain ⟨p, lo, hi⟩ := m
  simp only
  have hB : Below w.heap.size w (w.alloc (Obj.cells #[.int .i64 p, .int .i64 lo, .int .i64 hi] 53)) := by go_grown
  have HB := Lib.hid hB
  have HG := Lib.hid (heap_alloc_new w (Obj.cells #[.int .i64 p, .int .i64 lo, .int .i64 hi] 53))
  have HE : Hid (mrkE n ⟨p, lo, hi⟩ = if inB 0 ((n : Int) - 1) p = false then 4 else if inB 0 100000 lo = false ∨ inB 0 100000 hi = false then 7 else if hi < lo then 2 else 0) := rfl
  have nI : (n : Int) ≤ 8 := by omega
  clear hB
  go_enter Try.func103, Try.ntmps103
  go_wp2_with fail
  have hsz : w.heap.size + 1 = (w.alloc (Obj.cells #[.int .i64 p, .int .i64 lo, .int .i64 hi] 53)).heap.size := by simp
  generalize w.alloc (Obj.cells #[.int .i64 p, .int .i64 lo, .int .i64 hi] 53) = w0 at *
  have h1 := within_1 0 ((n : Int) - 1) p w0 (w.heap.size + 1) 3 hsz
  obtain ⟨B1, hB1⟩ : ∃ B, okIn 0 ((n : Int) - 1) p = B := ⟨_, rfl⟩
  have e1 : inB 0 ((n : Int) - 1) p = B1 := hB1
  rw [hB1] at h1
  rw [e1] at HE
  have HC1 := Lib.hid h1
  clear h1 hB1 e1 hsz
  refine HC1.out.mono ?_
  rintro e w1 ⟨rfl, rfl⟩
  clear HC1
  have hb1 : Below w0.heap.size w0 (w0.alloc (Obj.cells #[.int .i64 p] 3)) := by go_grown
  have HB1 := Lib.hid (HB.out.trans (hb1.mono HB.out.size))
  have HG1 := Lib.hid ((hb1.block _ (lt_of_block HG.out)).trans HG.out)
  generalize w0.alloc (Obj.cells #[.int .i64 p] 3) = w1 at *
  clear hb1 HB HG
  cases B1
  · rw [if_pos rfl] at HE
    go_wp2_with fail
    go_ret
    exact ⟨by rw [HE.out]; rfl, HB1.out⟩
  · rw [if_neg (by simp)] at HE
    have g1 := cellOf HG1.out 1 _ rfl
    have g2 := cellOf HG1.out 2 _ rfl
    have gl := lt_of_block HG1.out
    have h1 := within_2 0 100000 lo hi w1 w1.heap.size 3 rfl
    obtain ⟨B2, hB2⟩ : ∃ B, okIn 0 100000 lo = B := ⟨_, rfl⟩
    obtain ⟨B3, hB3⟩ : ∃ B, okIn 0 100000 hi = B := ⟨_, rfl⟩
    have e2 : inB 0 100000 lo = B2 := hB2
    have e3 : inB 0 100000 hi = B3 := hB3
    rw [hB2, hB3] at h1
    rw [e2, e3] at HE
    have HC1 := Lib.hid h1
    clear h1 hB2 hB3 e2 e3
    go_wp2_with fail
    refine HC1.out.mono ?_
    rintro e w2 ⟨rfl, rfl⟩
    have hb1 : Below w1.heap.size w1 (w1.alloc (Obj.cells #[.int .i64 lo, .int .i64 hi] 3)) := by go_grown
    have HB2 := Lib.hid (HB1.out.trans (hb1.mono HB1.out.size))
    have HG2 := Lib.hid ((hb1.block _ (lt_of_block HG1.out)).trans HG1.out)
    generalize w1.alloc (Obj.cells #[.int .i64 lo, .int .i64 hi] 3) = w2 at *
    clear hb1 HB1 HG1 HC1 g1 g2 gl
    by_cases hbb : (B2 && B3) = false
    · have hor : B2 = false ∨ B3 = false := by revert hbb; cases B2 <;> cases B3 <;> simp
      rw [if_pos hor] at HE
      rw [hbb]
      clear hor hbb
      go_wp2_with fail
      go_ret
      exact ⟨by rw [HE.out]; rfl, HB2.out⟩
    · have hbt : (B2 && B3) = true := by simpa using hbb
      have hor : ¬ (B2 = false ∨ B3 = false) := by revert hbb; cases B2 <;> cases B3 <;> simp
      rw [if_neg hor] at HE
      rw [hbt]
      clear hor hbb hbt
      have g1 := cellOf HG2.out 1 _ rfl
      have g2 := cellOf HG2.out 2 _ rfl
      have gl := lt_of_block HG2.out
      by_cases hab : hi < lo
      · rw [if_pos hab] at HE
        go_wp2_with fail
        go_ret
        exact ⟨by rw [HE.out]; rfl, HB2.out⟩
      · rw [if_neg hab] at HE
        go_wp2_with fail
        go_ret
        exact ⟨by rw [HE.out]; rfl, HB2.out⟩
theorem mksGo_drop (n : Nat) (l : List Mrk) (k : Nat) (hk : k < l.length) : mksGo n (l.drop k) = if mrkE n l[k] = 0 then mksGo n (l.drop (k + 1)) else mrkE n l[k] := by
  rw [List.drop_eq_getElem_cons hk]
  rfl
set_option maxRecDepth 100000 in
set_option maxHeartbeats 4000000 in
theorem marksFault_any (v : Value) (l : List Mrk) (n : Nat) (w : World) (hv : MrksAt w v l) (hn : n ≤ 8) :
    Calls Try.prog 75 #[v, .int .i64 n] w fun e w' => e = .returned (.int .i64 (mksE n l)) ∧ Below w.heap.size w w' := by
  obtain ⟨lm, a, cap, rfl, _⟩ := id hv
  obtain ⟨m, hm⟩ : ∃ m, l.length = m := ⟨_, rfl⟩
  have HN := Lib.hid hm
  have HV := Lib.hid hv
  obtain ⟨R, hR⟩ : ∃ R, mksGo n l = R := ⟨_, rfl⟩
  have HR0 : Hid (mksGo n (l.drop 0) = R) := hR
  have HE : Hid (mksE n l = if 8 < m then 3 else R) := by show _ = _; unfold mksE; rw [hm, hR]
  rw [HE.out]
  rw [hm] at lm HV ⊢
  have lmI : (m : Int) ≤ 4611686018427387904 := by omega
  clear hv hR hm
  by_cases h8 : 8 < m
  · have h8I : (8 : Int) < (m : Int) := by omega
    rw [if_pos h8]
    clear h8
    go_enter Try.func75, Try.ntmps75
    go_wp2_with fail
    go_ret
    exact ⟨rfl, Below.refl _ _⟩
  · have h8I : ¬ (8 : Int) < (m : Int) := by omega
    rw [if_neg h8]
    clear h8
    go_enter Try.func75, Try.ntmps75
    go_wp2_with fail
    clear h8I
    go_loopg [13] m (fun g v wr => ∃ k : Nat, g + k = m ∧ v = .int .i64 k ∧ Hid (mksGo n (l.drop k) = R) ∧ Hid (Below w.heap.size w wr))
    case atStart => exact ⟨0, by omega, rfl, HR0, Below.refl _ _⟩
    case round =>
      obtain ⟨k, hk, rfl, HR, HL⟩ := hrel
      by_cases hkm : k < m
      · have kI : (k : Int) < (m : Int) := by omega
        have hk' : k < l.length := by rw [HN.out]; exact hkm
        obtain ⟨b, o, rfl, c0, c1, c2⟩ := (HV.out.below HL.out).get hk'
        have HD := Lib.hid (mksGo_drop n l k hk')
        generalize l[k] = x at *
        obtain ⟨p, lo, hi⟩ := x
        simp only at c0 c1 c2
        have hpb := World.block_lt_of_cell? wr ⟨b, o + k * 3, none⟩ c0
        have hba : Below wr.heap.size wr (wr.alloc (Obj.cells #[.int .i64 p, .int .i64 lo, .int .i64 hi] 53)) := by go_grown
        have h1 := markFault_any ⟨p, lo, hi⟩ n (wr.alloc (Obj.cells #[.int .i64 p, .int .i64 lo, .int .i64 hi] 53)) hn
        obtain ⟨er, her⟩ : ∃ er, mrkE n ⟨p, lo, hi⟩ = er := ⟨_, rfl⟩
        rw [her] at h1 HD
        have HC := Lib.hid h1
        have HBA := Lib.hid (HL.out.trans (hba.mono HL.out.size))
        clear h1 her hba
        go_wp2_with fail
        refine HC.out.mono ?_
        rintro e w2 ⟨rfl, hb⟩
        have HB2 := Lib.hid (HBA.out.trans (hb.mono HBA.out.size))
        clear hb HC c0 c1 c2 hpb HBA
        by_cases he : er = 0
        · subst he
          rw [if_pos rfl] at HD
          have HR2 : Hid (mksGo n (l.drop (k + 1)) = R) := HD.out.symm.trans HR.out
          clear HD
          go_wp2_with fail
          go_roundg (gk - 1)
          case measure => omega
          case rel => exact ⟨k + 1, by omega, by go_num, HR2, HB2⟩
        · have te : (er != 0) = true := by simp [he]
          rw [if_neg he] at HD
          obtain rfl : er = R := HD.out.symm.trans HR.out
          go_wp2_with fail
          go_ret
          exact ⟨rfl, HB2.out⟩
      · have e : l.drop k = [] := List.drop_of_length_le (by have := HN.out; omega)
        rw [e] at HR
        obtain rfl : 0 = R := HR.out
        have kI : ¬ (k : Int) < (m : Int) := by omega
        clear e hkm hk
        go_wp2_with fail
        go_ret
        exact ⟨rfl, HL.out⟩
end Go.Proofs.Ythflbbjilebhlaa
