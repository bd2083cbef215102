/- Package edge: what is read of a case that is looked at: torn, dearest, anyTorn, unsigned, tooLow, cost, firstApart. -/
import Derived.Test.YtojdocomkhihoaaEx
set_option linter.unusedSimpArgs false
set_option linter.unusedVariables false
namespace Go.Proofs.Ytojdocomkhihoaa
open Go Go.RowKit Ed

theorem torn_any (lo hi : Int) (w : World) : Calls Try.prog 55 #[.agg #[.int .i64 lo, .int .i64 hi]] w fun e w' => e = .returned (.bool (decide (hi < lo))) ∧ Below w.heap.size w w' := by
  go_enter Try.func55, Try.ntmps55
  go_wp2
  go_ret
  exact ⟨rfl, by go_grown⟩
theorem unsigned_any (n : Int) (h1 : -1000000 ≤ n) (h2 : n ≤ 1000000) (w : World) : Calls Try.prog 85 #[.int .i64 n] w fun e w' => e = .returned (.int .i64 (max n (-n))) ∧ w = w' := by
  by_cases h : -n ≤ n
  · have e : max n (-n) = n := by omega
    rw [e]
    go_enter Try.func85, Try.ntmps85
    go_wp2
    go_ret
    exact ⟨rfl, rfl⟩
  · have e : max n (-n) = -n := by omega
    rw [e]
    go_enter Try.func85, Try.ntmps85
    go_wp2
    go_ret
    exact ⟨rfl, rfl⟩
/-- What the first sheets cost, changed by their Most. -/
def dearK (l : List Sht) (k : Nat) : Int := ((l.take k).map fun s => s.wt * s.most).sum
theorem dearK_succ (l : List Sht) (k : Nat) (h : k < l.length) : dearK l (k + 1) = dearK l k + l[k].wt * l[k].most := by
  unfold dearK
  rw [List.take_succ_eq_append_getElem h, List.map_append, List.sum_append]
  simp
theorem mul_bd {a b A B : Int} (a0 : 0 ≤ a) (ab : a ≤ A) (b0 : 0 ≤ b) (bb : b ≤ B) : 0 ≤ a * b ∧ a * b ≤ A * B :=
  ⟨Int.mul_nonneg a0 b0, Int.mul_le_mul ab bb b0 (by omega)⟩
theorem dearK_bd (l : List Sht) (hl : ∀ s, s ∈ l → ShtOk s) : ∀ k, k ≤ l.length → 0 ≤ dearK l k ∧ dearK l k ≤ 120 * k := by
  intro k
  induction k with
  | zero => intro _; simp [dearK]
  | succ k ih =>
    intro hk
    have h1 := ih (by omega)
    have h2 := hl l[k] (List.getElem_mem (by omega))
    have h3 := mul_bd h2.w0 h2.w20 h2.m0 h2.m6
    rw [dearK_succ l k (by omega)]
    push_cast
    omega
def dearC (c : Cas) : Int := dearK c.shs c.shs.length
set_option maxRecDepth 100000 in
set_option maxHeartbeats 4000000 in
theorem dearest_any (c : Cas) (sv ev : Value) (ws : List Int) (w : World) (hC : CasAt w c sv ev) (hv : Valid c) :
    Calls Try.prog 98 #[.agg (lkC c.tol sv ev ws)] w fun e w' => e = .returned (.int .i64 (dearC c)) ∧ Below w.heap.size w w' := by
  obtain ⟨tol, shs, eds⟩ := c
  obtain ⟨hS, hE⟩ := hC
  simp only at hS hE ⊢
  obtain ⟨ls, sa, sc, rfl, lsc, hsn, _⟩ := id hS
  have n5 : shs.length ≤ 5 := hv.n5
  have HOK := Lib.hid hv.sh
  have HD : Hid (dearC ⟨tol, shs, eds⟩ = dearK shs shs.length) := rfl
  rw [HD.out]
  obtain ⟨n, hn⟩ : ∃ n, shs.length = n := ⟨_, rfl⟩
  rw [hn] at ls lsc hS n5 ⊢
  have HNN := Lib.hid hn
  have HS := Lib.hid hS
  have nI : (n : Int) ≤ 5 := by omega
  clear hS hE hv hn HD hsn
  go_enter Try.func98, Try.ntmps98
  have K : LkBlk (w.alloc (Obj.cells (lkC tol (.slice sa n sc) ev ws) 89)) w.heap.size tol (.slice sa n sc) ev ws := heap_alloc_new w _
  have c1 := K.c1
  have HB : Hid (Below w.heap.size w (w.alloc (Obj.cells (lkC tol (.slice sa n sc) ev ws) 89))) := (Below.refl _ _).alloc (Nat.le_refl _) _
  clear K
  go_wp2_with fail
  clear c1
  generalize w.alloc (Obj.cells (lkC tol (.slice sa n sc) ev ws) 89) = W at *
  go_loopg [3, 10] n (fun g u v wr => ∃ k : Nat, g + k = n ∧ v = .int .i64 k ∧ u = .int .i64 (dearK shs k) ∧ Hid (Below W.heap.size W wr))
  case atStart => exact ⟨0, by omega, rfl, rfl, Below.refl _ _⟩
  case round =>
    obtain ⟨k, hk, rfl, rfl, HL⟩ := hrel
    by_cases hkn : k < n
    · have kI : (k : Int) < (n : Int) := by omega
      have hk' : k < shs.length := by rw [HNN.out]; exact hkn
      obtain ⟨sb, so, rfl, d0, d1, d2⟩ := ((HS.out.below HB.out).below HL.out).get hk'
      have hbd := dearK_bd shs HOK.out k (by omega)
      have hok := HOK.out shs[k] (List.getElem_mem hk')
      have HST := Lib.hid (dearK_succ shs k hk')
      have hmb := mul_bd hok.w0 hok.w20 hok.m0 hok.m6
      generalize dearK shs k = D at *
      generalize shs[k] = s at *
      obtain ⟨nm, wt, most⟩ := s
      simp only at d0 d1 d2 hmb HST
      obtain ⟨w0', w20, m0, m6⟩ := hok
      simp only at w0' w20 m0 m6
      obtain ⟨pr, hpr⟩ : ∃ p, wt * most = p := ⟨_, rfl⟩
      rw [hpr] at hmb HST
      have s1 : IntKind.i64.wrap (wt * most) = pr := by rw [hpr, IntKind.wrap_i64] <;> omega
      have hsl := World.block_lt_of_cell? wr ⟨sb, so + k * 3, none⟩ d0
      have HL2 : Hid (Below W.heap.size W (wr.alloc (Obj.cells #[.string nm, .int .i64 wt, .int .i64 most] 66))) := HL.out.alloc HL.out.size _
      clear hpr hk'
      go_wp2
      go_roundg (gk - 1)
      case measure => omega
      case rel => exact ⟨k + 1, by omega, by go_num, by rw [HST.out], HL2⟩
    · obtain rfl : k = n := by omega
      have kI : ¬ (k : Int) < (k : Int) := by omega
      clear hkn hk
      go_wp2
      go_ret
      exact ⟨rfl, HB.out.trans (HL.out.mono HB.out.size)⟩
end Go.Proofs.Ytojdocomkhihoaa
