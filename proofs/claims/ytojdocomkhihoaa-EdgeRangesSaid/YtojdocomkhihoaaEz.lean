/- Package edge: anyTorn, tooLow, cost, firstApart. -/
import Derived.Test.YtojdocomkhihoaaEy
import Derived.Deep.QuietTactic
set_option linter.unusedSimpArgs false
set_option linter.unusedVariables false
namespace Go.Proofs.Ytojdocomkhihoaa
open Go Go.RowKit Ed

/-- A span among the numbers of spans. -/
def wL (ws : List Int) (i : Nat) : Int × Int := (ws.getD (i * 2) 0, ws.getD (i * 2 + 1) 0)
theorem LkBlk.span {w : World} {b : Nat} {tol : Int} {sv ev : Value} {ws : List Int} (h : LkBlk w b tol sv ev ws) (i : Nat) (hi : i < 8) (hw : ws.length = 16) : w.cell? ⟨b, 3 + i * 2, none⟩ = some (.int .i64 (wL ws i).1) ∧ w.cell? ⟨b, 3 + i * 2 + 1, none⟩ = some (.int .i64 (wL ws i).2) :=
  ⟨h.cw (i * 2) (by omega), h.cw (i * 2 + 1) (by omega)⟩
def tornK (ws : List Int) (k : Nat) : Bool := (List.range k).any fun i => decide ((wL ws i).2 < (wL ws i).1)
theorem tornK_succ (ws : List Int) (k : Nat) : tornK ws (k + 1) = (tornK ws k || decide ((wL ws k).2 < (wL ws k).1)) := by
  unfold tornK
  rw [List.range_succ, List.any_append]
  simp
theorem tornK_at (ws : List Int) (m k : Nat) (hk : k < m) (h : (wL ws k).2 < (wL ws k).1) : tornK ws m = true := by
  unfold tornK
  rw [List.any_eq_true]
  exact ⟨k, List.mem_range.2 hk, by simp [h]⟩
def lowK (l : List Sht) (x : List Int) (k : Nat) : Bool := (List.range k).any fun i => decide (x.getD i 0 < -(l.getD i default).most)
theorem lowK_succ (l : List Sht) (x : List Int) (k : Nat) : lowK l x (k + 1) = (lowK l x k || decide (x.getD k 0 < -(l.getD k default).most)) := by
  unfold lowK
  rw [List.range_succ, List.any_append]
  simp
theorem lowK_at (l : List Sht) (x : List Int) (m k : Nat) (hk : k < m) (h : x.getD k 0 < -(l.getD k default).most) : lowK l x m = true := by
  unfold lowK
  rw [List.any_eq_true]
  exact ⟨k, List.mem_range.2 hk, by simp only [decide_eq_true_eq]; exact h⟩
def absI (n : Int) : Int := max n (-n)
def costK (l : List Sht) (x : List Int) : Nat → Int
  | 0 => 0
  | k + 1 => costK l x k + (l.getD k default).wt * absI (x.getD k 0)
theorem costK_bd (l : List Sht) (hl : ∀ s, s ∈ l → ShtOk s) (x : List Int) (hx : ∀ i, -1000 ≤ x.getD i 0 ∧ x.getD i 0 ≤ 1000) : ∀ k, k ≤ l.length → 0 ≤ costK l x k ∧ costK l x k ≤ 20000 * k := by
  intro k
  induction k with
  | zero => intro _; simp [costK]
  | succ k ih =>
    intro hk
    have h1 := ih (by omega)
    have e : l.getD k default = l[k] := by simp [List.getD_eq_getElem?_getD, show k < l.length by omega]
    have h2 := hl l[k] (List.getElem_mem (by omega))
    have h4 := hx k
    have h3 := mul_bd (a := l[k].wt) (b := absI (x.getD k 0)) (A := 20) (B := 1000) h2.w0 h2.w20 (by unfold absI; omega) (by unfold absI; omega)
    unfold costK
    rw [e]
    push_cast
    omega
/-- An edge does not agree with changes. -/
def apartB (ws : List Int) (l : List Edg) (x : List Int) (i : Nat) : Bool := !inB (wL ws i).1 (wL ws i).2 (x.getD (l.getD i default).a.toNat 0 - x.getD (l.getD i default).b.toNat 0)
/-- The first one of so many from one on that is so, or -1. -/
def firstB (p : Nat → Bool) : Nat → Nat → Int
  | _, 0 => -1
  | k, g + 1 => if p k then k else firstB p (k + 1) g
theorem firstB_at (p : Nat → Bool) (n k : Nat) (hk : k < n) (h : ∀ j, j < k → p j = false) (hx : p k = true) : firstB p 0 n = k := by
  have key : ∀ g i, i + g = n → i ≤ k → firstB p i g = k := by
    intro g
    induction g with
    | zero => intro i h1 h2; omega
    | succ g ih =>
      intro i h1 h2
      unfold firstB
      by_cases e : i = k
      · subst e; rw [if_pos hx]
      · rw [if_neg (by rw [h i (by omega)]; simp)]
        exact ih (i + 1) (by omega) (by omega)
  exact key n 0 (by omega) (by omega)
theorem firstB_no (p : Nat → Bool) (n : Nat) (h : ∀ j, j < n → p j = false) : firstB p 0 n = -1 := by
  have key : ∀ g i, i + g = n → firstB p i g = -1 := by
    intro g
    induction g with
    | zero => intro i _; rfl
    | succ g ih =>
      intro i h1
      unfold firstB
      rw [if_neg (by rw [h i (by omega)]; simp)]
      exact ih (i + 1) (by omega)
  exact key n 0 (by omega)
set_option maxRecDepth 100000 in
set_option maxHeartbeats 8000000 in
theorem anyTorn_any (c : Cas) (sv ev : Value) (ws : List Int) (hw : ws.length = 16) (w : World) (hC : CasAt w c sv ev) (hv : Valid c) :
    Calls Try.prog 66 #[.agg (lkC c.tol sv ev ws)] w fun e w' => e = .returned (.bool (tornK ws c.eds.length)) ∧ Below w.heap.size w w' := by
  obtain ⟨tol, shs, eds⟩ := c
  obtain ⟨hS, hE⟩ := hC
  simp only at hS hE ⊢
  obtain ⟨ls, sa, sc, rfl, lsc, hsn, _⟩ := id hS
  obtain ⟨le, ea, ec, rfl, lec, _⟩ := id hE
  have n5 : shs.length ≤ 5 := hv.n5
  have m8 : eds.length ≤ 8 := hv.m8
  have HOK := Lib.hid hv.sh
  have HEO := Lib.hid hv.ed
  obtain ⟨n, hn⟩ : ∃ n, shs.length = n := ⟨_, rfl⟩
  obtain ⟨m, hm⟩ : ∃ m, eds.length = m := ⟨_, rfl⟩
  simp only [hn] at ls lsc hS n5 HEO ⊢
  simp only [hm] at le lec hE m8 ⊢
  have HNN := Lib.hid hn
  have HMM := Lib.hid hm
  have HS := Lib.hid hS
  have HE := Lib.hid hE
  have HW := Lib.hid hw
  have nI : (n : Int) ≤ 5 := by omega
  have mI : (m : Int) ≤ 8 := by omega
  have K : LkBlk (w.alloc (Obj.cells (lkC tol (.slice sa n sc) (.slice ea m ec) ws) 89)) w.heap.size tol (.slice sa n sc) (.slice ea m ec) ws := heap_alloc_new w _
  have c1 := K.c2
  have HK := Lib.hid K
  have HB : Hid (Below w.heap.size w (w.alloc (Obj.cells (lkC tol (.slice sa n sc) (.slice ea m ec) ws) 89))) := (Below.refl _ _).alloc (Nat.le_refl _) _
  clear K
  clear hS hE hv hn hm hsn hw le lec ls lsc
  go_enter Try.func66, Try.ntmps66
  go_wp2_with fail
  clear c1
  generalize w.alloc (Obj.cells (lkC tol (.slice sa n sc) (.slice ea m ec) ws) 89) = W at *
  go_loopg [8] m (fun g v wr => ∃ k : Nat, g + k = m ∧ v = .int .i64 k ∧ Hid (tornK ws k = false) ∧ Hid (Below W.heap.size W wr))
  case atStart => exact ⟨0, by omega, rfl, rfl, Below.refl _ _⟩
  case round =>
    obtain ⟨k, hk, rfl, HT, HL⟩ := hrel
    by_cases hkm : k < m
    · have kI : (k : Int) < (m : Int) := by omega
      have k8 : (k : Int) < 8 := by omega
      obtain ⟨x0, x1⟩ := (HK.out.below HL.out HK.out.lt).span k (by omega) HW.out
      have kl := (HK.out.below HL.out HK.out.lt).lt
      have HS1 := Lib.hid (tornK_succ ws k)
      have HA := Lib.hid (tornK_at ws m k hkm)
      generalize wL ws k = s at *
      obtain ⟨lo, hi⟩ := s
      simp only at x0 x1 HS1 HA
      go_wp2_with fail
      refine (torn_any lo hi wr).mono ?_
      rintro e wg ⟨rfl, hbg⟩
      have HL2 := Lib.hid (HL.out.trans (hbg.mono HL.out.size))
      clear hbg x0 x1 kl
      by_cases hlt : hi < lo
      · have qt : decide (hi < lo) = true := by simp [hlt]
        have HF := Lib.hid (HA.out hlt)
        rw [qt]
        go_wp2_with fail
        go_ret
        exact ⟨by rw [HF.out]; rfl, HB.out.trans (HL2.out.mono HB.out.size)⟩
      · have qt : decide (hi < lo) = false := by simp; omega
        have HN : Hid (tornK ws (k + 1) = false) := by show _ = _; rw [HS1.out, HT.out, qt]; rfl
        rw [qt]
        clear HS1 HA HT hlt
        go_wp2_with fail
        go_roundg (gk - 1)
        case measure => omega
        case rel => exact ⟨k + 1, by omega, by go_num, HN, HL2⟩
    · obtain rfl : k = m := by omega
      have kI : ¬ (k : Int) < (k : Int) := by omega
      clear hkm hk
      go_wp2
      go_ret
      exact ⟨by rw [HT.out]; rfl, HB.out.trans (HL.out.mono HB.out.size)⟩
set_option maxRecDepth 100000 in
set_option maxHeartbeats 8000000 in
theorem tooLow_any (c : Cas) (sv ev : Value) (ws : List Int) (hw : ws.length = 16) (x : List Int) (hxl : x.length = 5) (hx : ∀ i, -1000000 ≤ x.getD i 0 ∧ x.getD i 0 ≤ 1000000) (w : World) (hC : CasAt w c sv ev) (hv : Valid c) :
    Calls Try.prog 87 #[.agg (lkC c.tol sv ev ws), .agg (chC x)] w fun e w' => e = .returned (.bool (lowK c.shs x c.shs.length)) ∧ Below w.heap.size w w' := by
  obtain ⟨tol, shs, eds⟩ := c
  obtain ⟨hS, hE⟩ := hC
  simp only at hS hE ⊢
  obtain ⟨ls, sa, sc, rfl, lsc, hsn, _⟩ := id hS
  obtain ⟨le, ea, ec, rfl, lec, _⟩ := id hE
  have n5 : shs.length ≤ 5 := hv.n5
  have m8 : eds.length ≤ 8 := hv.m8
  have HOK := Lib.hid hv.sh
  have HEO := Lib.hid hv.ed
  obtain ⟨n, hn⟩ : ∃ n, shs.length = n := ⟨_, rfl⟩
  obtain ⟨m, hm⟩ : ∃ m, eds.length = m := ⟨_, rfl⟩
  simp only [hn] at ls lsc hS n5 HEO ⊢
  simp only [hm] at le lec hE m8 ⊢
  have HNN := Lib.hid hn
  have HMM := Lib.hid hm
  have HS := Lib.hid hS
  have HE := Lib.hid hE
  have HW := Lib.hid hw
  have nI : (n : Int) ≤ 5 := by omega
  have mI : (m : Int) ≤ 8 := by omega
  have HX := Lib.hid hx
  have HXL := Lib.hid hxl
  obtain ⟨W, hW, q1, q2, hb, hsz⟩ := al2 w (Obj.cells (lkC tol (.slice sa n sc) (.slice ea m ec) ws) 89) (Obj.cells (chC x) 96)
  have K : LkBlk W w.heap.size tol (.slice sa n sc) (.slice ea m ec) ws := q1
  have KX : ChBlk W (w.heap.size + 1) x := q2
  have HB := Lib.hid hb
  have HWW := Lib.hid hW
  have HK := Lib.hid K
  have HKX := Lib.hid KX
  have c1 : ((w.alloc (Obj.cells (lkC tol (.slice sa n sc) (.slice ea m ec) ws) 89)).alloc (Obj.cells (chC x) 96)).cell? ⟨w.heap.size, 1, none⟩ = some (.slice sa n sc) := by rw [hW]; exact K.c1
  clear hW q1 q2 hb hsz K KX
  clear hS hE hv hn hm hsn hw le lec ls lsc hx hxl
  go_enter Try.func87, Try.ntmps87
  go_wp2_with fail
  clear c1
  rw [HWW.out]
  clear HWW
  go_loopg [11] n (fun g v wr => ∃ k : Nat, g + k = n ∧ v = .int .i64 k ∧ Hid (lowK shs x k = false) ∧ Hid (Below W.heap.size W wr))
  case atStart => exact ⟨0, by omega, rfl, rfl, Below.refl _ _⟩
  case round =>
    obtain ⟨k, hk, rfl, HT, HL⟩ := hrel
    by_cases hkn : k < n
    · have kI : (k : Int) < (n : Int) := by omega
      have k5 : (k : Int) < 5 := by omega
      have hk' : k < shs.length := by rw [HNN.out]; exact hkn
      obtain ⟨sb, so, rfl, d0, d1, d2⟩ := ((HS.out.below HB.out).below HL.out).get hk'
      have hok := HOK.out shs[k] (List.getElem_mem hk')
      have hget : shs.getD k default = shs[k] := by simp [List.getD_eq_getElem?_getD, hk']
      have y0 := (HKX.out.below HL.out HKX.out.lt).cell k (by rw [HXL.out]; omega)
      have yl := (HKX.out.below HL.out HKX.out.lt).lt
      obtain ⟨xb1, xb2⟩ := HX.out k
      have HS1 := Lib.hid (lowK_succ shs x k)
      have HA := Lib.hid (lowK_at shs x n k hkn)
      rw [hget] at HS1 HA
      generalize shs[k] = s at *
      generalize x.getD k 0 = xk at *
      obtain ⟨nm, wt, most⟩ := s
      simp only at d0 d1 d2
      obtain ⟨t0', t20, m0, m6⟩ := hok
      simp only at t0' t20 m0 m6
      have hsl := World.block_lt_of_cell? wr ⟨sb, so + k * 3, none⟩ d0
      simp only at HS1 HA
      have sn : IntKind.i64.wrap (-most) = -most := by rw [IntKind.wrap_i64] <;> omega
      have HL2 : Hid (Below W.heap.size W (wr.alloc (Obj.cells #[.string nm, .int .i64 wt, .int .i64 most] 66))) := HL.out.alloc HL.out.size _
      clear hget hk'
      go_wp2_with fail
      go_quiet (fail)
      by_cases hlt : xk < -most
      · have HF := Lib.hid (HA.out hlt)
        have qt : decide (xk < -most) = true := by simp [hlt]
        go_wp2
        go_ret
        exact ⟨by rw [HF.out]; rfl, HB.out.trans ((HL2.out.mono HB.out.size).trans ⟨rfl, rfl, rfl, Nat.le_refl _, fun _ _ => rfl⟩)⟩
      · have qt : decide (xk < -most) = false := by simp; omega
        have HN : Hid (lowK shs x (k + 1) = false) := by show _ = _; rw [HS1.out, HT.out, qt]; rfl
        clear HS1 HA HT
        go_wp2
        go_roundg (gk - 1)
        case measure => omega
        case rel => exact ⟨k + 1, by omega, by go_num, HN, HL2.out.trans ⟨rfl, rfl, rfl, Nat.le_refl _, fun _ _ => rfl⟩⟩
    · obtain rfl : k = n := by omega
      have kI : ¬ (k : Int) < (k : Int) := by omega
      clear hkn hk
      go_wp2
      go_ret
      exact ⟨by rw [HT.out]; rfl, HB.out.trans (HL.out.mono HB.out.size)⟩
set_option maxRecDepth 100000 in
set_option maxHeartbeats 8000000 in
theorem cost_any (c : Cas) (sv ev : Value) (ws : List Int) (hw : ws.length = 16) (x : List Int) (hxl : x.length = 5) (hx : ∀ i, -1000000 ≤ x.getD i 0 ∧ x.getD i 0 ≤ 1000000) (hx1 : ∀ i, -1000 ≤ x.getD i 0 ∧ x.getD i 0 ≤ 1000) (w : World) (hC : CasAt w c sv ev) (hv : Valid c) :
    Calls Try.prog 61 #[.agg (lkC c.tol sv ev ws), .agg (chC x)] w fun e w' => e = .returned (.int .i64 (costK c.shs x c.shs.length)) ∧ Below w.heap.size w w' := by
  obtain ⟨tol, shs, eds⟩ := c
  obtain ⟨hS, hE⟩ := hC
  simp only at hS hE ⊢
  obtain ⟨ls, sa, sc, rfl, lsc, hsn, _⟩ := id hS
  obtain ⟨le, ea, ec, rfl, lec, _⟩ := id hE
  have n5 : shs.length ≤ 5 := hv.n5
  have m8 : eds.length ≤ 8 := hv.m8
  have HOK := Lib.hid hv.sh
  have HEO := Lib.hid hv.ed
  obtain ⟨n, hn⟩ : ∃ n, shs.length = n := ⟨_, rfl⟩
  obtain ⟨m, hm⟩ : ∃ m, eds.length = m := ⟨_, rfl⟩
  simp only [hn] at ls lsc hS n5 HEO ⊢
  simp only [hm] at le lec hE m8 ⊢
  have HNN := Lib.hid hn
  have HMM := Lib.hid hm
  have HS := Lib.hid hS
  have HE := Lib.hid hE
  have HW := Lib.hid hw
  have nI : (n : Int) ≤ 5 := by omega
  have mI : (m : Int) ≤ 8 := by omega
  have HX := Lib.hid hx
  have HXL := Lib.hid hxl
  obtain ⟨W, hW, q1, q2, hb, hsz⟩ := al2 w (Obj.cells (lkC tol (.slice sa n sc) (.slice ea m ec) ws) 89) (Obj.cells (chC x) 96)
  have K : LkBlk W w.heap.size tol (.slice sa n sc) (.slice ea m ec) ws := q1
  have KX : ChBlk W (w.heap.size + 1) x := q2
  have HB := Lib.hid hb
  have HWW := Lib.hid hW
  have HK := Lib.hid K
  have HKX := Lib.hid KX
  have c1 : ((w.alloc (Obj.cells (lkC tol (.slice sa n sc) (.slice ea m ec) ws) 89)).alloc (Obj.cells (chC x) 96)).cell? ⟨w.heap.size, 1, none⟩ = some (.slice sa n sc) := by rw [hW]; exact K.c1
  clear hW q1 q2 hb hsz K KX
  clear hS hE hv hn hm hsn hw le lec ls lsc hx hxl
  go_enter Try.func61, Try.ntmps61
  go_wp2_with fail
  clear c1
  rw [HWW.out]
  clear HWW
  have HX1 := Lib.hid hx1
  clear hx1
  go_loopg [5, 12] n (fun g u v wr => ∃ k : Nat, g + k = n ∧ v = .int .i64 k ∧ u = .int .i64 (costK shs x k) ∧ Hid (Below W.heap.size W wr))
  case atStart => exact ⟨0, by omega, rfl, rfl, Below.refl _ _⟩
  case round =>
    obtain ⟨k, hk, rfl, rfl, HL⟩ := hrel
    by_cases hkn : k < n
    · have kI : (k : Int) < (n : Int) := by omega
      have k5 : (k : Int) < 5 := by omega
      have hk' : k < shs.length := by rw [HNN.out]; exact hkn
      obtain ⟨sb, so, rfl, d0, d1, d2⟩ := ((HS.out.below HB.out).below HL.out).get hk'
      have hok := HOK.out shs[k] (List.getElem_mem hk')
      have hget : shs.getD k default = shs[k] := by simp [List.getD_eq_getElem?_getD, hk']
      have y0 := (HKX.out.below HL.out HKX.out.lt).cell k (by rw [HXL.out]; omega)
      have yl := (HKX.out.below HL.out HKX.out.lt).lt
      obtain ⟨xb1, xb2⟩ := HX.out k
      have hbd := costK_bd shs HOK.out x HX1.out k (by omega)
      have HST : Hid (costK shs x (k + 1) = costK shs x k + shs[k].wt * absI (x.getD k 0)) := by show _ = _; rw [← hget]; rfl
      have hmb := mul_bd (a := shs[k].wt) (b := absI (x.getD k 0)) (A := 20) (B := 1000) hok.w0 hok.w20 (by have := HX1.out k; unfold absI; omega) (by have := HX1.out k; unfold absI; omega)
      have hab : absI (x.getD k 0) ≤ 1000 ∧ 0 ≤ absI (x.getD k 0) := by have := HX1.out k; unfold absI; omega
      have HUN : Hid (∀ W', Calls Try.prog 85 #[.int .i64 (x.getD k 0)] W' fun e w' => e = .returned (.int .i64 (absI (x.getD k 0))) ∧ W' = w') := fun W' => unsigned_any _ (by omega) (by omega) W'
      generalize costK shs x k = D at *
      generalize shs[k] = s at *
      generalize absI (x.getD k 0) = ab at *
      generalize x.getD k 0 = xk at *
      obtain ⟨nm, wt, most⟩ := s
      simp only at d0 d1 d2
      obtain ⟨t0', t20, m0, m6⟩ := hok
      simp only at t0' t20 m0 m6
      have hsl := World.block_lt_of_cell? wr ⟨sb, so + k * 3, none⟩ d0
      simp only at HST hmb
      obtain ⟨ab2, ab0⟩ := hab
      obtain ⟨pr, hpr⟩ : ∃ p, wt * ab = p := ⟨_, rfl⟩
      rw [hpr] at hmb HST
      have s1 : IntKind.i64.wrap (wt * ab) = pr := by rw [hpr, IntKind.wrap_i64] <;> omega
      have s2 : IntKind.i64.wrap (D + pr) = D + pr := by rw [IntKind.wrap_i64] <;> omega
      have HL2 : Hid (Below W.heap.size W (wr.alloc (Obj.cells #[.string nm, .int .i64 wt, .int .i64 most] 66))) := HL.out.alloc HL.out.size _
      have x1 := cellOf (heap_alloc_new wr (Obj.cells #[.string nm, .int .i64 wt, .int .i64 most] 66)) 1 _ rfl
      have y0' : (wr.alloc (Obj.cells #[.string nm, .int .i64 wt, .int .i64 most] 66)).cell? ⟨w.heap.size + 1, k, none⟩ = some (.int .i64 xk) := keepK y0 (by go_grown)
      clear hget hk' hpr
      go_wp2_with fail
      generalize hwa : wr.alloc (Obj.cells #[.string nm, .int .i64 wt, .int .i64 most] 66) = wa at *
      clear hwa d0 d1 d2 y0
      refine wp_region_noPanic ?_
      refine wp_region_held_drew (S := (fun W' => W'.cell? ⟨wr.heap.size, 1, none⟩ = some (.int .i64 wt) ∧ W'.cell? ⟨w.heap.size + 1, k, none⟩ = some (.int .i64 xk))) (by kernel_rfl) ?_ (fun hh0 => ?_)
      · try dsimp only
        exact ⟨x1, y0'⟩
      refine wpAnyH_take (i := 0) (v := ?_) rfl (by as_aux_lemma => kernel_rfl) (by as_aux_lemma => kernel_rfl) (by as_aux_lemma => kernel_rfl) (fun _ _ _ h => h) (Or.inl ⟨by rfl, ?_⟩) (by assumption) ?_
      rotate_left
      · intro w hSw
        try dsimp only at hSw
        go_simp
        try with_reducible rfl
      try simp only [Act.put, List.getElem_toArray, List.getElem_cons_succ, List.getElem_cons_zero, List.setIfInBounds_toArray, List.set_cons_zero, List.set_cons_succ]
      refine wpAnyH_take (i := 1) (v := ?_) rfl (by as_aux_lemma => kernel_rfl) (by as_aux_lemma => kernel_rfl) (by as_aux_lemma => kernel_rfl) (fun _ _ _ h => h) (Or.inl ⟨by rfl, ?_⟩) (by assumption) ?_
      rotate_left
      · intro w hSw
        try dsimp only at hSw
        go_simp
        try with_reducible rfl
      try simp only [Act.put, List.getElem_toArray, List.getElem_cons_succ, List.getElem_cons_zero, List.setIfInBounds_toArray, List.set_cons_zero, List.set_cons_succ]
      refine wpAnyH_take (i := 2) (v := ?_) rfl (by as_aux_lemma => kernel_rfl) (by as_aux_lemma => kernel_rfl) (by as_aux_lemma => kernel_rfl) (fun _ _ _ h => h) (Or.inl ⟨by rfl, ?_⟩) (by assumption) ?_
      rotate_left
      · intro w hSw
        try dsimp only at hSw
        go_simp
        try with_reducible rfl
      try simp only [Act.put, List.getElem_toArray, List.getElem_cons_succ, List.getElem_cons_zero, List.setIfInBounds_toArray, List.set_cons_zero, List.set_cons_succ]
      refine wpAnyH_take (i := 3) (v := ?_) rfl (by as_aux_lemma => kernel_rfl) (by as_aux_lemma => kernel_rfl) (by as_aux_lemma => kernel_rfl) (fun _ _ _ h => h) (Or.inl ⟨by rfl, ?_⟩) (by assumption) ?_
      rotate_left
      · intro w hSw
        try dsimp only at hSw
        go_simp
        try with_reducible rfl
      try simp only [Act.put, List.getElem_toArray, List.getElem_cons_succ, List.getElem_cons_zero, List.setIfInBounds_toArray, List.set_cons_zero, List.set_cons_succ]
      refine wpAnyH_take (i := 4) (v := ?_) rfl (by as_aux_lemma => kernel_rfl) (by as_aux_lemma => kernel_rfl) (by as_aux_lemma => kernel_rfl) (fun _ _ _ h => h) (Or.inl ⟨by rfl, ?_⟩) (by assumption) ?_
      rotate_left
      · intro w hSw
        try dsimp only at hSw
        go_simp
        try with_reducible rfl
      try simp only [Act.put, List.getElem_toArray, List.getElem_cons_succ, List.getElem_cons_zero, List.setIfInBounds_toArray, List.set_cons_zero, List.set_cons_succ]
      refine wpAnyH_take (i := 5) (v := ?_) rfl (by as_aux_lemma => kernel_rfl) (by as_aux_lemma => kernel_rfl) (by as_aux_lemma => kernel_rfl) (fun _ _ _ h => h) (Or.inl ⟨by rfl, ?_⟩) (by assumption) ?_
      rotate_left
      · intro w hSw
        try dsimp only at hSw
        go_simp
        try with_reducible rfl
      try simp only [Act.put, List.getElem_toArray, List.getElem_cons_succ, List.getElem_cons_zero, List.setIfInBounds_toArray, List.set_cons_zero, List.set_cons_succ]
      refine wpAnyH_ready (rs := [6]) (by as_aux_lemma => kernel_rfl) (by simp) ?_
      refine AllReadyH.cons rfl (fun K hK => ?_) AllReadyH.nil
      go_simp
      refine (HUN.out _).mono ?_
      rintro e wg ⟨rfl, rfl⟩
      refine hK.out _ _ ?_ (fun hh1 => ?_)
      · try dsimp only
        exact hh0
      clear hK K hh0
      try simp only [Act.put, List.getElem_toArray, List.getElem_cons_succ, List.getElem_cons_zero, List.setIfInBounds_toArray, List.set_cons_zero, List.set_cons_succ]
      refine wpAnyH_take (i := 7) (v := ?_) rfl (by as_aux_lemma => kernel_rfl) (by as_aux_lemma => kernel_rfl) (by as_aux_lemma => kernel_rfl) (fun _ _ _ h => h) (Or.inl ⟨by rfl, ?_⟩) (by assumption) ?_
      rotate_left
      · intro w hSw
        try dsimp only at hSw
        go_simp
        try with_reducible rfl
      try simp only [Act.put, List.getElem_toArray, List.getElem_cons_succ, List.getElem_cons_zero, List.setIfInBounds_toArray, List.set_cons_zero, List.set_cons_succ]
      refine wpAnyH_take (i := 8) (v := ?_) rfl (by as_aux_lemma => kernel_rfl) (by as_aux_lemma => kernel_rfl) (by as_aux_lemma => kernel_rfl) (fun _ _ _ h => h) (Or.inl ⟨by rfl, ?_⟩) (by assumption) ?_
      rotate_left
      · intro w hSw
        try dsimp only at hSw
        go_simp
        try with_reducible rfl
      try simp only [Act.put, List.getElem_toArray, List.getElem_cons_succ, List.getElem_cons_zero, List.setIfInBounds_toArray, List.set_cons_zero, List.set_cons_succ]
      refine wpAnyH_ready (rs := [9]) (by as_aux_lemma => kernel_rfl) (by simp) ?_
      refine AllReadyH.cons rfl (fun K hK => ?_) AllReadyH.nil
      go_simp
      refine hK.out _ _ ?_ (fun hh2 => ?_)
      · try dsimp only
        exact hh1
      clear hK K hh1
      try simp only [Act.put, List.getElem_toArray, List.getElem_cons_succ, List.getElem_cons_zero, List.setIfInBounds_toArray, List.set_cons_zero, List.set_cons_succ]
      refine wpAnyH_done (by as_aux_lemma => kernel_rfl) ?_ _
      refine NoPanic.normal ?_
      clear hh2 x1 y0' yl hsl
      go_wp2
      go_roundg (gk - 1)
      case measure => omega
      case rel => exact ⟨k + 1, by omega, by go_num, by rw [HST.out], HL2.out.trans ⟨rfl, rfl, rfl, Nat.le_refl _, fun _ _ => rfl⟩⟩
    · obtain rfl : k = n := by omega
      have kI : ¬ (k : Int) < (k : Int) := by omega
      clear hkn hk
      go_wp2
      go_ret
      exact ⟨rfl, HB.out.trans (HL.out.mono HB.out.size)⟩
end Go.Proofs.Ytojdocomkhihoaa
