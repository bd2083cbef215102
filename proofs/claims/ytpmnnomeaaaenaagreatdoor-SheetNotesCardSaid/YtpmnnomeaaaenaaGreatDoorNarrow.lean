/- The reference's narrow: it narrows a square in place and says whether its diagonal is not below 0. Condition: at most 9 rows, numbers from -9000 to 9000. -/
import Derived.Test.YtpmnnomeaaaenaaGreatDoorMx
import Derived.StillTailTactics
set_option linter.unusedSimpArgs false
set_option linter.unusedVariables false
namespace Go.Proofs.YtpmnnomeaaaenaaGreatDoor
open Go Go.RowKit Dc

/-- What narrow leaves of a square. -/
structure NarP (B : Nat) (w : World) (N g : Nat) (r : Nat → Nat) (T : Mx) (w' : World) : Prop where
  mx : MxIn B w' N g r T
  below : Below B w w'
theorem NarP.put {B : Nat} {w : World} {N g : Nat} {r : Nat → Nat} {T : Mx} {w' : World} (h : NarP B w N g r T w') {i n : Nat} (hi : i < N) {gi : Nat} (hg : r i = gi) (x : Int) {T' : Mx} (e : putM T i n x = T') : NarP B w N g r T' (w'.setCell ⟨gi, n, none⟩ (.int .i64 x)) := by
  subst hg e
  exact ⟨h.mx.put hi x, h.below.setCell (h.mx.r0 i hi).1 _⟩
theorem NarP.far {B : Nat} {w : World} {N g : Nat} {r : Nat → Nat} {T : Mx} {w' : World} (h : NarP B w N g r T w') {b : Nat} (hB : B ≤ b) (hg : b ≠ g) (hr : ∀ i, i < N → b ≠ r i) (j : Nat) (u : Value) : NarP B w N g r T (w'.setCell ⟨b, j, none⟩ u) :=
  ⟨h.mx.far hg hr j u, h.below.setCell hB _⟩
theorem NarP.drew {B : Nat} {w : World} {N g : Nat} {r : Nat → Nat} {T : Mx} {w' : World} (h : NarP B w N g r T w') : NarP B w N g r T w'.drew :=
  ⟨⟨h.mx.g0, h.mx.r0, h.mx.inj, h.mx.glt, h.mx.outer, h.mx.rows⟩, h.below.drew⟩

theorem if_min (x y : Int) : (if y < x then y else x) = min x y := by split <;> omega
theorem diagOk_no {N k : Nat} {T : Mx} (hk : k < N) (h : T k k < 0) : diagOk N T = false := by
  rcases e : diagOk N T with _ | _
  · rfl
  · have := (diagOk_iff N T).1 e k hk
    omega

set_option maxRecDepth 100000 in
set_option maxHeartbeats 4000000 in
theorem narrow_any (B N g c : Nat) (r : Nat → Nat) (T : Mx) (w : World) (hM : MxIn B w N g r T) (hN : N ≤ 9) (hbd : ∀ a b, a < N → b < N → -9000 ≤ T a b ∧ T a b ≤ 9000) :
    Calls Tryz.prog 99 #[.slice (some ⟨g, 0, none⟩) N c] w fun e w' => e = .returned (.bool (diagOk N (fwF N T N))) ∧ NarP B w N g r (fwF N T N) w' := by
  have HM : Hid (NarP B w N g r T w) := ⟨hM, Below.refl _ _⟩
  have HBD := Lib.hid hbd
  have nI : (N : Int) ≤ 9 := by omega
  clear hM hbd
  go_enter Tryz.func99, Tryz.ntmps99
  go_wp2
  go_loopw [3] (fun i wr => ∃ k : Nat, k ≤ N ∧ i = .int .i64 k ∧ Hid (NarP B w N g r (fwF N T k) wr)) (fun i _ => N - (intOf i).toNat)
  case atStart => exact ⟨0, Nat.zero_le _, rfl, HM.out⟩
  case round =>
    obtain ⟨k, hk, rfl, HK⟩ := hrel
    by_cases hlt : k < N
    · have kl : (k : Int) < (N : Int) := by omega
      go_wp2
      go_loopw [4] (fun i wr => ∃ j : Nat, j ≤ N ∧ i = .int .i64 j ∧ Hid (NarP B w N g r (stgF N (fwF N T k) k j) wr)) (fun i _ => N - (intOf i).toNat)
      case atStart => exact ⟨0, Nat.zero_le _, rfl, HK.out⟩
      case round =>
        obtain ⟨j, hj, rfl, HJ⟩ := hrel
        by_cases hlj : j < N
        · have jl : (j : Int) < (N : Int) := by omega
          go_wp2
          go_loopw [5] (fun i wr => ∃ n : Nat, n ≤ N ∧ i = .int .i64 n ∧ Hid (NarP B w N g r (fwIn N T k j n) wr)) (fun i _ => N - (intOf i).toNat)
          case atStart => exact ⟨0, Nat.zero_le _, rfl, HJ.out⟩
          case round =>
            obtain ⟨n, hn, rfl, HN⟩ := hrel
            by_cases hln : n < N
            · have nl : (n : Int) < (N : Int) := by omega
              have hb := fwIn_bd hN HBD.out hlt hlj hn
              obtain ⟨b1, b1'⟩ := hb j n hlj hln
              obtain ⟨b2, b2'⟩ := hb j k hlj hlt
              obtain ⟨b3, b3'⟩ := hb k n hlt hln
              have c1 := HN.out.mx.cell hlj hln
              have c2 := HN.out.mx.cell hlj hlt
              have c3 := HN.out.mx.cell hlt hln
              obtain ⟨s1, o1⟩ := HN.out.mx.outer j hlj
              obtain ⟨s2, o2⟩ := HN.out.mx.outer k hlt
              have f1 := HN.out.mx.frozen hlj n
              have HS : Hid (∀ gi, r j = gi → NarP B w N g r (fwIn N T k j (n + 1)) (wr.drew.setCell ⟨gi, n, none⟩ (.int .i64 (if fwIn N T k j n j k + fwIn N T k j n k n < fwIn N T k j n j n then fwIn N T k j n j k + fwIn N T k j n k n else fwIn N T k j n j n)))) := fun gi e => HN.out.drew.put hlj e _ (by rw [if_min]; rfl)
              obtain ⟨gi, hgi⟩ : ∃ gi, Hid (r j = gi) := ⟨_, rfl⟩
              obtain ⟨gk, hgk⟩ : ∃ gk, Hid (r k = gk) := ⟨_, rfl⟩
              rw [hgi.out] at c1 c2 o1 f1
              rw [hgk.out] at c3 o2
              have HS2 := Lib.hid (HS.out gi hgi.out)
              clear hb HS hgi hgk
              generalize fwIn N T k j n j n = x1 at *
              generalize fwIn N T k j n j k = x2 at *
              generalize fwIn N T k j n k n = x3 at *
              go_wp2_with fail
              go_still_tail 29, (by kernel_rfl)
              have c1d : wr.drew.cell? ⟨gi, n, none⟩ = some (.int .i64 x1) := c1
              have f1d : wr.drew.frozen? ⟨gi, n, none⟩ = false := f1
              change wpList _ _ _ _ _ wr.drew
              clear c1 c2 c3 o1 o2 f1
              generalize wr.drew = w2 at *
              go_wp2
              go_round
              case rel => exact ⟨n + 1, by omega, by go_num, HS2.out⟩
              case measure => simp [intOf]; omega
            · obtain rfl : n = N := by omega
              have HX : Hid (NarP B w n g r (stgF n (fwF n T k) k (j + 1)) wr) := HN.out
              go_wp2
              go_round
              case rel => exact ⟨j + 1, by omega, by go_num, HX.out⟩
              case measure => simp [intOf]; omega
        · obtain rfl : j = N := by omega
          have HX : Hid (NarP B w j g r (fwF j T (k + 1)) wr) := HJ.out
          go_wp2
          go_round
          case rel => exact ⟨k + 1, by omega, by go_num, HX.out⟩
          case measure => simp [intOf]; omega
    · obtain rfl : k = N := by omega
      have HB2 : Hid (∀ a b, a < k → b < k → -1000000000000 ≤ fwF k T k a b ∧ fwF k T k a b ≤ 9000) := by
        intro a b ha hb
        have h1 := (fwF_keeps (T := T) k (Nat.le_refl _)).le a b ha hb
        have h2 := fwF_low (N := k) (T := T) (L := 9000) (by decide) (fun a b ha hb => (HBD.out a b ha hb).1) k (Nat.le_refl _) a b ha hb
        have h3 := (HBD.out a b ha hb).2
        have h4 : pow6 k ≤ 10077696 := by
          rcases Nat.lt_or_ge k 9 with q | q
          · have := pow6_le k (by omega); omega
          · obtain rfl : k = 9 := by omega
            decide
        omega
      go_wp2_with fail
      obtain ⟨F, hF⟩ : ∃ F, Hid (F = fwF k T k) := ⟨_, rfl⟩
      rw [← hF.out] at HK HB2
      go_loopw [6] (fun i wr' => ∃ n : Nat, n ≤ k ∧ i = .int .i64 n ∧ Hid (diagOk n F = true ∧ NarP B w k g r F wr')) (fun i _ => k - (intOf i).toNat)
      case atStart => exact ⟨0, Nat.zero_le _, rfl, rfl, HK.out⟩
      case round =>
        obtain ⟨n, hn, rfl, HD⟩ := hrel
        by_cases hln : n < k
        · have nl : (n : Int) < (k : Int) := by omega
          obtain ⟨b1, b1'⟩ := HB2.out n n hln hln
          have c1 := HD.out.2.mx.cell hln hln
          obtain ⟨s1, o1⟩ := HD.out.2.mx.outer n hln
          have HN0 : Hid (F n n < 0 → diagOk k F = false) := fun h => diagOk_no hln h
          have HN1 : Hid (¬ F n n < 0 → diagOk (n + 1) F = true) := fun h => by rw [diagOk_succ, HD.out.1]; simp; omega
          have HP := Lib.hid HD.out.2
          generalize F n n = x at *
          generalize r n = gi at *
          by_cases hx : x < 0
          · have HF := Lib.hid (HN0.out hx)
            clear HN0 HN1 HB2
            go_wp2
            go_ret
            exact ⟨by rw [← hF.out, HF.out]; rfl, by rw [← hF.out]; exact HP.out⟩
          · have HF : Hid (diagOk (n + 1) F = true ∧ NarP B w k g r F wr) := ⟨HN1.out hx, HP.out⟩
            clear HN0 HN1 HB2
            go_wp2
            go_round
            case rel => exact ⟨n + 1, by omega, by go_num, HF.out⟩
            case measure => simp [intOf]; omega
        · obtain rfl : n = k := by omega
          have HF := Lib.hid HD.out.1
          have HP := Lib.hid HD.out.2
          clear HB2
          go_wp2
          go_ret
          exact ⟨by rw [← hF.out, HF.out]; rfl, by rw [← hF.out]; exact HP.out⟩
end Go.Proofs.YtpmnnomeaaaenaaGreatDoor
