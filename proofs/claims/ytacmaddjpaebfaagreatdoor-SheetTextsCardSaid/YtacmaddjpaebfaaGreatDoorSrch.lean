/- sort.Search; with wider notes a sheet that fits still does. -/
import Derived.Test.YtacmaddjpaebfaaGreatDoorFit
import Derived.Deep.LoopGhost
import Derived.Sort.Walk0
set_option linter.unusedSimpArgs false
set_option linter.unusedVariables false
namespace Go.Proofs.YtacmaddjpaebfaaGreatDoor
open Go Go.RowKit Hs Dc

/-- What a function value owes that tells numbers from which on something holds. -/
def TellsFn (W0 : World) (gid : Nat) (gc : Array Value) (n : Nat) (p : Nat → Bool) : Prop :=
  ∀ (wr : World) (i : Nat), i < n → Below W0.heap.size W0 wr → Calls Tryz.prog gid (#[.int .i64 i] ++ gc) wr fun e w' => e = .returned (.bool (p i)) ∧ Below wr.heap.size wr w'

set_option maxRecDepth 100000 in
set_option maxHeartbeats 2000000 in
theorem search_any (gid : Nat) (gc : Array Value) (n : Nat) (p : Nat → Bool) (W0 : World) (hn : n ≤ 1000000) (eg : ∀ args w, (callFunc gid args).run Tryz.prog w = .ok (.enter gid args) w) (G : TellsFn W0 gid gc n p) (mono : ∀ a b, a ≤ b → b < n → p a = true → p b = true) :
    Calls Tryz.prog 80 #[.int .i64 n, .func (.func gid) #[] gc] W0 fun e w' => ∃ r : Nat, e = .returned (.int .i64 r) ∧ (r ≤ n ∧ (∀ t, t < r → p t = false) ∧ (r < n → p r = true)) ∧ Below W0.heap.size W0 w' := by
  have GG := Lib.hid G
  have MM := Lib.hid mono
  clear G mono
  go_enter Tryz.func80, Tryz.ntmps80
  go_wp2
  go_loopg [5, 6] n (fun kx s5 s6 wr => ∃ (lo hi : Nat), s5 = .int .i64 lo ∧ s6 = .int .i64 hi ∧ lo ≤ hi ∧ hi ≤ n ∧ hi - lo ≤ kx ∧
    Hid (Below W0.heap.size W0 wr ∧ (∀ t, t < lo → p t = false) ∧ (∀ t, hi ≤ t → t < n → p t = true)))
  case atStart => exact ⟨0, n, rfl, rfl, Nat.zero_le _, Nat.le_refl _, by omega, Below.refl _ _, fun t ht => absurd ht (Nat.not_lt_zero _), fun t h1 h2 => by omega⟩
  case round =>
    obtain ⟨lo, hi, rfl, rfl, hlh, hin, hg, I⟩ := hrel
    by_cases hlt : lo < hi
    · have hc := GG.out wr ((lo + hi) / 2) (by omega) I.out.1
      rw [show (((lo + hi) / 2 : Nat) : Int) = ((lo : Int) + (hi : Int)) / 2 by omega] at hc
      cases hp : p ((lo + hi) / 2) <;> rw [hp] at hc
      · have HP : Hid (p ((lo + hi) / 2) = false) := hp
        clear hp
        go_wp2_with (go_at_fn gid; refine hc.mono ?_; rintro e w' ⟨rfl, hb⟩)
        go_roundg (hi - ((lo + hi) / 2 + 1))
        case measure => omega
        case rel =>
          have I2 : Hid (Below W0.heap.size W0 w' ∧ (∀ t, t < (lo + hi) / 2 + 1 → p t = false) ∧ (∀ t, hi ≤ t → t < n → p t = true)) := ⟨I.out.1.trans (hb.mono I.out.1.size), fun t ht => (by
            cases h : p t with
            | false => rfl
            | true => have := MM.out t ((lo + hi) / 2) (by omega) (by omega) h; rw [HP.out] at this; cases this), I.out.2.2⟩
          exact ⟨(lo + hi) / 2 + 1, hi, by rw [show ((lo : Int) + (hi : Int)) / 2 + 1 = (((lo + hi) / 2 + 1 : Nat) : Int) by omega], rfl, by omega, hin, Nat.le_refl _, I2⟩
      · have HP : Hid (p ((lo + hi) / 2) = true) := hp
        clear hp
        go_wp2_with (go_at_fn gid; refine hc.mono ?_; rintro e w' ⟨rfl, hb⟩)
        go_roundg ((lo + hi) / 2 - lo)
        case measure => omega
        case rel =>
          have I2 : Hid (Below W0.heap.size W0 w' ∧ (∀ t, t < lo → p t = false) ∧ (∀ t, (lo + hi) / 2 ≤ t → t < n → p t = true)) := ⟨I.out.1.trans (hb.mono I.out.1.size), I.out.2.1, fun t ht htn => MM.out ((lo + hi) / 2) t ht htn HP.out⟩
          exact ⟨lo, (lo + hi) / 2, rfl, by rw [show ((lo : Int) + (hi : Int)) / 2 = (((lo + hi) / 2 : Nat) : Int) by omega], by omega, by omega, Nat.le_refl _, I2⟩
    · obtain rfl : hi = lo := by omega
      go_wp2
      go_ret
      exact ⟨hi, rfl, ⟨hin, I.out.2.1, fun h => I.out.2.2 hi (Nat.le_refl _) h⟩, I.out.1⟩

theorem cl_mono {x y : Int} (h : x ≤ y) : cl x ≤ cl y := by unfold cl; omega
/-- With wider notes a sheet that fits still does. -/
theorem fitB_mono (iv : Int) (l : List Note) {a b : Int} (hab : a ≤ b) (h : fitB iv a l = true) : fitB iv b l = true := by
  unfold fitB at *
  obtain ⟨x, hx⟩ := (tightB_iff _ (start_apL _)).1 h
  refine (tightB_iff _ (start_apL _)).2 ⟨x, ?_⟩
  rw [sol_apL] at hx ⊢
  refine ⟨hx.1, fun y hy => ?_⟩
  unfold bdsL at hy
  rw [List.mem_flatMap] at hy
  obtain ⟨n, hn, hy⟩ := hy
  have k := hx.2
  simp only [bds, List.mem_cons, List.not_mem_nil, or_false] at hy
  rcases hy with rfl | rfl
  · have := k (fin9 n.a, fin9 (over n), hiOf iv n + a) (by unfold bdsL; rw [List.mem_flatMap]; exact ⟨n, hn, by simp [bds]⟩)
    exact Int.le_trans this (cl_mono (by show hiOf iv n + a ≤ hiOf iv n + b; omega))
  · have := k (fin9 (over n), fin9 n.a, a - loOf iv n) (by unfold bdsL; rw [List.mem_flatMap]; exact ⟨n, hn, by simp [bds]⟩)
    exact Int.le_trans this (cl_mono (by show a - loOf iv n ≤ b - loOf iv n; omega))

end Go.Proofs.YtacmaddjpaebfaaGreatDoor
