/- fewest of package sheet. -/
import Derived.Test.YtacmaddjpaebfaaGreatDoorFew
import Derived.Laws.EntriesVeiled
set_option linter.unusedSimpArgs false
set_option linter.unusedVariables false
namespace Go.Proofs.YtacmaddjpaebfaaGreatDoor
open Go Go.RowKit Hs

set_option maxRecDepth 100000 in
set_option maxHeartbeats 1000000 in
theorem fewest_any (gid : Nat) (gc : Array Value) (g : List Int → Bool) (n : Nat) (w : World) (hn12 : n ≤ 12) (eg : ∀ args w, (callFunc gid args).run Tryz.prog w = .ok (.enter gid args) w) (G : GoodFn w gid gc g) :
    Calls Tryz.prog 75 #[.int .i64 n, .func (.func gid) #[] gc] w fun e w' => ∃ v, e = .returned v ∧ w'.ownsRow w.heap.size 3 1 v (fewS n g).length ((fewS n g).map (Value.int .i64)) ∧ Below w.heap.size w w' := by
  have GG := Lib.hid G
  have hB0 : Below w.heap.size w ((w.alloc (.cells #[.int .i64 n] 3)).alloc (.cells #[.func (.func gid) #[] gc] 109)) := by go_grown
  have hg0 := GG.out _ (.slice none 0 0) [] hB0 ⟨by simp, none, 0, rfl, fun h => absurd rfl h⟩
  have HG0 := Lib.hid hg0
  clear G hg0
  go_enter Tryz.func75, Tryz.ntmps75
  go_wp2_with fail
  refine HG0.out.mono ?_
  rintro e w1 ⟨rfl, hb1⟩
  have hN := (hb1.block w.heap.size (by simp; omega)).trans (heap_alloc2_old w (Obj.cells #[.int .i64 n] 3) (Obj.cells #[.func (.func gid) #[] gc] 109))
  have hG := (hb1.block (w.heap.size + 1) (by simp)).trans (heap_alloc2_new w (Obj.cells #[.int .i64 n] 3) (Obj.cells #[.func (.func gid) #[] gc] 109))
  have hB1 := hB0.trans (hb1.mono hB0.size)
  clear hb1 HG0 hB0
  cases hg : g []
  · have HF : Hid (fewS n g = extK g n n [] []) := by show _ = _; unfold fewS; rw [hg]; rfl
    clear hg
    have q2 := heap_alloc2_new w1 (Obj.cells #[.slice none 0 0] 43) (Obj.cells #[.nilFunc] 138)
    have q1 := heap_alloc2_old w1 (Obj.cells #[.slice none 0 0] 43) (Obj.cells #[.nilFunc] 138)
    have c2 := cellOf q2 0 _ rfl
    have f2 := frozen_of_row _ _ 0 _ _ q2
    go_wp2_with fail
    clear c2 f2 q1 q2
    obtain ⟨EV, HEV⟩ : ∃ EV, Hid (EV = Value.func (.func 100) #[] #[.pointer (some ⟨w.heap.size, 0, none⟩), .pointer (some ⟨w1.heap.size, 0, none⟩), .pointer (some ⟨w.heap.size + 1, 0, none⟩), .pointer (some ⟨w1.heap.size + 1, 0, none⟩)]) := ⟨_, rfl⟩
    rw [← HEV.out]
    have q2 := heap_alloc2_new w1 (Obj.cells #[.slice none 0 0] 43) (Obj.cells #[EV] 138)
    have q1 := heap_alloc2_old w1 (Obj.cells #[.slice none 0 0] 43) (Obj.cells #[EV] 138)
    have hBW : Below w1.heap.size w1 ((w1.alloc (Obj.cells #[.slice none 0 0] 43)).alloc (Obj.cells #[EV] 138)) := by go_grown
    have hsz : ((w1.alloc (Obj.cells #[.slice none 0 0] 43)).alloc (Obj.cells #[EV] 138)).heap.size = w1.heap.size + 2 := by simp
    generalize (w1.alloc (Obj.cells #[.slice none 0 0] 43)).alloc (Obj.cells #[EV] 138) = W at *
    have hlN := lt_of_block hN
    have hlG := lt_of_block hG
    have ok : ExtOk w w.heap.size w1.heap.size (w.heap.size + 1) (w1.heap.size + 1) (w1.heap.size + 2) := ⟨by omega, by omega, by omega, by omega, by omega, by omega, by omega, by omega⟩
    have hBw : Below w.heap.size w W := hB1.trans (hBW.mono (by omega))
    have st : ExtSt w gid gc n w.heap.size w1.heap.size (w.heap.size + 1) (w1.heap.size + 1) (w1.heap.size + 2) [] W :=
      ⟨(hBW.block _ hlN).trans hN, (hBW.block _ hlG).trans hG, by rw [q2, HEV.out], ⟨none, 0, q1, World.ownsRow_nil _ _ _ _⟩, hBw⟩
    have hex := extend_any gid gc g n w w.heap.size w1.heap.size (w.heap.size + 1) (w1.heap.size + 1) (w1.heap.size + 2) hn12 ok eg GG.out n 0 [] [] (.slice none 0 0) W (by omega) (by simp) (by simp) (by omega) st (World.ownsRow_nil _ _ _ _)
    rw [show ((0 : Nat) : Int) = 0 by rfl] at hex
    refine hex.mono ?_
    rintro e w2 ⟨rfl, s2, g2⟩
    obtain ⟨ba, bc, hb2, ho2⟩ := s2.b
    have c2 := cellOf hb2 0 _ rfl
    have hB2 : Below w.heap.size w w2 := hBw.grown g2 (by omega) (fun k hk => by simp at hk; omega)
    have HO := Lib.hid (own_base (B' := w.heap.size) ho2 (by omega))
    have hs2 := lt_of_block hN
    clear hex hb2 ho2 s2 g2 st ok hBw hBW q1 q2 hN hG
    go_wp2_with fail
    go_ret
    exact ⟨_, rfl, by rw [HF.out]; exact HO.out, hB2⟩
  · have HF : Hid (fewS n g = []) := by show _ = _; unfold fewS; rw [hg]; rfl
    clear hg
    go_wp2_with fail
    go_ret
    exact ⟨_, rfl, by rw [HF.out]; exact World.ownsRow_nil _ _ _ _, hB1⟩
end Go.Proofs.YtacmaddjpaebfaaGreatDoor
