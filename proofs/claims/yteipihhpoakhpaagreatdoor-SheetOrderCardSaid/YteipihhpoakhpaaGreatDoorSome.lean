/- The statements' functions bits, ascending and some. -/
import Derived.Test.YteipihhpoakhpaaGreatDoorWith
import Derived.Laws.Shifts
import Derived.IntWalk
set_option linter.unusedSimpArgs false
set_option linter.unusedVariables false
namespace Go.Proofs.YteipihhpoakhpaaGreatDoor
open Go Go.RowKit Hs

set_option maxRecDepth 100000 in
set_option maxHeartbeats 1000000 in
/-- Ascending numbers below many: ascending says so. -/
theorem asc_any (v : Value) (l : List Int) (many : Nat) (w : World) (hv : IntsAt w v l) (ha : Asc many l) (hm1 : many ≤ 1000) :
    Calls Tryz.prog 50 #[v, .int .i64 many] w fun e w' => e = .returned (.bool true) ∧ Below w.heap.size w w' := by
  obtain ⟨hm, a, cap, rfl, hc⟩ := id hv
  have hm' : (l.length : Int) ≤ 4611686018427387904 := by omega
  have HV := Lib.hid hv
  have HA := Lib.hid ha
  clear hv hc ha
  go_enter Tryz.func50, Tryz.ntmps50
  go_wp2
  go_loopw [5] (fun i wr => ∃ k : Nat, k ≤ l.length ∧ i = .int .i64 k ∧ Hid (Below w.heap.size w wr)) (fun i _ => l.length - (intOf i).toNat)
  case atStart => exact ⟨0, Nat.zero_le _, rfl, Below.refl _ _⟩
  case round =>
    obtain ⟨k, hk, rfl, HB⟩ := hrel
    by_cases hlt : k < l.length
    · obtain ⟨_, a', c', e', hcc⟩ := HV.out.below HB.out
      simp only [Value.slice.injEq, true_and] at e'
      obtain ⟨rfl, rfl⟩ := e'
      obtain ⟨b, o, rfl, hd⟩ := hcc (by intro e; simp [e] at hlt)
      have hck := hd k hlt
      have hg : l.getD k 0 = l[k] := by simp [hlt]
      rw [hg] at hck
      have h0 := HA.out.2 l[k] (List.getElem_mem hlt)
      obtain ⟨q0, q1⟩ := h0
      have kI : (k : Int) < (l.length : Int) := by omega
      have d0 : decide (l[k] < 0) = false := by simp; omega
      have d1 : decide ((many : Int) ≤ l[k]) = false := by simp; omega
      by_cases hk0 : k = 0
      · subst hk0
        rw [Nat.add_zero] at hck
        clear hcc hd hg
        generalize l[0] = z at *
        go_wp2_with fail
        go_quiet (fail)
        have HBN : Hid (Below w.heap.size w (wr.drewN nq)) := HB.out.trans ⟨rfl, rfl, rfl, Nat.le_refl _, fun _ _ => rfl⟩
        clear hck
        go_wp2
        go_roundw
        case rel => exact ⟨1, by omega, by go_num, HBN⟩
        case measure => simp [intOf]; omega
      · have hcp := hd (k - 1) (by omega)
        have hgp : l.getD (k - 1) 0 = l[k - 1] := by simp [List.getD_eq_getElem?_getD, show k - 1 < l.length by omega]
        rw [hgp] at hcp
        have hpw := List.pairwise_iff_getElem.1 HA.out.1 (k - 1) k (by omega) hlt (by omega)
        have d2 : decide (l[k] ≤ l[k - 1]) = false := by simp; omega
        have kp : decide (0 < k) = true := by simp; omega
        clear hcc hd hg hgp hpw
        generalize l[k] = z at *
        generalize l[k - 1] = z' at *
        have e1 : IntKind.i64.wrap ((k : Int) - 1) = ((k - 1 : Nat) : Int) := by
          rw [IntWalk.i64_in _ (by omega)]; omega
        go_wp2_with fail
        go_quiet (fail)
        have HBN : Hid (Below w.heap.size w (wr.drewN nq)) := HB.out.trans ⟨rfl, rfl, rfl, Nat.le_refl _, fun _ _ => rfl⟩
        clear hck hcp e1
        go_wp2
        go_roundw
        case rel => exact ⟨k + 1, by omega, by go_num, HBN⟩
        case measure => simp [intOf]; omega
    · go_wp2
      go_ret
      exact ⟨rfl, HB.out⟩

theorem asc_more {n : Nat} {l : List Int} (h : Asc n l) : Asc (n + 1) l := ⟨h.1, fun x hx => by have := h.2 x hx; omega⟩
theorem asc_push {n : Nat} {l : List Int} (h : Asc n l) : Asc (n + 1) (l ++ [(n : Int)]) := (asc_more h).snoc (by omega) (by omega) (fun x hx => (h.2 x hx).2)
theorem asc_len {n : Nat} {l : List Int} (h : Asc n l) : l.length ≤ n := by
  have key : ∀ (l : List Int) (m : Nat), l.Pairwise (· < ·) → (∀ x, x ∈ l → (m : Int) ≤ x ∧ x < (n : Int)) → l.length + m ≤ n ∨ l = [] := by
    intro l
    induction l with
    | nil => intro m _ _; exact .inr rfl
    | cons x l ih =>
      intro m hp hb
      left
      rw [List.pairwise_cons] at hp
      have hx := hb x (by simp)
      rcases ih (m + 1) hp.2 (fun y hy => by have := hp.1 y hy; have := hb y (by simp [hy]); omega) with h | h
      · simp; omega
      · subst h; simp; omega
  rcases key l 0 h.1 (fun x hx => by have := h.2 x hx; omega) with h' | h'
  · omega
  · subst h'; simp
def BitsP (m : Nat) (w : World) (e : Ending) (w' : World) : Prop := ∃ v l, e = .returned v ∧ IntsAt w' v l ∧ Asc m l ∧ Below w.heap.size w w'
set_option maxRecDepth 100000 in
set_option maxHeartbeats 2000000 in
theorem bits_any (n : Nat) (hn : n ≤ 65535) (m : Nat) (hm : m ≤ 12) (w : World) :
    Calls Tryz.prog 48 #[.int .u16 n, .int .i64 m] w (BitsP m w) := by
  obtain ⟨i0, hi⟩ := info_of_underlying Tryz.underlying3
  have HI : Hid (i0.zero = some (.int .i64 0) ∧ i0.size = 1 ∧ i0.bytes = 8) := by
    have h := intInfo
    rw [hi] at h
    simp at h
    exact h
  have nI : (n : Int) ≤ 65535 := by omega
  go_enter Tryz.func48, Tryz.ntmps48
  go_wp2
  go_loopw [5, 6] (fun v i wr => ∃ (k : Nat) (l : List Int) (sa : Option Addr) (sc : Nat), k ≤ m ∧ i = .int .i64 k ∧ v = .slice sa l.length sc ∧ wr.ownsRow w.heap.size 3 1 v l.length (l.map (Value.int .i64)) ∧ Hid (Asc k l ∧ Below w.heap.size w wr)) (fun _ i _ => m - (intOf i).toNat)
  case atStart => exact ⟨0, [], none, 0, Nat.zero_le _, rfl, rfl, World.ownsRow_nil _ _ _ _, Asc.nil 0, Below.refl _ _⟩
  case round =>
    obtain ⟨k, l, sa, sc, hk, rfl, rfl, hown, HB⟩ := hrel
    by_cases hlt : k < m
    · have kl : (k : Int) < (m : Int) := by omega
      have k12 : (k : Int) ≤ 11 := by omega
      have hll := asc_len HB.out.1
      have hs2 := HB.out.2.size
      cases hq : ((((n : Int) / 2 ^ k).tmod 2) == 1)
      · have HN : Hid (Asc (k + 1) l ∧ Below w.heap.size w wr) := ⟨asc_more HB.out.1, HB.out.2⟩
        go_wp2
        go_round
        case rel => exact ⟨k + 1, l, sa, sc, by omega, by go_num, rfl, hown, HN⟩
        case measure => simp [intOf]; omega
      · have HN : Hid (Asc (k + 1) (l ++ [(k : Int)])) := asc_push HB.out.1
        have hownA := hown.alloc (Obj.cells #[.int .i64 k] 3)
        have HB2 := Lib.hid HB.out.2
        clear HB
        go_wp2_with (first
          | (at_builtin; refine wpList_append_own _ rfl _ _ 43 rfl w.heap.size 3 i0 (.int .i64 0) 1 8 Tryz.underlying43 hi HI.out.1 HI.out.2.1 HI.out.2.2 rfl (by decide) _ _ _ rfl hownA ⟨wr.heap.size, 0, none⟩ 1 1 [.int .i64 k] rfl rfl ?c1 ?c2 ?c3 ?c4 ?c5 ?_))
        case c1 =>
          intro j u hj
          match j, hj with
          | 0, hj => simp at hj; subst hj; simp [Addr.add]
        case c2 => intro u hu; simp at hu; subst hu; rfl
        case c3 => unfold maxLen; omega
        case c4 => omega
        case c5 => simp; omega
        · intro v' w3 hown3 hgrow _
          have hB3 : Below w.heap.size w w3 := (HB2.out.alloc hs2 (Obj.cells #[.int .i64 k] 3)).grown hgrow (by simp; omega) (fun g hg => (hownA.lt g hg).1)
          obtain ⟨sa', sc', rfl⟩ := own_slice hown3
          have HB3 : Hid (Asc (k + 1) (l ++ [(k : Int)]) ∧ Below w.heap.size w w3) := ⟨HN.out, hB3⟩
          clear hgrow hownA hB3
          go_wp2
          go_round
          case rel => exact ⟨k + 1, l ++ [(k : Int)], sa', sc', by omega, by go_num, by simp, by simpa using hown3, HB3⟩
          case measure => simp [intOf]; omega
    · have e : k = m := by omega
      subst e
      clear hlt
      go_wp2
      go_ret
      exact ⟨_, l, rfl, intsAt_own hown (by have := asc_len HB.out.1; omega), HB.out.1, HB.out.2⟩

theorem keepB {B : Nat} {W0 w : World} {b1 b2 q0 q1 q2 q3 q4 : Nat} {v1 v2 v3 v4 v5 v6 : Value} {w' : World} (h : w.cell? ⟨b1, 2, none⟩ = some v1 ∧ w.cell? ⟨b2, q0, none⟩ = some v2 ∧ w.cell? ⟨b2, q1, none⟩ = some v3 ∧ w.cell? ⟨b2, q2, none⟩ = some v4 ∧ w.cell? ⟨b2, q3, none⟩ = some v5 ∧ w.cell? ⟨b2, q4, none⟩ = some v6 ∧ Hid (Below B W0 w)) (h1 : b1 < B) (h2 : b2 < B) (hb : Below B w w') :
    w'.cell? ⟨b1, 2, none⟩ = some v1 ∧ w'.cell? ⟨b2, q0, none⟩ = some v2 ∧ w'.cell? ⟨b2, q1, none⟩ = some v3 ∧ w'.cell? ⟨b2, q2, none⟩ = some v4 ∧ w'.cell? ⟨b2, q3, none⟩ = some v5 ∧ w'.cell? ⟨b2, q4, none⟩ = some v6 ∧ Hid (Below B W0 w') := by
  obtain ⟨c1, c2, c3, c4, c5, c6, c7⟩ := h
  exact ⟨(hb.cell (p := ⟨b1, 2, none⟩) h1).trans c1, (hb.cell (p := ⟨b2, q0, none⟩) h2).trans c2, (hb.cell (p := ⟨b2, q1, none⟩) h2).trans c3, (hb.cell (p := ⟨b2, q2, none⟩) h2).trans c4, (hb.cell (p := ⟨b2, q3, none⟩) h2).trans c5, (hb.cell (p := ⟨b2, q4, none⟩) h2).trans c6, c7.out.trans hb⟩
theorem keepBad {B : Nat} {W0 w : World} {b1 b2 q0 q1 q2 q3 q4 : Nat} {v1 v2 v3 v4 v5 v6 : Value} (h : w.drew.cell? ⟨b1, 2, none⟩ = some v1 ∧ w.drew.cell? ⟨b2, q0, none⟩ = some v2 ∧ w.drew.cell? ⟨b2, q1, none⟩ = some v3 ∧ w.drew.cell? ⟨b2, q2, none⟩ = some v4 ∧ w.drew.cell? ⟨b2, q3, none⟩ = some v5 ∧ w.drew.cell? ⟨b2, q4, none⟩ = some v6 ∧ Hid (Below B W0 w.drew)) (h1 : b1 < B) (h2 : b2 < B) (hW : B ≤ W0.heap.size) (o : Obj) :
    (w.alloc o).drew.cell? ⟨b1, 2, none⟩ = some v1 ∧ (w.alloc o).drew.cell? ⟨b2, q0, none⟩ = some v2 ∧ (w.alloc o).drew.cell? ⟨b2, q1, none⟩ = some v3 ∧ (w.alloc o).drew.cell? ⟨b2, q2, none⟩ = some v4 ∧ (w.alloc o).drew.cell? ⟨b2, q3, none⟩ = some v5 ∧ (w.alloc o).drew.cell? ⟨b2, q4, none⟩ = some v6 ∧ Hid (Below B W0 (w.alloc o).drew) := keepB h h1 h2 (below_ad w o (Nat.le_trans hW h.2.2.2.2.2.2.out.size))
theorem keepBg {B : Nat} {W0 w : World} {b1 b2 q0 q1 q2 q3 q4 : Nat} {v1 v2 v3 v4 v5 v6 : Value} {w' : World} (h : w.cell? ⟨b1, 2, none⟩ = some v1 ∧ w.cell? ⟨b2, q0, none⟩ = some v2 ∧ w.cell? ⟨b2, q1, none⟩ = some v3 ∧ w.cell? ⟨b2, q2, none⟩ = some v4 ∧ w.cell? ⟨b2, q3, none⟩ = some v5 ∧ w.cell? ⟨b2, q4, none⟩ = some v6 ∧ Hid (Below B W0 w)) (h1 : b1 < B) (h2 : b2 < B) (hW : B ≤ W0.heap.size) {row : Option Nat} (hg : w.grownBy w' row) (hrow : ∀ k, row = some k → B ≤ k) :
    w'.cell? ⟨b1, 2, none⟩ = some v1 ∧ w'.cell? ⟨b2, q0, none⟩ = some v2 ∧ w'.cell? ⟨b2, q1, none⟩ = some v3 ∧ w'.cell? ⟨b2, q2, none⟩ = some v4 ∧ w'.cell? ⟨b2, q3, none⟩ = some v5 ∧ w'.cell? ⟨b2, q4, none⟩ = some v6 ∧ Hid (Below B W0 w') := keepB h h1 h2 ((Below.refl _ _).grown hg (Nat.le_trans hW h.2.2.2.2.2.2.out.size) hrow)
theorem keepBs {B : Nat} {W0 w : World} {b1 b2 q0 q1 q2 q3 q4 : Nat} {v1 v2 v3 v4 v5 v6 : Value} (h : w.cell? ⟨b1, 2, none⟩ = some v1 ∧ w.cell? ⟨b2, q0, none⟩ = some v2 ∧ w.cell? ⟨b2, q1, none⟩ = some v3 ∧ w.cell? ⟨b2, q2, none⟩ = some v4 ∧ w.cell? ⟨b2, q3, none⟩ = some v5 ∧ w.cell? ⟨b2, q4, none⟩ = some v6 ∧ Hid (Below B W0 w)) (h1 : b1 < B) (h2 : b2 < B) {p : Addr} (hp : B ≤ p.block) (u : Value) :
    (w.setCell p u).cell? ⟨b1, 2, none⟩ = some v1 ∧ (w.setCell p u).cell? ⟨b2, q0, none⟩ = some v2 ∧ (w.setCell p u).cell? ⟨b2, q1, none⟩ = some v3 ∧ (w.setCell p u).cell? ⟨b2, q2, none⟩ = some v4 ∧ (w.setCell p u).cell? ⟨b2, q3, none⟩ = some v5 ∧ (w.setCell p u).cell? ⟨b2, q4, none⟩ = some v6 ∧ Hid (Below B W0 (w.setCell p u)) := keepB h h1 h2 ((Below.refl _ _).setCell hp u)

set_option maxRecDepth 100000 in
set_option maxHeartbeats 4000000 in
theorem some_any (s : Sheet) (pv nv lv : Value) (list : List Int) (inn : Bool) (w : World) (hS : SheetAt w.heap.size w pv nv s) (hL : IntsAt w lv list) (hn12 : s.notes.length ≤ 12) :
    Calls Tryz.prog 49 #[.agg #[.int .i64 s.iv, pv, nv], lv, .bool inn] w fun e w' => ∃ nv', e = .returned (.agg #[.int .i64 s.iv, pv, nv']) ∧ SheetAt w'.heap.size w' pv nv' ⟨s.iv, s.pts, havK s.notes list inn s.notes.length⟩ ∧ Below w.heap.size w w' := by
  obtain ⟨iv, pts, notes⟩ := s
  obtain ⟨ln, na, nc, rfl, hcN⟩ := id hS.notes
  obtain ⟨lp, pa, pc, rfl, _⟩ := id hS.pts
  obtain ⟨ll, la, lc, rfl, _⟩ := id hL
  simp only at hS hcN hn12 ln lp ⊢
  have HC := Lib.hid hcN
  have HS := Lib.hid hS
  have HL := Lib.hid hL
  have ln' : (notes.length : Int) ≤ 12 := by omega
  clear hcN hS hL
  go_enter Tryz.func49, Tryz.ntmps49
  go_wp2
  have hBW : Below w.heap.size w (((w.alloc (Obj.cells #[.int .i64 iv, .slice pa pts.length pc, .slice na notes.length nc] 25)).alloc (Obj.cells #[.int .i64 0, .slice none 0 0, .slice none 0 0] 25)).alloc (Obj.cells #[.int .i64 iv, .slice pa pts.length pc, .slice none 0 0] 25)) := by go_grown
  have hA : (((w.alloc (Obj.cells #[.int .i64 iv, .slice pa pts.length pc, .slice na notes.length nc] 25)).alloc (Obj.cells #[.int .i64 0, .slice none 0 0, .slice none 0 0] 25)).alloc (Obj.cells #[.int .i64 iv, .slice pa pts.length pc, .slice none 0 0] 25)).heap[w.heap.size]? = some (.cells #[.int .i64 iv, .slice pa pts.length pc, .slice na notes.length nc] 25 (0, 0)) := (Below.heap_alloc _ _ _ (by simp; omega)).trans (heap_alloc2_old w _ _)
  have hR : (((w.alloc (Obj.cells #[.int .i64 iv, .slice pa pts.length pc, .slice na notes.length nc] 25)).alloc (Obj.cells #[.int .i64 0, .slice none 0 0, .slice none 0 0] 25)).alloc (Obj.cells #[.int .i64 iv, .slice pa pts.length pc, .slice none 0 0] 25)).heap[w.heap.size + 1]? = some (.cells #[.int .i64 0, .slice none 0 0, .slice none 0 0] 25 (0, 0)) := (Below.heap_alloc _ _ _ (by simp)).trans (heap_alloc2_new w _ _)
  have hO : (((w.alloc (Obj.cells #[.int .i64 iv, .slice pa pts.length pc, .slice na notes.length nc] 25)).alloc (Obj.cells #[.int .i64 0, .slice none 0 0, .slice none 0 0] 25)).alloc (Obj.cells #[.int .i64 iv, .slice pa pts.length pc, .slice none 0 0] 25)).heap[w.heap.size + 1 + 1]? = some (.cells #[.int .i64 iv, .slice pa pts.length pc, .slice none 0 0] 25 (0, 0)) := by
    have := heap_alloc_new ((w.alloc (Obj.cells #[.int .i64 iv, .slice pa pts.length pc, .slice na notes.length nc] 25)).alloc (Obj.cells #[.int .i64 0, .slice none 0 0, .slice none 0 0] 25)) (Obj.cells #[.int .i64 iv, .slice pa pts.length pc, .slice none 0 0] 25)
    simpa using this
  have hsz : w.heap.size + 1 + 1 + 1 ≤ (((w.alloc (Obj.cells #[.int .i64 iv, .slice pa pts.length pc, .slice na notes.length nc] 25)).alloc (Obj.cells #[.int .i64 0, .slice none 0 0, .slice none 0 0] 25)).alloc (Obj.cells #[.int .i64 iv, .slice pa pts.length pc, .slice none 0 0] 25)).heap.size := by simp
  generalize (((w.alloc (Obj.cells #[.int .i64 iv, .slice pa pts.length pc, .slice na notes.length nc] 25)).alloc (Obj.cells #[.int .i64 0, .slice none 0 0, .slice none 0 0] 25)).alloc (Obj.cells #[.int .i64 iv, .slice pa pts.length pc, .slice none 0 0] 25)) = W at *
  have HA := Lib.hid hA
  have HR := Lib.hid hR
  have HO := Lib.hid hO
  have HB := Lib.hid hBW
  clear hA hR hO hBW
  go_loopw [8] (fun i wr => ∃ (k : Nat) (sa : Option Addr) (sc : Nat), k ≤ notes.length ∧ i = .int .i64 k ∧ Hid (wr.heap[w.heap.size + 1 + 1]? = some (.cells #[.int .i64 iv, .slice pa pts.length pc, .slice sa (havK notes list inn k).length sc] 25 (0, 0))) ∧ wr.ownsRow W.heap.size 67 5 (.slice sa (havK notes list inn k).length sc) (havK notes list inn k).length (notesC (havK notes list inn k)) ∧ Hid (Below (w.heap.size + 1 + 1) W wr)) (fun i _ => notes.length - (intOf i).toNat)
  case atStart => exact ⟨0, none, 0, Nat.zero_le _, rfl, HO.out, World.ownsRow_nil _ _ _ _, Below.refl _ _⟩
  case round =>
    obtain ⟨k, sa, sc, hk, rfl, HOk, hown, HBk⟩ := hrel
    have hAk := (HBk.out.block w.heap.size (by omega)).trans HA.out
    have hkl := havK_le notes list inn k
    have hsr := HBk.out.size
    have HAk := Lib.hid hAk
    clear hAk
    by_cases hlt : k < notes.length
    · obtain ⟨b, o, rfl, hb, hcc⟩ := HC.out (by intro e; simp [e] at hlt)
      obtain ⟨d0, d1, d2, d3, d4⟩ := hcc k hlt
      have r2 : Below w.heap.size w wr := HB.out.trans (HBk.out.mono (by omega))
      have e0 := (r2.cell (p := ⟨b, o + k * 5, none⟩) hb).trans d0
      have e1 := (r2.cell (p := ⟨b, o + k * 5 + 1, none⟩) hb).trans d1
      have e2 := (r2.cell (p := ⟨b, o + k * 5 + 2, none⟩) hb).trans d2
      have e3 := (r2.cell (p := ⟨b, o + k * 5 + 3, none⟩) hb).trans d3
      have e4 := (r2.cell (p := ⟨b, o + k * 5 + 4, none⟩) hb).trans d4
      have HK : Hid (havK notes list inn (k + 1) = if decide ((k : Int) ∈ list) = inn then havK notes list inn k ++ [notes[k]] else havK notes list inn k) := by
        show _ = _
        rw [havK, List.getElem?_eq_getElem hlt]; rfl
      have kl : (k : Int) < (notes.length : Int) := by omega
      have a2 := cellOf HAk.out 2 _ rfl
      have HHAS := Lib.hid (has_any (k : Int) _ list wr (HL.out.below r2))
      clear hcc d0 d1 d2 d3 d4 r2
      generalize notes[k] = x at *
      generalize decide ((k : Int) ∈ list) = d at *
      go_wp2_with fail
      refine HHAS.out.mono ?_
      rintro e w' ⟨rfl, rfl⟩
      clear HHAS
      by_cases hd : d = inn
      · have td : (d == inn) = true := by simp [hd]
        have HT : Hid (havK notes list inn (k + 1) = havK notes list inn k ++ [x]) := by show _ = _; rw [HK.out, if_pos hd]
        clear hd HK
        have c2 := cellOf HOk.out 2 _ rfl
        have f2 := frozen_of_row _ _ 2 _ _ HOk.out
        have lt2 := lt_of_block HOk.out
        have hbB : b < w.heap.size + 1 + 1 := by omega
        have hnB : w.heap.size < w.heap.size + 1 + 1 := by omega
        have hWB : w.heap.size + 1 + 1 ≤ wr.heap.size := by omega
        go_wp2_with fail
        go_region_law (refine step_notes (o := ⟨some 31, _, _, _, _, _⟩) (by rfl) _ _ (by rfl) W.heap.size (.slice sa (havK notes list inn k).length sc) _ (havK notes list inn k) [x] (by rfl) (by rfl) (by first | exact hown | exact hown.alloc _) (one_notes (heap_alloc_new _ _)) (by first | (simp; done) | (simp; omega)) (by simp; omega) ?_; intro v1 w1 ho1 hg1 hl1; obtain ⟨sa1, sc1, rfl⟩ := own_slice ho1; have hl1' : ∀ j, (Value.slice sa (havK notes list inn k).length sc).ownBlock = some j → w.heap.size + 1 + 1 ≤ j := (fun j hj => by have := hl1 j hj; omega); have HBw : Hid (Below (w.heap.size + 1 + 1) wr w1) := Below.grown (Below.mono (by go_grown) hWB) hg1 (by first | (simp; done) | (simp; omega)) hl1'; have HO1 := Lib.hid ((hg1.block (w.heap.size + 1 + 1) (by first | (simp; done) | (simp; omega)) (by intro e; have := hl1 _ e.symm; omega)).trans ((Below.heap_alloc _ _ _ lt2).trans HOk.out)); have g2 := cellOf HO1.out 2 _ rfl; have gf := frozen_of_row _ _ 2 _ _ HO1.out)
        all_goals
          have hl : (havK notes list inn k ++ [x]).length = (havK notes list inn k).length + 1 := by simp
          have hB3 : Hid (Below (w.heap.size + 1 + 1) wr (w1.setCell ⟨w.heap.size + 1 + 1, 2, none⟩ (.slice sa1 ((havK notes list inn k).length + 1) sc1))) := HBw.out.setCell (Nat.le_refl _) _
          have hB4 := Lib.hid (HBk.out.trans hB3.out)
          have hO2 := Lib.hid (heap_setCell_same w1 (w.heap.size + 1 + 1) 2 _ _ (.slice sa1 ((havK notes list inn k).length + 1) sc1) HO1.out)
          rw [hl] at ho1
          have ho2 := own_other ho1 ⟨w.heap.size + 1 + 1, 2, none⟩ (by simp only; omega) (.slice sa1 ((havK notes list inn k).length + 1) sc1)
          have HL1 := Lib.hid hl
          clear hl ho1 hB3 HBw g2 gf hg1 hl1 hl1' HO1 c2 f2 a2 e0 e1 e2 e3 e4 hown
          generalize w1.setCell ⟨w.heap.size + 1 + 1, 2, none⟩ (.slice sa1 ((havK notes list inn k).length + 1) sc1) = w4 at *
          go_wp2_with fail
          go_roundw
          case rel => exact ⟨k + 1, sa1, sc1, by omega, by go_num, by rw [HT.out, HL1.out]; exact hO2.out, by rw [HT.out, HL1.out]; exact ho2, hB4⟩
          case measure => simp [intOf]; omega
      · have td : (d == inn) = false := by simp [hd]
        have HT : Hid (havK notes list inn (k + 1) = havK notes list inn k) := by show _ = _; rw [HK.out, if_neg hd]
        clear hd HK e0 e1 e2 e3 e4 a2
        go_wp2
        go_roundw
        case rel => exact ⟨k + 1, sa, sc, by omega, by go_num, by rw [HT.out]; exact HOk.out, by rw [HT.out]; exact hown, HBk.out⟩
        case measure => simp [intOf]; omega
    · have e : k = notes.length := by omega
      subst e
      have r0 := cellOf HOk.out 0 _ rfl
      have r1 := cellOf HOk.out 1 _ rfl
      have r2 := cellOf HOk.out 2 _ rfl
      have hRk := (HBk.out.block (w.heap.size + 1) (by omega)).trans HR.out
      have q0 := cellOf hRk 0 _ rfl
      have q1 := cellOf hRk 1 _ rfl
      have q2 := cellOf hRk 2 _ rfl
      have f0 := frozen_of_row _ _ 0 _ _ hRk
      have f1 := frozen_of_row _ _ 1 _ _ hRk
      have f2 := frozen_of_row _ _ 2 _ _ hRk
      have a2 := cellOf HAk.out 2 _ rfl
      have HRk := Lib.hid hRk
      have hBB := Lib.hid (HB.out.trans (HBk.out.mono (by omega)))
      clear hRk
      go_wp2_with fail
      have hC := heap_setCell_same _ (w.heap.size + 1) 2 _ _ (.slice sa (havK notes list inn notes.length).length sc) (heap_setCell_same _ (w.heap.size + 1) 1 _ _ (.slice pa pts.length pc) (heap_setCell_same _ (w.heap.size + 1) 0 _ _ (.int .i64 iv) HRk.out))
      have hO := own_other (own_other (own_other hown ⟨w.heap.size + 1, 0, none⟩ (by simp only; omega) (.int .i64 iv)) ⟨w.heap.size + 1, 1, none⟩ (by simp only; omega) (.slice pa pts.length pc)) ⟨w.heap.size + 1, 2, none⟩ (by simp only; omega) (.slice sa (havK notes list inn notes.length).length sc)
      have hBZ := ((hBB.out.setCell (p := ⟨w.heap.size + 1, 0, none⟩) (by simp) (.int .i64 iv)).setCell (p := ⟨w.heap.size + 1, 1, none⟩) (by simp) (.slice pa pts.length pc)).setCell (p := ⟨w.heap.size + 1, 2, none⟩) (by simp) (.slice sa (havK notes list inn notes.length).length sc)
      refine bodyPost_ret (results_cell_row rfl _ _ (w.heap.size + 1) 25 _ (0, 0) _ rfl hC Tryz.underlying25 rfl (by kernel_rfl)) rfl ⟨_, rfl, ?_, hBZ⟩
      exact ⟨(HS.out.pts.below hBZ).mono hBZ.size, notesAt_own (l := havK notes list inn notes.length) hO (by omega), HS.out.sz⟩
end Go.Proofs.YteipihhpoakhpaaGreatDoor
