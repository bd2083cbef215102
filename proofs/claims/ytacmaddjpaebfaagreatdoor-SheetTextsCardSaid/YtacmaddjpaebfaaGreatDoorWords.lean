/- words of package sheet. -/
import Derived.Test.YtacmaddjpaebfaaGreatDoorTxt
import Derived.Deep.QuietTactic
import Derived.BigQuiet
import Derived.Deep.RegionHeld3
set_option linter.unusedSimpArgs false
set_option linter.unusedVariables false
namespace Go.Proofs.YtacmaddjpaebfaaGreatDoor
open Go Go.RowKit Hs

def wContour : List UInt8 := [99, 111, 110, 116, 111, 117, 114]
def wLake : List UInt8 := [108, 97, 107, 101]
def wSlope : List UInt8 := [115, 108, 111, 112, 101]
def wSpot : List UInt8 := [115, 112, 111, 116]
/-- The words of a note. -/
def wordsB (pts : List ByteArray) (x : Note) : List ByteArray :=
  if x.k = 2 then [bs wContour, pts.getD x.a.toNat default, bs (Lib.itoa x.lo), bs (Lib.itoa x.hi)]
  else if x.k = 3 then [bs wLake, pts.getD x.a.toNat default, pts.getD x.b.toNat default]
  else if x.k = 4 then [bs wSlope, pts.getD x.a.toNat default, pts.getD x.b.toNat default, bs (Lib.itoa x.lo), bs (Lib.itoa x.hi)]
  else [bs wSpot, pts.getD x.a.toNat default, bs (Lib.itoa x.lo), bs (Lib.itoa x.hi)]

/-- A slice of strings in a new block. -/
def NewStrs (n0 : Nat) (w : World) (v : Value) (xs : List ByteArray) : Prop :=
  ∃ bk, v = .slice (some ⟨bk, 0, none⟩) xs.length xs.length ∧ n0 ≤ bk ∧ bk < w.heap.size ∧ ∀ (j : Nat) x, xs[j]? = some x → w.cell? ⟨bk, 0 + j, none⟩ = some (.string x)

/- What a test of a value's type answers. -/
theorem ta_1_2 (iv a b lo hi : Int) (w : World) : (Instr.typeAssert (.iface 145 (.agg #[.int .i64 1, .int .i64 a, .int .i64 b, .int .i64 lo, .int .i64 hi])) 129 147 true).run Tryz.prog w = .ok (.tuple #[(.agg #[.int .i64 0, .int .i64 0, .int .i64 0, .int .i64 0, .int .i64 0, .int .i64 0]), .bool false]) w := by kernel_rfl
theorem ta_1_3 (iv a b lo hi : Int) (w : World) : (Instr.typeAssert (.iface 145 (.agg #[.int .i64 1, .int .i64 a, .int .i64 b, .int .i64 lo, .int .i64 hi])) 129 150 true).run Tryz.prog w = .ok (.tuple #[(.agg #[.int .i64 0, .int .i64 0, .int .i64 0, .int .i64 0, .int .i64 0]), .bool false]) w := by kernel_rfl
theorem ta_1_4 (iv a b lo hi : Int) (w : World) : (Instr.typeAssert (.iface 145 (.agg #[.int .i64 1, .int .i64 a, .int .i64 b, .int .i64 lo, .int .i64 hi])) 129 148 true).run Tryz.prog w = .ok (.tuple #[(.agg #[.int .i64 0, .int .i64 0, .int .i64 0, .int .i64 0, .int .i64 0]), .bool false]) w := by kernel_rfl
theorem ta_2_2 (iv a b lo hi : Int) (w : World) : (Instr.typeAssert (.iface 147 (.agg #[.int .i64 2, .int .i64 a, .int .i64 b, .int .i64 lo, .int .i64 hi, .int .i64 iv])) 129 147 true).run Tryz.prog w = .ok (.tuple #[(.agg #[.int .i64 2, .int .i64 a, .int .i64 b, .int .i64 lo, .int .i64 hi, .int .i64 iv]), .bool true]) w := by kernel_rfl
theorem ta_3_2 (iv a b lo hi : Int) (w : World) : (Instr.typeAssert (.iface 150 (.agg #[.int .i64 3, .int .i64 a, .int .i64 b, .int .i64 lo, .int .i64 hi])) 129 147 true).run Tryz.prog w = .ok (.tuple #[(.agg #[.int .i64 0, .int .i64 0, .int .i64 0, .int .i64 0, .int .i64 0, .int .i64 0]), .bool false]) w := by kernel_rfl
theorem ta_3_3 (iv a b lo hi : Int) (w : World) : (Instr.typeAssert (.iface 150 (.agg #[.int .i64 3, .int .i64 a, .int .i64 b, .int .i64 lo, .int .i64 hi])) 129 150 true).run Tryz.prog w = .ok (.tuple #[(.agg #[.int .i64 3, .int .i64 a, .int .i64 b, .int .i64 lo, .int .i64 hi]), .bool true]) w := by kernel_rfl
theorem ta_4_2 (iv a b lo hi : Int) (w : World) : (Instr.typeAssert (.iface 148 (.agg #[.int .i64 4, .int .i64 a, .int .i64 b, .int .i64 lo, .int .i64 hi])) 129 147 true).run Tryz.prog w = .ok (.tuple #[(.agg #[.int .i64 0, .int .i64 0, .int .i64 0, .int .i64 0, .int .i64 0, .int .i64 0]), .bool false]) w := by kernel_rfl
theorem ta_4_3 (iv a b lo hi : Int) (w : World) : (Instr.typeAssert (.iface 148 (.agg #[.int .i64 4, .int .i64 a, .int .i64 b, .int .i64 lo, .int .i64 hi])) 129 150 true).run Tryz.prog w = .ok (.tuple #[(.agg #[.int .i64 0, .int .i64 0, .int .i64 0, .int .i64 0, .int .i64 0]), .bool false]) w := by kernel_rfl
theorem ta_4_4 (iv a b lo hi : Int) (w : World) : (Instr.typeAssert (.iface 148 (.agg #[.int .i64 4, .int .i64 a, .int .i64 b, .int .i64 lo, .int .i64 hi])) 129 148 true).run Tryz.prog w = .ok (.tuple #[(.agg #[.int .i64 4, .int .i64 a, .int .i64 b, .int .i64 lo, .int .i64 hi]), .bool true]) w := by kernel_rfl
theorem keepS {W w w' : World} {b : Nat} {x y : Value} (h : w.cell? ⟨b, 3, none⟩ = some x ∧ w.cell? ⟨b, 4, none⟩ = some y ∧ Hid (Below W.heap.size W w)) (hb : Below w.heap.size w w') :
    w'.cell? ⟨b, 3, none⟩ = some x ∧ w'.cell? ⟨b, 4, none⟩ = some y ∧ Hid (Below W.heap.size W w') :=
  ⟨(hb.cell (World.block_lt_of_cell? w ⟨b, 3, none⟩ h.1)).trans h.1, (hb.cell (World.block_lt_of_cell? w ⟨b, 4, none⟩ h.2.1)).trans h.2.1, h.2.2.out.trans (hb.mono h.2.2.out.size)⟩

theorem newStrs (n0 : Nat) (w : World) (xs : List ByteArray) (h : n0 ≤ w.heap.size) : NewStrs n0 (w.alloc (.cells (xs.map Value.string).toArray 9)) (.slice (some ⟨w.heap.size, 0, none⟩) xs.length xs.length) xs := by
  refine ⟨w.heap.size, rfl, h, by simp, fun j x hx => ?_⟩
  rw [World.cell?_alloc_at _ _ _ _ (by simp), Nat.zero_add]
  simp [hx]

set_option maxRecDepth 100000 in
set_option maxHeartbeats 2000000 in
theorem words_1 (iv : Int) (pts : List ByteArray) (pv : Value) (qa : Option Addr) (qn qc : Nat) (a b : Nat) (lo hi : Int) (w : World) (hP : StrsAt w.heap.size w pv pts) (ha : a < pts.length) (hb : b < pts.length) (hp8 : pts.length ≤ 8)
    (hlo : -9000 ≤ lo ∧ lo ≤ 9000) (hhi : -9000 ≤ hi ∧ hi ≤ 9000) (hT : Tabs w) :
    Calls Tryz.prog 84 #[lookedV iv pv (.slice qa qn qc) 0, noteV ⟨1, a, b, lo, hi⟩] w fun e w' => ∃ v, e = .returned v ∧ NewStrs w.heap.size w' v (wordsB pts ⟨1, a, b, lo, hi⟩) ∧ Below w.heap.size w w' := by
  obtain ⟨lp, pa, pc, rfl, hc⟩ := hP
  obtain ⟨pb, po, rfl, hpb, hcc⟩ := hc (by intro e; simp [e] at ha)
  have ca := hcc a ha
  have cb := hcc b hb
  have HA : Hid (pts.getD a default = pts[a]) := by show _ = _; simp [List.getD_eq_getElem?_getD, ha]
  have HB : Hid (pts.getD b default = pts[b]) := by show _ = _; simp [List.getD_eq_getElem?_getD, hb]
  have HW : Hid (wordsB pts ⟨1, a, b, lo, hi⟩ = [bs wSpot, pts[a], bs (Lib.itoa lo), bs (Lib.itoa hi)]) := by show _ = _; simp [wordsB, List.getD_eq_getElem?_getD, ha, hb]
  generalize pts[a] = na at *
  generalize pts[b] = nb at *
  have aI : (a : Int) < (pts.length : Int) := by omega
  have bI : (b : Int) < (pts.length : Int) := by omega
  have TT := Lib.hid hT
  have e1 : w.heap.size ≠ pb := by omega
  clear hc hcc hT HA HB
  go_enter Tryz.func84, Tryz.ntmps84
  go_wp2_with fail
  go_quiet (fail)
  have hBW : Below w.heap.size w (((w.alloc (Obj.cells #[.int .i64 iv, .slice (some ⟨pb, po, none⟩) pts.length pc, .slice qa qn qc, .int .i64 0] 80)).alloc (Obj.cells #[.int .i64 1, .int .i64 a, .int .i64 b, .int .i64 lo, .int .i64 hi] 67)).drewN nq) := ⟨rfl, rfl, rfl, by simp; omega, fun i hi => (Below.heap_alloc _ _ _ (by simp; omega)).trans (Below.heap_alloc _ _ _ hi)⟩
  have hL : (((w.alloc (Obj.cells #[.int .i64 iv, .slice (some ⟨pb, po, none⟩) pts.length pc, .slice qa qn qc, .int .i64 0] 80)).alloc (Obj.cells #[.int .i64 1, .int .i64 a, .int .i64 b, .int .i64 lo, .int .i64 hi] 67)).drewN nq).heap[w.heap.size]? = some (.cells #[.int .i64 iv, .slice (some ⟨pb, po, none⟩) pts.length pc, .slice qa qn qc, .int .i64 0] 80 (0, 0)) := heap_alloc2_old _ _ _
  have hN : (((w.alloc (Obj.cells #[.int .i64 iv, .slice (some ⟨pb, po, none⟩) pts.length pc, .slice qa qn qc, .int .i64 0] 80)).alloc (Obj.cells #[.int .i64 1, .int .i64 a, .int .i64 b, .int .i64 lo, .int .i64 hi] 67)).drewN nq).heap[w.heap.size + 1]? = some (.cells #[.int .i64 1, .int .i64 a, .int .i64 b, .int .i64 lo, .int .i64 hi] 67 (0, 0)) := heap_alloc2_new _ _ _
  generalize ((w.alloc (Obj.cells #[.int .i64 iv, .slice (some ⟨pb, po, none⟩) pts.length pc, .slice qa qn qc, .int .i64 0] 80)).alloc (Obj.cells #[.int .i64 1, .int .i64 a, .int .i64 b, .int .i64 lo, .int .i64 hi] 67)).drewN nq = W at *
  have n3 := cellOf hN 3 _ rfl
  have n4 := cellOf hN 4 _ rfl
  have HL := Lib.hid hL
  have HN := Lib.hid hN
  have HBW := Lib.hid hBW
  have TW : Hid (Tabs W) := TT.out.below hBW
  clear ca cb hL hN hBW
  go_wp2_with fail
  go_region_held3 (fun w' => w'.cell? ⟨w.heap.size + 1, 3, none⟩ = some (.int .i64 lo) ∧ w'.cell? ⟨w.heap.size + 1, 4, none⟩ = some (.int .i64 hi) ∧ Hid (Below W.heap.size W w')) (first | exact ⟨n3, n4, (Below.refl _ _).drew⟩ | (refine keepS ?_ (by assumption); assumption))
    (first
      | (go_at_call 83; refine (itoa_any _ _ (by omega) (by omega) (TW.out.below (And.right (And.right (by assumption))))).mono ?_; rintro e w' ⟨rfl, hb⟩))
  have hS := And.right (And.right (by assumption : w'.cell? ⟨w.heap.size + 1, 3, none⟩ = some (.int .i64 lo) ∧ w'.cell? ⟨w.heap.size + 1, 4, none⟩ = some (.int .i64 hi) ∧ Hid (Below W.heap.size W w')))
  have hL' := (hS.out.block _ (lt_of_block HL.out)).trans HL.out
  have hN' := (hS.out.block _ (lt_of_block HN.out)).trans HN.out
  have hB2 := HBW.out.trans (hS.out.mono HBW.out.size)
  have l0 := cellOf hL' 0 _ rfl
  have l1 := cellOf hL' 1 _ rfl
  have l2 := cellOf hL' 2 _ rfl
  have l3 := cellOf hL' 3 _ rfl
  have m0 := cellOf hN' 0 _ rfl
  have m1 := cellOf hN' 1 _ rfl
  have m2 := cellOf hN' 2 _ rfl
  have m3 := cellOf hN' 3 _ rfl
  have m4 := cellOf hN' 4 _ rfl
  clear n3 n4 hS
  go_wp2_with fail
  refine (saying_any _ _ _ _ _ _ _ _ ⟨1, a, b, lo, hi⟩ _).mono ?_
  rintro e w3 ⟨rfl, hb3⟩
  rw [sayV_1]
  have hB3 := hB2.trans (hb3.mono hB2.size)
  clear l0 l1 l2 l3 m0 m1 m2 m3 m4 hb3 hB2
  have t2 := ta_1_2 iv a b lo hi
  have t3 := ta_1_3 iv a b lo hi
  have t4 := ta_1_4 iv a b lo hi
  go_wp2
  go_ret
  exact ⟨_, rfl, by rw [HW.out]; exact newStrs w.heap.size w3 [bs wSpot, na, bs (Lib.itoa lo), bs (Lib.itoa hi)] hB3.size, hB3.alloc hB3.size _⟩

set_option maxRecDepth 100000 in
set_option maxHeartbeats 2000000 in
theorem words_2 (iv : Int) (pts : List ByteArray) (pv : Value) (qa : Option Addr) (qn qc : Nat) (a b : Nat) (lo hi : Int) (w : World) (hP : StrsAt w.heap.size w pv pts) (ha : a < pts.length) (hb : b < pts.length) (hp8 : pts.length ≤ 8)
    (hlo : -9000 ≤ lo ∧ lo ≤ 9000) (hhi : -9000 ≤ hi ∧ hi ≤ 9000) (hT : Tabs w) :
    Calls Tryz.prog 84 #[lookedV iv pv (.slice qa qn qc) 0, noteV ⟨2, a, b, lo, hi⟩] w fun e w' => ∃ v, e = .returned v ∧ NewStrs w.heap.size w' v (wordsB pts ⟨2, a, b, lo, hi⟩) ∧ Below w.heap.size w w' := by
  obtain ⟨lp, pa, pc, rfl, hc⟩ := hP
  obtain ⟨pb, po, rfl, hpb, hcc⟩ := hc (by intro e; simp [e] at ha)
  have ca := hcc a ha
  have cb := hcc b hb
  have HA : Hid (pts.getD a default = pts[a]) := by show _ = _; simp [List.getD_eq_getElem?_getD, ha]
  have HB : Hid (pts.getD b default = pts[b]) := by show _ = _; simp [List.getD_eq_getElem?_getD, hb]
  have HW : Hid (wordsB pts ⟨2, a, b, lo, hi⟩ = [bs wContour, pts[a], bs (Lib.itoa lo), bs (Lib.itoa hi)]) := by show _ = _; simp [wordsB, List.getD_eq_getElem?_getD, ha, hb]
  generalize pts[a] = na at *
  generalize pts[b] = nb at *
  have aI : (a : Int) < (pts.length : Int) := by omega
  have bI : (b : Int) < (pts.length : Int) := by omega
  have TT := Lib.hid hT
  have e1 : w.heap.size ≠ pb := by omega
  clear hc hcc hT HA HB
  go_enter Tryz.func84, Tryz.ntmps84
  go_wp2_with fail
  go_quiet (fail)
  have hBW : Below w.heap.size w (((w.alloc (Obj.cells #[.int .i64 iv, .slice (some ⟨pb, po, none⟩) pts.length pc, .slice qa qn qc, .int .i64 0] 80)).alloc (Obj.cells #[.int .i64 2, .int .i64 a, .int .i64 b, .int .i64 lo, .int .i64 hi] 67)).drewN nq) := ⟨rfl, rfl, rfl, by simp; omega, fun i hi => (Below.heap_alloc _ _ _ (by simp; omega)).trans (Below.heap_alloc _ _ _ hi)⟩
  have hL : (((w.alloc (Obj.cells #[.int .i64 iv, .slice (some ⟨pb, po, none⟩) pts.length pc, .slice qa qn qc, .int .i64 0] 80)).alloc (Obj.cells #[.int .i64 2, .int .i64 a, .int .i64 b, .int .i64 lo, .int .i64 hi] 67)).drewN nq).heap[w.heap.size]? = some (.cells #[.int .i64 iv, .slice (some ⟨pb, po, none⟩) pts.length pc, .slice qa qn qc, .int .i64 0] 80 (0, 0)) := heap_alloc2_old _ _ _
  have hN : (((w.alloc (Obj.cells #[.int .i64 iv, .slice (some ⟨pb, po, none⟩) pts.length pc, .slice qa qn qc, .int .i64 0] 80)).alloc (Obj.cells #[.int .i64 2, .int .i64 a, .int .i64 b, .int .i64 lo, .int .i64 hi] 67)).drewN nq).heap[w.heap.size + 1]? = some (.cells #[.int .i64 2, .int .i64 a, .int .i64 b, .int .i64 lo, .int .i64 hi] 67 (0, 0)) := heap_alloc2_new _ _ _
  generalize ((w.alloc (Obj.cells #[.int .i64 iv, .slice (some ⟨pb, po, none⟩) pts.length pc, .slice qa qn qc, .int .i64 0] 80)).alloc (Obj.cells #[.int .i64 2, .int .i64 a, .int .i64 b, .int .i64 lo, .int .i64 hi] 67)).drewN nq = W at *
  have n3 := cellOf hN 3 _ rfl
  have n4 := cellOf hN 4 _ rfl
  have HL := Lib.hid hL
  have HN := Lib.hid hN
  have HBW := Lib.hid hBW
  have TW : Hid (Tabs W) := TT.out.below hBW
  clear ca cb hL hN hBW
  go_wp2_with fail
  go_region_held3 (fun w' => w'.cell? ⟨w.heap.size + 1, 3, none⟩ = some (.int .i64 lo) ∧ w'.cell? ⟨w.heap.size + 1, 4, none⟩ = some (.int .i64 hi) ∧ Hid (Below W.heap.size W w')) (first | exact ⟨n3, n4, (Below.refl _ _).drew⟩ | (refine keepS ?_ (by assumption); assumption))
    (first
      | (go_at_call 83; refine (itoa_any _ _ (by omega) (by omega) (TW.out.below (And.right (And.right (by assumption))))).mono ?_; rintro e w' ⟨rfl, hb⟩))
  have hS := And.right (And.right (by assumption : w'.cell? ⟨w.heap.size + 1, 3, none⟩ = some (.int .i64 lo) ∧ w'.cell? ⟨w.heap.size + 1, 4, none⟩ = some (.int .i64 hi) ∧ Hid (Below W.heap.size W w')))
  have hL' := (hS.out.block _ (lt_of_block HL.out)).trans HL.out
  have hN' := (hS.out.block _ (lt_of_block HN.out)).trans HN.out
  have hB2 := HBW.out.trans (hS.out.mono HBW.out.size)
  have l0 := cellOf hL' 0 _ rfl
  have l1 := cellOf hL' 1 _ rfl
  have l2 := cellOf hL' 2 _ rfl
  have l3 := cellOf hL' 3 _ rfl
  have m0 := cellOf hN' 0 _ rfl
  have m1 := cellOf hN' 1 _ rfl
  have m2 := cellOf hN' 2 _ rfl
  have m3 := cellOf hN' 3 _ rfl
  have m4 := cellOf hN' 4 _ rfl
  clear n3 n4 hS
  go_wp2_with fail
  refine (saying_any _ _ _ _ _ _ _ _ ⟨2, a, b, lo, hi⟩ _).mono ?_
  rintro e w3 ⟨rfl, hb3⟩
  rw [sayV_2]
  have hB3 := hB2.trans (hb3.mono hB2.size)
  clear l0 l1 l2 l3 m0 m1 m2 m3 m4 hb3 hB2
  have t2 := ta_2_2 iv a b lo hi
  go_wp2
  go_ret
  exact ⟨_, rfl, by rw [HW.out]; exact newStrs w.heap.size w3 [bs wContour, na, bs (Lib.itoa lo), bs (Lib.itoa hi)] hB3.size, hB3.alloc hB3.size _⟩

set_option maxRecDepth 100000 in
set_option maxHeartbeats 2000000 in
theorem words_3 (iv : Int) (pts : List ByteArray) (pv : Value) (qa : Option Addr) (qn qc : Nat) (a b : Nat) (lo hi : Int) (w : World) (hP : StrsAt w.heap.size w pv pts) (ha : a < pts.length) (hb : b < pts.length) (hp8 : pts.length ≤ 8)
    (hlo : -9000 ≤ lo ∧ lo ≤ 9000) (hhi : -9000 ≤ hi ∧ hi ≤ 9000) (hT : Tabs w) :
    Calls Tryz.prog 84 #[lookedV iv pv (.slice qa qn qc) 0, noteV ⟨3, a, b, lo, hi⟩] w fun e w' => ∃ v, e = .returned v ∧ NewStrs w.heap.size w' v (wordsB pts ⟨3, a, b, lo, hi⟩) ∧ Below w.heap.size w w' := by
  obtain ⟨lp, pa, pc, rfl, hc⟩ := hP
  obtain ⟨pb, po, rfl, hpb, hcc⟩ := hc (by intro e; simp [e] at ha)
  have ca := hcc a ha
  have cb := hcc b hb
  have HA : Hid (pts.getD a default = pts[a]) := by show _ = _; simp [List.getD_eq_getElem?_getD, ha]
  have HB : Hid (pts.getD b default = pts[b]) := by show _ = _; simp [List.getD_eq_getElem?_getD, hb]
  have HW : Hid (wordsB pts ⟨3, a, b, lo, hi⟩ = [bs wLake, pts[a], pts[b]]) := by show _ = _; simp [wordsB, List.getD_eq_getElem?_getD, ha, hb]
  generalize pts[a] = na at *
  generalize pts[b] = nb at *
  have aI : (a : Int) < (pts.length : Int) := by omega
  have bI : (b : Int) < (pts.length : Int) := by omega
  have TT := Lib.hid hT
  have e1 : w.heap.size ≠ pb := by omega
  clear hc hcc hT HA HB
  go_enter Tryz.func84, Tryz.ntmps84
  go_wp2_with fail
  go_quiet (fail)
  have hBW : Below w.heap.size w (((w.alloc (Obj.cells #[.int .i64 iv, .slice (some ⟨pb, po, none⟩) pts.length pc, .slice qa qn qc, .int .i64 0] 80)).alloc (Obj.cells #[.int .i64 3, .int .i64 a, .int .i64 b, .int .i64 lo, .int .i64 hi] 67)).drewN nq) := ⟨rfl, rfl, rfl, by simp; omega, fun i hi => (Below.heap_alloc _ _ _ (by simp; omega)).trans (Below.heap_alloc _ _ _ hi)⟩
  have hL : (((w.alloc (Obj.cells #[.int .i64 iv, .slice (some ⟨pb, po, none⟩) pts.length pc, .slice qa qn qc, .int .i64 0] 80)).alloc (Obj.cells #[.int .i64 3, .int .i64 a, .int .i64 b, .int .i64 lo, .int .i64 hi] 67)).drewN nq).heap[w.heap.size]? = some (.cells #[.int .i64 iv, .slice (some ⟨pb, po, none⟩) pts.length pc, .slice qa qn qc, .int .i64 0] 80 (0, 0)) := heap_alloc2_old _ _ _
  have hN : (((w.alloc (Obj.cells #[.int .i64 iv, .slice (some ⟨pb, po, none⟩) pts.length pc, .slice qa qn qc, .int .i64 0] 80)).alloc (Obj.cells #[.int .i64 3, .int .i64 a, .int .i64 b, .int .i64 lo, .int .i64 hi] 67)).drewN nq).heap[w.heap.size + 1]? = some (.cells #[.int .i64 3, .int .i64 a, .int .i64 b, .int .i64 lo, .int .i64 hi] 67 (0, 0)) := heap_alloc2_new _ _ _
  generalize ((w.alloc (Obj.cells #[.int .i64 iv, .slice (some ⟨pb, po, none⟩) pts.length pc, .slice qa qn qc, .int .i64 0] 80)).alloc (Obj.cells #[.int .i64 3, .int .i64 a, .int .i64 b, .int .i64 lo, .int .i64 hi] 67)).drewN nq = W at *
  have n3 := cellOf hN 3 _ rfl
  have n4 := cellOf hN 4 _ rfl
  have HL := Lib.hid hL
  have HN := Lib.hid hN
  have HBW := Lib.hid hBW
  have TW : Hid (Tabs W) := TT.out.below hBW
  clear ca cb hL hN hBW
  go_wp2_with fail
  go_region_held3 (fun w' => w'.cell? ⟨w.heap.size + 1, 3, none⟩ = some (.int .i64 lo) ∧ w'.cell? ⟨w.heap.size + 1, 4, none⟩ = some (.int .i64 hi) ∧ Hid (Below W.heap.size W w')) (first | exact ⟨n3, n4, (Below.refl _ _).drew⟩ | (refine keepS ?_ (by assumption); assumption))
    (first
      | (go_at_call 83; refine (itoa_any _ _ (by omega) (by omega) (TW.out.below (And.right (And.right (by assumption))))).mono ?_; rintro e w' ⟨rfl, hb⟩))
  have hS := And.right (And.right (by assumption : w'.cell? ⟨w.heap.size + 1, 3, none⟩ = some (.int .i64 lo) ∧ w'.cell? ⟨w.heap.size + 1, 4, none⟩ = some (.int .i64 hi) ∧ Hid (Below W.heap.size W w')))
  have hL' := (hS.out.block _ (lt_of_block HL.out)).trans HL.out
  have hN' := (hS.out.block _ (lt_of_block HN.out)).trans HN.out
  have hB2 := HBW.out.trans (hS.out.mono HBW.out.size)
  have l0 := cellOf hL' 0 _ rfl
  have l1 := cellOf hL' 1 _ rfl
  have l2 := cellOf hL' 2 _ rfl
  have l3 := cellOf hL' 3 _ rfl
  have m0 := cellOf hN' 0 _ rfl
  have m1 := cellOf hN' 1 _ rfl
  have m2 := cellOf hN' 2 _ rfl
  have m3 := cellOf hN' 3 _ rfl
  have m4 := cellOf hN' 4 _ rfl
  clear n3 n4 hS
  go_wp2_with fail
  refine (saying_any _ _ _ _ _ _ _ _ ⟨3, a, b, lo, hi⟩ _).mono ?_
  rintro e w3 ⟨rfl, hb3⟩
  rw [sayV_3]
  have hB3 := hB2.trans (hb3.mono hB2.size)
  clear l0 l1 l2 l3 m0 m1 m2 m3 m4 hb3 hB2
  have t2 := ta_3_2 iv a b lo hi
  have t3 := ta_3_3 iv a b lo hi
  go_wp2
  go_ret
  exact ⟨_, rfl, by rw [HW.out]; exact newStrs w.heap.size w3 [bs wLake, na, nb] hB3.size, hB3.alloc hB3.size _⟩

set_option maxRecDepth 100000 in
set_option maxHeartbeats 2000000 in
theorem words_4 (iv : Int) (pts : List ByteArray) (pv : Value) (qa : Option Addr) (qn qc : Nat) (a b : Nat) (lo hi : Int) (w : World) (hP : StrsAt w.heap.size w pv pts) (ha : a < pts.length) (hb : b < pts.length) (hp8 : pts.length ≤ 8)
    (hlo : -9000 ≤ lo ∧ lo ≤ 9000) (hhi : -9000 ≤ hi ∧ hi ≤ 9000) (hT : Tabs w) :
    Calls Tryz.prog 84 #[lookedV iv pv (.slice qa qn qc) 0, noteV ⟨4, a, b, lo, hi⟩] w fun e w' => ∃ v, e = .returned v ∧ NewStrs w.heap.size w' v (wordsB pts ⟨4, a, b, lo, hi⟩) ∧ Below w.heap.size w w' := by
  obtain ⟨lp, pa, pc, rfl, hc⟩ := hP
  obtain ⟨pb, po, rfl, hpb, hcc⟩ := hc (by intro e; simp [e] at ha)
  have ca := hcc a ha
  have cb := hcc b hb
  have HA : Hid (pts.getD a default = pts[a]) := by show _ = _; simp [List.getD_eq_getElem?_getD, ha]
  have HB : Hid (pts.getD b default = pts[b]) := by show _ = _; simp [List.getD_eq_getElem?_getD, hb]
  have HW : Hid (wordsB pts ⟨4, a, b, lo, hi⟩ = [bs wSlope, pts[a], pts[b], bs (Lib.itoa lo), bs (Lib.itoa hi)]) := by show _ = _; simp [wordsB, List.getD_eq_getElem?_getD, ha, hb]
  generalize pts[a] = na at *
  generalize pts[b] = nb at *
  have aI : (a : Int) < (pts.length : Int) := by omega
  have bI : (b : Int) < (pts.length : Int) := by omega
  have TT := Lib.hid hT
  have e1 : w.heap.size ≠ pb := by omega
  clear hc hcc hT HA HB
  go_enter Tryz.func84, Tryz.ntmps84
  go_wp2_with fail
  go_quiet (fail)
  have hBW : Below w.heap.size w (((w.alloc (Obj.cells #[.int .i64 iv, .slice (some ⟨pb, po, none⟩) pts.length pc, .slice qa qn qc, .int .i64 0] 80)).alloc (Obj.cells #[.int .i64 4, .int .i64 a, .int .i64 b, .int .i64 lo, .int .i64 hi] 67)).drewN nq) := ⟨rfl, rfl, rfl, by simp; omega, fun i hi => (Below.heap_alloc _ _ _ (by simp; omega)).trans (Below.heap_alloc _ _ _ hi)⟩
  have hL : (((w.alloc (Obj.cells #[.int .i64 iv, .slice (some ⟨pb, po, none⟩) pts.length pc, .slice qa qn qc, .int .i64 0] 80)).alloc (Obj.cells #[.int .i64 4, .int .i64 a, .int .i64 b, .int .i64 lo, .int .i64 hi] 67)).drewN nq).heap[w.heap.size]? = some (.cells #[.int .i64 iv, .slice (some ⟨pb, po, none⟩) pts.length pc, .slice qa qn qc, .int .i64 0] 80 (0, 0)) := heap_alloc2_old _ _ _
  have hN : (((w.alloc (Obj.cells #[.int .i64 iv, .slice (some ⟨pb, po, none⟩) pts.length pc, .slice qa qn qc, .int .i64 0] 80)).alloc (Obj.cells #[.int .i64 4, .int .i64 a, .int .i64 b, .int .i64 lo, .int .i64 hi] 67)).drewN nq).heap[w.heap.size + 1]? = some (.cells #[.int .i64 4, .int .i64 a, .int .i64 b, .int .i64 lo, .int .i64 hi] 67 (0, 0)) := heap_alloc2_new _ _ _
  generalize ((w.alloc (Obj.cells #[.int .i64 iv, .slice (some ⟨pb, po, none⟩) pts.length pc, .slice qa qn qc, .int .i64 0] 80)).alloc (Obj.cells #[.int .i64 4, .int .i64 a, .int .i64 b, .int .i64 lo, .int .i64 hi] 67)).drewN nq = W at *
  have n3 := cellOf hN 3 _ rfl
  have n4 := cellOf hN 4 _ rfl
  have HL := Lib.hid hL
  have HN := Lib.hid hN
  have HBW := Lib.hid hBW
  have TW : Hid (Tabs W) := TT.out.below hBW
  clear ca cb hL hN hBW
  go_wp2_with fail
  go_region_held3 (fun w' => w'.cell? ⟨w.heap.size + 1, 3, none⟩ = some (.int .i64 lo) ∧ w'.cell? ⟨w.heap.size + 1, 4, none⟩ = some (.int .i64 hi) ∧ Hid (Below W.heap.size W w')) (first | exact ⟨n3, n4, (Below.refl _ _).drew⟩ | (refine keepS ?_ (by assumption); assumption))
    (first
      | (go_at_call 83; refine (itoa_any _ _ (by omega) (by omega) (TW.out.below (And.right (And.right (by assumption))))).mono ?_; rintro e w' ⟨rfl, hb⟩))
  have hS := And.right (And.right (by assumption : w'.cell? ⟨w.heap.size + 1, 3, none⟩ = some (.int .i64 lo) ∧ w'.cell? ⟨w.heap.size + 1, 4, none⟩ = some (.int .i64 hi) ∧ Hid (Below W.heap.size W w')))
  have hL' := (hS.out.block _ (lt_of_block HL.out)).trans HL.out
  have hN' := (hS.out.block _ (lt_of_block HN.out)).trans HN.out
  have hB2 := HBW.out.trans (hS.out.mono HBW.out.size)
  have l0 := cellOf hL' 0 _ rfl
  have l1 := cellOf hL' 1 _ rfl
  have l2 := cellOf hL' 2 _ rfl
  have l3 := cellOf hL' 3 _ rfl
  have m0 := cellOf hN' 0 _ rfl
  have m1 := cellOf hN' 1 _ rfl
  have m2 := cellOf hN' 2 _ rfl
  have m3 := cellOf hN' 3 _ rfl
  have m4 := cellOf hN' 4 _ rfl
  clear n3 n4 hS
  go_wp2_with fail
  refine (saying_any _ _ _ _ _ _ _ _ ⟨4, a, b, lo, hi⟩ _).mono ?_
  rintro e w3 ⟨rfl, hb3⟩
  rw [sayV_4]
  have hB3 := hB2.trans (hb3.mono hB2.size)
  clear l0 l1 l2 l3 m0 m1 m2 m3 m4 hb3 hB2
  have t2 := ta_4_2 iv a b lo hi
  have t3 := ta_4_3 iv a b lo hi
  have t4 := ta_4_4 iv a b lo hi
  go_wp2
  go_ret
  exact ⟨_, rfl, by rw [HW.out]; exact newStrs w.heap.size w3 [bs wSlope, na, nb, bs (Lib.itoa lo), bs (Lib.itoa hi)] hB3.size, hB3.alloc hB3.size _⟩

theorem words_any (iv : Int) (pts : List ByteArray) (pv : Value) (qa : Option Addr) (qn qc : Nat) (x : Note) (w : World) (hk : x.k = 1 ∨ x.k = 2 ∨ x.k = 3 ∨ x.k = 4) (hP : StrsAt w.heap.size w pv pts) (ha0 : 0 ≤ x.a) (hb0 : 0 ≤ x.b) (ha : x.a < pts.length) (hb : x.b < pts.length) (hp8 : pts.length ≤ 8)
    (hlo : -9000 ≤ x.lo ∧ x.lo ≤ 9000) (hhi : -9000 ≤ x.hi ∧ x.hi ≤ 9000) (hT : Tabs w) :
    Calls Tryz.prog 84 #[lookedV iv pv (.slice qa qn qc) 0, noteV x] w fun e w' => ∃ v, e = .returned v ∧ NewStrs w.heap.size w' v (wordsB pts x) ∧ Below w.heap.size w w' := by
  obtain ⟨k, a, b, lo, hi⟩ := x
  simp only at *
  obtain ⟨a, rfl⟩ := Int.eq_ofNat_of_zero_le ha0
  obtain ⟨b, rfl⟩ := Int.eq_ofNat_of_zero_le hb0
  rcases hk with rfl | rfl | rfl | rfl
  · exact words_1 iv pts pv qa qn qc a b lo hi w hP (by omega) (by omega) hp8 hlo hhi hT
  · exact words_2 iv pts pv qa qn qc a b lo hi w hP (by omega) (by omega) hp8 hlo hhi hT
  · exact words_3 iv pts pv qa qn qc a b lo hi w hP (by omega) (by omega) hp8 hlo hhi hT
  · exact words_4 iv pts pv qa qn qc a b lo hi w hP (by omega) (by omega) hp8 hlo hhi hT
end Go.Proofs.YtacmaddjpaebfaaGreatDoor
