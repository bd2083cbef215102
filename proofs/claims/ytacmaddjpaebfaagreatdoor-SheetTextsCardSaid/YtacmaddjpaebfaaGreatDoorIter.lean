/- What the notes say, one bound after the other: the closure of bounds in package sheet. -/
import Derived.Test.YtacmaddjpaebfaaGreatDoorNotes
import Derived.Test.YtacmaddjpaebfaaGreatDoorSay
import Derived.RangeFuncNested
import Derived.RangeFuncBound
import Derived.RangeFuncCalls
import Derived.RangeFuncLeaves
import Derived.Shelf.Abstract
import Derived.OwnWalkIn
import Derived.TacticsInMore
import Derived.LoopNIn
import Derived.LoopIn
set_option linter.unusedSimpArgs false
set_option linter.unusedVariables false
namespace Go.Proofs.YtacmaddjpaebfaaGreatDoor
open Go Go.RowKit Go.Shelf Hs
attribute [local go_sem] Oper.semAt_some

/-- A bound as it is handed to a round. -/
def encB (x : Bd3) : Array Value := #[.agg #[.int .i64 (x.1 : Nat), .int .i64 (x.2.1 : Nat), .int .i64 (cl x.2.2)]]
theorem encB_of (a b m : Int) (h0 : 0 ≤ a) (h8 : a ≤ 8) (g0 : 0 ≤ b) (g8 : b ≤ 8) (m0 : -20000 ≤ m) (m9 : m ≤ 20000) : encB (fin9 a, fin9 b, m) = #[.agg #[.int .i64 a, .int .i64 b, .int .i64 m]] := by
  simp only [encB]
  rw [fin9_val a h0 h8, fin9_val b g0 g8, cl_id m m0 m9]

set_option maxHeartbeats 2000000 in

/- Which method is meant: the fuel (333) is what the walk shows; it hangs on the whole translation. -/
theorem methOver1 (a b lo hi iv : Int) (w : World) : (method 333 145 (.agg #[.int .i64 1, .int .i64 a, .int .i64 b, .int .i64 lo, .int .i64 hi]) "hachure/sheet.over").run Tryz.prog w = .ok (188, .agg #[.int .i64 1, .int .i64 a, .int .i64 b, .int .i64 lo, .int .i64 hi]) w := by kernel_rfl
theorem methSpan1 (a b lo hi iv : Int) (w : World) : (method 333 145 (.agg #[.int .i64 1, .int .i64 a, .int .i64 b, .int .i64 lo, .int .i64 hi]) "hachure/sheet.span").run Tryz.prog w = .ok (189, .agg #[.int .i64 1, .int .i64 a, .int .i64 b, .int .i64 lo, .int .i64 hi]) w := by kernel_rfl
theorem methOver2 (a b lo hi iv : Int) (w : World) : (method 333 147 (.agg #[.int .i64 2, .int .i64 a, .int .i64 b, .int .i64 lo, .int .i64 hi, .int .i64 iv]) "hachure/sheet.over").run Tryz.prog w = .ok (188, .agg #[.int .i64 2, .int .i64 a, .int .i64 b, .int .i64 lo, .int .i64 hi]) w := by kernel_rfl
theorem methSpan2 (a b lo hi iv : Int) (w : World) : (method 333 147 (.agg #[.int .i64 2, .int .i64 a, .int .i64 b, .int .i64 lo, .int .i64 hi, .int .i64 iv]) "hachure/sheet.span").run Tryz.prog w = .ok (191, .agg #[.int .i64 2, .int .i64 a, .int .i64 b, .int .i64 lo, .int .i64 hi, .int .i64 iv]) w := by kernel_rfl
theorem methOver3 (a b lo hi iv : Int) (w : World) : (method 333 150 (.agg #[.int .i64 3, .int .i64 a, .int .i64 b, .int .i64 lo, .int .i64 hi]) "hachure/sheet.over").run Tryz.prog w = .ok (193, .agg #[.int .i64 3, .int .i64 a, .int .i64 b, .int .i64 lo, .int .i64 hi]) w := by kernel_rfl
theorem methSpan3 (a b lo hi iv : Int) (w : World) : (method 333 150 (.agg #[.int .i64 3, .int .i64 a, .int .i64 b, .int .i64 lo, .int .i64 hi]) "hachure/sheet.span").run Tryz.prog w = .ok (194, .agg #[.int .i64 3, .int .i64 a, .int .i64 b, .int .i64 lo, .int .i64 hi]) w := by kernel_rfl
theorem methOver4 (a b lo hi iv : Int) (w : World) : (method 333 148 (.agg #[.int .i64 4, .int .i64 a, .int .i64 b, .int .i64 lo, .int .i64 hi]) "hachure/sheet.over").run Tryz.prog w = .ok (193, .agg #[.int .i64 4, .int .i64 a, .int .i64 b, .int .i64 lo, .int .i64 hi]) w := by kernel_rfl
theorem methSpan4 (a b lo hi iv : Int) (w : World) : (method 333 148 (.agg #[.int .i64 4, .int .i64 a, .int .i64 b, .int .i64 lo, .int .i64 hi]) "hachure/sheet.span").run Tryz.prog w = .ok (194, .agg #[.int .i64 4, .int .i64 a, .int .i64 b, .int .i64 lo, .int .i64 hi]) w := by kernel_rfl

set_option maxHeartbeats 4000000 in
set_option maxRecDepth 100000 in
theorem bounds1_in (n : Nat) (hn : 1 ≤ n) (l Bl Bf n0 : Nat) (hBl : Bl ≠ Bf) (hn0 : n0 ≤ Bf) (iv wd : Int) (pa : Option Addr) (pn pc : Nat) (qv : Value) (notes : List Note) (J Jx : List Bd3 → World → Prop)
    (hwd : 0 ≤ wd ∧ wd ≤ 9000) (hiv : 1 ≤ iv ∧ iv ≤ 1000) (hok : ∀ x, x ∈ notes → NoteOk iv x) (W : World) (hBf : Bf < W.heap.size)
    (hJ : AbidesFrom W.heap.size J)
    (hY : ∀ pre x W1, J pre W1 → pre.length < 2 * notes.length → YieldAt Fence.wide (n - 1) Tryz.prog l (encB x) W1 fun e W' =>
      (e = .returned (.bool true) ∧ J (pre ++ [x]) W' ∧ Kpc Bf W1 W') ∨ (e = .returned (.bool false) ∧ Jx (pre ++ [x]) W'))
    (hL : W.heap[Bl]? = some (.cells #[.int .i64 iv, .slice pa pn pc, qv, .int .i64 wd] 80 (0, 0))) (hN : NotesAt n0 W qv notes) (h0 : J [] W) :
    CallsIn Fence.wide n Tryz.prog 131 #[.func (.yield l) #[] #[], .pointer (some ⟨Bl, 0, none⟩)] W fun e W' => (∃ v, e = .returned v) ∧
      ((∃ ys, ys = bdsL iv wd notes ∧ J ys W') ∨ (∃ pre, True ∧ Jx pre W')) := by
  obtain ⟨hlen, qa, qc, rfl, hcs⟩ := hN
  have HY := Lib.hid hY
  have HJ := Lib.hid hJ
  have HOK := Lib.hid hok
  have HCS := Lib.hid hcs
  have HL := Lib.hid hL
  clear hY hJ hok hcs hL
  have c2 := cellOf HL.out 2 _ rfl
  refine callsIn_of_wp Tryz.func131 rfl trivial ?_ rfl
  simp only [Tryz.ntmps131, List.size_toArray, List.length_cons, List.length_nil, Nat.reduceAdd, Nat.reduceSub, Array.replicate_succ, Array.replicate_zero, List.push_toArray, List.append_toArray, List.nil_append, List.cons_append]
  gi_wp2
  gi_loopw [12] (fun i wr => ∃ k : Nat, k ≤ notes.length ∧ i = .int .i64 k ∧ Hid (J (bdsL iv wd (notes.take k)) wr) ∧ Hid (Kpc Bf W wr)) (fun i _ => notes.length - (intOf i).toNat)
  case atStart => exact ⟨0, Nat.zero_le _, rfl, h0, Kpc.refl _ _⟩
  case round =>
    obtain ⟨k, hk, rfl, HJs, HK⟩ := hrel
    clear c2 h0
    by_cases hlt : k < notes.length
    · have hne : notes ≠ [] := by intro e; simp [e] at hlt
      obtain ⟨b, o, rfl, hb, hc⟩ := HCS.out hne
      obtain ⟨d0, d1, d2, d3, d4⟩ := hc k hlt
      have hbne : b ≠ Bf := by omega
      have ok := HOK.out notes[k] (List.getElem_mem hlt)
      have hpre : Hid ((bdsL iv wd (notes.take k)).length = 2 * k) := by show _ = _; rw [bdsL_length, List.length_take]; omega
      have hnext := Lib.hid (bdsL_take_succ iv wd notes k hlt)
      have e0 := HK.out.cell hbne d0
      have e1 := HK.out.cell hbne d1
      have e2 := HK.out.cell hbne d2
      have e3 := HK.out.cell hbne d3
      have e4 := HK.out.cell hbne d4
      have hL' := HK.out.same _ _ _ _ hBl HL.out
      have l0 := cellOf hL' 0 _ rfl
      have l1 := cellOf hL' 1 _ rfl
      have l2 := cellOf hL' 2 _ rfl
      have l3 := cellOf hL' 3 _ rfl
      have HL' := Lib.hid hL'
      have hBlt : Bl < wr.heap.size := lt_of_block hL'
      clear d0 d1 d2 d3 d4 hL' hc
      generalize notes[k] = x at *
      gi_wp2_with fail
      refine ⟨trivial, ?_⟩
      refine (callsIn_wide.2 (saying_any _ _ _ _ _ _ _ _ x _)).mono ?_
      rintro e w2 ⟨rfl, hb2⟩
      have hs2 := hb2.size
      rw [World.size_alloc] at hs2
      have hX2 : w2.heap[wr.heap.size]? = some (.cells #[.int .i64 x.k, .int .i64 x.a, .int .i64 x.b, .int .i64 x.lo, .int .i64 x.hi] 67 (0, 0)) := (hb2.block _ (by simp)).trans (heap_alloc_new _ _)
      have hB2 : Below wr.heap.size wr w2 := ((Below.refl _ _).alloc (Nat.le_refl _) _).trans (hb2.mono (by simp))
      have K2 := HK.out.trans (Kpc.of_below hB2)
      have J2 := HJ.out _ _ _ none HJs.out (below_grownBy hB2) (fun r e => by cases e)
      have m1 := cellOf hX2 1 _ rfl
      have m2 := cellOf hX2 2 _ rfl
      have m3 := cellOf hX2 3 _ rfl
      have m4 := cellOf hX2 4 _ rfl
      have hL2 := K2.same _ _ _ _ hBl HL.out
      have l0 := cellOf hL2 0 _ rfl
      have l3 := cellOf hL2 3 _ rfl
      have s1 : wr.heap.size < w2.heap.size := by omega
      have s2 : wr.heap.size < w2.heap.size + 1 := by omega
      have s3 : wr.heap.size < w2.heap.size + 1 + 1 := by omega
      have t1 : Bl < w2.heap.size := by omega
      have t2 : Bl < w2.heap.size + 1 := by omega
      have t3 : Bl < w2.heap.size + 1 + 1 := by omega
      have hWr := HK.out.size
      have ne1 : wr.heap.size ≠ Bf := by omega
      have ne2 : w2.heap.size + 1 + 1 + 1 ≠ Bf := by omega
      clear hb2 hX2 e0 e1 e2 e3 e4 l1 l2 hs2
      obtain ⟨xk, xa, xb, xlo, xhi⟩ := x
      have okk := ok.kind
      rcases okk with rfl | rfl | rfl | rfl
      · rw [sayV_1]
        have q := methOver1 xa xb xlo xhi iv
        have p := methSpan1 xa xb xlo xhi iv
        have B4 : Below w2.heap.size w2 ((((w2.alloc (Obj.cells #[.int .i64 1, .int .i64 xa, .int .i64 xb, .int .i64 xlo, .int .i64 xhi] 145)).alloc (Obj.cells #[.int .i64 1, .int .i64 xa, .int .i64 xb, .int .i64 xlo, .int .i64 xhi] 145)).alloc (Obj.cells #[.int .i64 (xlo), .int .i64 (xhi)] 40)).alloc (Obj.cells #[.int .i64 (xlo), .int .i64 (xhi)] 40)) := ((((Below.refl _ _).alloc (Nat.le_refl _) _).alloc (by simp) _).alloc (by simp; omega) _).alloc (by simp; omega) _
        have J4 := HJ.out _ _ _ none J2 (below_grownBy B4) (fun r e => by cases e)
        have E1 : encB (fin9 xa, fin9 (over ⟨1, xa, xb, xlo, xhi⟩), hiOf iv ⟨1, xa, xb, xlo, xhi⟩ + wd) = #[.agg #[.int .i64 xa, .int .i64 8, .int .i64 (xhi + wd)]] := encB_of _ _ _ ok.a0 (by have := ok.a8; simp only at this; omega) ok.o0 ok.o8 (by have := ok.h0; omega) (by have := ok.h9; omega)
        have E2 : encB (fin9 (over ⟨1, xa, xb, xlo, xhi⟩), fin9 xa, wd - loOf iv ⟨1, xa, xb, xlo, xhi⟩) = #[.agg #[.int .i64 8, .int .i64 xa, .int .i64 (wd - xlo)]] := encB_of _ _ _ ok.o0 ok.o8 ok.a0 (by have := ok.a8; simp only at this; omega) (by have := ok.l9; omega) (by have := ok.l0; omega)
        obtain ⟨fn1, tmps1, assign1, body1, hy1, hR1⟩ := HY.out _ (fin9 xa, fin9 (over ⟨1, xa, xb, xlo, xhi⟩), hiOf iv ⟨1, xa, xb, xlo, xhi⟩ + wd) _ J4 (by rw [hpre.out]; omega)
        rw [E1] at hy1
        have HR1 := Lib.hid hR1
        have HE2 := Lib.hid E2
        have bh0 : -9000 ≤ xhi := ok.h0
        have bh9 : xhi ≤ 9000 := ok.h9
        have bl0 : -9000 ≤ xlo := ok.l0
        have bl9 : xlo ≤ 9000 := ok.l9
        have g1 := (B4.cell (p := ⟨wr.heap.size, 1, none⟩) s1).trans m1
        have g2 := (B4.cell (p := ⟨wr.heap.size, 2, none⟩) s1).trans m2
        have g3 := (B4.cell (p := ⟨Bl, 3, none⟩) t1).trans l3
        have g4 : ((((w2.alloc (Obj.cells #[.int .i64 1, .int .i64 xa, .int .i64 xb, .int .i64 xlo, .int .i64 xhi] 145)).alloc (Obj.cells #[.int .i64 1, .int .i64 xa, .int .i64 xb, .int .i64 xlo, .int .i64 xhi] 145)).alloc (Obj.cells #[.int .i64 (xlo), .int .i64 (xhi)] 40)).alloc (Obj.cells #[.int .i64 (xlo), .int .i64 (xhi)] 40)).cell? ⟨w2.heap.size + 1 + 1 + 1, 0, none⟩ = some (.int .i64 (xlo)) := World.cell?_alloc_at _ _ _ _ (by simp)
        have HG : Hid ((((((w2.alloc (Obj.cells #[.int .i64 1, .int .i64 xa, .int .i64 xb, .int .i64 xlo, .int .i64 xhi] 145)).alloc (Obj.cells #[.int .i64 1, .int .i64 xa, .int .i64 xb, .int .i64 xlo, .int .i64 xhi] 145)).alloc (Obj.cells #[.int .i64 (xlo), .int .i64 (xhi)] 40)).alloc (Obj.cells #[.int .i64 (xlo), .int .i64 (xhi)] 40)).cell? ⟨wr.heap.size, 1, none⟩ = some (.int .i64 xa) ∧ ((((w2.alloc (Obj.cells #[.int .i64 1, .int .i64 xa, .int .i64 xb, .int .i64 xlo, .int .i64 xhi] 145)).alloc (Obj.cells #[.int .i64 1, .int .i64 xa, .int .i64 xb, .int .i64 xlo, .int .i64 xhi] 145)).alloc (Obj.cells #[.int .i64 (xlo), .int .i64 (xhi)] 40)).alloc (Obj.cells #[.int .i64 (xlo), .int .i64 (xhi)] 40)).cell? ⟨wr.heap.size, 2, none⟩ = some (.int .i64 xb)) ∧ ((((w2.alloc (Obj.cells #[.int .i64 1, .int .i64 xa, .int .i64 xb, .int .i64 xlo, .int .i64 xhi] 145)).alloc (Obj.cells #[.int .i64 1, .int .i64 xa, .int .i64 xb, .int .i64 xlo, .int .i64 xhi] 145)).alloc (Obj.cells #[.int .i64 (xlo), .int .i64 (xhi)] 40)).alloc (Obj.cells #[.int .i64 (xlo), .int .i64 (xhi)] 40)).cell? ⟨Bl, 3, none⟩ = some (.int .i64 wd) ∧ ((((w2.alloc (Obj.cells #[.int .i64 1, .int .i64 xa, .int .i64 xb, .int .i64 xlo, .int .i64 xhi] 145)).alloc (Obj.cells #[.int .i64 1, .int .i64 xa, .int .i64 xb, .int .i64 xlo, .int .i64 xhi] 145)).alloc (Obj.cells #[.int .i64 (xlo), .int .i64 (xhi)] 40)).alloc (Obj.cells #[.int .i64 (xlo), .int .i64 (xhi)] 40)).cell? ⟨w2.heap.size + 1 + 1 + 1, 0, none⟩ = some (.int .i64 (xlo))) := ⟨⟨g1, g2⟩, g3, g4⟩
        have K4 := Lib.hid (K2.trans (Kpc.of_below B4))
        clear hR1 B4 J4 E1 E2 g1 g2 g3 g4 K2 hL2
        gi_wp2_with fail
        refine ⟨trivial, ?_⟩
        refine (callsIn_wide.2 (spotOver 1 xa xb xlo xhi _)).mono ?_
        rintro e w3 ⟨rfl, rfl⟩
        gi_wp2_with fail
        refine ⟨trivial, ?_⟩
        refine (callsIn_wide.2 (spotSpan 1 xa xb xlo xhi _)).mono ?_
        rintro e w4 ⟨rfl, rfl⟩
        gi_wp2_with fail
        refine HR1.out.mono ?_
        rintro e W5 (⟨rfl, hJ5, hk5⟩ | ⟨rfl, hJx5⟩)
        · have h51 := hk5.cell ne1 HG.out.1.1
          have h52 := hk5.cell ne1 HG.out.1.2
          have h53 := hk5.cell hBl HG.out.2.1
          have h54 := hk5.cell ne2 HG.out.2.2
          have K5 := Lib.hid (K4.out.trans hk5)
          obtain ⟨fn2, tmps2, assign2, body2, hy2, hR2⟩ := HY.out _ (fin9 (over ⟨1, xa, xb, xlo, xhi⟩), fin9 xa, wd - loOf iv ⟨1, xa, xb, xlo, xhi⟩) _ hJ5 (by rw [List.length_append, hpre.out]; simp; omega)
          rw [HE2.out] at hy2
          have HR2 := Lib.hid hR2
          clear hR2 hJ5 hk5 HR1 HG K4 hy1
          gi_wp2_with fail
          refine HR2.out.mono ?_
          rintro e W6 (⟨rfl, hJ6, hk6⟩ | ⟨rfl, hJx6⟩)
          · have K6 : Hid (Kpc Bf W W6) := K5.out.trans hk6
            have J6 : Hid (J (bdsL iv wd (notes.take (k + 1))) W6) := by show J _ _; rw [hnext.out]; exact hJ6
            clear hJ6 hk6
            gi_wp2
            go_roundw
            case rel => exact ⟨k + 1, by omega, by go_num, J6, K6⟩
            case measure => simp [intOf]; omega
          · have JX : Hid (∃ pre, True ∧ Jx pre W6) := ⟨_, trivial, hJx6⟩
            clear hJx6
            gi_wp2
            refine bodyPost_ret (results_none rfl _ _ _) rfl ?_
            exact ⟨⟨_, rfl⟩, .inr JX.out⟩
        · have JX : Hid (∃ pre, True ∧ Jx pre W5) := ⟨_, trivial, hJx5⟩
          clear hJx5 hy1 HG
          gi_wp2
          refine ⟨fun _ h => (by cases h), ?_⟩
          gi_wp2
          refine bodyPost_ret (results_none rfl _ _ _) rfl ?_
          exact ⟨⟨_, rfl⟩, .inr JX.out⟩
      · rw [sayV_2]
        have q := methOver2 xa xb xlo xhi iv
        have p := methSpan2 xa xb xlo xhi iv
        have B4 : Below w2.heap.size w2 ((((w2.alloc (Obj.cells #[.int .i64 2, .int .i64 xa, .int .i64 xb, .int .i64 xlo, .int .i64 xhi] 145)).alloc (Obj.cells #[.int .i64 2, .int .i64 xa, .int .i64 xb, .int .i64 xlo, .int .i64 xhi, .int .i64 iv] 147)).alloc (Obj.cells #[.int .i64 (xlo * iv), .int .i64 (xhi * iv)] 40)).alloc (Obj.cells #[.int .i64 (xlo * iv), .int .i64 (xhi * iv)] 40)) := ((((Below.refl _ _).alloc (Nat.le_refl _) _).alloc (by simp) _).alloc (by simp; omega) _).alloc (by simp; omega) _
        have J4 := HJ.out _ _ _ none J2 (below_grownBy B4) (fun r e => by cases e)
        have E1 : encB (fin9 xa, fin9 (over ⟨2, xa, xb, xlo, xhi⟩), hiOf iv ⟨2, xa, xb, xlo, xhi⟩ + wd) = #[.agg #[.int .i64 xa, .int .i64 8, .int .i64 (xhi * iv + wd)]] := encB_of _ _ _ ok.a0 (by have := ok.a8; simp only at this; omega) ok.o0 ok.o8 (by have := ok.h0; omega) (by have := ok.h9; omega)
        have E2 : encB (fin9 (over ⟨2, xa, xb, xlo, xhi⟩), fin9 xa, wd - loOf iv ⟨2, xa, xb, xlo, xhi⟩) = #[.agg #[.int .i64 8, .int .i64 xa, .int .i64 (wd - xlo * iv)]] := encB_of _ _ _ ok.o0 ok.o8 ok.a0 (by have := ok.a8; simp only at this; omega) (by have := ok.l9; omega) (by have := ok.l0; omega)
        obtain ⟨fn1, tmps1, assign1, body1, hy1, hR1⟩ := HY.out _ (fin9 xa, fin9 (over ⟨2, xa, xb, xlo, xhi⟩), hiOf iv ⟨2, xa, xb, xlo, xhi⟩ + wd) _ J4 (by rw [hpre.out]; omega)
        rw [E1] at hy1
        have HR1 := Lib.hid hR1
        have HE2 := Lib.hid E2
        have bh0 : -9000 ≤ xhi * iv := ok.h0
        have bh9 : xhi * iv ≤ 9000 := ok.h9
        have bl0 : -9000 ≤ xlo * iv := ok.l0
        have bl9 : xlo * iv ≤ 9000 := ok.l9
        have g1 := (B4.cell (p := ⟨wr.heap.size, 1, none⟩) s1).trans m1
        have g2 := (B4.cell (p := ⟨wr.heap.size, 2, none⟩) s1).trans m2
        have g3 := (B4.cell (p := ⟨Bl, 3, none⟩) t1).trans l3
        have g4 : ((((w2.alloc (Obj.cells #[.int .i64 2, .int .i64 xa, .int .i64 xb, .int .i64 xlo, .int .i64 xhi] 145)).alloc (Obj.cells #[.int .i64 2, .int .i64 xa, .int .i64 xb, .int .i64 xlo, .int .i64 xhi, .int .i64 iv] 147)).alloc (Obj.cells #[.int .i64 (xlo * iv), .int .i64 (xhi * iv)] 40)).alloc (Obj.cells #[.int .i64 (xlo * iv), .int .i64 (xhi * iv)] 40)).cell? ⟨w2.heap.size + 1 + 1 + 1, 0, none⟩ = some (.int .i64 (xlo * iv)) := World.cell?_alloc_at _ _ _ _ (by simp)
        have HG : Hid ((((((w2.alloc (Obj.cells #[.int .i64 2, .int .i64 xa, .int .i64 xb, .int .i64 xlo, .int .i64 xhi] 145)).alloc (Obj.cells #[.int .i64 2, .int .i64 xa, .int .i64 xb, .int .i64 xlo, .int .i64 xhi, .int .i64 iv] 147)).alloc (Obj.cells #[.int .i64 (xlo * iv), .int .i64 (xhi * iv)] 40)).alloc (Obj.cells #[.int .i64 (xlo * iv), .int .i64 (xhi * iv)] 40)).cell? ⟨wr.heap.size, 1, none⟩ = some (.int .i64 xa) ∧ ((((w2.alloc (Obj.cells #[.int .i64 2, .int .i64 xa, .int .i64 xb, .int .i64 xlo, .int .i64 xhi] 145)).alloc (Obj.cells #[.int .i64 2, .int .i64 xa, .int .i64 xb, .int .i64 xlo, .int .i64 xhi, .int .i64 iv] 147)).alloc (Obj.cells #[.int .i64 (xlo * iv), .int .i64 (xhi * iv)] 40)).alloc (Obj.cells #[.int .i64 (xlo * iv), .int .i64 (xhi * iv)] 40)).cell? ⟨wr.heap.size, 2, none⟩ = some (.int .i64 xb)) ∧ ((((w2.alloc (Obj.cells #[.int .i64 2, .int .i64 xa, .int .i64 xb, .int .i64 xlo, .int .i64 xhi] 145)).alloc (Obj.cells #[.int .i64 2, .int .i64 xa, .int .i64 xb, .int .i64 xlo, .int .i64 xhi, .int .i64 iv] 147)).alloc (Obj.cells #[.int .i64 (xlo * iv), .int .i64 (xhi * iv)] 40)).alloc (Obj.cells #[.int .i64 (xlo * iv), .int .i64 (xhi * iv)] 40)).cell? ⟨Bl, 3, none⟩ = some (.int .i64 wd) ∧ ((((w2.alloc (Obj.cells #[.int .i64 2, .int .i64 xa, .int .i64 xb, .int .i64 xlo, .int .i64 xhi] 145)).alloc (Obj.cells #[.int .i64 2, .int .i64 xa, .int .i64 xb, .int .i64 xlo, .int .i64 xhi, .int .i64 iv] 147)).alloc (Obj.cells #[.int .i64 (xlo * iv), .int .i64 (xhi * iv)] 40)).alloc (Obj.cells #[.int .i64 (xlo * iv), .int .i64 (xhi * iv)] 40)).cell? ⟨w2.heap.size + 1 + 1 + 1, 0, none⟩ = some (.int .i64 (xlo * iv))) := ⟨⟨g1, g2⟩, g3, g4⟩
        have K4 := Lib.hid (K2.trans (Kpc.of_below B4))
        clear hR1 B4 J4 E1 E2 g1 g2 g3 g4 K2 hL2
        gi_wp2_with fail
        refine ⟨trivial, ?_⟩
        refine (callsIn_wide.2 (spotOver 2 xa xb xlo xhi _)).mono ?_
        rintro e w3 ⟨rfl, rfl⟩
        gi_wp2_with fail
        refine ⟨trivial, ?_⟩
        refine (callsIn_wide.2 (contourSpan 2 xa xb xlo xhi iv _ hiv.1 hiv.2 (by have := ok.c0 rfl; simp only at this; omega) (by have := ok.c0 rfl; simp only at this; omega) (by have := ok.c0 rfl; simp only at this; omega) (by have := ok.c0 rfl; simp only at this; omega))).mono ?_
        rintro e w4 ⟨rfl, rfl⟩
        gi_wp2_with fail
        refine HR1.out.mono ?_
        rintro e W5 (⟨rfl, hJ5, hk5⟩ | ⟨rfl, hJx5⟩)
        · have h51 := hk5.cell ne1 HG.out.1.1
          have h52 := hk5.cell ne1 HG.out.1.2
          have h53 := hk5.cell hBl HG.out.2.1
          have h54 := hk5.cell ne2 HG.out.2.2
          have K5 := Lib.hid (K4.out.trans hk5)
          obtain ⟨fn2, tmps2, assign2, body2, hy2, hR2⟩ := HY.out _ (fin9 (over ⟨2, xa, xb, xlo, xhi⟩), fin9 xa, wd - loOf iv ⟨2, xa, xb, xlo, xhi⟩) _ hJ5 (by rw [List.length_append, hpre.out]; simp; omega)
          rw [HE2.out] at hy2
          have HR2 := Lib.hid hR2
          clear hR2 hJ5 hk5 HR1 HG K4 hy1
          gi_wp2_with fail
          refine HR2.out.mono ?_
          rintro e W6 (⟨rfl, hJ6, hk6⟩ | ⟨rfl, hJx6⟩)
          · have K6 : Hid (Kpc Bf W W6) := K5.out.trans hk6
            have J6 : Hid (J (bdsL iv wd (notes.take (k + 1))) W6) := by show J _ _; rw [hnext.out]; exact hJ6
            clear hJ6 hk6
            gi_wp2
            go_roundw
            case rel => exact ⟨k + 1, by omega, by go_num, J6, K6⟩
            case measure => simp [intOf]; omega
          · have JX : Hid (∃ pre, True ∧ Jx pre W6) := ⟨_, trivial, hJx6⟩
            clear hJx6
            gi_wp2
            refine bodyPost_ret (results_none rfl _ _ _) rfl ?_
            exact ⟨⟨_, rfl⟩, .inr JX.out⟩
        · have JX : Hid (∃ pre, True ∧ Jx pre W5) := ⟨_, trivial, hJx5⟩
          clear hJx5 hy1 HG
          gi_wp2
          refine ⟨fun _ h => (by cases h), ?_⟩
          gi_wp2
          refine bodyPost_ret (results_none rfl _ _ _) rfl ?_
          exact ⟨⟨_, rfl⟩, .inr JX.out⟩
      · rw [sayV_3]
        have q := methOver3 xa xb xlo xhi iv
        have p := methSpan3 xa xb xlo xhi iv
        have B4 : Below w2.heap.size w2 ((((w2.alloc (Obj.cells #[.int .i64 3, .int .i64 xa, .int .i64 xb, .int .i64 xlo, .int .i64 xhi] 148)).alloc (Obj.cells #[.int .i64 3, .int .i64 xa, .int .i64 xb, .int .i64 xlo, .int .i64 xhi] 148)).alloc (Obj.cells #[.int .i64 (xlo), .int .i64 (xhi)] 40)).alloc (Obj.cells #[.int .i64 (xlo), .int .i64 (xhi)] 40)) := ((((Below.refl _ _).alloc (Nat.le_refl _) _).alloc (by simp) _).alloc (by simp; omega) _).alloc (by simp; omega) _
        have J4 := HJ.out _ _ _ none J2 (below_grownBy B4) (fun r e => by cases e)
        have E1 : encB (fin9 xa, fin9 (over ⟨3, xa, xb, xlo, xhi⟩), hiOf iv ⟨3, xa, xb, xlo, xhi⟩ + wd) = #[.agg #[.int .i64 xa, .int .i64 xb, .int .i64 (xhi + wd)]] := encB_of _ _ _ ok.a0 (by have := ok.a8; simp only at this; omega) ok.o0 ok.o8 (by have := ok.h0; omega) (by have := ok.h9; omega)
        have E2 : encB (fin9 (over ⟨3, xa, xb, xlo, xhi⟩), fin9 xa, wd - loOf iv ⟨3, xa, xb, xlo, xhi⟩) = #[.agg #[.int .i64 xb, .int .i64 xa, .int .i64 (wd - xlo)]] := encB_of _ _ _ ok.o0 ok.o8 ok.a0 (by have := ok.a8; simp only at this; omega) (by have := ok.l9; omega) (by have := ok.l0; omega)
        obtain ⟨fn1, tmps1, assign1, body1, hy1, hR1⟩ := HY.out _ (fin9 xa, fin9 (over ⟨3, xa, xb, xlo, xhi⟩), hiOf iv ⟨3, xa, xb, xlo, xhi⟩ + wd) _ J4 (by rw [hpre.out]; omega)
        rw [E1] at hy1
        have HR1 := Lib.hid hR1
        have HE2 := Lib.hid E2
        have bh0 : -9000 ≤ xhi := ok.h0
        have bh9 : xhi ≤ 9000 := ok.h9
        have bl0 : -9000 ≤ xlo := ok.l0
        have bl9 : xlo ≤ 9000 := ok.l9
        have g1 := (B4.cell (p := ⟨wr.heap.size, 1, none⟩) s1).trans m1
        have g2 := (B4.cell (p := ⟨wr.heap.size, 2, none⟩) s1).trans m2
        have g3 := (B4.cell (p := ⟨Bl, 3, none⟩) t1).trans l3
        have g4 : ((((w2.alloc (Obj.cells #[.int .i64 3, .int .i64 xa, .int .i64 xb, .int .i64 xlo, .int .i64 xhi] 148)).alloc (Obj.cells #[.int .i64 3, .int .i64 xa, .int .i64 xb, .int .i64 xlo, .int .i64 xhi] 148)).alloc (Obj.cells #[.int .i64 (xlo), .int .i64 (xhi)] 40)).alloc (Obj.cells #[.int .i64 (xlo), .int .i64 (xhi)] 40)).cell? ⟨w2.heap.size + 1 + 1 + 1, 0, none⟩ = some (.int .i64 (xlo)) := World.cell?_alloc_at _ _ _ _ (by simp)
        have HG : Hid ((((((w2.alloc (Obj.cells #[.int .i64 3, .int .i64 xa, .int .i64 xb, .int .i64 xlo, .int .i64 xhi] 148)).alloc (Obj.cells #[.int .i64 3, .int .i64 xa, .int .i64 xb, .int .i64 xlo, .int .i64 xhi] 148)).alloc (Obj.cells #[.int .i64 (xlo), .int .i64 (xhi)] 40)).alloc (Obj.cells #[.int .i64 (xlo), .int .i64 (xhi)] 40)).cell? ⟨wr.heap.size, 1, none⟩ = some (.int .i64 xa) ∧ ((((w2.alloc (Obj.cells #[.int .i64 3, .int .i64 xa, .int .i64 xb, .int .i64 xlo, .int .i64 xhi] 148)).alloc (Obj.cells #[.int .i64 3, .int .i64 xa, .int .i64 xb, .int .i64 xlo, .int .i64 xhi] 148)).alloc (Obj.cells #[.int .i64 (xlo), .int .i64 (xhi)] 40)).alloc (Obj.cells #[.int .i64 (xlo), .int .i64 (xhi)] 40)).cell? ⟨wr.heap.size, 2, none⟩ = some (.int .i64 xb)) ∧ ((((w2.alloc (Obj.cells #[.int .i64 3, .int .i64 xa, .int .i64 xb, .int .i64 xlo, .int .i64 xhi] 148)).alloc (Obj.cells #[.int .i64 3, .int .i64 xa, .int .i64 xb, .int .i64 xlo, .int .i64 xhi] 148)).alloc (Obj.cells #[.int .i64 (xlo), .int .i64 (xhi)] 40)).alloc (Obj.cells #[.int .i64 (xlo), .int .i64 (xhi)] 40)).cell? ⟨Bl, 3, none⟩ = some (.int .i64 wd) ∧ ((((w2.alloc (Obj.cells #[.int .i64 3, .int .i64 xa, .int .i64 xb, .int .i64 xlo, .int .i64 xhi] 148)).alloc (Obj.cells #[.int .i64 3, .int .i64 xa, .int .i64 xb, .int .i64 xlo, .int .i64 xhi] 148)).alloc (Obj.cells #[.int .i64 (xlo), .int .i64 (xhi)] 40)).alloc (Obj.cells #[.int .i64 (xlo), .int .i64 (xhi)] 40)).cell? ⟨w2.heap.size + 1 + 1 + 1, 0, none⟩ = some (.int .i64 (xlo))) := ⟨⟨g1, g2⟩, g3, g4⟩
        have K4 := Lib.hid (K2.trans (Kpc.of_below B4))
        clear hR1 B4 J4 E1 E2 g1 g2 g3 g4 K2 hL2
        gi_wp2_with fail
        refine ⟨trivial, ?_⟩
        refine (callsIn_wide.2 (slopeOver 3 xa xb xlo xhi _)).mono ?_
        rintro e w3 ⟨rfl, rfl⟩
        gi_wp2_with fail
        refine ⟨trivial, ?_⟩
        refine (callsIn_wide.2 (slopeSpan 3 xa xb xlo xhi _)).mono ?_
        rintro e w4 ⟨rfl, rfl⟩
        gi_wp2_with fail
        refine HR1.out.mono ?_
        rintro e W5 (⟨rfl, hJ5, hk5⟩ | ⟨rfl, hJx5⟩)
        · have h51 := hk5.cell ne1 HG.out.1.1
          have h52 := hk5.cell ne1 HG.out.1.2
          have h53 := hk5.cell hBl HG.out.2.1
          have h54 := hk5.cell ne2 HG.out.2.2
          have K5 := Lib.hid (K4.out.trans hk5)
          obtain ⟨fn2, tmps2, assign2, body2, hy2, hR2⟩ := HY.out _ (fin9 (over ⟨3, xa, xb, xlo, xhi⟩), fin9 xa, wd - loOf iv ⟨3, xa, xb, xlo, xhi⟩) _ hJ5 (by rw [List.length_append, hpre.out]; simp; omega)
          rw [HE2.out] at hy2
          have HR2 := Lib.hid hR2
          clear hR2 hJ5 hk5 HR1 HG K4 hy1
          gi_wp2_with fail
          refine HR2.out.mono ?_
          rintro e W6 (⟨rfl, hJ6, hk6⟩ | ⟨rfl, hJx6⟩)
          · have K6 : Hid (Kpc Bf W W6) := K5.out.trans hk6
            have J6 : Hid (J (bdsL iv wd (notes.take (k + 1))) W6) := by show J _ _; rw [hnext.out]; exact hJ6
            clear hJ6 hk6
            gi_wp2
            go_roundw
            case rel => exact ⟨k + 1, by omega, by go_num, J6, K6⟩
            case measure => simp [intOf]; omega
          · have JX : Hid (∃ pre, True ∧ Jx pre W6) := ⟨_, trivial, hJx6⟩
            clear hJx6
            gi_wp2
            refine bodyPost_ret (results_none rfl _ _ _) rfl ?_
            exact ⟨⟨_, rfl⟩, .inr JX.out⟩
        · have JX : Hid (∃ pre, True ∧ Jx pre W5) := ⟨_, trivial, hJx5⟩
          clear hJx5 hy1 HG
          gi_wp2
          refine ⟨fun _ h => (by cases h), ?_⟩
          gi_wp2
          refine bodyPost_ret (results_none rfl _ _ _) rfl ?_
          exact ⟨⟨_, rfl⟩, .inr JX.out⟩
      · rw [sayV_4]
        have q := methOver4 xa xb xlo xhi iv
        have p := methSpan4 xa xb xlo xhi iv
        have B4 : Below w2.heap.size w2 ((((w2.alloc (Obj.cells #[.int .i64 4, .int .i64 xa, .int .i64 xb, .int .i64 xlo, .int .i64 xhi] 148)).alloc (Obj.cells #[.int .i64 4, .int .i64 xa, .int .i64 xb, .int .i64 xlo, .int .i64 xhi] 148)).alloc (Obj.cells #[.int .i64 (xlo), .int .i64 (xhi)] 40)).alloc (Obj.cells #[.int .i64 (xlo), .int .i64 (xhi)] 40)) := ((((Below.refl _ _).alloc (Nat.le_refl _) _).alloc (by simp) _).alloc (by simp; omega) _).alloc (by simp; omega) _
        have J4 := HJ.out _ _ _ none J2 (below_grownBy B4) (fun r e => by cases e)
        have E1 : encB (fin9 xa, fin9 (over ⟨4, xa, xb, xlo, xhi⟩), hiOf iv ⟨4, xa, xb, xlo, xhi⟩ + wd) = #[.agg #[.int .i64 xa, .int .i64 xb, .int .i64 (xhi + wd)]] := encB_of _ _ _ ok.a0 (by have := ok.a8; simp only at this; omega) ok.o0 ok.o8 (by have := ok.h0; omega) (by have := ok.h9; omega)
        have E2 : encB (fin9 (over ⟨4, xa, xb, xlo, xhi⟩), fin9 xa, wd - loOf iv ⟨4, xa, xb, xlo, xhi⟩) = #[.agg #[.int .i64 xb, .int .i64 xa, .int .i64 (wd - xlo)]] := encB_of _ _ _ ok.o0 ok.o8 ok.a0 (by have := ok.a8; simp only at this; omega) (by have := ok.l9; omega) (by have := ok.l0; omega)
        obtain ⟨fn1, tmps1, assign1, body1, hy1, hR1⟩ := HY.out _ (fin9 xa, fin9 (over ⟨4, xa, xb, xlo, xhi⟩), hiOf iv ⟨4, xa, xb, xlo, xhi⟩ + wd) _ J4 (by rw [hpre.out]; omega)
        rw [E1] at hy1
        have HR1 := Lib.hid hR1
        have HE2 := Lib.hid E2
        have bh0 : -9000 ≤ xhi := ok.h0
        have bh9 : xhi ≤ 9000 := ok.h9
        have bl0 : -9000 ≤ xlo := ok.l0
        have bl9 : xlo ≤ 9000 := ok.l9
        have g1 := (B4.cell (p := ⟨wr.heap.size, 1, none⟩) s1).trans m1
        have g2 := (B4.cell (p := ⟨wr.heap.size, 2, none⟩) s1).trans m2
        have g3 := (B4.cell (p := ⟨Bl, 3, none⟩) t1).trans l3
        have g4 : ((((w2.alloc (Obj.cells #[.int .i64 4, .int .i64 xa, .int .i64 xb, .int .i64 xlo, .int .i64 xhi] 148)).alloc (Obj.cells #[.int .i64 4, .int .i64 xa, .int .i64 xb, .int .i64 xlo, .int .i64 xhi] 148)).alloc (Obj.cells #[.int .i64 (xlo), .int .i64 (xhi)] 40)).alloc (Obj.cells #[.int .i64 (xlo), .int .i64 (xhi)] 40)).cell? ⟨w2.heap.size + 1 + 1 + 1, 0, none⟩ = some (.int .i64 (xlo)) := World.cell?_alloc_at _ _ _ _ (by simp)
        have HG : Hid ((((((w2.alloc (Obj.cells #[.int .i64 4, .int .i64 xa, .int .i64 xb, .int .i64 xlo, .int .i64 xhi] 148)).alloc (Obj.cells #[.int .i64 4, .int .i64 xa, .int .i64 xb, .int .i64 xlo, .int .i64 xhi] 148)).alloc (Obj.cells #[.int .i64 (xlo), .int .i64 (xhi)] 40)).alloc (Obj.cells #[.int .i64 (xlo), .int .i64 (xhi)] 40)).cell? ⟨wr.heap.size, 1, none⟩ = some (.int .i64 xa) ∧ ((((w2.alloc (Obj.cells #[.int .i64 4, .int .i64 xa, .int .i64 xb, .int .i64 xlo, .int .i64 xhi] 148)).alloc (Obj.cells #[.int .i64 4, .int .i64 xa, .int .i64 xb, .int .i64 xlo, .int .i64 xhi] 148)).alloc (Obj.cells #[.int .i64 (xlo), .int .i64 (xhi)] 40)).alloc (Obj.cells #[.int .i64 (xlo), .int .i64 (xhi)] 40)).cell? ⟨wr.heap.size, 2, none⟩ = some (.int .i64 xb)) ∧ ((((w2.alloc (Obj.cells #[.int .i64 4, .int .i64 xa, .int .i64 xb, .int .i64 xlo, .int .i64 xhi] 148)).alloc (Obj.cells #[.int .i64 4, .int .i64 xa, .int .i64 xb, .int .i64 xlo, .int .i64 xhi] 148)).alloc (Obj.cells #[.int .i64 (xlo), .int .i64 (xhi)] 40)).alloc (Obj.cells #[.int .i64 (xlo), .int .i64 (xhi)] 40)).cell? ⟨Bl, 3, none⟩ = some (.int .i64 wd) ∧ ((((w2.alloc (Obj.cells #[.int .i64 4, .int .i64 xa, .int .i64 xb, .int .i64 xlo, .int .i64 xhi] 148)).alloc (Obj.cells #[.int .i64 4, .int .i64 xa, .int .i64 xb, .int .i64 xlo, .int .i64 xhi] 148)).alloc (Obj.cells #[.int .i64 (xlo), .int .i64 (xhi)] 40)).alloc (Obj.cells #[.int .i64 (xlo), .int .i64 (xhi)] 40)).cell? ⟨w2.heap.size + 1 + 1 + 1, 0, none⟩ = some (.int .i64 (xlo))) := ⟨⟨g1, g2⟩, g3, g4⟩
        have K4 := Lib.hid (K2.trans (Kpc.of_below B4))
        clear hR1 B4 J4 E1 E2 g1 g2 g3 g4 K2 hL2
        gi_wp2_with fail
        refine ⟨trivial, ?_⟩
        refine (callsIn_wide.2 (slopeOver 4 xa xb xlo xhi _)).mono ?_
        rintro e w3 ⟨rfl, rfl⟩
        gi_wp2_with fail
        refine ⟨trivial, ?_⟩
        refine (callsIn_wide.2 (slopeSpan 4 xa xb xlo xhi _)).mono ?_
        rintro e w4 ⟨rfl, rfl⟩
        gi_wp2_with fail
        refine HR1.out.mono ?_
        rintro e W5 (⟨rfl, hJ5, hk5⟩ | ⟨rfl, hJx5⟩)
        · have h51 := hk5.cell ne1 HG.out.1.1
          have h52 := hk5.cell ne1 HG.out.1.2
          have h53 := hk5.cell hBl HG.out.2.1
          have h54 := hk5.cell ne2 HG.out.2.2
          have K5 := Lib.hid (K4.out.trans hk5)
          obtain ⟨fn2, tmps2, assign2, body2, hy2, hR2⟩ := HY.out _ (fin9 (over ⟨4, xa, xb, xlo, xhi⟩), fin9 xa, wd - loOf iv ⟨4, xa, xb, xlo, xhi⟩) _ hJ5 (by rw [List.length_append, hpre.out]; simp; omega)
          rw [HE2.out] at hy2
          have HR2 := Lib.hid hR2
          clear hR2 hJ5 hk5 HR1 HG K4 hy1
          gi_wp2_with fail
          refine HR2.out.mono ?_
          rintro e W6 (⟨rfl, hJ6, hk6⟩ | ⟨rfl, hJx6⟩)
          · have K6 : Hid (Kpc Bf W W6) := K5.out.trans hk6
            have J6 : Hid (J (bdsL iv wd (notes.take (k + 1))) W6) := by show J _ _; rw [hnext.out]; exact hJ6
            clear hJ6 hk6
            gi_wp2
            go_roundw
            case rel => exact ⟨k + 1, by omega, by go_num, J6, K6⟩
            case measure => simp [intOf]; omega
          · have JX : Hid (∃ pre, True ∧ Jx pre W6) := ⟨_, trivial, hJx6⟩
            clear hJx6
            gi_wp2
            refine bodyPost_ret (results_none rfl _ _ _) rfl ?_
            exact ⟨⟨_, rfl⟩, .inr JX.out⟩
        · have JX : Hid (∃ pre, True ∧ Jx pre W5) := ⟨_, trivial, hJx5⟩
          clear hJx5 hy1 HG
          gi_wp2
          refine ⟨fun _ h => (by cases h), ?_⟩
          gi_wp2
          refine bodyPost_ret (results_none rfl _ _ _) rfl ?_
          exact ⟨⟨_, rfl⟩, .inr JX.out⟩
    · have hkl : k = notes.length := by omega
      have J0 : Hid (J (bdsL iv wd notes) wr) := by
        have := HJs.out
        rw [hkl, List.take_length] at this
        exact this
      clear hkl
      gi_wp2
      go_end0
      exact ⟨⟨_, rfl⟩, .inl ⟨_, rfl, J0.out⟩⟩
end Go.Proofs.YtacmaddjpaebfaaGreatDoor
