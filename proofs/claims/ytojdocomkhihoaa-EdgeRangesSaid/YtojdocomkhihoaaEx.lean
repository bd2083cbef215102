/- Package edge: look; changes as cells. -/
import Derived.Test.YtojdocomkhihoaaEl
set_option linter.unusedSimpArgs false
set_option linter.unusedVariables false
namespace Go.Proofs.Ytojdocomkhihoaa
open Go Go.RowKit Ed

theorem lk_result2 {fn : Func} {p u : Tmp} (h : fn.results = #[.cell p 89, .tmp u]) (tmps : Array Value) (w : World) (g : Nat) (tol : Int) (sv ev : Value) (ws : List Int)
    (hp : tmps.getD p undef = .pointer (some ⟨g, 0, none⟩)) (hF : LkBlk w g tol sv ev ws) (hm : ws.length = 16) : (results fn tmps).run Try.prog w = .ok (.tuple #[.agg (lkC tol sv ev ws), tmps.getD u undef]) w := by
  rw [results_cell_tmp h, hp]
  have := run_loadVar_row (P := Try.prog) w g 89 89 (lkC tol sv ev ws) (0, 0) _ hF Try.underlying89 rfl (by rw [lkSize, lk_size, hm])
  simp [asAddr, this, Result.andThen]
/-- What look answers. -/
def LookP (c : Cas) (sv ev : Value) (w : World) (e : Ending) (w' : World) : Prop :=
  (errC c = 0 → e = .returned (.tuple #[.agg (lkC c.tol sv ev (wsC c)), .int .i64 0])) ∧ (errC c ≠ 0 → e = .returned (.tuple #[.agg (lkC 0 (.slice none 0 0) (.slice none 0 0) z16), .int .i64 (errC c)])) ∧ Below w.heap.size w w'
set_option maxRecDepth 100000 in
set_option maxHeartbeats 4000000 in
theorem look_any (c : Cas) (sv ev : Value) (w : World) (hC : CasAt w c sv ev) :
    Calls Try.prog 54 #[.agg #[.int .i64 c.tol, sv, ev]] w (LookP c sv ev w) := by
  obtain ⟨sa, n, sc, rfl⟩ : ∃ a n c, sv = .slice a n c := by obtain ⟨_, a, cap, h, _⟩ := hC.shs; exact ⟨_, _, _, h⟩
  obtain ⟨ea, m, ec, rfl⟩ : ∃ a n c, ev = .slice a n c := by obtain ⟨_, a, cap, h, _⟩ := hC.eds; exact ⟨_, _, _, h⟩
  obtain ⟨tol, ht⟩ : ∃ t, c.tol = t := ⟨_, rfl⟩
  obtain ⟨c1, h1⟩ : ∃ x, (checkC c).1 = x := ⟨_, rfl⟩
  obtain ⟨c2, h2⟩ : ∃ x, (checkC c).2.1 = x := ⟨_, rfl⟩
  obtain ⟨c3, h3⟩ : ∃ x, (checkC c).2.2 = x := ⟨_, rfl⟩
  have HE : Hid (errC c = c3) := h3
  obtain ⟨W, hW, q1, q2, hb, hsz⟩ := al2 w (Obj.cells #[.int .i64 tol, .slice sa n sc, .slice ea m ec] 25) (Obj.cells (lkC 0 (.slice none 0 0) (.slice none 0 0) z16) 89)
  have hck := check_any c _ _ W (hC.below hb)
  rw [ht, h1, h2, h3] at hck
  have HCK := Lib.hid hck
  have HW := Lib.hid hW
  have HQ1 := Lib.hid q1
  have HQ2 : Hid (LkBlk W (w.heap.size + 1) 0 (.slice none 0 0) (.slice none 0 0) z16) := q2
  have HB := Lib.hid hb
  have HC := Lib.hid (hC.below hb)
  have HT := Lib.hid ht
  have hz := (zero_of_info lkZero).1
  unfold LookP
  rw [HE.out]
  rw [HT.out]
  clear hW q1 q2 hb hsz hck h1 h2 h3 hC ht
  go_enter Try.func54, Try.ntmps54
  go_wp2_with fail
  rw [HW.out]
  refine HCK.out.mono ?_
  rintro e w1 ⟨rfl, hb⟩
  have HB1 := Lib.hid (HB.out.trans (hb.mono HB.out.size))
  have HC1 := Lib.hid (HC.out.below hb)
  have K1 := Lib.hid ((hb.block _ (lt_of_block HQ1.out)).trans HQ1.out)
  have K2 := Lib.hid (HQ2.out.below hb HQ2.out.lt)
  clear hb HB HC HQ1 HQ2 HW HCK hz
  by_cases h0 : c3 = 0
  · subst h0
    have HV := Lib.hid (valid_of HE.out)
    have r0 := cellOf K1.out 0 _ rfl
    have r1 := cellOf K1.out 1 _ rfl
    have r2 := cellOf K1.out 2 _ rfl
    have rl := lt_of_block K1.out
    have hwn := wanting_any c _ _ w1 HC1.out HV.out
    rw [HT.out] at hwn
    have HWN := Lib.hid hwn
    clear hwn
    go_wp2_with fail
    refine HWN.out.mono ?_
    rintro e w2 ⟨rfl, hb⟩
    have HB2 := Lib.hid (HB1.out.trans (hb.mono HB1.out.size))
    have K2b := Lib.hid (K2.out.below hb K2.out.lt)
    clear hb HB1 HC1 K1 K2 r0 r1 r2 rl
    go_wp2_with (refine lk_store rfl (.tmp 2) (.tmp 18) rfl (w.heap.size + 1) rfl tol sa ea n m sc ec (wsC c) 0 (.slice none 0 0) (.slice none 0 0) z16 rfl K2b.out (wsC_length _) rfl rfl ?_)
    exact bodyPost_ret (lk_result2 rfl _ _ (w.heap.size + 1) tol (.slice sa n sc) (.slice ea m ec) (wsC c) rfl (K2b.out.put _ _ _ _) (wsC_length _)) rfl ⟨rfl, below_setRow HB2.out (by omega) _⟩
  · have tz : (c3 != 0) = true := by simp [h0]
    go_wp2_with (first
      | (refine wpList_buildTo rfl 89 #[] rfl (some 15) rfl _ lkBuilt0 ?_)
      | (refine lk_store rfl (.tmp 2) (.tmp 15) rfl (w.heap.size + 1) rfl 0 none none 0 0 0 0 z16 0 (.slice none 0 0) (.slice none 0 0) z16 rfl K2.out rfl rfl rfl ?_))
    exact bodyPost_ret (lk_result2 rfl _ _ (w.heap.size + 1) 0 (.slice none 0 0) (.slice none 0 0) z16 rfl (K2.out.put _ _ _ _) rfl) rfl ⟨fun h => absurd h h0, fun _ => rfl, below_setRow HB1.out (by omega) _⟩
/-- Changes as cells. -/
def chC (x : List Int) : Array Value := (x.map (Value.int .i64)).toArray
theorem ch_size (x : List Int) : (chC x).size = x.length := by simp [chC]
theorem ch_get (x : List Int) (i : Nat) (h : i < x.length) : (chC x)[i]? = some (.int .i64 (x.getD i 0)) := by simp [chC, List.getD_eq_getElem?_getD, h]
theorem ch_set (x : List Int) (i : Nat) (y : Int) : (chC x).setIfInBounds i (.int .i64 y) = chC (x.set i y) := by
  apply Array.ext'
  simp [chC, List.map_set]
theorem ch_one (x : List Int) : (chC x).all (·.oneCell') = true := by
  rw [Array.all_eq_true_iff_forall_mem]
  intro v hv
  simp [chC] at hv
  obtain ⟨y, _, rfl⟩ := hv
  rfl
def ChBlk (w : World) (b : Nat) (x : List Int) : Prop := w.heap[b]? = some (.cells (chC x) 96 (0, 0))
theorem ChBlk.lt {w : World} {b : Nat} {x : List Int} (h : ChBlk w b x) : b < w.heap.size := lt_of_block h
theorem ChBlk.below {w w' : World} {b n : Nat} {x : List Int} (h : ChBlk w b x) (hb : Below n w w') (hn : b < n) : ChBlk w' b x := (hb.block b hn).trans h
theorem ChBlk.cell {w : World} {b : Nat} {x : List Int} (h : ChBlk w b x) (i : Nat) (hi : i < x.length) : w.cell? ⟨b, i, none⟩ = some (.int .i64 (x.getD i 0)) := cellOf h i _ (ch_get x i hi)
theorem ChBlk.set {w : World} {b : Nat} {x : List Int} (h : ChBlk w b x) (i : Nat) (y : Int) : ChBlk (w.setCell ⟨b, i, none⟩ (.int .i64 y)) b (x.set i y) := by
  unfold ChBlk
  rw [heap_setCell_same w b i _ _ _ h, ch_set]
theorem ChBlk.put {w : World} {b : Nat} {x : List Int} (h : ChBlk w b x) (y : List Int) : ChBlk (w.setRow b (chC y)) b y := setRow_heap w b _ _ _ _ h
def z5 : List Int := [0, 0, 0, 0, 0]
theorem chZero : (Try.prog.info? 96).map (fun i => (i.zero, i.size)) = some (some (.agg (chC z5)), 5) := by kernel_rfl
theorem chSize : (Try.prog.info? 96).map (·.size) = some 5 := by kernel_rfl
theorem ch_load {ops : Array Oper} {rest : List Oper} {o : Oper} {a : Act} {w : World} {Q : Exit → Act → World → Prop} (hgd : o.guard = none) (x : Operand) (ho : o.op = .load 96 x)
    (g : Nat) (hx : a.eval x = .pointer (some ⟨g, 0, none⟩)) (m : List Int) (hF : ChBlk w g m) (hm : m.length = 5)
    (h : wpList Try.prog ops Q rest (a.put o.dst (.agg (chC m))) w) : wpList Try.prog ops Q (o :: rest) a w :=
  wpList_load_row hgd 96 x ho g hx 96 (chC m) (0, 0) _ hF Try.underlying96 rfl (by rw [chSize, ch_size, hm]) h
theorem ch_store {ops : Array Oper} {rest : List Oper} {o : Oper} {a : Act} {w : World} {Q : Exit → Act → World → Prop} (hgd : o.guard = none) (x y : Operand) (ho : o.op = .store 96 x y)
    (g : Nat) (hx : a.eval x = .pointer (some ⟨g, 0, none⟩)) (m old : List Int) (hy : a.eval y = .agg (chC m)) (hF : ChBlk w g old) (hm : m.length = 5) (ho' : old.length = 5) (hd : o.dst = none)
    (h : wpList Try.prog ops Q rest a (w.setRow g (chC m))) : wpList Try.prog ops Q (o :: rest) a w :=
  wpList_store_row hgd 96 x y ho g (chC m) hx hy 96 (chC old) hF (by rw [chSize, ch_size, hm]) (by rw [ch_size, ch_size, hm, ho']) (ch_one m) (by rw [hd]; exact h)
end Go.Proofs.Ytojdocomkhihoaa
