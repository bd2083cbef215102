/- Package edge: cases that are looked at: wanting, look. -/
import Derived.Test.YtojdocomkhihoaaEv1
import Derived.Deep.WholeRow
import Derived.Laws.Tables
import Derived.Great.BuildSlice
import Derived.Laws.CopyOwn
set_option linter.unusedSimpArgs false
set_option linter.unusedVariables false
namespace Go.Proofs.Ytojdocomkhihoaa
open Go Go.RowKit Ed

/-- The cells of a case that is looked at, with what its edges want. -/
def lkC (tol : Int) (sv ev : Value) (ws : List Int) : Array Value := (Value.int .i64 tol :: sv :: ev :: ws.map (Value.int .i64)).toArray
theorem lk_size (tol : Int) (sv ev : Value) (ws : List Int) : (lkC tol sv ev ws).size = ws.length + 3 := by simp [lkC]
theorem lk_0 (tol : Int) (sv ev : Value) (ws : List Int) : (lkC tol sv ev ws)[0]? = some (.int .i64 tol) := by simp [lkC]
theorem lk_1 (tol : Int) (sv ev : Value) (ws : List Int) : (lkC tol sv ev ws)[1]? = some sv := by simp [lkC]
theorem lk_2 (tol : Int) (sv ev : Value) (ws : List Int) : (lkC tol sv ev ws)[2]? = some ev := by simp [lkC]
theorem lk_w (tol : Int) (sv ev : Value) (ws : List Int) (i : Nat) (h : i < ws.length) : (lkC tol sv ev ws)[3 + i]? = some (.int .i64 (ws.getD i 0)) := by
  rw [show 3 + i = i + 1 + 1 + 1 by omega]
  simp [lkC, List.getD_eq_getElem?_getD, h]
theorem lk_set (tol : Int) (sv ev : Value) (ws : List Int) (i : Nat) (x : Int) : (lkC tol sv ev ws).setIfInBounds (3 + i) (.int .i64 x) = lkC tol sv ev (ws.set i x) := by
  apply Array.ext'
  rw [show 3 + i = i + 1 + 1 + 1 by omega]
  simp [lkC, List.map_set]
theorem lk_one (tol : Int) (a b : Option Addr) (n m c d : Nat) (ws : List Int) : (lkC tol (.slice a n c) (.slice b m d) ws).all (·.oneCell') = true := by
  rw [Array.all_eq_true_iff_forall_mem]
  intro x hx
  simp [lkC] at hx
  rcases hx with rfl | rfl | rfl | ⟨y, _, rfl⟩ <;> rfl
def LkBlk (w : World) (b : Nat) (tol : Int) (sv ev : Value) (ws : List Int) : Prop := w.heap[b]? = some (.cells (lkC tol sv ev ws) 89 (0, 0))
theorem LkBlk.lt {w : World} {b : Nat} {tol : Int} {sv ev : Value} {ws : List Int} (h : LkBlk w b tol sv ev ws) : b < w.heap.size := lt_of_block h
theorem LkBlk.below {w w' : World} {b n : Nat} {tol : Int} {sv ev : Value} {ws : List Int} (h : LkBlk w b tol sv ev ws) (hb : Below n w w') (hn : b < n) : LkBlk w' b tol sv ev ws := (hb.block b hn).trans h
theorem LkBlk.c0 {w : World} {b : Nat} {tol : Int} {sv ev : Value} {ws : List Int} (h : LkBlk w b tol sv ev ws) : w.cell? ⟨b, 0, none⟩ = some (.int .i64 tol) := cellOf h 0 _ (lk_0 _ _ _ _)
theorem LkBlk.c1 {w : World} {b : Nat} {tol : Int} {sv ev : Value} {ws : List Int} (h : LkBlk w b tol sv ev ws) : w.cell? ⟨b, 1, none⟩ = some sv := cellOf h 1 _ (lk_1 _ _ _ _)
theorem LkBlk.c2 {w : World} {b : Nat} {tol : Int} {sv ev : Value} {ws : List Int} (h : LkBlk w b tol sv ev ws) : w.cell? ⟨b, 2, none⟩ = some ev := cellOf h 2 _ (lk_2 _ _ _ _)
theorem LkBlk.cw {w : World} {b : Nat} {tol : Int} {sv ev : Value} {ws : List Int} (h : LkBlk w b tol sv ev ws) (i : Nat) (hi : i < ws.length) : w.cell? ⟨b, 3 + i, none⟩ = some (.int .i64 (ws.getD i 0)) := cellOf h (3 + i) _ (lk_w _ _ _ _ i hi)
theorem LkBlk.set {w : World} {b : Nat} {tol : Int} {sv ev : Value} {ws : List Int} (h : LkBlk w b tol sv ev ws) (i : Nat) (x : Int) : LkBlk (w.setCell ⟨b, 3 + i, none⟩ (.int .i64 x)) b tol sv ev (ws.set i x) := by
  unfold LkBlk
  rw [heap_setCell_same w b (3 + i) _ _ _ h, lk_set]
theorem two_other {w : World} {g b i j : Nat} {x y : Value} {X : Obj} (h : w.heap[b]? = some X) (hne : b ≠ g) : ((w.setCell ⟨g, i, none⟩ x).setCell ⟨g, j, none⟩ y).heap[b]? = some X :=
  (heap_setCell_other _ (⟨g, j, none⟩ : Addr) b y (by show b ≠ g; exact hne)).trans ((heap_setCell_other w (⟨g, i, none⟩ : Addr) b x (by show b ≠ g; exact hne)).trans h)
theorem lkSize : (Try.prog.info? 89).map (·.size) = some 19 := by kernel_rfl
theorem lk_load {ops : Array Oper} {rest : List Oper} {o : Oper} {a : Act} {w : World} {Q : Exit → Act → World → Prop} (hgd : o.guard = none) (x : Operand) (ho : o.op = .load 89 x)
    (g : Nat) (hx : a.eval x = .pointer (some ⟨g, 0, none⟩)) (tol : Int) (sv ev : Value) (ws : List Int) (hF : LkBlk w g tol sv ev ws) (hm : ws.length = 16)
    (h : wpList Try.prog ops Q rest (a.put o.dst (.agg (lkC tol sv ev ws))) w) : wpList Try.prog ops Q (o :: rest) a w :=
  wpList_load_row hgd 89 x ho g hx 89 (lkC tol sv ev ws) (0, 0) _ hF Try.underlying89 rfl (by rw [lkSize, lk_size, hm]) h
theorem lk_store {ops : Array Oper} {rest : List Oper} {o : Oper} {a : Act} {w : World} {Q : Exit → Act → World → Prop} (hgd : o.guard = none) (x y : Operand) (ho : o.op = .store 89 x y)
    (g : Nat) (hx : a.eval x = .pointer (some ⟨g, 0, none⟩)) (tol : Int) (sa ea : Option Addr) (n m sc ec : Nat) (ws : List Int) (tol' : Int) (sv' ev' : Value) (ws' : List Int)
    (hy : a.eval y = .agg (lkC tol (.slice sa n sc) (.slice ea m ec) ws)) (hF : LkBlk w g tol' sv' ev' ws') (hm : ws.length = 16) (hm' : ws'.length = 16) (hd : o.dst = none)
    (h : wpList Try.prog ops Q rest a (w.setRow g (lkC tol (.slice sa n sc) (.slice ea m ec) ws))) : wpList Try.prog ops Q (o :: rest) a w :=
  wpList_store_row hgd 89 x y ho g (lkC tol (.slice sa n sc) (.slice ea m ec) ws) hx hy 89 (lkC tol' sv' ev' ws') hF (by rw [lkSize, lk_size, hm]) (by rw [lk_size, lk_size, hm, hm']) (lk_one _ _ _ _ _ _ _ _) (by rw [hd]; exact h)
theorem LkBlk.put {w : World} {b : Nat} {tol : Int} {sv ev : Value} {ws : List Int} (h : LkBlk w b tol sv ev ws) (tol' : Int) (sv' ev' : Value) (ws' : List Int) : LkBlk (w.setRow b (lkC tol' sv' ev' ws')) b tol' sv' ev' ws' := setRow_heap w b _ _ _ _ h
theorem lk_result {fn : Func} {p : Tmp} (h : fn.results = #[.cell p 89]) (tmps : Array Value) (w : World) (g : Nat) (tol : Int) (sv ev : Value) (ws : List Int)
    (hp : tmps.getD p undef = .pointer (some ⟨g, 0, none⟩)) (hF : LkBlk w g tol sv ev ws) (hm : ws.length = 16) : (results fn tmps).run Try.prog w = .ok (.agg (lkC tol sv ev ws)) w :=
  results_cell_row h tmps w g 89 (lkC tol sv ev ws) (0, 0) _ hp hF Try.underlying89 rfl (by rw [lkSize, lk_size, hm])
/-- The numbers of spans, those of the first so many laid. -/
def z16 : List Int := List.replicate 16 0
def wsTo (f : Nat → Int × Int) (k : Nat) : List Int := (List.range 16).map fun j => if j / 2 < k then (if j % 2 = 0 then (f (j / 2)).1 else (f (j / 2)).2) else 0
theorem wsTo_length (f : Nat → Int × Int) (k : Nat) : (wsTo f k).length = 16 := by simp [wsTo]
theorem wsTo_get (f : Nat → Int × Int) (k i : Nat) (h : i < k) (h8 : k ≤ 8) : (wsTo f k).getD (i * 2) 0 = (f i).1 ∧ (wsTo f k).getD (i * 2 + 1) 0 = (f i).2 := by
  have e1 : i * 2 / 2 = i := by omega
  have e2 : (i * 2 + 1) / 2 = i := by omega
  constructor
  · simp [wsTo, List.getD_eq_getElem?_getD, show i * 2 < 16 by omega, h]
  · simp [wsTo, List.getD_eq_getElem?_getD, show i * 2 + 1 < 16 by omega, h, e2]
theorem wsTo_succ (f : Nat → Int × Int) (k : Nat) (h8 : k < 8) : ((wsTo f k).set (k * 2) (f k).1).set (k * 2 + 1) (f k).2 = wsTo f (k + 1) := by
  apply List.ext_getElem?
  intro j
  rcases Nat.lt_or_ge j 16 with hj | hj
  · rw [List.getElem?_set, List.getElem?_set]
    by_cases e1 : k * 2 + 1 = j
    · subst e1
      have q : (k * 2 + 1) / 2 = k := by omega
      rw [if_pos rfl, if_pos (by rw [List.length_set, wsTo_length]; omega)]
      simp [wsTo, hj, q]
    · rw [if_neg e1]
      by_cases e2 : k * 2 = j
      · subst e2
        have q : k * 2 / 2 = k := by omega
        rw [if_pos rfl, if_pos (by rw [wsTo_length]; omega)]
        simp [wsTo, hj, q]
      · rw [if_neg e2]
        simp only [wsTo, List.getElem?_map, List.getElem?_range hj, Option.map_some, Option.some.injEq]
        by_cases q : j / 2 < k
        · have q2 : j / 2 < k + 1 := Nat.lt_succ_of_lt q
          simp only [if_pos q, if_pos q2]
        · have q2 : ¬ j / 2 < k + 1 := by omega
          simp only [if_neg q, if_neg q2]
  · rw [List.getElem?_eq_none (by rw [List.length_set, List.length_set, wsTo_length]; exact hj), List.getElem?_eq_none (by rw [wsTo_length]; exact hj)]
theorem wsTo_zero (f : Nat → Int × Int) : wsTo f 0 = z16 := by
  apply List.ext_getElem?
  intro j
  rcases Nat.lt_or_ge j 16 with hj | hj
  · simp only [wsTo, z16, List.getElem?_map, List.getElem?_range hj, Option.map_some, Nat.not_lt_zero, if_false]
    rw [List.getElem?_replicate, if_pos hj]
  · rw [List.getElem?_eq_none (by rw [wsTo_length]; exact hj), List.getElem?_eq_none (by simp [z16]; exact hj)]
theorem lkZero : (Try.prog.info? 89).map (fun i => (i.zero, i.size)) = some (some (.agg (lkC 0 (.slice none 0 0) (.slice none 0 0) z16)), 19) := by kernel_rfl
theorem lkBuilt (tol : Int) (a b : Option Addr) (n m c d : Nat) : Try.prog.built 89 [(0, .agg #[.int .i64 tol, .slice a n c, .slice b m d])] = some (lkC tol (.slice a n c) (.slice b m d) z16) := by kernel_rfl
theorem lkBuilt0 : Try.prog.built 89 [] = some (lkC 0 (.slice none 0 0) (.slice none 0 0) z16) := by kernel_rfl
/-- What the edges of a case want. -/
def wantF (c : Cas) (i : Nat) : Int × Int := wantS c.tol (c.eds.getD i default).pts
def wsC (c : Cas) : List Int := wsTo (wantF c) c.eds.length
theorem wsC_length (c : Cas) : (wsC c).length = 16 := wsTo_length _ _
set_option maxRecDepth 100000 in
set_option maxHeartbeats 4000000 in
theorem wanting_any (c : Cas) (sv ev : Value) (w : World) (hC : CasAt w c sv ev) (hv : Valid c) :
    Calls Try.prog 83 #[.agg #[.int .i64 c.tol, sv, ev]] w fun e w' => e = .returned (.agg (lkC c.tol sv ev (wsC c))) ∧ Below w.heap.size w w' := by
  obtain ⟨tol, shs, eds⟩ := c
  obtain ⟨hS, hE⟩ := hC
  simp only at hS hE ⊢
  obtain ⟨ls, sa, sc, rfl, lsc, hsn, _⟩ := id hS
  obtain ⟨le, ea, ec, rfl, lec, _⟩ := id hE
  obtain ⟨n, hn⟩ : ∃ n, shs.length = n := ⟨_, rfl⟩
  obtain ⟨m, hm⟩ : ∃ m, eds.length = m := ⟨_, rfl⟩
  have m8 : m ≤ 8 := by rw [← hm]; exact hv.m8
  have t0 : 0 ≤ tol := hv.t0
  have t5 : tol ≤ 50 := hv.t50
  have HEO := Lib.hid hv.ed
  obtain ⟨f, hf⟩ : ∃ f, wantF ⟨tol, shs, eds⟩ = f := ⟨_, rfl⟩
  have HF : Hid (∀ i (h : i < eds.length), f i = wantS tol eds[i].pts) := fun i h => by rw [← hf]; simp [wantF, List.getD_eq_getElem?_getD, h]
  have HWS : Hid (wsC ⟨tol, shs, eds⟩ = wsTo f m) := by show _ = _; unfold wsC; rw [hf, ← hm]
  rw [HWS.out]
  rw [hn] at ls lsc hS ⊢
  rw [hm] at le lec hE ⊢
  have HMM := Lib.hid hm
  have HE := Lib.hid hE
  have mI : (m : Int) ≤ 8 := by omega
  obtain ⟨W, hW, q1, q2, q3, hb, hsz⟩ := al3 w (Obj.cells #[.int .i64 tol, .slice sa n sc, .slice ea m ec] 25) (Obj.cells (lkC 0 (.slice none 0 0) (.slice none 0 0) z16) 89) (Obj.cells (lkC 0 (.slice none 0 0) (.slice none 0 0) z16) 89)
  have n1 : LkBlk (((w.alloc (Obj.cells #[.int .i64 tol, .slice sa n sc, .slice ea m ec] 25)).alloc (Obj.cells (lkC 0 (.slice none 0 0) (.slice none 0 0) z16) 89)).alloc (Obj.cells (lkC 0 (.slice none 0 0) (.slice none 0 0) z16) 89)) (w.heap.size + 1 + 1) 0 (.slice none 0 0) (.slice none 0 0) z16 := by rw [hW]; exact q3
  have HW := Lib.hid hW
  have HQ1 := Lib.hid q1
  have HQ2 := Lib.hid q2
  have HQ3 := Lib.hid q3
  have HB := Lib.hid hb
  have HSZ := Lib.hid hsz
  have HN1 := Lib.hid n1
  have hz := (zero_of_info lkZero).1
  have K1 : Hid (((((w.alloc (Obj.cells #[.int .i64 tol, .slice sa n sc, .slice ea m ec] 25)).alloc (Obj.cells (lkC 0 (.slice none 0 0) (.slice none 0 0) z16) 89)).alloc (Obj.cells (lkC 0 (.slice none 0 0) (.slice none 0 0) z16) 89)).setRow (w.heap.size + 1 + 1) (lkC tol (.slice sa n sc) (.slice ea m ec) z16)).heap[w.heap.size]? = some (.cells #[.int .i64 tol, .slice sa n sc, .slice ea m ec] 25 (0, 0))) := (setRow_other _ _ _ _ (by omega)).trans (by rw [hW]; exact q1)
  have K2 : Hid (LkBlk ((((w.alloc (Obj.cells #[.int .i64 tol, .slice sa n sc, .slice ea m ec] 25)).alloc (Obj.cells (lkC 0 (.slice none 0 0) (.slice none 0 0) z16) 89)).alloc (Obj.cells (lkC 0 (.slice none 0 0) (.slice none 0 0) z16) 89)).setRow (w.heap.size + 1 + 1) (lkC tol (.slice sa n sc) (.slice ea m ec) z16)) (w.heap.size + 1) 0 (.slice none 0 0) (.slice none 0 0) z16) := (setRow_other _ _ _ _ (by omega)).trans (by rw [hW]; exact q2)
  have K3 : Hid (LkBlk ((((w.alloc (Obj.cells #[.int .i64 tol, .slice sa n sc, .slice ea m ec] 25)).alloc (Obj.cells (lkC 0 (.slice none 0 0) (.slice none 0 0) z16) 89)).alloc (Obj.cells (lkC 0 (.slice none 0 0) (.slice none 0 0) z16) 89)).setRow (w.heap.size + 1 + 1) (lkC tol (.slice sa n sc) (.slice ea m ec) z16)) (w.heap.size + 1 + 1) tol (.slice sa n sc) (.slice ea m ec) z16) := HN1.out.put _ _ _ _
  have K4 : Hid (Below w.heap.size w ((((w.alloc (Obj.cells #[.int .i64 tol, .slice sa n sc, .slice ea m ec] 25)).alloc (Obj.cells (lkC 0 (.slice none 0 0) (.slice none 0 0) z16) 89)).alloc (Obj.cells (lkC 0 (.slice none 0 0) (.slice none 0 0) z16) 89)).setRow (w.heap.size + 1 + 1) (lkC tol (.slice sa n sc) (.slice ea m ec) z16))) := below_setRow (by rw [hW]; exact hb) (by omega) _
  have r0 := cellOf K1.out 0 _ rfl
  have r2 := cellOf K1.out 2 _ rfl
  have rl := lt_of_block K1.out
  clear hS hE hsn hn hm hW q1 q2 q3 hb hsz hv hf ls lsc le lec n1 HW HQ1 HQ2 HQ3 HB HSZ
  go_enter Try.func83, Try.ntmps83
  go_wp2_with (first
    | (refine wpList_buildTo rfl 89 #[(0, .tmp 6)] rfl (some 7) rfl _ (lkBuilt tol sa ea n m sc ec) ?_)
    | (refine lk_store rfl (.tmp 3) (.tmp 7) rfl (w.heap.size + 1 + 1) rfl tol sa ea n m sc ec z16 0 (.slice none 0 0) (.slice none 0 0) z16 rfl HN1.out rfl rfl rfl ?_; generalize hWS : (((w.alloc (Obj.cells #[.int .i64 tol, .slice sa n sc, .slice ea m ec] 25)).alloc (Obj.cells (lkC 0 (.slice none 0 0) (.slice none 0 0) z16) 89)).alloc (Obj.cells (lkC 0 (.slice none 0 0) (.slice none 0 0) z16) 89)).setRow (w.heap.size + 1 + 1) (lkC tol (.slice sa n sc) (.slice ea m ec) z16) = WS at *; clear hWS))
  clear r0 r2 rl HN1 hz
  go_loopg [11] m (fun g v wr => ∃ k : Nat, g + k = m ∧ v = .int .i64 k ∧ Hid (LkBlk wr (w.heap.size + 1 + 1) tol (.slice sa n sc) (.slice ea m ec) (wsTo f k)) ∧ Hid (LkBlk wr (w.heap.size + 1) 0 (.slice none 0 0) (.slice none 0 0) z16) ∧ Hid (wr.heap[w.heap.size]? = some (.cells #[.int .i64 tol, .slice sa n sc, .slice ea m ec] 25 (0, 0))) ∧ Hid (Below w.heap.size w wr))
  case atStart => exact ⟨0, by omega, rfl, by rw [wsTo_zero]; exact K3, K2, K1, K4⟩
  case round =>
    clear K1 K2 K3 K4
    obtain ⟨k, hk, rfl, K3, K2, K1, K4⟩ := hrel
    have r0 := cellOf K1.out 0 _ rfl
    have rl := lt_of_block K1.out
    by_cases hkm : k < m
    · have kI : (k : Int) < (m : Int) := by omega
      have k8 : (k : Int) < 8 := by omega
      have hk' : k < eds.length := by rw [HMM.out]; exact hkm
      obtain ⟨eb, eo, pa, pc, rfl, d0, d1, d2, hpp⟩ := (HE.out.below K4.out).get hk'
      have hfk := HF.out k hk'
      obtain ⟨_, _, _, _, _, p1, p4, hok⟩ := HEO.out eds[k] (List.getElem_mem hk')
      generalize eds[k] = d at *
      obtain ⟨da, db, ps⟩ := d
      simp only at d0 d1 d2 hpp hfk p1 p4 hok
      obtain ⟨np, hnp⟩ : ∃ np, ps.length = np := ⟨_, rfl⟩
      rw [hnp] at d2 hpp
      have hba : Below wr.heap.size wr (wr.alloc (Obj.cells #[.int .i64 da, .int .i64 db, .slice pa np pc] 71)) := by go_grown
      have HWF := Lib.hid (wanted_any _ ps tol (wr.alloc (Obj.cells #[.int .i64 da, .int .i64 db, .slice pa np pc] 71)) (hpp.below hba) p4 hok t0 t5)
      rw [← hfk] at HWF
      have HST := Lib.hid (wsTo_succ f k (by omega))
      generalize f k = s at *
      obtain ⟨lo, hi⟩ := s
      simp only at HWF HST
      have hsl := World.block_lt_of_cell? wr ⟨eb, eo + k * 3, none⟩ d0
      have K1a := Lib.hid ((hba.block _ (lt_of_block K1.out)).trans K1.out)
      have K2a := Lib.hid (K2.out.below hba K2.out.lt)
      have K3a := Lib.hid (K3.out.below hba K3.out.lt)
      have K4a := Lib.hid (K4.out.trans (hba.mono K4.out.size))
      clear hpp hfk hok hnp hk'
      go_wp2_with fail
      refine HWF.out.mono ?_
      rintro e wg ⟨rfl, hbg⟩
      have K1b := Lib.hid ((hbg.block _ (lt_of_block K1a.out)).trans K1a.out)
      have K2b := Lib.hid (K2a.out.below hbg K2a.out.lt)
      have K3b := Lib.hid (K3a.out.below hbg K3a.out.lt)
      have K4b := Lib.hid (K4a.out.trans (hbg.mono K4a.out.size))
      clear hba hbg d0 d1 d2 hsl K1a K2a K3a K4a K1 K2 K3 K4 r0 rl HWF
      have x0 := K3b.out.cw (k * 2) (by rw [wsTo_length]; omega)
      have x1 : wg.cell? ⟨w.heap.size + 1 + 1, 3 + k * 2 + 1, none⟩ = some (.int .i64 ((wsTo f k).getD (k * 2 + 1) 0)) := K3b.out.cw (k * 2 + 1) (by rw [wsTo_length]; omega)
      have f0 := frozen_of_row _ _ (3 + k * 2) _ _ K3b.out
      have f1 := frozen_of_row _ _ (3 + k * 2 + 1) _ _ K3b.out
      have gl := K3b.out.lt
      go_wp2
      go_roundg (gk - 1)
      case measure => omega
      case rel =>
        refine ⟨k + 1, by omega, by go_num, ?_, two_other K2b.out (by omega), two_other K1b.out (by omega), (K4b.out.setCell (p := ⟨w.heap.size + 1 + 1, 3 + k * 2, none⟩) (show w.heap.size ≤ w.heap.size + 1 + 1 by omega) _).setCell (p := ⟨w.heap.size + 1 + 1, 3 + k * 2 + 1, none⟩) (show w.heap.size ≤ w.heap.size + 1 + 1 by omega) _⟩
        have h := (K3b.out.set (k * 2) lo).set (k * 2 + 1) hi
        rw [HST.out] at h
        exact h
    · obtain rfl : k = m := by omega
      have kI : ¬ (k : Int) < (k : Int) := by omega
      clear hkm hk
      go_wp2_with (first
        | (refine lk_load rfl (.tmp 3) rfl (w.heap.size + 1 + 1) rfl tol (.slice sa n sc) (.slice ea k ec) (wsTo f k) K3.out (wsTo_length _ _) ?_)
        | (refine lk_store rfl (.tmp 2) (.tmp 25) rfl (w.heap.size + 1) rfl tol sa ea n k sc ec (wsTo f k) 0 (.slice none 0 0) (.slice none 0 0) z16 rfl K2.out (wsTo_length _ _) rfl rfl ?_))
      exact bodyPost_ret (lk_result rfl _ _ (w.heap.size + 1) tol (.slice sa n sc) (.slice ea k ec) (wsTo f k) rfl (K2.out.put _ _ _ _) (wsTo_length _ _)) rfl ⟨rfl, below_setRow K4.out (by omega) _⟩
end Go.Proofs.Ytojdocomkhihoaa
