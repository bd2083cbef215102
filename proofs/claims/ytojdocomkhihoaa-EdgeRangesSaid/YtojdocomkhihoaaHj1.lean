/- Package edge: the closure that pushes along edges, and calls itself. -/
import Derived.Test.YtojdocomkhihoaaPc
import Derived.Test.YtojdocomkhihoaaFj1
import Derived.Test.YtojdocomkhihoaaHd1
set_option linter.unusedSimpArgs false
set_option linter.unusedVariables false
namespace Go.Proofs.Ytojdocomkhihoaa
open Go Go.RowKit Go.Shelf Ed

theorem PuBlk.put {w : World} {b : Nat} {x : List Int} (h : PuBlk w b x) (y : List Int) : PuBlk (w.setRow b (chC y)) b y := setRow_heap w b _ _ _ _ h
theorem puZero : (Try.prog.info? 109).map (fun i => (i.zero, i.size)) = some (some (.agg (chC z8)), 8) := by kernel_rfl
theorem pu_var {w : World} {g : Nat} {x : List Int} (hF : PuBlk w g x) (hm : x.length = 8) : (loadVar 109 ⟨g, 0, none⟩).run Try.prog w = .ok (.agg (chC x)) w :=
  run_loadVar_row (P := Try.prog) w g 109 109 (chC x) (0, 0) _ hF Try.underlying109 rfl (by rw [puSize, ch_size, hm])
theorem pu_exec {o : Oper} {a : Act} {w : World} {g : Nat} {y : List Int} (x : Operand) (ho : o.op = .load 109 x) (hx : a.eval x = .pointer (some ⟨g, 0, none⟩)) (hF : PuBlk w g y) (hm : y.length = 8) :
    (execOp a.eval o).run Try.prog w = .ok (.value (.agg (chC y))) w := by
  unfold execOp
  simp only [ho, hx, Instr.loadAt, Instr.sureAddr, Sem.run_bind, Sem.run_pure, Result.andThen_ok, pu_var hF hm]
theorem pu_loadw {ops : Array Oper} {rest : List Oper} {o : Oper} {a : Act} {w : World} {Q : Exit → Act → World → Prop} (hw : Region.wanted o (yielded ops a.tmps) = true) (x : Operand) (ho : o.op = .load 109 x)
    (g : Nat) (hx : a.eval x = .pointer (some ⟨g, 0, none⟩)) (m : List Int) (hF : PuBlk w g m) (hm : m.length = 8)
    (h : wpList Try.prog ops Q rest (a.put o.dst (.agg (chC m))) w) : wpList Try.prog ops Q (o :: rest) a w := by
  refine BigFrame.wpList_want hw fun K hK => ?_
  unfold Oper.wp execOp
  simp only [ho, hx, Instr.loadAt, Instr.sureAddr, Sem.run_bind, Sem.run_pure, Result.andThen_ok, pu_var hF hm]
  exact hK _ _ h
theorem pu_store {ops : Array Oper} {rest : List Oper} {o : Oper} {a : Act} {w : World} {Q : Exit → Act → World → Prop} (hgd : o.guard = none) (x y : Operand) (ho : o.op = .store 109 x y)
    (g : Nat) (hx : a.eval x = .pointer (some ⟨g, 0, none⟩)) (m old : List Int) (hy : a.eval y = .agg (chC m)) (hF : PuBlk w g old) (hm : m.length = 8) (ho' : old.length = 8) (hd : o.dst = none)
    (h : wpList Try.prog ops Q rest a (w.setRow g (chC m))) : wpList Try.prog ops Q (o :: rest) a w :=
  wpList_store_row hgd 109 x y ho g (chC m) hx hy 109 (chC old) hF (by rw [puSize, ch_size, hm]) (by rw [ch_size, ch_size, hm, ho']) (ch_one m) (by rw [hd]; exact h)
/-- Where it has been. -/
def bnC (l : List Bool) : Array Value := (l.map Value.bool).toArray
theorem bn_get (l : List Bool) (i : Nat) (h : i < l.length) : (bnC l)[i]? = some (.bool (l.getD i false)) := by simp [bnC, List.getD_eq_getElem?_getD, h]
theorem bn_set (l : List Bool) (i : Nat) (y : Bool) : (bnC l).setIfInBounds i (.bool y) = bnC (l.set i y) := by
  apply Array.ext'
  simp [bnC, List.map_set]
def BnBlk (w : World) (b : Nat) (l : List Bool) : Prop := w.heap[b]? = some (.cells (bnC l) 156 (0, 0))
theorem BnBlk.cell {w : World} {b : Nat} {l : List Bool} (h : BnBlk w b l) (i : Nat) (hi : i < l.length) : w.cell? ⟨b, i, none⟩ = some (.bool (l.getD i false)) := cellOf h i _ (bn_get l i hi)
theorem BnBlk.set {w : World} {b : Nat} {l : List Bool} (h : BnBlk w b l) (i : Nat) (y : Bool) : BnBlk (w.setCell ⟨b, i, none⟩ (.bool y)) b (l.set i y) := by
  unfold BnBlk
  rw [heap_setCell_same w b i _ _ _ h, bn_set]
theorem bnZero : (Try.prog.info? 156).map (fun i => (i.zero, i.size)) = some (some (.agg (bnC no5)), 5) := by kernel_rfl
/-- The falses among five. -/
def cntF (b : List Bool) : Nat := (b.filter fun x => !x).length
theorem cntF_set : ∀ (b : List Bool) (a : Nat), a < b.length → b.getD a false = false → cntF (b.set a true) + 1 = cntF b := by
  intro b
  induction b with
  | nil => intro a h; simp at h
  | cons x b ih =>
    intro a h hb
    cases a with
    | zero =>
      simp at hb
      subst hb
      simp [cntF]
    | succ a =>
      have := ih a (by simpa using h) (by simpa using hb)
      cases x <;> simp [cntF] at this ⊢ <;> omega
theorem set_back (p : List Int) (i : Nat) (y : Int) : (p.set i y).set i (p.getD i 0) = p := by
  apply List.ext_getElem (by simp)
  intro j h1 h2
  by_cases e : i = j
  · subst e; simp [List.getD_eq_getElem?_getD, h2]
  · simp [e]
theorem bset_back (b : List Bool) (i : Nat) (y z : Bool) (h : b.getD i false = z) : (b.set i y).set i z = b := by
  apply List.ext_getElem (by simp)
  intro j h1 h2
  by_cases e : i = j
  · subst e; simp [List.getD_eq_getElem?_getD, h2] at h ⊢; exact h.symm
  · simp [e]
/-- What lay there has not turned, but two blocks. -/
structure B2 (x y : Nat) (w w' : World) : Prop where
  os : w'.os = w.os
  tape : w'.tape = w.tape
  output : w'.output = w.output
  size : w.heap.size ≤ w'.heap.size
  block : ∀ k, k < w.heap.size → k ≠ x → k ≠ y → w'.heap[k]? = w.heap[k]?
theorem B2.refl (x y : Nat) (w : World) : B2 x y w w := ⟨rfl, rfl, rfl, Nat.le_refl _, fun _ _ _ _ => rfl⟩
theorem B2.trans {x y : Nat} {a b c : World} (h : B2 x y a b) (k : B2 x y b c) : B2 x y a c :=
  ⟨k.os.trans h.os, k.tape.trans h.tape, k.output.trans h.output, Nat.le_trans h.size k.size, fun i hi h1 h2 => (k.block i (Nat.lt_of_lt_of_le hi h.size) h1 h2).trans (h.block i hi h1 h2)⟩
theorem B2.of_below {x y : Nat} {w w' : World} (h : Below w.heap.size w w') : B2 x y w w' := ⟨h.os, h.tape, h.output, h.size, fun k hk _ _ => h.block k hk⟩
theorem B2.setL {x y i : Nat} {w w' : World} (h : B2 x y w w') (v : Value) : B2 x y w (w'.setCell ⟨x, i, none⟩ v) :=
  ⟨h.os, h.tape, h.output, by simpa using h.size, fun k hk h1 h2 => (heap_setCell_other w' (⟨x, i, none⟩ : Addr) k v (by show k ≠ x; exact h1)).trans (h.block k hk h1 h2)⟩
theorem B2.setR {x y i : Nat} {w w' : World} (h : B2 x y w w') (v : Value) : B2 x y w (w'.setCell ⟨y, i, none⟩ v) :=
  ⟨h.os, h.tape, h.output, by simpa using h.size, fun k hk h1 h2 => (heap_setCell_other w' (⟨y, i, none⟩ : Addr) k v (by show k ≠ y; exact h2)).trans (h.block k hk h1 h2)⟩
/-- What the closure rests on. -/
structure PuSt (c : Cas) (sv ev : Value) (ws : List Int) (before : Int) (lb pb bb nb fb : Nat) (w0 w : World) : Prop where
  cl : LkBlk w lb c.tol sv ev ws
  cb : w.heap[bb]? = some (.cells #[.int .i64 before] 3 (0, 0))
  cf : w.heap[fb]? = some (.cells #[.func (.func 110) #[] #[.pointer (some ⟨lb, 0, none⟩), .pointer (some ⟨pb, 0, none⟩), .pointer (some ⟨bb, 0, none⟩), .pointer (some ⟨nb, 0, none⟩), .pointer (some ⟨fb, 0, none⟩)]] 153 (0, 0))
  bw : Below w0.heap.size w0 w
/-- Which blocks are which. -/
structure PuDis (lb pb bb nb fb n0 : Nat) : Prop where
  d1 : lb ≠ pb
  d2 : lb ≠ nb
  d3 : bb ≠ pb
  d4 : bb ≠ nb
  d5 : fb ≠ pb
  d6 : fb ≠ nb
  d7 : pb ≠ nb
  d8 : n0 ≤ pb
  d9 : n0 ≤ nb
theorem PuSt.b2 {c : Cas} {sv ev : Value} {ws : List Int} {before : Int} {lb pb bb nb fb : Nat} {w0 w w' : World} (h : PuSt c sv ev ws before lb pb bb nb fb w0 w) (hd : PuDis lb pb bb nb fb w0.heap.size) (hb : B2 pb nb w w') : PuSt c sv ev ws before lb pb bb nb fb w0 w' :=
  ⟨(hb.block _ (lt_of_block h.cl) hd.d1 hd.d2).trans h.cl, (hb.block _ (lt_of_block h.cb) hd.d3 hd.d4).trans h.cb, (hb.block _ (lt_of_block h.cf) hd.d5 hd.d6).trans h.cf,
    ⟨hb.os.trans h.bw.os, hb.tape.trans h.bw.tape, hb.output.trans h.bw.output, Nat.le_trans h.bw.size hb.size, fun k hk => (hb.block k (Nat.lt_of_lt_of_le hk h.bw.size) (by have := hd.d8; omega) (by have := hd.d9; omega)).trans (h.bw.block k hk)⟩⟩
/-- What the closure answers. -/
def PushP (c : Cas) (ws : List Int) (before : Int) (f a : Nat) (p : List Int) (b : List Bool) (pb nb : Nat) (w : World) (e : Ending) (w' : World) : Prop :=
  B2 pb nb w w' ∧ (∀ q, pushM c ws before f a p b = some q → e = .returned (.bool true) ∧ PuBlk w' pb q) ∧ (pushM c ws before f a p b = none → e = .returned (.bool false) ∧ PuBlk w' pb p ∧ BnBlk w' nb b)
set_option maxRecDepth 100000 in
set_option maxHeartbeats 8000000 in
theorem push1_any (c : Cas) (hv : Valid c) (sv ev : Value) (ws : List Int) (hw : ws.length = 16) (hsb : SpBd ws) (before : Int) (lb pb bb nb fb : Nat) (w0 : World) (hC : CasAt w0 c sv ev) (hd : PuDis lb pb bb nb fb w0.heap.size) :
    ∀ (f a : Nat) (p : List Int) (b : List Bool) (K : Int) (w : World), cntF b < f → b.length = 5 → a < c.shs.length → p.length = 8 → 0 ≤ K → PuB K p → K + f ≤ 90000 → PuSt c sv ev ws before lb pb bb nb fb w0 w → PuBlk w pb p → BnBlk w nb b →
    Calls Try.prog 110 #[.int .i64 a, .pointer (some ⟨lb, 0, none⟩), .pointer (some ⟨pb, 0, none⟩), .pointer (some ⟨bb, 0, none⟩), .pointer (some ⟨nb, 0, none⟩), .pointer (some ⟨fb, 0, none⟩)] w (PushP c ws before f a p b pb nb w) := by
  obtain ⟨sa, n, sc, rfl, hn⟩ : ∃ a n cc, sv = .slice a n cc ∧ n = c.shs.length := by obtain ⟨_, a, cap, h, _⟩ := hC.shs; exact ⟨_, _, _, h, rfl⟩
  obtain ⟨ea, m, ec, rfl, hm⟩ : ∃ a n cc, ev = .slice a n cc ∧ n = c.eds.length := by obtain ⟨_, a, cap, h, _⟩ := hC.eds; exact ⟨_, _, _, h, rfl⟩
  have n5 := hv.n5
  have m8 := hv.m8
  rw [← hn] at n5
  rw [← hm] at m8
  have HV := Lib.hid hv
  have HW := Lib.hid hw
  have HSB := Lib.hid hsb
  have HC := Lib.hid hC
  have HD := Lib.hid hd
  have HNN := Lib.hid hn
  have HMM := Lib.hid hm
  clear hv hw hsb hC hd hn hm
  intro f
  induction f with
  | zero => intro a p b K w h; omega
  | succ f ih =>
    intro a p b K w hcnt hbl han hpl hK0 hpb hKf hS hP hB
    have IH := Lib.hid ih
    have HCNT := Lib.hid hcnt
    have HBL := Lib.hid hbl
    have HPL := Lib.hid hpl
    have HPB := Lib.hid hpb
    have HKK : Hid (0 ≤ K ∧ K + ((f : Int) + 1) ≤ 90000) := by show _ ∧ _; refine ⟨hK0, by push_cast at hKf; omega⟩
    have HS := Lib.hid hS
    have HP := Lib.hid hP
    have HB := Lib.hid hB
    have HAN : Hid (a < n) := by show _ < _; rw [HNN.out]; exact han
    have HPM : Hid (pushM c ws before (f + 1) a p b = if before < bndC c ws p then some p else if b.getD a false = true then none else firstSm (fun i => if (acrS (c.eds.getD i default) a).2 = 0 then none else pushM c ws before f (acrS (c.eds.getD i default) a).1.toNat (p.set i (p.getD i 0 + (acrS (c.eds.getD i default) a).2)) (b.set a true)) 0 c.eds.length) := rfl
    have a5 : a < 5 := by have := HAN.out; omega
    have aI : (a : Int) < 5 := by omega
    have HBD := Lib.hid (bound_any c (.slice sa n sc) (.slice ea m ec) ws HW.out HSB.out p hpl (fun i => by have := hpb i; have := HKK.out; omega))
    unfold PushP
    obtain ⟨res, hres⟩ : ∃ r, pushM c ws before (f + 1) a p b = r := ⟨_, rfl⟩
    rw [hres] at HPM ⊢
    obtain ⟨v, hv⟩ : ∃ v, bndC c ws p = v := ⟨_, rfl⟩
    rw [hv] at HPM HBD
    have cb0 := cellOf hS.cb 0 _ rfl
    have cbl := lt_of_block hS.cb
    have cn0 := hB.cell a (by rw [hbl]; exact a5)
    have cn1 := frozen_of_row _ _ a _ _ hB
    have cnl : nb < w.heap.size := lt_of_block hB
    clear ih hcnt hbl han hpl hK0 hpb hKf hS hP hB hres hv
    go_enter Try.func110, Try.ntmps110
    go_wp2_with fail
    refine wp_region_noPanic ?_
    refine wp_region_held_drew (S := (fun W' => LkBlk W' lb c.tol (.slice sa n sc) (.slice ea m ec) ws ∧ PuBlk W' pb p ∧ W'.cell? ⟨bb, 0, none⟩ = some (.int .i64 before) ∧ Below w.heap.size w W')) (by kernel_rfl) ?_ (fun hh0 => ?_)
    · try dsimp only
      exact ⟨HS.out.cl, HP.out, cb0, (Below.refl _ _).drew⟩
    refine wpAnyH_take (i := 0) (v := .agg (lkC c.tol (.slice sa n sc) (.slice ea m ec) ws)) rfl (by as_aux_lemma => kernel_rfl) (by as_aux_lemma => kernel_rfl) (by as_aux_lemma => kernel_rfl) (fun _ _ _ h => h) (Or.inl ⟨by rfl, ?_⟩) (by assumption) ?_
    · exact fun w hSw => lk_exec (.tmp 1) rfl rfl hSw.1 HW.out
    try simp only [Act.put, List.getElem_toArray, List.getElem_cons_succ, List.getElem_cons_zero, List.setIfInBounds_toArray, List.set_cons_zero, List.set_cons_succ]
    refine wpAnyH_take (i := 1) (v := .agg (chC p)) rfl (by as_aux_lemma => kernel_rfl) (by as_aux_lemma => kernel_rfl) (by as_aux_lemma => kernel_rfl) (fun _ _ _ h => h) (Or.inl ⟨by rfl, ?_⟩) (by assumption) ?_
    · exact fun w hSw => pu_exec (.tmp 2) rfl rfl hSw.2.1 HPL.out
    try simp only [Act.put, List.getElem_toArray, List.getElem_cons_succ, List.getElem_cons_zero, List.setIfInBounds_toArray, List.set_cons_zero, List.set_cons_succ]
    refine wpAnyH_take (i := 3) (v := ?_) rfl (by as_aux_lemma => kernel_rfl) (by as_aux_lemma => kernel_rfl) (by as_aux_lemma => kernel_rfl) (fun _ _ _ h => h) (Or.inl ⟨by rfl, ?_⟩) (by assumption) ?_
    rotate_left
    · intro w hSw
      try dsimp only at hSw
      go_simp
      try with_reducible rfl
    try simp only [Act.put, List.getElem_toArray, List.getElem_cons_succ, List.getElem_cons_zero, List.setIfInBounds_toArray, List.set_cons_zero, List.set_cons_succ]
    refine wpAnyH_ready (rs := [2]) (by as_aux_lemma => kernel_rfl) (by simp) ?_
    refine AllReadyH.cons rfl (fun K hK => ?_) AllReadyH.nil
    go_simp
    refine (HBD.out _ (HC.out.below (HS.out.bw.trans (hh0.2.2.2.mono HS.out.bw.size))) HV.out).mono ?_
    rintro e wg ⟨rfl, hbg⟩
    refine hK.out _ _ ?_ (fun hh1 => ?_)
    · try dsimp only
      exact ⟨hh0.1.below hbg hh0.1.lt, hh0.2.1.below hbg hh0.2.1.lt, keepK hh0.2.2.1 hbg, hh0.2.2.2.trans (hbg.mono hh0.2.2.2.size)⟩
    clear hK K hh0
    try simp only [Act.put, List.getElem_toArray, List.getElem_cons_succ, List.getElem_cons_zero, List.setIfInBounds_toArray, List.set_cons_zero, List.set_cons_succ]
    refine wpAnyH_take (i := 4) (v := ?_) rfl (by as_aux_lemma => kernel_rfl) (by as_aux_lemma => kernel_rfl) (by as_aux_lemma => kernel_rfl) (fun _ _ _ h => h) (Or.inl ⟨by rfl, ?_⟩) (by assumption) ?_
    rotate_left
    · intro w hSw
      try dsimp only at hSw
      go_simp
      try with_reducible rfl
    try simp only [Act.put, List.getElem_toArray, List.getElem_cons_succ, List.getElem_cons_zero, List.setIfInBounds_toArray, List.set_cons_zero, List.set_cons_succ]
    refine wpAnyH_done (by as_aux_lemma => kernel_rfl) ?_ _
    refine NoPanic.normal ?_
    have T1 := Lib.hid hh1.2.2.2
    clear hh1 hbg HBD cb0 cbl cn0 cn1 cnl
    by_cases hgt : before < v
    · rw [if_pos hgt] at HPM
      have hgi : v > before := hgt
      go_wp2_with fail
      go_ret
      refine ⟨(B2.of_below T1.out), fun q hq => ⟨rfl, ?_⟩, fun hq => ?_⟩
      · have e := HPM.out; rw [hq] at e; obtain rfl : q = p := by simpa using e
        exact HP.out.below T1.out HP.out.lt
      · have e := HPM.out; rw [hq] at e; cases e
    · rw [if_neg hgt] at HPM
      have hgi : ¬ v > before := hgt
      have hgj : v ≤ before := by omega
      clear hgt
      have S1 := Lib.hid (HS.out.b2 HD.out (B2.of_below T1.out))
      have P1 := Lib.hid (HP.out.below T1.out HP.out.lt)
      have N1 : Hid (BnBlk wg nb b) := (T1.out.block _ (lt_of_block HB.out)).trans HB.out
      have Z1 := Lib.hid (B2.of_below (x := pb) (y := nb) T1.out)
      have cn0 := N1.out.cell a (by rw [HBL.out]; exact a5)
      have cn1 := frozen_of_row _ _ a _ _ N1.out
      have cnl : nb < wg.heap.size := lt_of_block N1.out
      clear HS HP T1
      cases hba : b.getD a false
      · rw [hba] at cn0
        rw [hba, if_neg (by simp)] at HPM
        have HBA := Lib.hid hba
        clear hba
        have ce := S1.out.cl.c2
        have cel := S1.out.cl.lt
        have N2 := Lib.hid (N1.out.set a true)
        have Z2 := Lib.hid (Z1.out.setR (i := a) (.bool true))
        have S2 := Lib.hid (S1.out.b2 HD.out ((B2.refl pb nb wg).setR (i := a) (.bool true)))
        have P2 : Hid (PuBlk (wg.setCell ⟨nb, a, none⟩ (.bool true)) pb p) := one_other P1.out HD.out.d7
        have hne1 : ¬ lb = nb := HD.out.d2
        go_wp2_with fail
        clear ce cel cn0 cn1 cnl N1 Z1 S1 P1 hne1
        obtain ⟨F, hF⟩ : ∃ F : Nat → Option (List Int), (fun i => if (acrS (c.eds.getD i default) a).2 = 0 then none else pushM c ws before f (acrS (c.eds.getD i default) a).1.toNat (p.set i (p.getD i 0 + (acrS (c.eds.getD i default) a).2)) (b.set a true)) = F := ⟨_, rfl⟩
        rw [hF, ← HMM.out] at HPM
        have HFE : Hid (∀ i, F i = if (acrS (c.eds.getD i default) a).2 = 0 then none else pushM c ws before f (acrS (c.eds.getD i default) a).1.toNat (p.set i (p.getD i 0 + (acrS (c.eds.getD i default) a).2)) (b.set a true)) := fun i => by rw [← hF]
        clear hF
        have HCN : Hid (cntF (b.set a true) < f) := by show _ < _; have h1 := cntF_set b a (by rw [HBL.out]; exact a5) HBA.out; have h2 := HCNT.out; omega
        have mI : (m : Int) ≤ 8 := by omega
        generalize wg.setCell ⟨nb, a, none⟩ (.bool true) = wc at *
        go_loopg [26] m (fun g v wr => ∃ k : Nat, g + k = m ∧ v = .int .i64 k ∧ Hid (∀ j, j < k → F j = none) ∧ Hid (PuBlk wr pb p) ∧ Hid (BnBlk wr nb (b.set a true)) ∧ Hid (PuSt c (.slice sa n sc) (.slice ea m ec) ws before lb pb bb nb fb w0 wr) ∧ Hid (B2 pb nb w wr))
        case atStart => exact ⟨0, by omega, rfl, fun j hj => absurd hj (Nat.not_lt_zero _), P2, N2, S2, Z2⟩
        case round =>
          clear P2 N2 S2 Z2
          obtain ⟨k, hk, rfl, HT, P2, N2, S2, Z2⟩ := hrel
          by_cases hkm : k < m
          · have kI : (k : Int) < (m : Int) := by omega
            have k8 : (k : Int) < 8 := by omega
            have k8n : k < 8 := by omega
            have hk' : k < c.eds.length := by rw [← HMM.out]; exact hkm
            obtain ⟨eb, eo, pa, pc, rfl, d0, d1, d2, hpp⟩ := (HC.out.below S2.out.bw).eds.get hk'
            have hget : c.eds.getD k default = c.eds[k] := by simp [List.getD_eq_getElem?_getD, hk']
            have hok := HV.out.ed c.eds[k] (List.getElem_mem hk')
            have HFK := Lib.hid (HFE.out k)
            rw [hget] at HFK
            generalize c.eds[k] = d at *
            have HAC := Lib.hid (across_any d (.slice pa d.pts.length pc) a)
            have HAO := Lib.hid (acrS_one d a)
            have HTO : Hid ((acrS d a).2 ≠ 0 → 0 ≤ (acrS d a).1 ∧ (acrS d a).1 < n) := fun h => by
              have h1 := hok.a0; have h2 := hok.an; have h3 := hok.b0; have h4 := hok.bn; have h5 := HNN.out
              unfold acrS at h ⊢
              split
              · simp only; omega
              · rename_i h6; rw [if_neg h6] at h; split
                · simp only; omega
                · rename_i h7; rw [if_neg h7] at h; exact absurd rfl h
            obtain ⟨⟨tz, bz⟩, hac⟩ : ∃ v, acrS d a = v := ⟨_, rfl⟩
            rw [hac] at HFK HAC HAO HTO
            simp only at HFK HAC HAO HTO
            obtain ⟨da, db, ps⟩ := d
            simp only at d0 d1 d2 hpp HAC
            obtain ⟨np, hnp⟩ : ∃ np, ps.length = np := ⟨_, rfl⟩
            rw [hnp] at d2 HAC
            have hsl := World.block_lt_of_cell? wr ⟨eb, eo + k * 3, none⟩ d0
            obtain ⟨u, hu⟩ : ∃ u, wr.heap.size = u := ⟨_, rfl⟩
            have hba : Below wr.heap.size wr (wr.alloc (Obj.cells #[.int .i64 da, .int .i64 db, .slice pa np pc] 71)) := by go_grown
            have P3 := Lib.hid (P2.out.below hba P2.out.lt)
            have N3 : Hid (BnBlk (wr.alloc (Obj.cells #[.int .i64 da, .int .i64 db, .slice pa np pc] 71)) nb (b.set a true)) := (hba.block _ (lt_of_block N2.out)).trans N2.out
            have Z3 := Lib.hid (Z2.out.trans (B2.of_below hba))
            have S3 := Lib.hid (S2.out.b2 HD.out (B2.of_below hba))
            clear hk' hget hok hac hpp hnp hba P2 N2 Z2 S2
            go_wp2_with fail
            refine (HAC.out (wr.alloc (Obj.cells #[.int .i64 da, .int .i64 db, .slice pa np pc] 71))).mono ?_
            rintro e wh ⟨rfl, hbh⟩
            have P4 := Lib.hid (P3.out.below hbh P3.out.lt)
            have N4 : Hid (BnBlk wh nb (b.set a true)) := (hbh.block _ (lt_of_block N3.out)).trans N3.out
            have Z4 := Lib.hid (Z3.out.trans (B2.of_below hbh))
            have S4 := Lib.hid (S3.out.b2 HD.out (B2.of_below hbh))
            clear d0 d1 d2 hsl hbh P3 N3 Z3 S3 HAC
            by_cases hbz : bz = 0
            · subst hbz
              rw [if_pos rfl] at HFK
              have HT2 : Hid (∀ j, j < k + 1 → F j = none) := fun j hj => by
                by_cases e : j = k
                · subst e; exact HFK.out
                · exact HT.out j (by omega)
              clear HT HFK HTO HAO
              go_wp2_with fail
              go_roundg (gk - 1)
              case measure => omega
              case rel => exact ⟨k + 1, by omega, by go_num, HT2, P4, N4, S4, Z4⟩
            · rw [if_neg hbz] at HFK
              obtain ⟨t0, tn⟩ := HTO.out hbz
              obtain ⟨tt, rfl⟩ : ∃ tt : Nat, tz = tt := ⟨tz.toNat, by omega⟩
              simp only [Int.toNat_natCast] at HFK
              have bzb : -1 ≤ bz ∧ bz ≤ 1 := by have := HAO.out; omega
              have bz1 := bzb.1
              have bz2 := bzb.2
              have tz0 : (bz == 0) = false := by simp [hbz]
              have y0 := P4.out.cell k (by rw [HPL.out]; omega)
              have yf := frozen_of_row _ _ k _ _ P4.out
              have ypl := P4.out.lt
              have yb := HPB.out k
              have hkk := HKK.out
              have yb1 : -90000 ≤ p.getD k 0 := by omega
              have yb2 : p.getD k 0 ≤ 90000 := by omega
              have P5 := Lib.hid (P4.out.set k (p.getD k 0 + bz))
              have N5 : Hid (BnBlk (wh.setCell ⟨pb, k, none⟩ (.int .i64 (p.getD k 0 + bz))) nb (b.set a true)) := one_other N4.out (Ne.symm HD.out.d7)
              have Z5 := Lib.hid (Z4.out.setL (i := k) (.int .i64 (p.getD k 0 + bz)))
              have S5 := Lib.hid (S4.out.b2 HD.out ((B2.refl pb nb wh).setL (i := k) (.int .i64 (p.getD k 0 + bz))))
              have HPB5 : Hid (PuB (K + 1) (p.set k (p.getD k 0 + bz))) := by
                intro j
                have h1 := HPB.out j; have h2 := HPB.out k
                rw [getD_set]; split <;> omega
              have HCL := Lib.hid (IH.out tt (p.set k (p.getD k 0 + bz)) (b.set a true) (K + 1) (wh.setCell ⟨pb, k, none⟩ (.int .i64 (p.getD k 0 + bz))) HCN.out (by rw [List.length_set]; exact HBL.out) (by rw [← HNN.out]; omega) (by rw [List.length_set]; exact HPL.out) (by omega) HPB5.out (by omega) S5.out P5.out N5.out)
              have HBK := Lib.hid (set_back p k (p.getD k 0 + bz))
              have HPB6 := HPB5
              generalize hpk : p.getD k 0 = pk at *
              have HPK := Lib.hid hpk
              have wy : IntKind.i64.wrap (pk + bz) = pk + bz := by rw [IntKind.wrap_i64] <;> omega
              have hff := cellOf S5.out.cf 0 _ rfl
              have hfl := lt_of_block S5.out.cf
              clear hpk yb hkk bzb t0 tn P4 N4 Z4 S4 HPB5 HAO HTO
              go_wp2_with fail
              refine HCL.out.mono ?_
              rintro e wi ⟨hb6, hyes, hno⟩
              have Z6 := Lib.hid (Z5.out.trans hb6)
              have S6 := Lib.hid (S5.out.b2 HD.out hb6)
              have hres : ∃ r, pushM c ws before f tt (p.set k (pk + bz)) (b.set a true) = r := ⟨_, rfl⟩
              obtain ⟨r, hr⟩ := hres
              rw [hr] at hyes hno HFK
              clear hr hff hfl HCL P5 N5 Z5 S5 y0 yf ypl hb6
              cases r with
              | some q =>
                obtain ⟨rfl, hq⟩ := hyes q rfl
                have HRS : Hid (res = some q) := by show _ = _; rw [HPM.out]; exact firstSm_at F m k q hkm HT.out HFK.out
                have HQ := Lib.hid hq
                clear hyes hno hq
                go_wp2_with fail
                go_ret
                refine ⟨Z6.out, fun q' hq' => ⟨rfl, ?_⟩, fun hq' => ?_⟩
                · have e := HRS.out; rw [hq'] at e; obtain rfl : q' = q := by simpa using e
                  exact HQ.out
                · have e := HRS.out; rw [hq'] at e; cases e
              | none =>
                obtain ⟨rfl, hp6, hn6⟩ := hno rfl
                clear hyes hno
                have hlen6 : (p.set k (pk + bz)).length = 8 := by rw [List.length_set]; exact HPL.out
                have y0 := hp6.cell k (by rw [hlen6]; omega)
                have hg6 : (p.set k (pk + bz)).getD k 0 = pk + bz := by rw [getD_set, if_pos ⟨rfl, by rw [HPL.out]; omega⟩]
                rw [hg6] at y0
                have yf := frozen_of_row _ _ k _ _ hp6
                have ypl := hp6.lt
                have P7 := Lib.hid (hp6.set k pk)
                rw [HBK.out] at P7
                have N7 : Hid (BnBlk (wi.setCell ⟨pb, k, none⟩ (.int .i64 pk)) nb (b.set a true)) := one_other hn6 (Ne.symm HD.out.d7)
                have Z7 := Lib.hid (Z6.out.setL (i := k) (.int .i64 pk))
                have S7 := Lib.hid (S6.out.b2 HD.out ((B2.refl pb nb wi).setL (i := k) (.int .i64 pk)))
                have HT2 : Hid (∀ j, j < k + 1 → F j = none) := fun j hj => by
                  by_cases e : j = k
                  · subst e; exact HFK.out
                  · exact HT.out j (by omega)
                obtain ⟨y, hy⟩ : ∃ y, pk + bz = y := ⟨_, rfl⟩
                rw [hy] at y0
                have wz : IntKind.i64.wrap (y - bz) = pk := by rw [IntKind.wrap_i64] <;> omega
                clear hp6 hn6 hlen6 hg6 wy hy Z6 S6 HBK HT HFK
                go_wp2_with fail
                go_roundg (gk - 1)
                case measure => omega
                case rel => exact ⟨k + 1, by omega, by go_num, HT2, P7, N7, S7, Z7⟩
          · obtain rfl : m = k := by omega
            have kI : ¬ (m : Int) < (m : Int) := by omega
            have HRS : Hid (res = none) := by show _ = _; rw [HPM.out, firstSm_none]; exact fun j _ h2 => HT.out j (by omega)
            have cn0 := N2.out.cell a (by rw [List.length_set, HBL.out]; exact a5)
            have cn1 := frozen_of_row _ _ a _ _ N2.out
            have cnl : nb < wr.heap.size := lt_of_block N2.out
            have N3 := Lib.hid (N2.out.set a false)
            rw [bset_back b a true false HBA.out] at N3
            have Z3 := Lib.hid (Z2.out.setR (i := a) (.bool false))
            have P3 : Hid (PuBlk (wr.setCell ⟨nb, a, none⟩ (.bool false)) pb p) := one_other P2.out HD.out.d7
            clear hk hkm HT N2 Z2 P2 S2
            go_wp2_with fail
            go_ret
            refine ⟨Z3.out, fun q hq => ?_, fun _ => ⟨rfl, P3.out, N3.out⟩⟩
            have e := HRS.out
            rw [hq] at e
            cases e
      · rw [hba] at cn0
        rw [hba, if_pos rfl] at HPM
        go_wp2_with fail
        go_ret
        refine ⟨Z1.out, fun q hq => ?_, fun _ => ⟨rfl, P1.out, N1.out⟩⟩
        have e := HPM.out
        rw [hq] at e
        cases e
end Go.Proofs.Ytojdocomkhihoaa
