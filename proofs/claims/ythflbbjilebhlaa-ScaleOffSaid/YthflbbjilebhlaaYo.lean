/- Contracts of Scales, Tell and False, and the values of the examples. No law is proved here. -/
import Derived.Test.YthflbbjilebhlaaVf
import Derived.Test.YthflbbjilebhlaaWo
import Derived.Test.YthflbbjilebhlaaYp
import Derived.Test.YthflbbjilebhlaaUx
import Derived.Test.YthflbbjilebhlaaVa
set_option linter.unusedSimpArgs false
set_option linter.unusedVariables false
namespace Go.Proofs.Ythflbbjilebhlaa
open Go Go.RowKit Go.Shelf Sc
attribute [local go_sem] Oper.semAt_some

/-- Does any of the marks exclude a scale? -/
def exB (c : Cse) (l : List Mrk) (s : Scl) : Bool := l.any fun q => !markB c s q
def scalesL (c : Cse) (l : List Mrk) : List Scl := (fitL c asc).filter fun s => !exB c l s
def scalesE (c : Cse) (l : List Mrk) : Int := if errC c ≠ 0 then errC c else mksE c.hs.length l
/-- A list of scales, and an error. -/
def PairsP (l : List Scl) (er : Int) (w : World) (e : Ending) (w' : World) : Prop := ∃ v, e = .returned (.tuple #[v, .int .i64 er]) ∧ PairsAt w' v (if er = 0 then l else []) ∧ Below w.heap.size w w'
theorem pairs_nil (w : World) : PairsAt w (.slice none 0 0) [] := ⟨by simp, none, 0, rfl, by simp, fun hne => absurd rfl hne⟩
theorem ownOf_cells {b : Nat} {W : World} {v : Value} {t : TypeId} {fr : Nat × Nat} (h : W.heap[b]? = some (.cells #[v] t fr)) : ownOf (some b) W = v.ownBlock := by
  simp only [ownOf, h]
  cases v <;> simp [Value.ownBlock]
  case slice a n c => cases a <;> rfl
/-- The list that grows: its box, its row, and how long it is. -/
def LsI (bl B : Nat) (l : List Scl) (V : World) : Prop := ∃ a1 q c1, V.heap[bl]? = some (.cells #[.slice a1 q c1] 42 (0, 0)) ∧ V.ownsRow B 27 2 (.slice a1 q c1) q (scsL l) ∧ l.length = q
theorem LsI.grow {bl B : Nat} {l : List Scl} {X Y : World} {row : Option Nat} (h : LsI bl B l X) (hg : X.grownBy Y row) (hr : ∀ r, row = some r → ∃ o : Obj, X.heap[r]? = some o ∧ o.isCells = false) : LsI bl B l Y := by
  obtain ⟨a1, q, c1, h1, h2, h3⟩ := h
  have key : ∀ (b : Nat) (C : Array Value) (t : TypeId) (fr : Nat × Nat), X.heap[b]? = some (Obj.cells C t fr) → Y.heap[b]? = some (Obj.cells C t fr) := fun b C t fr hb => by
    refine (hg.block b (Array.getElem?_eq_some_iff.1 hb).1 (fun e => ?_)).trans hb
    obtain ⟨o, ho, hc⟩ := hr b e.symm
    rw [hb] at ho; cases ho; cases hc
  refine ⟨a1, q, c1, key _ _ _ _ h1, ⟨h2.1, ?_⟩, h3⟩
  rcases h2.2 with h | ⟨g, cap, cur, e, hb, hgc, r⟩
  · exact .inl h
  · exact .inr ⟨g, cap, cur, e, hb, key _ _ _ _ hgc, r⟩
theorem LsI.below {bl B : Nat} {l : List Scl} {X Y : World} (h : LsI bl B l X) (hb : Below X.heap.size X Y) : LsI bl B l Y :=
  h.grow (row := none) ⟨hb.os, hb.tape, hb.output, hb.size, fun k hk _ => hb.block k hk⟩ (fun r e => by cases e)
theorem LsI.own {β : Type} (bl B B' : Nat) (f : β → List Scl) : OwnFrom B' (fun s V => LsI bl B (f s) V) := fun _ _ _ _ h hg hr => LsI.grow h hg (fun r e => (hr r e).2)
theorem LsI.okw {bl B : Nat} {l : List Scl} {V : World} (h : LsI bl B l V) : Okw (some bl) V := by
  obtain ⟨a1, q, c1, h1, h2, h3⟩ := h
  refine ⟨fun b e => by cases e; exact ⟨_, _, _, h1⟩, fun k e => ?_⟩
  rw [ownOf_cells h1] at e
  exact (h2.lt k e).2
theorem scsL_snoc (l : List Scl) (s : Scl) : scsL (l ++ [s]) = scsL l ++ [.int .i64 s.1, .int .i64 s.2] := by simp [scsL]
/-- A scale is appended to the list: what is kept, and how the list lies then. -/
theorem LsI.app {bl B B2 n0 : Nat} {l : List Scl} {kept : Nat → Prop} {w0 V Wa Wb : World} {a1 : Option Addr} {q c1 : Nat} {v' : Value} {s : Scl}
    (h1 : V.heap[bl]? = some (.cells #[.slice a1 q c1] 42 (0, 0))) (h2 : V.ownsRow B 27 2 (.slice a1 q c1) q (scsL l)) (h3 : l.length = q) (hba : Below V.heap.size V Wa)
    (ho : Wb.ownsRow B 27 2 v' (q + 1) (scsL l ++ [.int .i64 s.1, .int .i64 s.2])) (hg : Wa.grownBy Wb (Value.slice a1 q c1).ownBlock) (h5 : v'.ownBlock = (Value.slice a1 q c1).ownBlock ∨ v'.ownBlock = some Wa.heap.size)
    (hbl : bl < B) (hB2 : bl < B2) (hnk : ¬ kept bl) (hn0 : n0 ≤ bl) (hw : Below n0 w0 V) (hn : n0 ≤ w0.heap.size) :
    KeptY B2 kept (some bl) V (Wb.setCell ⟨bl, 0, none⟩ v') ∧ LsI bl B (l ++ [s]) (Wb.setCell ⟨bl, 0, none⟩ v') ∧ Below n0 w0 (Wb.setCell ⟨bl, 0, none⟩ v') ∧ (∀ k, k < B → k < V.heap.size → k ≠ bl → (Wb.setCell ⟨bl, 0, none⟩ v').heap[k]? = V.heap[k]?) ∧ Wb.heap[bl]? = some (.cells #[.slice a1 q c1] 42 (0, 0)) := by
  have hne : ∀ k, (Value.slice a1 q c1).ownBlock = some k → B ≤ k ∧ k < V.heap.size := fun k e => h2.lt k e
  have hblV := (Array.getElem?_eq_some_iff.1 h1).1
  have b1 : Wa.heap[bl]? = some (.cells #[.slice a1 q c1] 42 (0, 0)) := (hba.block _ hblV).trans h1
  have b2 : Wb.heap[bl]? = some (.cells #[.slice a1 q c1] 42 (0, 0)) := (hg.block _ (Array.getElem?_eq_some_iff.1 b1).1 (fun e => by have := (hne bl e.symm).1; omega)).trans b1
  have b3 : (Wb.setCell ⟨bl, 0, none⟩ v').heap[bl]? = some (.cells #[v'] 42 (0, 0)) := heap_setCell_same _ bl 0 _ _ v' b2
  have hL : LsI bl B (l ++ [s]) (Wb.setCell ⟨bl, 0, none⟩ v') := by
    obtain ⟨va, vc, rfl⟩ := own_slice ho
    refine ⟨va, q + 1, vc, b3, ?_, by simp [h3]⟩
    rw [scsL_snoc]
    exact own_other ho _ hbl _
  refine ⟨⟨?_, fun k hk hor hno => ?_, fun k e => ?_, fun _ => hL.okw⟩, hL, ?_, fun k hkB hkV hkb => (heap_setCell_other _ _ _ _ hkb).trans ((hg.block k (by have := hba.size; omega) (fun e => by have := (hne k e.symm).1; omega)).trans (hba.block k hkV)), b2⟩
  · have := hba.size; have := hg.size; simp; omega
  · have hkb : k ≠ bl := fun e => by subst e; exact hor.elim (fun h => by omega) hnk
    rw [ownOf_cells h1] at hno
    exact (heap_setCell_other _ _ _ _ hkb).trans ((hg.block k (by have := hba.size; omega) (fun e => hno e.symm)).trans (hba.block k hk))
  · rw [ownOf_cells b3] at e
    rw [ownOf_cells h1]
    rcases h5 with h | h
    · exact .inl (h ▸ e)
    · rw [h] at e; cases e; exact .inr hba.size
  · have hw1 := hw.trans (hba.mono (Nat.le_trans hn hw.size))
    exact (hw1.grown hg (Nat.le_trans hn hw1.size) (fun g e => by have := (hne g e).1; omega)).setCell (p := ⟨bl, 0, none⟩) hn0 _
theorem but_own {β : Type} {bl : Nat} {w : World} : OwnFrom w.heap.size (fun (_ : β) V => ∀ k, k < w.heap.size → k ≠ bl → V.heap[k]? = w.heap[k]?) := by
  intro s X Y row h hg hr k hk hne
  have hx : k < X.heap.size := by
    have h1 := h k hk hne
    rw [Array.getElem?_eq_getElem hk] at h1
    exact (Array.getElem?_eq_some_iff.1 h1).1
  exact (hg.block k hx (fun e => by have := (hr k e.symm).1; omega)).trans (h k hk hne)
theorem mksGo_ok {n : Nat} : ∀ l : List Mrk, mksGo n l = 0 → ∀ r, r ∈ l → 0 ≤ r.pt ∧ r.pt < n
  | [], _, r, hr => by cases hr
  | m :: l, h, r, hr => by
    unfold mksGo at h
    split at h
    case isFalse hne => exact absurd h hne
    case isTrue he =>
      rcases List.mem_cons.1 hr with rfl | hr
      · unfold mrkE at he
        split at he
        · cases he
        · rename_i hi
          simp [inB] at hi
          omega
      · exact mksGo_ok l h r hr
theorem mks_ok {n : Nat} {l : List Mrk} (h : mksE n l = 0) : l.length ≤ 8 ∧ ∀ r, r ∈ l → 0 ≤ r.pt ∧ r.pt < n := by
  unfold mksE at h
  split at h
  · cases h
  · exact ⟨by omega, mksGo_ok l h⟩
theorem asc_len0 : Nat.ble ascN.length 1000 = true := by decide +kernel
theorem asc_len : asc.length ≤ 1000 := by
  rw [asc_cast, List.length_map]
  have h := asc_len0
  generalize ascN.length = n at *
  exact Nat.le_of_ble_eq_true h
/-- A struct is appended to a row of the call's own, within a fence. -/
theorem wplIn_appS {F : Fence} {m : Nat} {P : Program} {ops : Array Oper} {rest : List Oper} {o : Oper} {a : Act} {Q : Exit → Act → World → Prop} {w : World} (hgd : o.guard = none) (s x : Operand) (T E : TypeId)
    (ho : o.op = .call { callee := .builtin .append, args := #[s, x], argTypes := #[T, T] }) (hT : P.underlying T = some (.slice E)) (z : Value) (size bytes : Nat) (hi : (P.info? E).map (fun i => (i.zero, i.size, i.bytes)) = some (some z, size, bytes)) (hz : z.cells.size = size) (h0 : 0 < size)
    (base n : Nat) (v : Value) (xs : List Value) (g off c : Nat) (news : List Value) (hs : a.eval s = v) (hx : a.eval x = .slice (some ⟨g, off, none⟩) 1 c) (hown : w.ownsRow base E size v n xs) (hl : news.length = size)
    (hc : ∀ j u, news[j]? = some u → w.cell? ⟨g, off + j, none⟩ = some u) (hone : ∀ u, u ∈ news → u.oneCell' = true) (hb : base ≤ w.heap.size) (hn : n + 1 ≤ maxLen) (hby : (n + 1) * bytes ≤ 140737488355328)
    (h : ∀ v' w', w'.ownsRow base E size v' (n + 1) (xs ++ news) → w.grownBy w' v.ownBlock → (v'.ownBlock = v.ownBlock ∨ v'.ownBlock = some w.heap.size) → wpListIn F m P ops Q rest (a.put o.dst v') w') : wpListIn F m P ops Q (o :: rest) a w := by
  cases hq : P.info? E with
  | none => rw [hq] at hi; cases hi
  | some i0 =>
    rw [hq] at hi
    simp only [Option.map_some, Option.some.injEq, Prod.mk.injEq] at hi
    obtain ⟨v', w', h1, h2, h3, _, h5⟩ := run_append_own_at (P := P) w base T o.type E i0 z size bytes hT hq hi.1 hi.2.1 hi.2.2 hz h0 v n xs hown ⟨g, off, none⟩ 1 c news (by rw [hl, Nat.one_mul])
      (fun j u hu => by rw [add_plain']; exact hc j u hu) hone hn hby hb
    refine wpListIn_val hgd ?_ (by rw [ho]; intro c e; cases e) v' w' ?_ (h v' w' h2 h3 h5)
    · unfold Oper.about
      simp only [ho, resolve, Sem.run_bind, Sem.run_pure, Result.andThen_ok]
      rfl
    · unfold execOp
      simp only [ho, resolve, invoke, builtin, Sem.run_bind, Sem.run_pure, Result.andThen_ok, List.map_toArray, List.map_cons, List.map_nil, hs, hx, h1]
set_option maxRecDepth 100000 in
set_option maxHeartbeats 16000000 in
theorem Scales_any (c : Cse) (hv rv mv : Value) (l : List Mrk) (w : World) (hC : CseAt w c hv rv) (hM : MrksAt w mv l) :
    Calls Try.prog 31 #[.agg #[.int .i64 c.kind, .int .i64 c.base, .int .i64 c.most, hv, rv], mv] w (PairsP (scalesL c l) (scalesE c l) w) := by
  unfold PairsP
  obtain ⟨ha, n, hc, rfl⟩ : ∃ a n c, hv = .slice a n c := by obtain ⟨_, a, cap, h, _⟩ := hC.hs; exact ⟨_, _, _, h⟩
  obtain ⟨ra, m, rc, rfl⟩ : ∃ a n c, rv = .slice a n c := by obtain ⟨_, a, cap, h, _⟩ := hC.rd; exact ⟨_, _, _, h⟩
  obtain ⟨ma, mn, mc', rfl⟩ : ∃ a n c, mv = .slice a n c := by obtain ⟨_, a, cap, h, _⟩ := hM; exact ⟨_, _, _, h⟩
  obtain rfl : n = c.hs.length := by obtain ⟨_, a, cap, h, _⟩ := hC.hs; simp only [Value.slice.injEq] at h; exact h.2.1
  obtain ⟨n, hnn⟩ : ∃ n, c.hs.length = n := ⟨_, rfl⟩
  rw [hnn] at hC
  rw [hnn]
  have HN := Lib.hid hnn
  have HSE : Hid (scalesE c l = if errC c ≠ 0 then errC c else mksE n l) := by show _ = _; unfold scalesE; rw [hnn]
  obtain ⟨kind, hkind⟩ : ∃ x, c.kind = x := ⟨_, rfl⟩
  obtain ⟨base, hbase⟩ : ∃ x, c.base = x := ⟨_, rfl⟩
  obtain ⟨most, hmost⟩ : ∃ x, c.most = x := ⟨_, rfl⟩
  obtain ⟨F, hF⟩ : ∃ F, rnF c.kind = F := ⟨_, rfl⟩
  have HLK : Hid (lkV c (.slice ha n hc) (.slice ra m rc) = #[.int .i64 kind, .int .i64 base, .int .i64 most, .slice ha n hc, .slice ra m rc, .int .i64 kind, .func (.func F) #[] #[]]) := by show _ = _; unfold lkV lkC; rw [hF, hkind, hbase, hmost]
  have HOK := Lib.hid asc_bd
  obtain ⟨RL, hRL⟩ : ∃ R, scalesL c l = R := ⟨_, rfl⟩
  obtain ⟨RE, hRE⟩ : ∃ R, scalesE c l = R := ⟨_, rfl⟩
  have HRL := Lib.hid hRL
  rw [hRL, hRE, hkind, hbase, hmost]
  rw [hRE] at HSE
  obtain ⟨W2, hW2, q1, q2, hb, hsz⟩ := al2 w (Obj.cells #[.int .i64 kind, .int .i64 base, .int .i64 most, .slice ha n hc, .slice ra m rc] 25) (Obj.cells #[.slice ma mn mc'] 41)
  have hlk := look_any c _ _ W2 (hC.below hb)
  obtain ⟨er, her⟩ : ∃ er, errC c = er := ⟨_, rfl⟩
  unfold LookP lk0 lkC at hlk
  rw [hkind, hbase, hmost, her, HLK.out] at hlk
  rw [her] at HSE
  have HER := Lib.hid her
  have HLO := Lib.hid hlk
  have HW := Lib.hid hW2
  have Q1 := Lib.hid q1
  have Q2 := Lib.hid q2
  have HB := Lib.hid hb
  have HC := Lib.hid (hC.below hb)
  have HMM := Lib.hid (hM.below hb)
  have HM0 := Lib.hid hM
  have HC00 := Lib.hid hC
  have c0 := cellOf q1 0 (.int .i64 kind) rfl
  have c1 := cellOf q1 1 (.int .i64 base) rfl
  have c2 := cellOf q1 2 (.int .i64 most) rfl
  have c3 := cellOf q1 3 (.slice ha n hc) rfl
  have c4 := cellOf q1 4 (.slice ra m rc) rfl
  have cl := lt_of_block q1
  clear q1 q2 hb hsz hlk hC hM hRL hRE her hkind hbase hmost hF hnn
  refine (callsIn_wide (n := 9)).1 ?_
  refine callsIn_of_wp_marks Try.func31 rfl trivial ?_ rfl
  simp only [Try.ntmps31, List.size_toArray, List.length_cons, List.length_nil, Nat.reduceAdd, Nat.reduceSub, Array.replicate_succ, Array.replicate_zero, List.push_toArray, List.append_toArray, List.nil_append, List.cons_append]
  clear hW2
  gi_wp2_with fail
  rw [HW.out]
  refine ⟨trivial, ?_⟩
  refine (callsIn_wide.2 HLO.out).mono ?_
  rintro e w1 ⟨hy, hn', hb⟩
  have B1 := Lib.hid (HB.out.trans (hb.mono HB.out.size))
  have K1 := Lib.hid ((hb.block _ (lt_of_block Q1.out)).trans Q1.out)
  have P1 := Lib.hid ((hb.block _ (lt_of_block Q2.out)).trans Q2.out)
  have C1 := Lib.hid (HC.out.below hb)
  have M1 := Lib.hid (HMM.out.below hb)
  have hlz := (zero_of_info lkZero).1
  unfold lk0 lkC at hlz
  clear hb HB Q1 Q2 HC HMM HW HLO c0 c1 c2 c3 c4 cl
  by_cases h0 : er = 0
  · subst h0
    obtain rfl := hy rfl
    clear hy hn'
    have HVA := Lib.hid (valid_of HER.out)
    obtain ⟨w2, hw2, G2, b2⟩ : ∃ X, w1.alloc (Obj.cells #[.int .i64 kind, .int .i64 base, .int .i64 most, .slice ha n hc, .slice ra m rc, .int .i64 kind, .func (.func F) #[] #[]] 95) = X ∧ X.heap[w1.heap.size]? = some (.cells #[.int .i64 kind, .int .i64 base, .int .i64 most, .slice ha n hc, .slice ra m rc, .int .i64 kind, .func (.func F) #[] #[]] 95 (0, 0)) ∧ Below w1.heap.size w1 X := ⟨_, rfl, heap_alloc_new _ _, by go_grown⟩
    have HW2 := Lib.hid hw2
    have HG2 := Lib.hid G2
    have K2 := Lib.hid ((b2.block _ (lt_of_block K1.out)).trans K1.out)
    have P2 := Lib.hid ((b2.block _ (lt_of_block P1.out)).trans P1.out)
    have C2 := Lib.hid (C1.out.below b2)
    have M2 := Lib.hid (M1.out.below b2)
    have B2 := Lib.hid (B1.out.trans (b2.mono B1.out.size))
    have n8 : n ≤ 8 := by rw [← HN.out]; exact HVA.out.n8
    have nI : (n : Int) ≤ 8 := by omega
    have hmf := marksFault_any (.slice ma mn mc') l n w2 M2.out n8
    obtain ⟨me, hme⟩ : ∃ x, mksE n l = x := ⟨_, rfl⟩
    rw [hme] at hmf HSE
    have HMF := Lib.hid hmf
    have HME := Lib.hid hme
    have HRE : Hid (RE = me) := by show _ = _; rw [HSE.out, if_neg (by simp)]
    have p0 : (w1.alloc (Obj.cells #[.int .i64 kind, .int .i64 base, .int .i64 most, .slice ha n hc, .slice ra m rc, .int .i64 kind, .func (.func F) #[] #[]] 95)).cell? ⟨w.heap.size + 1, 0, none⟩ = some (.slice ma mn mc') := by rw [hw2]; exact cellOf P2.out 0 _ rfl
    have p3 : (w1.alloc (Obj.cells #[.int .i64 kind, .int .i64 base, .int .i64 most, .slice ha n hc, .slice ra m rc, .int .i64 kind, .func (.func F) #[] #[]] 95)).cell? ⟨w.heap.size, 3, none⟩ = some (.slice ha n hc) := by rw [hw2]; exact cellOf K2.out 3 _ rfl
    have pl := lt_of_block P1.out
    have kl := lt_of_block K1.out
    clear G2 b2 hw2 K1 P1 C1 M1 B1 hmf hme n8 HSE
    gi_wp2_with fail
    refine ⟨trivial, ?_⟩
    rw [HW2.out]
    refine (callsIn_wide.2 HMF.out).mono ?_
    rintro e w3 ⟨rfl, b3⟩
    have HG3 := Lib.hid ((b3.block _ (lt_of_block HG2.out)).trans HG2.out)
    have K3 := Lib.hid ((b3.block _ (lt_of_block K2.out)).trans K2.out)
    have P3 := Lib.hid ((b3.block _ (lt_of_block P2.out)).trans P2.out)
    have C3 := Lib.hid (C2.out.below b3)
    have M3 := Lib.hid (M2.out.below b3)
    have B3 := Lib.hid (B2.out.trans (b3.mono B2.out.size))
    clear b3 HG2 K2 P2 C2 M2 B2 p0 p3 pl kl HMF HW2
    by_cases h1 : me = 0
    · subst h1
      obtain rfl : RE = 0 := HRE.out
      obtain ⟨w4, hw4, L4, b4⟩ : ∃ X, w3.alloc (Obj.cells #[.slice none 0 0] 42) = X ∧ X.heap[w3.heap.size]? = some (.cells #[.slice none 0 0] 42 (0, 0)) ∧ Below w3.heap.size w3 X := ⟨_, rfl, heap_alloc_new _ _, by go_grown⟩
      have HW4 := Lib.hid hw4
      have HL4 := Lib.hid L4
      have HG4 := Lib.hid ((b4.block _ (lt_of_block HG3.out)).trans HG3.out)
      have K4 := Lib.hid ((b4.block _ (lt_of_block K3.out)).trans K3.out)
      have P4 := Lib.hid ((b4.block _ (lt_of_block P3.out)).trans P3.out)
      have C4 := Lib.hid (C3.out.below b4)
      have M4 := Lib.hid (M3.out.below b4)
      have B4 := Lib.hid (B3.out.trans (b4.mono B3.out.size))
      have HS4 : Hid (w4.heap.size = w3.heap.size + 1) := by show _ = _; rw [← hw4]; simp
      have HBL : Hid (w.heap.size + 1 < w3.heap.size ∧ w1.heap.size < w3.heap.size) := ⟨lt_of_block P3.out, lt_of_block HG3.out⟩
      have c0 := cellOf HG4.out 0 (.int .i64 kind) rfl
      have c1 := cellOf HG4.out 1 (.int .i64 base) rfl
      have c2 := cellOf HG4.out 2 (.int .i64 most) rfl
      have c3 := cellOf HG4.out 3 (.slice ha n hc) rfl
      have c4 := cellOf HG4.out 4 (.slice ra m rc) rfl
      have c5 := cellOf HG4.out 5 (.int .i64 kind) rfl
      have c6 := cellOf HG4.out 6 (.func (.func F) #[] #[]) rfl
      have cl := lt_of_block HG4.out
      clear hw4 L4 b4 HG3 K3 P3 C3 M3 B3
      gi_wp2_with fail
      rw [HW4.out]
      refine wpIn_wide.2 ?_
      have KA : ∀ W' : World, Below w4.heap.size w4 W' → (W'.cell? ⟨w1.heap.size, 0, none⟩ = some (.int .i64 kind) ∧ W'.cell? ⟨w1.heap.size, 1, none⟩ = some (.int .i64 base) ∧ W'.cell? ⟨w1.heap.size, 2, none⟩ = some (.int .i64 most) ∧ W'.cell? ⟨w1.heap.size, 3, none⟩ = some (.slice ha n hc) ∧ W'.cell? ⟨w1.heap.size, 4, none⟩ = some (.slice ra m rc) ∧ W'.cell? ⟨w1.heap.size, 5, none⟩ = some (.int .i64 kind) ∧ W'.cell? ⟨w1.heap.size, 6, none⟩ = some (.func (.func F) #[] #[]) ∧ Below w4.heap.size w4 W') := fun W' hb => ⟨keepK c0 hb, keepK c1 hb, keepK c2 hb, keepK c3 hb, keepK c4 hb, keepK c5 hb, keepK c6 hb, hb⟩
      refine wp_region_noPanic ?_
      refine wp_region_held_drew (S := (fun W' => W'.cell? ⟨w1.heap.size, 0, none⟩ = some (.int .i64 kind) ∧ W'.cell? ⟨w1.heap.size, 1, none⟩ = some (.int .i64 base) ∧ W'.cell? ⟨w1.heap.size, 2, none⟩ = some (.int .i64 most) ∧ W'.cell? ⟨w1.heap.size, 3, none⟩ = some (.slice ha n hc) ∧ W'.cell? ⟨w1.heap.size, 4, none⟩ = some (.slice ra m rc) ∧ W'.cell? ⟨w1.heap.size, 5, none⟩ = some (.int .i64 kind) ∧ W'.cell? ⟨w1.heap.size, 6, none⟩ = some (.func (.func F) #[] #[]) ∧ Below w4.heap.size w4 W')) (by kernel_rfl) ?_ (fun hh0 => ?_)
      · exact KA _ (Below.refl _ _).drew
      refine wpAnyH_take (i := 0) (v := ?_) rfl (by as_aux_lemma => kernel_rfl) (by as_aux_lemma => kernel_rfl) (by as_aux_lemma => kernel_rfl) (fun _ _ _ h => h) (Or.inl ⟨by rfl, ?_⟩) (by assumption) ?_
      rotate_left
      · intro w hSw
        try dsimp only at hSw
        go_simp
        try with_reducible rfl
      try simp only [Act.put, List.getElem_toArray, List.getElem_cons_succ, List.getElem_cons_zero, List.setIfInBounds_toArray, List.set_cons_zero, List.set_cons_succ]
      refine wpAnyH_ready (rs := [1]) (by as_aux_lemma => kernel_rfl) (by simp) ?_
      refine AllReadyH.cons rfl (fun K hK => ?_) AllReadyH.nil
      go_simp
      refine (ascending_any _).mono ?_
      rintro e wA ⟨⟨v, rfl, hE⟩, hb⟩
      obtain ⟨bf, bt, rfl, hE1, hE2⟩ := hE
      have HE1 := Lib.hid hE1
      have HE2 := Lib.hid hE2
      have HB1 : Hid (Below w4.drew.heap.size w4.drew wA) := hb
      clear hE1 hE2 hb
      refine hK.out _ _ (KA _ (Below.trans hh0.2.2.2.2.2.2.2 (Below.mono HB1.out (hh0.2.2.2.2.2.2.2).size))) (fun hh1 => ?_)
      clear hK K
      try simp only [Act.put, List.getElem_toArray, List.getElem_cons_succ, List.getElem_cons_zero, List.setIfInBounds_toArray, List.set_cons_zero, List.set_cons_succ]
      refine wpAnyH_ready (rs := [2]) (by as_aux_lemma => kernel_rfl) (by simp) ?_
      refine AllReadyH.cons rfl (fun K hK => ?_) AllReadyH.nil
      go_simp
      obtain ⟨wB, hwB, y1, y2, hb, hsB⟩ := al2 wA (Obj.cells #[.int .i64 kind, .int .i64 base, .int .i64 most, .slice ha n hc, .slice ra m rc, .int .i64 kind, .func (.func F) #[] #[]] 95) (Obj.cells #[.func (.func 117) #[] #[.pointer (some ⟨bf, 0, none⟩), .pointer (some ⟨bt, 0, none⟩)]] 118)
      have hm := models_any #[.int .i64 kind, .int .i64 base, .int .i64 most, .slice ha n hc, .slice ra m rc, .int .i64 kind, .func (.func F) #[] #[]] 117 #[.pointer (some ⟨bf, 0, none⟩), .pointer (some ⟨bt, 0, none⟩)] wA ⟨_, _, _, _, _, _, _, rfl⟩
      rw [hwB] at hm
      refine hm.mono ?_
      rintro e wB' ⟨rfl, rfl⟩
      have HY1 := Lib.hid y1
      have HY2 := Lib.hid y2
      have HB2 : Hid (Below wA.heap.size wA wB) := hb
      clear hm hwB y1 y2 hb hsB
      refine hK.out _ _ (KA _ (Below.trans hh1.2.2.2.2.2.2.2 (Below.mono HB2.out (hh1.2.2.2.2.2.2.2).size))) (fun hh2 => ?_)
      clear hK K
      try simp only [Act.put, List.getElem_toArray, List.getElem_cons_succ, List.getElem_cons_zero, List.setIfInBounds_toArray, List.set_cons_zero, List.set_cons_succ]
      refine wpAnyH_done (by as_aux_lemma => kernel_rfl) ?_ _
      refine NoPanic.normal ?_
      have HBZ := Lib.hid (hh2.2.2.2.2.2.2.2)
      have HBW := Lib.hid (B4.out.trans (HBZ.out.mono B4.out.size))
      have K5 := Lib.hid ((HBZ.out.block _ (lt_of_block K4.out)).trans K4.out)
      have P5 := Lib.hid ((HBZ.out.block _ (lt_of_block P4.out)).trans P4.out)
      have L5 := Lib.hid ((HBZ.out.block _ (lt_of_block HL4.out)).trans HL4.out)
      have HA5 : Hid (w4.heap.size ≤ wA.heap.size) := HB1.out.size
      have HSL : Hid (w3.heap.size < wB.heap.size) := lt_of_block L5.out
      have hOk : Okw (some w3.heap.size) wB := ⟨fun b e => by cases e; exact ⟨_, _, _, L5.out⟩, fun k e => by rw [ownOf_cells L5.out] at e; cases e⟩
      have hOw : ∀ k, ownOf (some w3.heap.size) wB = some k → wB.heap.size ≤ k := fun k e => by rw [ownOf_cells L5.out] at e; cases e
      have hLS : LsI w3.heap.size wB.heap.size [] wB := ⟨none, 0, 0, L5.out, World.ownsRow_nil .., rfl⟩
      have hMX := models_Y c (.slice ha n hc) (.slice ra m rc) (0, 1) (1, 0) (fun k => k < wB.heap.size ∧ k ≠ w3.heap.size) (some w3.heap.size) (wA.heap.size + 1) wA.heap.size bf bt w wB HBW.out HC00.out HVA.out (fun k hk => ⟨by have := HBW.out.size; omega, by have := HBL.out; omega⟩) ⟨lt_of_block HY1.out, by have := HA5.out; have := HS4.out; omega⟩ (fun k hk => hk.1) (by decide) (by decide) (fun s hs => HOK.out s hs) HY2.out (by rw [HLK.out]; exact HY1.out) ((HB2.out.block _ (lt_of_block HE1.out)).trans HE1.out) ((HB2.out.block _ (lt_of_block HE2.out)).trans HE2.out)
      obtain ⟨FL, hFL⟩ : ∃ FL, fitL c (sbL 61 (0, 1) (1, 0)) = FL := ⟨_, rfl⟩
      rw [hFL] at hMX
      have HSC : Hid (RL = FL.filter fun s => !exB c l s) := by show _ = _; rw [← hFL, ← HRL.out]; rfl
      have HFO : Hid (∀ s, s ∈ FL → 1 ≤ s.1 ∧ s.1 ≤ 30 ∧ 1 ≤ s.2 ∧ s.2 ≤ 30) := fun s hs => by
        rw [← hFL] at hs
        exact HOK.out s (List.mem_filter.1 hs).1
      have HFL9 : Hid (FL.length ≤ 1000) := by
        show _ ≤ _
        rw [← hFL]
        exact Nat.le_trans (List.length_filter_le _ _) asc_len
      have hml : l.length ≤ 8 ∧ ∀ r, r ∈ l → 0 ≤ r.pt ∧ r.pt < c.hs.length := mks_ok (by rw [HN.out]; exact HME.out)
      have HEX : Hid (∀ s V, s ∈ FL → CseAt V c (.slice ha n hc) (.slice ra m rc) → MrksAt V (.slice ma mn mc') l → Calls Try.prog 76 #[.slice ma mn mc', .func (.func 77) #[.agg (mdC (mdP c (.slice ha n hc) (.slice ra m rc) s) (cut8 c s))] #[]] V fun e w' => e = .returned (.bool (exB c l s)) ∧ Below V.heap.size V w') := fun s V hs hc hm => many_any c _ _ _ s l V hm hml.1 hc HVA.out ⟨(HFO.out s hs).1, (HFO.out s hs).2.1, (HFO.out s hs).2.2.1⟩ hml.2
      have HPL : Hid (∀ s, (mdP c (.slice ha n hc) (.slice ra m rc) s).length = 9) := fun _ => rfl
      have HP7 : Hid (∀ s, (mdP c (.slice ha n hc) (.slice ra m rc) s)[7]? = some (.int .i64 s.1)) := fun _ => rfl
      have HP8 : Hid (∀ s, (mdP c (.slice ha n hc) (.slice ra m rc) s)[8]? = some (.int .i64 s.2)) := fun _ => rfl
      have HONE : Hid (∀ s, (mdC (mdP c (.slice ha n hc) (.slice ra m rc) s) (cut8 c s)).all (·.oneCell') = true) := fun s => md_one _ _ rfl
      have HC8 : Hid (∀ s, (cut8 c s).length = 8) := fun s => cut8_len c s
      have hz := (zero_of_info mdZero).1
      obtain ⟨mp, hmp⟩ : ∃ mp : Scl → List Value, (fun s => mdP c (.slice ha n hc) (.slice ra m rc) s) = mp := ⟨_, rfl⟩
      obtain ⟨mc, hmc⟩ : ∃ mc : Scl → List Int, (fun s => cut8 c s) = mc := ⟨_, rfl⟩
      obtain ⟨X, hX⟩ : ∃ X : Scl → Bool, (fun s => exB c l s) = X := ⟨_, rfl⟩
      have emp : ∀ s, mdP c (.slice ha n hc) (.slice ra m rc) s = mp s := fun s => by rw [← hmp]
      have emc : ∀ s, cut8 c s = mc s := fun s => by rw [← hmc]
      have eX : ∀ s, exB c l s = X s := fun s => by rw [← hX]
      have eenc : encM c (.slice ha n hc) (.slice ra m rc) = fun s => #[.agg (mdC (mp s) (mc s))] := by funext s; unfold encM; rw [emp, emc]
      simp only [emp, emc, eX] at HPL HP7 HP8 HONE HC8 HEX HSC
      rw [eenc] at hMX
      have HMX := Lib.hid hMX
      have HOK5 := Lib.hid hOk
      have HOW5 := Lib.hid hOw
      have HLS5 := Lib.hid hLS
      have HSIZ : Hid (∀ s, (mdC (mp s) (mc s)).size = 17) := fun s => by rw [md_size, HPL.out, HC8.out]
      have HZ17 : Hid ((mdC pf0 z8).size = 17) := by show _ = _; rw [md_size]; rfl
      clear hMX hFL hmp hmc hX emp emc eX eenc hml hOk hOw hLS HFO HY1 HY2 HE1 HE2 HB1 HB2 c0 c1 c2 c3 c4 c5 c6 cl KA K4 P4 C4 M4 B4 HL4 HG4 HBZ
      gi_wp2_with fail
      refine wpIn_rangeFunc_Y rfl (enters_of Try.func99 (by kernel_rfl) rfl) HMX.out (Below.refl _ _) HOK5.out HOW5.out (fun _ => rfl) (fun k hk => hk.1)
        (fun pre V => pre <+: FL ∧ LsI w3.heap.size wB.heap.size (pre.filter fun s => !X s) V ∧ Below w.heap.size w V ∧ (∀ k, k < wB.heap.size → k ≠ w3.heap.size → V.heap[k]? = wB.heap[k]?))
        (fun cd pre V => False)
        (OwnFrom.and (fun _ _ _ _ h _ _ => h) (OwnFrom.and (LsI.own _ _ _ _) (OwnFrom.and (ownFrom_below (Nat.le_refl _) HBW.out.size) but_own)))
        (fun cd => fun _ _ _ _ h _ _ => h)
        ⟨List.nil_prefix, HLS5.out, HBW.out, fun _ _ _ => rfl⟩
        (fun pre x a' V => pre ++ [x] <+: FL ∧ ∃ Bx, wB.heap.size ≤ Bx ∧ AtY (some w3.heap.size) V Bx (.cells (mdC (mp x) (mc x)) 99 (0, 0)) ∧ a' = { tmps := #[.agg #[.int .i64 kind, .int .i64 base, .int .i64 most, .slice ha n hc, .slice ra m rc], .slice ma mn mc', .pointer (some ⟨w.heap.size, 0, none⟩), .pointer (some ⟨w.heap.size + 1, 0, none⟩), .slice none 0 0, .int .i64 0, .pointer (some ⟨w1.heap.size, 0, none⟩), .int .i64 0, .int .i64 0, .pointer (some ⟨w3.heap.size, 0, none⟩), .pointer (some ⟨Bx, 0, none⟩), .tuple #[.agg #[.int .i64 kind, .int .i64 base, .int .i64 most, .slice ha n hc, .slice ra m rc, .int .i64 kind, .func (.func F) #[] #[]], .int .i64 0], .agg #[.int .i64 kind, .int .i64 base, .int .i64 most, .slice ha n hc, .slice ra m rc], .tuple #[.agg #[.int .i64 kind, .int .i64 base, .int .i64 most, .slice ha n hc, .slice ra m rc, .int .i64 kind, .func (.func F) #[] #[]], .int .i64 0], .agg #[.int .i64 kind, .int .i64 base, .int .i64 most, .slice ha n hc, .slice ra m rc, .int .i64 kind, .func (.func F) #[] #[]], .int .i64 0, .int .i64 0, .bool false, undef, .slice ma mn mc', .pointer (some ⟨w.heap.size, 3, none⟩), .slice ha n hc, .int .i64 (n : Int), .int .i64 0, .int .i64 0, .bool false, undef, .agg #[.int .i64 kind, .int .i64 base, .int .i64 most, .slice ha n hc, .slice ra m rc, .int .i64 kind, .func (.func F) #[] #[]], .func (.func 117) #[] #[.pointer (some ⟨bf, 0, none⟩), .pointer (some ⟨bt, 0, none⟩)], .func (.func 99) #[] #[.pointer (some ⟨wA.heap.size + 1, 0, none⟩), .pointer (some ⟨wA.heap.size, 0, none⟩)], .agg (mdC (mp x) (mc x)), undef, undef, undef, undef, undef, undef, undef, undef, undef, undef, undef], defers := [] })
        ?hAx ?assign ?body ?done ?stop
      case hAx =>
        rintro pre x a' _ X' Y row ⟨h0, Bx, h1, h2, h3⟩ hg hr
        exact ⟨h0, Bx, h1, (AtY.own (β := Unit) _ (fun _ => _) _ _ wB.heap.size) () X' Y row h2 hg hr, h3⟩
      case assign =>
        rintro l' m' pre x V K ⟨i0, i1, i2, i3⟩ hokV hvx hK
        have hn2 := heap_alloc_new V (Obj.cells (mdC pf0 z8) 99)
        have hz2 := md_putIn (C := mdC (mp x) (mc x)) hn2
        have hb : Below V.heap.size V ((V.alloc (Obj.cells (mdC pf0 z8) 99)).setRow V.heap.size (mdC (mp x) (mc x))) := below_setRow (by go_grown) (Nat.le_refl _) _
        have hszV : wB.heap.size ≤ V.heap.size := Nat.le_of_not_lt fun hlt => by
          have hlt2 : V.heap.size ≠ w3.heap.size := fun e => by obtain ⟨_, _, _, h1, _⟩ := i1; have := lt_of_block h1; omega
          have h := i3 V.heap.size hlt hlt2
          rw [Array.getElem?_eq_none (Nat.le_refl _), Array.getElem?_eq_getElem hlt] at h
          cases h
        have HN2 := Lib.hid hn2
        have HOKV := Lib.hid hokV
        have I0 := Lib.hid i0
        have I1 := Lib.hid i1
        have I2 := Lib.hid i2
        have I3 := Lib.hid i3
        clear hn2 hokV i0 i1 i2 i3
        gi_wp2_with (refine md_storeIn rfl (.tmp 10) (.tmp 30) rfl V.heap.size rfl (mdC (mp x) (mc x)) (mdC pf0 z8) rfl HN2.out (HSIZ.out x) HZ17.out (HONE.out x) rfl ?_)
        exact hK _ _ (KeptY.of_below HOKV.out hb) ⟨I0.out, I1.out.below hb, I2.out.trans (hb.mono I2.out.size), fun k hk hne => (hb.block k (Nat.lt_of_lt_of_le hk hszV)).trans (I3.out k hk hne)⟩ ⟨hvx, _, hszV, AtY.fresh HOKV.out hb (Nat.le_refl _) hz2, rfl⟩
      case body =>
        rintro l' m' pre x a' V hl ⟨i0, i1, i2, i3⟩ hokV ⟨hvx, Bx, hBx, iX, rfl⟩ hlt
        have I1 := Lib.hid i1
        have I2 := Lib.hid i2
        have I3 := Lib.hid i3
        have HOKV := Lib.hid hokV
        have HVX := Lib.hid hvx
        have HBX := Lib.hid hBx
        have IX : Hid (MdBlk V Bx (mp x) (mc x)) := iX.at_
        have hxin := hvx.subset (show x ∈ pre ++ [x] by simp)
        have hsame : ∀ k, k < w.heap.size → V.heap[k]? = w.heap[k]? := i2.block
        have P6 := Lib.hid ((i3 _ (lt_of_block P5.out) (by have := HBL.out; omega)).trans P5.out)
        have CV : Hid (CseAt V c (.slice ha n hc) (.slice ra m rc)) := HC00.out.same hsame
        have MV : Hid (MrksAt V (.slice ma mn mc') l) := MrksAt.same HM0.out hsame
        have HCL := Lib.hid (HEX.out x V hxin CV.out MV.out)
        obtain ⟨R, hR⟩ : ∃ R, X x = R := ⟨_, rfl⟩
        rw [hR] at HCL
        have HR := Lib.hid hR
        have p0 := cellOf P6.out 0 (.slice ma mn mc') rfl
        have pl := lt_of_block P6.out
        clear i0 i1 i2 i3 iX hvx hxin hlt hokV hR hsame hBx
        gi_wp2_with (refine md_loadIn rfl (.tmp 10) rfl Bx rfl (mp x) (mc x) IX.out (HPL.out x) (HC8.out x) ?_)
        refine ⟨trivial, fun h => (by cases h), ?_⟩
        refine (callsIn_wide.2 HCL.out).mono ?_
        rintro e V2 ⟨rfl, hb⟩
        have HB2 := Lib.hid hb
        have M6 := IX.out.below hb IX.out.lt
        clear p0 pl HCL hb
        cases R
        · obtain ⟨a1, q, c1, h1, h2, h3⟩ := I1.out
          have y0 := cellOf ((HB2.out.block _ (lt_of_block h1)).trans h1) 0 (.slice a1 q c1) rfl
          have m7 := M6.cp 7 _ (HP7.out x)
          have m8 := M6.cp 8 _ (HP8.out x)
          have ml := M6.lt
          have hq9 : q ≤ 1000 := by
            rw [← h3]
            exact Nat.le_trans (List.length_filter_le _ _) (Nat.le_trans (Nat.le_trans (by simp) HVX.out.length_le) HFL9.out)
          obtain ⟨V3, hV3, b3⟩ : ∃ Z, V2.alloc (Obj.cells #[.int .i64 x.1, .int .i64 x.2] 27) = Z ∧ Below V2.heap.size V2 Z := ⟨_, rfl, by go_grown⟩
          have z3 := heap_alloc_new V2 (Obj.cells #[.int .i64 x.1, .int .i64 x.2] 27)
          rw [hV3] at z3
          have HV3 := Lib.hid hV3
          have b23 := HB2.out.trans (b3.mono HB2.out.size)
          have HB3 := Lib.hid b23
          have HC2 : Hid (∀ j u, [Value.int .i64 x.1, Value.int .i64 x.2][j]? = some u → V3.cell? ⟨V2.heap.size, 0 + j, none⟩ = some u) := fun j u hu => by
            rw [Nat.zero_add]
            exact cellOf z3 j u (by simpa using hu)
          have HO3 := Lib.hid (own_below (own_below h2 HB2.out) b3)
          have H1 := Lib.hid h1
          have H2 := Lib.hid h2
          have H3 := Lib.hid h3
          have hs8 : wB.heap.size ≤ V3.heap.size := by
            have := b23.size; have := HBX.out; have := IX.out.lt
            omega
          clear h1 h2 h3 hV3 b3 z3 b23 M6
          gi_wp2_with (rw [HV3.out]; refine wplIn_appS rfl _ _ 42 27 rfl Try.underlying42 _ 2 16 scInfo rfl (by decide) wB.heap.size q _ _ V2.heap.size 0 1 [.int .i64 x.1, .int .i64 x.2] rfl rfl HO3.out rfl HC2.out (by intro x hx; simp at hx; rcases hx with rfl | rfl <;> rfl) hs8 (by unfold maxLen; omega) (by omega) ?_)
          intro v' w8 hown8 hg8 h5
          obtain ⟨va, vc, rfl⟩ := own_slice hown8
          obtain ⟨hK8, hL8, hB8, hS8, hb8⟩ := LsI.app (B2 := wB.heap.size) (kept := fun k => k < wB.heap.size ∧ k ≠ w3.heap.size) H1.out H2.out H3.out HB3.out hown8 hg8 h5 HSL.out HSL.out (fun h => h.2 rfl) (by have := HBL.out; omega) I2.out (Nat.le_refl _)
          have HK8 := Lib.hid hK8
          have HL8 := Lib.hid hL8
          have HB8 := Lib.hid hB8
          have HS8 := Lib.hid hS8
          have hyes : (pre ++ [x]).filter (fun s => !X s) = (pre.filter fun s => !X s) ++ [x] := by simp [List.filter_append, HR.out]
          have HYES := Lib.hid hyes
          have y0 := cellOf hb8 0 (.slice a1 q c1) rfl
          have g0 := frozen_of_row _ _ 0 _ _ hb8
          have yl := lt_of_block hb8
          clear hK8 hL8 hB8 hS8 hb8 hown8 hg8 h5 hyes m7 m8 ml
          gi_wp2_with fail
          refine ⟨HK8.out, HVX.out, by rw [HYES.out]; exact HL8.out, HB8.out, fun k hk hne => (HS8.out k hk ?_ hne).trans (I3.out k hk hne)⟩
          have := HBX.out; have := IX.out.lt
          omega
        · have hno : (pre ++ [x]).filter (fun s => !X s) = pre.filter fun s => !X s := by simp [List.filter_append, HR.out]
          have HNO := Lib.hid hno
          clear hno M6
          gi_wp2_with fail
          refine ⟨KeptY.of_below HOKV.out HB2.out, HVX.out, by rw [HNO.out]; exact I1.out.below HB2.out, I2.out.trans (HB2.out.mono I2.out.size), fun k hk hne => ?_⟩
          refine (HB2.out.block k ?_).trans (I3.out k hk hne)
          have := HBX.out; have := IX.out.lt
          omega
      case done =>
        rintro D ys V hD rfl ⟨i0, i1, i2, i3⟩ hK
        obtain ⟨a1, q, c1, h1, h2, h3⟩ := id i1
        have y0 := cellOf h1 0 (.slice a1 q c1) rfl
        have HK := Lib.hid hK
        have I1 := Lib.hid i1
        have I2 := Lib.hid i2
        have H1 := Lib.hid h1
        clear i0 i1 i2 i3 hK h1 h2 h3
        gi_wp2_with fail
        refine ⟨by simp, .inl ⟨_, _, rfl, run_takeDeferred HK.out, ?_⟩⟩
        refine ⟨_, results_tmp2 rfl _ _ _, .slice a1 q c1, rfl, ?_, below_put _ I2.out (Nat.le_refl _) (by have := HBW.out.size; omega) HK.out rfl⟩
        obtain ⟨a2, q2, c2, g1, g2, g3⟩ := I1.out.grow (grownBy_putObj' V D (.deferred none)) (fun r e => by cases e; exact ⟨_, HK.out, rfl⟩)
        have e : (V.putObj D (.deferred none)).heap[w3.heap.size]? = V.heap[w3.heap.size]? := World.putObj_heap_other (fun e => by have h := H1.out; rw [e, HK.out] at h; cases h)
        rw [e, H1.out] at g1
        cases g1
        show PairsAt _ _ (if (0 : Int) = 0 then RL else [])
        rw [if_pos rfl, HSC.out]
        exact pairs_own (by rw [g3]; exact g2) (by have := List.length_filter_le (fun s => !X s) ys; have := HFL9.out; omega)
      case stop =>
        rintro D cd pre V hD hpre hf hK
        exact hf.elim
    · have HREe : Hid (RE = me) := HRE.out
      obtain rfl := HREe.out
      have tz : (RE != 0) = true := by simp [h1]
      gi_wp2_with fail
      refine ⟨_, results_tmp2 rfl _ _ _, .slice none 0 0, rfl, ?_, B3.out⟩
      exact pairs_nil _
  · obtain rfl := hn' h0
    clear hy hn'
    obtain rfl : RE = er := by rw [HSE.out, if_pos h0]
    have tz : (RE != 0) = true := by simp [h0]
    gi_wp2_with fail
    refine ⟨_, results_tmp2 rfl _ _ _, .slice none 0 0, rfl, ?_, B1.out.alloc B1.out.size _⟩
    exact pairs_nil _
end Go.Proofs.Ythflbbjilebhlaa
namespace Go.Proofs.Ythflbbjilebhlaa
open Go Go.RowKit Go.Shelf Sc
attribute [local go_sem] Oper.semAt_some

/-- All ascending lists of numbers below n, the shorter ones first. -/
def allTo (n k : Nat) : List (List Int) := (List.range k).flatMap fun m => lsF n m [] 0
def allL (n : Nat) : List (List Int) := allTo n (n + 1)
theorem allTo_next (n k : Nat) : allTo n (k + 1) = allTo n k ++ lsF n k [] 0 := by simp [allTo, List.range_succ]
theorem allTo_pre (n k m : Nat) (h : k ≤ m) : allTo n k <+: allTo n m := by
  obtain ⟨d, rfl⟩ : ∃ d, m = k + d := ⟨m - k, by omega⟩
  induction d with
  | zero => exact List.prefix_refl _
  | succ d ih => exact List.IsPrefix.trans (ih (by omega)) (by rw [show k + (d + 1) = (k + d) + 1 by omega, allTo_next]; exact List.prefix_append _ _)
theorem lsF_mem (n : Nat) : ∀ (m : Nat) (xs : List Int) (fr : Nat) (ys : List Int), ys ∈ lsF n m xs fr → ys.length = xs.length + m ∧ ∀ p, p ∈ ys → p ∈ xs ∨ (0 ≤ p ∧ p < n)
  | 0, xs, fr, ys, h => by
    simp only [lsF, List.mem_singleton] at h
    subst h
    exact ⟨rfl, fun p hp => .inl hp⟩
  | m + 1, xs, fr, ys, h => by
    simp only [lsF, List.mem_flatMap, List.mem_range'_1] at h
    obtain ⟨p, hp, hm⟩ := h
    obtain ⟨h1, h2⟩ := lsF_mem n m _ _ ys hm
    refine ⟨by rw [h1]; simp; omega, fun r hr => ?_⟩
    rcases h2 r hr with h | h
    · rcases List.mem_append.1 h with h | h
      · exact .inl h
      · simp at h; subst h; exact .inr (by omega)
    · exact .inr h
theorem allL_mem {n : Nat} {ys : List Int} (h : ys ∈ allL n) : ys.length ≤ n ∧ ∀ p, p ∈ ys → 0 ≤ p ∧ p < n := by
  simp only [allL, allTo, List.mem_flatMap, List.mem_range] at h
  obtain ⟨m, hm, hy⟩ := h
  obtain ⟨h1, h2⟩ := lsF_mem n m _ _ ys hy
  refine ⟨by simp at h1; omega, fun p hp => ?_⟩
  rcases h2 p hp with h | h
  · cases h
  · exact h
set_option maxRecDepth 100000 in
set_option maxHeartbeats 8000000 in
theorem lists_P (n : Nat) (n8 : n ≤ 8) (bP : Nat) (kept : Nat → Prop) (hk : kept bP) (w : World) (h1 : w.heap[bP]? = some (.cells #[.int .i64 (n : Int)] 3 (0, 0))) :
    SeqP Try.prog 108 #[.pointer (some ⟨bP, 0, none⟩)] encL kept (fun pre x W => IntsAt W x.1 x.2 ∧ pre.map (·.2) ++ [x.2] <+: allL n) (fun xs => xs.map (·.2) = allL n) (fun pre => pre.map (·.2) <+: allL n) (allL n).length w := by
  intro m l J Jx W hW hJ hY h0
  have g1 := (hW.block _ (lt_of_block h1)).trans h1
  have b1 := lt_of_block g1
  obtain ⟨W2, hW2, z1, z2, hb2, hs2⟩ := al2 W (Obj.cells #[.func (.yield l) #[] #[]] 137) (Obj.cells #[.func (.func 109) #[] #[.pointer (some ⟨W.heap.size, 0, none⟩), .pointer (some ⟨bP, 0, none⟩), .pointer (some ⟨W.heap.size + 1, 0, none⟩)]] 159)
  have e := fun (more fr : Nat) (xs : List Int) (v : Value) => each_L l W.heap.size (W.heap.size + 1) W.heap.size bP W2.heap.size n (allL n) kept J Jx hJ (fun m' pre x W1 q1 q2 q3 => hY m' pre x W1 q1 q2 (by have := q2.2.length_le; simp at this; omega) q3) ⟨by omega, by omega⟩ ⟨by omega, by omega⟩ ⟨hk, by omega⟩ n8 more fr xs v
  have HE := Lib.hid e
  have HW2 := Lib.hid hW2
  have P2 := Lib.hid ((hb2.block _ b1).trans g1)
  have Z1 := Lib.hid z1
  have Z2 := Lib.hid z2
  have HS2 := Lib.hid hs2
  have HKP := Lib.hid hk
  have J2 : Hid (J [] W2) := hJ _ _ _ h0 hb2
  have nI : (n : Int) ≤ 8 := by omega
  have p0 : (((W.alloc (Obj.cells #[.func (.yield l) #[] #[]] 137)).alloc (Obj.cells #[.func (.func 109) #[] #[.pointer (some ⟨W.heap.size, 0, none⟩), .pointer (some ⟨bP, 0, none⟩), .pointer (some ⟨W.heap.size + 1, 0, none⟩)]] 159))).cell? ⟨bP, 0, none⟩ = some (.int .i64 (n : Int)) := by rw [hW2]; exact cellOf P2.out 0 _ rfl
  clear hW2 z1 z2 hb2 hs2 e hY h0 hJ hW h1 g1 hk
  refine callsIn_wide.2 ((callsIn_wide (n := 9)).1 ?_)
  refine callsIn_of_wp Try.func108 rfl trivial ?_ rfl
  simp only [Try.ntmps108, List.size_toArray, List.length_cons, List.length_nil, Nat.reduceAdd, Nat.reduceSub, Array.replicate_succ, Array.replicate_zero, List.push_toArray, List.append_toArray, List.nil_append, List.cons_append]
  gi_wp2_with fail
  rw [HW2.out]
  clear p0 b1
  gi_loopw [4, 8] (fun _ i wr => ∃ (k : Nat) (q : List VL), k ≤ n + 1 ∧ i = .int .i64 (k : Int) ∧ Hid (q.map (·.2) = allTo n k) ∧ Hid (J q wr) ∧ Hid (KeptL W.heap.size kept W2.heap.size (.slice none 0 0) [] W2 wr)) (fun _ i _ => n + 1 - (intOf i).toNat)
  case atStart => exact ⟨0, [], by omega, rfl, rfl, J2, ⟨Nat.le_refl _, fun _ _ _ _ => rfl, World.ownsRow_nil ..⟩⟩
  case round =>
    obtain ⟨k, q, hkn, rfl, HQ, HJ, HL⟩ := hrel
    have hr0 : W2.ownsRow W2.heap.size 3 1 (.slice none 0 0) ([] : List Int).length (intsV []) := World.ownsRow_nil ..
    have HR0 := Lib.hid hr0
    have E3 := Lib.hid (HL.out.keep hr0 Z2.out (.inl (by omega)) (by have := HS2.out; omega))
    have Y3 := Lib.hid (HL.out.keep hr0 Z1.out (.inl (by omega)) (by have := HS2.out; omega))
    have P3 := Lib.hid (HL.out.keep hr0 P2.out (.inr HKP.out) (lt_of_block P2.out))
    clear hr0
    by_cases hlt : k ≤ n
    · have kI : (k : Int) < (n : Int) + 1 := by omega
      have hnx := allTo_next n k
      have hcall := HE.out k 0 [] (.slice none 0 0) 9 q wr (by omega) (by simp; omega) E3.out Y3.out P3.out (World.ownsRow_nil ..) HL.out.size HJ.out (by rw [HQ.out, ← hnx]; exact allTo_pre n (k + 1) (n + 1) (by omega))
      have ez : ((0 : Nat) : Int) = 0 := rfl
      rw [ez] at hcall
      have HCL := Lib.hid hcall
      have HNX := Lib.hid hnx
      have e0 := cellOf E3.out 0 (.func (.func 109) #[] #[.pointer (some ⟨W.heap.size, 0, none⟩), .pointer (some ⟨bP, 0, none⟩), .pointer (some ⟨W.heap.size + 1, 0, none⟩)]) rfl
      have el := lt_of_block E3.out
      clear hcall hnx ez
      gi_wp2_with fail
      refine ⟨trivial, ?_⟩
      refine (callsIn_wide.2 (callsIn_wide.1 HCL.out)).mono ?_
      rintro e W4 (⟨rfl, q2, hq2, hJ4, hk4⟩ | ⟨rfl, q2, hq2, hx4, hk4⟩)
      · have HQ4 : Hid ((q ++ q2).map (·.2) = allTo n (k + 1)) := by show _ = _; rw [List.map_append, HQ.out, hq2, HNX.out]
        have HJ4 := Lib.hid hJ4
        have HL4 : Hid (KeptL W.heap.size kept W2.heap.size (.slice none 0 0) [] W2 W4) := HL.out.trans hk4
        have wk : IntKind.i64.wrap ((k : Int) + 1) = (k : Int) + 1 := by rw [IntKind.wrap_i64] <;> omega
        clear hq2 hJ4 hk4 e0 el HCL
        gi_wp2_with fail
        go_roundw
        case rel => exact ⟨k + 1, q ++ q2, by omega, by go_num, HQ4, HJ4, HL4⟩
        case measure => simp [intOf]; omega
      · have HQ4 : Hid ((q ++ q2).map (·.2) <+: allL n) := by
          show _ <+: _
          rw [List.map_append, HQ.out]
          refine List.IsPrefix.trans ?_ (allTo_pre n (k + 1) (n + 1) (by omega))
          rw [HNX.out]
          exact (List.prefix_append_right_inj _).2 hq2
        have HX4 := Lib.hid hx4
        clear hq2 hx4 hk4 e0 el HCL
        gi_wp2_with fail
        refine bodyPost_ret (results_none rfl _ _ _) rfl ?_
        exact ⟨⟨_, rfl⟩, .inr ⟨_, HQ4.out, HX4.out⟩⟩
    · obtain rfl : k = n + 1 := by omega
      obtain ⟨N, hN⟩ : ∃ N : Int, ((n + 1 : Nat) : Int) = N := ⟨_, rfl⟩
      have kI : ¬ N < (n : Int) + 1 := by omega
      rw [hN]
      clear hlt hkn
      gi_wp2_with fail
      go_end0
      exact ⟨⟨_, rfl⟩, .inl ⟨_, HQ.out, HJ.out⟩⟩
set_option maxRecDepth 100000 in
theorem lists_any (n : Int) (w : World) :
    Calls Try.prog 81 #[.int .i64 n] w fun e w' => e = .returned (.func (.func 108) #[] #[.pointer (some ⟨w.heap.size, 0, none⟩)]) ∧ w.alloc (.cells #[.int .i64 n] 3) = w' := by
  go_enter Try.func81, Try.ntmps81
  go_wp2_with fail
  go_ret
  exact ⟨rfl, rfl⟩
set_option maxRecDepth 100000 in
theorem tell1_any (c : Cse) (hv rv v pv : Value) (l : List Scl) (pts : List Int) (bM : Nat) (w : World) (hC : CseAt w c hv rv) (hl : MdsAt w v c hv rv l) (h6 : l.length ≤ 6) (hP : IntsAt w pv pts) (h8 : pts.length ≤ 8) (hin : ∀ p, p ∈ pts → 0 ≤ p ∧ p < 8)
    (hb : w.heap[bM]? = some (.cells #[v] 109 (0, 0))) :
    Calls Try.prog 82 #[pv, .pointer (some ⟨bM, 0, none⟩)] w fun e w' => e = .returned (.bool (tellB c l pts)) ∧ Below w.heap.size w w' := by
  have HT := Lib.hid (tell_any c hv rv v pv l pts w hC hl h6 hP h8 hin)
  obtain ⟨a, cap, rfl, lsc, _⟩ := id hl
  obtain ⟨_, pa, pc, rfl, _⟩ := id hP
  have c0 := cellOf hb 0 _ rfl
  have cl := lt_of_block hb
  clear hC hl h6 hP h8 hin hb
  go_enter Try.func82, Try.ntmps82
  go_wp2_with fail
  refine HT.out.mono ?_
  rintro e w' ⟨rfl, hb⟩
  have HB := Lib.hid hb
  clear hb
  go_wp2_with fail
  go_ret
  exact ⟨rfl, HB.out⟩
theorem ints_grow {X Y : World} {row : Option Nat} {v : Value} {l : List Int} (h : IntsAt X v l) (hg : X.grownBy Y row) (hr : ∀ r, row = some r → ∃ o : Obj, X.heap[r]? = some o ∧ o.isCells = false) : IntsAt Y v l := by
  obtain ⟨h1, a, cap, rfl, hc, h2⟩ := h
  refine ⟨h1, a, cap, rfl, hc, fun hne => ?_⟩
  obtain ⟨b, o, rfl, hk⟩ := h2 hne
  refine ⟨b, o, rfl, fun k hkl => ?_⟩
  have hc := hk k hkl
  have hlt := World.block_lt_of_cell? X _ hc
  refine (World.cell?_of_block (w := X) (hg.block b hlt (fun e => ?_))).trans hc
  obtain ⟨ob, ho, hn⟩ := hr b e.symm
  cases ob <;> simp [World.cell?, ho, Obj.isCells] at hc hn
/-- A box that holds no number is stored to. -/
theorem ints_box {X : World} {v x u : Value} {l : List Int} {g : Nat} {t : TypeId} {fr : Nat × Nat} (h : IntsAt X v l) (hg : X.heap[g]? = some (.cells #[x] t fr)) (hx : ∀ i, x ≠ .int .i64 i) : IntsAt (X.setCell ⟨g, 0, none⟩ u) v l := by
  obtain ⟨h1, a, cap, rfl, hc, h2⟩ := h
  refine ⟨h1, a, cap, rfl, hc, fun hne => ?_⟩
  obtain ⟨b, o, rfl, hk⟩ := h2 hne
  refine ⟨b, o, rfl, fun k hkl => ?_⟩
  have hc := hk k hkl
  have hb : b ≠ g := by
    rintro rfl
    simp only [World.cell?, hg] at hc
    cases hok : o + k with
    | zero => rw [hok] at hc; simp at hc; exact hx _ hc
    | succ j => rw [hok] at hc; simp at hc
  exact (World.cell?_of_block (w := X) (heap_setCell_other _ _ _ _ hb)).trans hc
/-- A list in its cell, and whether there is one. -/
theorem ls_results {fn : Func} {q u : Tmp} (h : fn.results = #[.cell q 22, .cell u 4]) (tmps : Array Value) (w : World) (g g2 : Nat) (x y : Value)
    (hp : tmps.getD q undef = .pointer (some ⟨g, 0, none⟩)) (hq : tmps.getD u undef = .pointer (some ⟨g2, 0, none⟩)) (hg : w.heap[g]? = some (.cells #[x] 22 (0, 0))) (hg2 : w.heap[g2]? = some (.cells #[y] 4 (0, 0))) :
    (results fn tmps).run Try.prog w = .ok (.tuple #[x, y]) w := by
  have c0 : w.cell? ⟨g, 0, none⟩ = some x := cellOf hg 0 _ rfl
  have c1 : w.cell? ⟨g2, 0, none⟩ = some y := cellOf hg2 0 _ rfl
  have hp' : tmps[q]?.getD undef = .pointer (some ⟨g, 0, none⟩) := by simpa using hp
  have hq' : tmps[u]?.getD undef = .pointer (some ⟨g2, 0, none⟩) := by simpa using hq
  simp only [results, h]
  simp [Sem.run_bind, Result.andThen, hp', hq', asAddr, go_sem, c0, c1]
@[reducible] def sndL (l : List VL) : List (List Int) := l.map (·.2)
theorem sndL_app (l : List VL) (x : VL) : sndL (l ++ [x]) = sndL l ++ [x.2] := by simp [sndL]
set_option maxRecDepth 100000 in
set_option maxHeartbeats 8000000 in
theorem lfirst_any (c : Cse) (hv rv v : Value) (l : List Scl) (n bP bM : Nat) (w : World) (hC : CseAt w c hv rv) (hl : MdsAt w v c hv rv l) (h6 : l.length ≤ 6) (n8 : n ≤ 8)
    (h1 : w.heap[bP]? = some (.cells #[.int .i64 (n : Int)] 3 (0, 0))) (h2 : w.heap[bM]? = some (.cells #[v] 109 (0, 0))) :
    Calls Try.prog 80 #[.func (.func 108) #[] #[.pointer (some ⟨bP, 0, none⟩)], .func (.func 82) #[] #[.pointer (some ⟨bM, 0, none⟩)]] w fun e w' =>
      (∀ p, (allL n).find? (tellB c l) = some p → ∃ pv, e = .returned (.tuple #[pv, .bool true]) ∧ IntsAt w' pv p) ∧ ((allL n).find? (tellB c l) = none → e = .returned (.tuple #[.slice none 0 0, .bool false])) ∧ Below w.heap.size w w' := by
  obtain ⟨W3, hW3, z1, z2, z3, hb3, hs3⟩ := al3 w (Obj.cells #[.func (.func 82) #[] #[.pointer (some ⟨bM, 0, none⟩)]] 137) (Obj.cells #[.slice none 0 0] 22) (Obj.cells #[.bool false] 4)
  have hLP := lists_P n n8 bP (fun k => k < w.heap.size) (lt_of_block h1) W3 ((hb3.block _ (lt_of_block h1)).trans h1)
  have HMEM : Hid (∀ y, y ∈ allL n → y.length ≤ 8 ∧ ∀ p, p ∈ y → 0 ≤ p ∧ p < 8) := fun y hy => by
    obtain ⟨a, b⟩ := allL_mem hy
    exact ⟨by omega, fun p hp => by have := b p hp; omega⟩
  obtain ⟨LL, hLL⟩ : ∃ LL, allL n = LL := ⟨_, rfl⟩
  rw [hLL] at hLP HMEM ⊢
  have HT : Hid (∀ pts pv V, pts ∈ LL → IntsAt V pv pts → Below w.heap.size w V → Calls Try.prog 82 #[pv, .pointer (some ⟨bM, 0, none⟩)] V fun e w' => e = .returned (.bool (tellB c l pts)) ∧ Below V.heap.size V w') := fun pts pv V hm hp hb => tell1_any c hv rv v pv l pts bM V (hC.below hb) (hl.below hb) h6 hp (HMEM.out pts hm).1 (HMEM.out pts hm).2 ((hb.block _ (lt_of_block h2)).trans h2)
  obtain ⟨f, hf⟩ : ∃ f : List Int → Bool, tellB c l = f := ⟨_, rfl⟩
  rw [hf] at HT ⊢
  have HLP := Lib.hid hLP
  have HW3 := Lib.hid hW3
  have Z1 := Lib.hid z1
  have Z2 := Lib.hid z2
  have Z3 := Lib.hid z3
  have HB3 := Lib.hid hb3
  have HS3 := Lib.hid hs3
  clear hW3 z1 z2 z3 hb3 hs3 h1 h2 hC hl h6 hLP hLL hf HMEM
  refine (callsIn_wide (n := 9)).1 ?_
  refine callsIn_of_wp_marks Try.func80 rfl trivial ?_ rfl
  simp only [Try.ntmps80, List.size_toArray, List.length_cons, List.length_nil, Nat.reduceAdd, Nat.reduceSub, Array.replicate_succ, Array.replicate_zero, List.push_toArray, List.append_toArray, List.nil_append, List.cons_append]
  gi_wp2_with fail
  rw [HW3.out]
  refine wpIn_rangeFunc_P rfl (enters_of Try.func108 (by kernel_rfl) rfl) HLP.out (Below.refl _ _) (fun _ => rfl) (fun k hk => by have := HS3.out; omega)
    (fun (pre : List VL) V => sndL pre <+: LL ∧ (∀ x, x ∈ sndL pre → f x = false) ∧ V.heap[w.heap.size]? = some (.cells #[.func (.func 82) #[] #[.pointer (some ⟨bM, 0, none⟩)]] 137 (0, 0)) ∧ V.heap[w.heap.size + 1]? = some (.cells #[.slice none 0 0] 22 (0, 0)) ∧ V.heap[w.heap.size + 1 + 1]? = some (.cells #[.bool false] 4 (0, 0)) ∧ Below w.heap.size w V)
    (fun cd (pre : List VL) V => cd = .ret ∧ (∃ (q : List VL) (x : VL), pre = q ++ [x] ∧ sndL pre <+: LL ∧ (∀ y, y ∈ sndL q → f y = false) ∧ f x.2 = true ∧ V.heap[w.heap.size + 1]? = some (.cells #[x.1] 22 (0, 0)) ∧ IntsAt V x.1 x.2) ∧ V.heap[w.heap.size + 1 + 1]? = some (.cells #[.bool true] 4 (0, 0)) ∧ Below w.heap.size w V)
    (OwnFrom.and (fun _ _ _ _ h _ _ => h) (OwnFrom.and (fun _ _ _ _ h _ _ => h) (OwnFrom.and (Own.from (blk_own _ (fun _ => _) _ _) _) (OwnFrom.and (Own.from (blk_own _ (fun _ => _) _ _) _) (OwnFrom.and (Own.from (blk_own _ (fun _ => _) _ _) _) (ownFrom_below (Nat.le_refl _) (by have := HS3.out; omega)))))))
    (fun s X Y h hb => by
      obtain ⟨i0, i1, i2, i3, i4, i5⟩ := h
      have hsz := HS3.out
      exact ⟨i0, i1, (hb.block _ (by omega)).trans i2, (hb.block _ (by omega)).trans i3, (hb.block _ (by omega)).trans i4, i5.trans (hb.mono (by omega))⟩)
    (fun cd => OwnFrom.and (fun _ _ _ _ h _ _ => h) (OwnFrom.and (fun s X Y row h hg hr => by
      obtain ⟨q, x, h1, h2, h3, h4, h5, h6⟩ := h
      exact ⟨q, x, h1, h2, h3, h4, (Own.from (blk_own (β := Unit) _ (fun _ => _) _ _) W3.heap.size) () X Y row h5 hg hr, ints_grow h6 hg (fun r e => (hr r e).2)⟩) (OwnFrom.and (Own.from (blk_own _ (fun _ => _) _ _) _) (ownFrom_below (Nat.le_refl _) (by have := HS3.out; omega)))))
    ⟨List.nil_prefix, fun x hx => (by cases hx), Z1.out, Z2.out, Z3.out, HB3.out⟩
    (fun (pre : List VL) (x : VL) a' V => (IntsAt V x.1 x.2 ∧ sndL pre ++ [x.2] <+: LL) ∧ a' = { tmps := #[.func (.func 108) #[] #[.pointer (some ⟨bP, 0, none⟩)], .func (.func 82) #[] #[.pointer (some ⟨bM, 0, none⟩)], undef, .pointer (some ⟨w.heap.size, 0, none⟩), .pointer (some ⟨w.heap.size + 1, 0, none⟩), .pointer (some ⟨w.heap.size + 1 + 1, 0, none⟩), x.1, .func (.func 108) #[] #[.pointer (some ⟨bP, 0, none⟩)], x.1, undef, undef, undef, undef, undef], defers := [] })
    ?hAx ?assign ?body ?done ?stop
  case hAx =>
    rintro pre x a' _ X Y row ⟨⟨h0, h1⟩, h3⟩ hg hr
    exact ⟨⟨ints_grow h0 hg (fun r e => (hr r e).2), h1⟩, h3⟩
  case assign =>
    rintro l' m' pre ⟨pv, p⟩ V K hi hvx hK
    unfold encL
    simp only at hvx hK ⊢
    obtain ⟨lp, pa, pc, rfl, _⟩ := id hvx.1
    gi_wp2_with fail
    exact hK _ _ (KeptO.refl _ _ _) hi ⟨hvx, rfl⟩
  case body =>
    rintro l' m' pre ⟨pv, p⟩ a' V hl ⟨i0, i1, i2, i3, i4, i5⟩ ⟨hvx, rfl⟩ hlt
    simp only at hvx ⊢
    obtain ⟨lp, pa, pc, rfl, _⟩ := id hvx.1
    have I1 := Lib.hid i1
    have I2 := Lib.hid i2
    have I3 := Lib.hid i3
    have I4 := Lib.hid i4
    have I5 := Lib.hid i5
    have IP := Lib.hid hvx.1
    have HVX := Lib.hid hvx.2
    have HC := Lib.hid (HT.out p _ V (hvx.2.subset (by simp)) hvx.1 i5)
    obtain ⟨R, hR⟩ : ∃ R, f p = R := ⟨_, rfl⟩
    have HR := Lib.hid hR
    rw [hR] at HC
    have c0 := cellOf i2 0 (.func (.func 82) #[] #[.pointer (some ⟨bM, 0, none⟩)]) rfl
    have cl := lt_of_block i2
    clear i0 i1 i2 i3 i4 i5 hvx hlt hR
    gi_wp2_with fail
    refine ⟨trivial, fun h => (by cases h), ?_⟩
    refine (callsIn_wide.2 HC.out).mono ?_
    rintro e V2 ⟨rfl, hb⟩
    have J2 := Lib.hid ((hb.block _ (lt_of_block I2.out)).trans I2.out)
    have J3 := Lib.hid ((hb.block _ (lt_of_block I3.out)).trans I3.out)
    have J4 := Lib.hid ((hb.block _ (lt_of_block I4.out)).trans I4.out)
    have JP := Lib.hid (IP.out.below hb)
    have J5 := Lib.hid (I5.out.trans (hb.mono I5.out.size))
    have K2 : Hid (KeptO W3.heap.size (fun k => k < w.heap.size) V V2) := keptO_of_below hb
    clear hb c0 cl HC I2 I3 I4 I5 IP
    cases R
    · gi_wp2_with fail
      refine ⟨K2.out, by rw [sndL_app]; exact HVX.out, fun y hy => ?_, J2.out, J3.out, J4.out, J5.out⟩
      rw [sndL_app] at hy
      rcases List.mem_append.1 hy with h | h
      · exact I1.out y h
      · simp at h; subst h; exact HR.out
    · have hsz := HS3.out
      have x0 := cellOf J3.out 0 _ rfl
      have f0 := frozen_of_row _ _ 0 _ _ J3.out
      have xl := lt_of_block J3.out
      have y0 := cellOf J4.out 0 _ rfl
      have g0 := frozen_of_row _ _ 0 _ _ J4.out
      have yl := lt_of_block J4.out
      gi_wp2_with fail
      refine ⟨(K2.out.setCell _ _ (by show w.heap.size + 1 < _; omega) (by show ¬ w.heap.size + 1 < _; omega)).setCell _ _ (by show w.heap.size + 1 + 1 < _; omega) (by show ¬ w.heap.size + 1 + 1 < _; omega), rfl, ⟨pre, (_, p), rfl, by rw [sndL_app]; exact HVX.out, I1.out, HR.out, ?_, ?_⟩, ?_, (J5.out.setCell (p := ⟨w.heap.size + 1, 0, none⟩) (by show w.heap.size ≤ w.heap.size + 1; omega) _).setCell (p := ⟨w.heap.size + 1 + 1, 0, none⟩) (by show w.heap.size ≤ w.heap.size + 1 + 1; omega) _⟩
      · exact (heap_setCell_other _ _ _ _ (by show w.heap.size + 1 ≠ w.heap.size + 1 + 1; omega)).trans (heap_setCell_same _ (w.heap.size + 1) 0 _ _ _ J3.out)
      · exact ints_box (ints_box JP.out J3.out (fun i h => by cases h)) ((heap_setCell_other _ _ _ _ (by show w.heap.size + 1 + 1 ≠ w.heap.size + 1; omega)).trans J4.out) (fun i h => by cases h)
      · exact heap_setCell_same _ (w.heap.size + 1 + 1) 0 _ _ (.bool true) ((heap_setCell_other _ _ _ _ (by show w.heap.size + 1 + 1 ≠ w.heap.size + 1; omega)).trans J4.out)
  case done =>
    rintro D ys V hD hys ⟨i0, i1, i2, i3, i4, i5⟩ hK
    have hno : LL.find? f = none := List.find?_eq_none.2 (fun y hy => by rw [← hys] at hy; simp [i1 y hy])
    have HNO := Lib.hid hno
    have I3 := Lib.hid i3
    have I4 := Lib.hid i4
    have I5 := Lib.hid i5
    have HK := Lib.hid hK
    have hsz := HS3.out
    have x0 := cellOf i3 0 _ rfl
    have f0 := frozen_of_row _ _ 0 _ _ i3
    have xl := lt_of_block i3
    have y0 := cellOf i4 0 _ rfl
    have g0 := frozen_of_row _ _ 0 _ _ i4
    have yl := lt_of_block i4
    clear i0 i1 i2 i3 i4 i5 hK hno hys
    gi_wp2_with fail
    have hk5 : ((V.setCell ⟨w.heap.size + 1, 0, none⟩ (.slice none 0 0)).setCell ⟨w.heap.size + 1 + 1, 0, none⟩ (.bool false)).heap[D]? = some (.deferred (some [])) :=
      (heap_setCell_other _ _ _ _ (by show D ≠ w.heap.size + 1 + 1; omega)).trans ((heap_setCell_other _ _ _ _ (by show D ≠ w.heap.size + 1; omega)).trans HK.out)
    have h6 : ((V.setCell ⟨w.heap.size + 1, 0, none⟩ (.slice none 0 0)).setCell ⟨w.heap.size + 1 + 1, 0, none⟩ (.bool false)).heap[w.heap.size + 1 + 1]? = some (.cells #[.bool false] 4 (0, 0)) := heap_setCell_same _ (w.heap.size + 1 + 1) 0 _ _ (.bool false) ((heap_setCell_other _ _ _ _ (by show w.heap.size + 1 + 1 ≠ w.heap.size + 1; omega)).trans I4.out)
    have h7 : ((V.setCell ⟨w.heap.size + 1, 0, none⟩ (.slice none 0 0)).setCell ⟨w.heap.size + 1 + 1, 0, none⟩ (.bool false)).heap[w.heap.size + 1]? = some (.cells #[.slice none 0 0] 22 (0, 0)) := (heap_setCell_other _ _ _ _ (by show w.heap.size + 1 ≠ w.heap.size + 1 + 1; omega)).trans (heap_setCell_same _ (w.heap.size + 1) 0 _ _ (.slice none 0 0) I3.out)
    refine ⟨by simp, .inl ⟨_, _, rfl, run_takeDeferred hk5, ?_⟩⟩
    refine ⟨_, ls_results rfl _ _ (w.heap.size + 1) (w.heap.size + 1 + 1) _ _ rfl rfl ((World.putObj_heap_other (by omega)).trans h7) ((World.putObj_heap_other (by omega)).trans h6), fun p h => ?_, fun _ => rfl, ?_⟩
    · rw [HNO.out] at h; cases h
    · exact below_put _ ((I5.out.setCell (p := ⟨w.heap.size + 1, 0, none⟩) (by show w.heap.size ≤ w.heap.size + 1; omega) _).setCell (p := ⟨w.heap.size + 1 + 1, 0, none⟩) (by show w.heap.size ≤ w.heap.size + 1 + 1; omega) _) (Nat.le_refl _) (by omega) hk5 rfl
  case stop =>
    rintro D cd pre V hD hpre ⟨rfl, ⟨q, x, rfl, j1, j2, j3, j4, j5⟩, i3, i4⟩ hK
    have hyes : LL.find? f = some x.2 := find_at (by rw [sndL_app] at j1; exact j1) j2 j3
    have HYES := Lib.hid hyes
    have I2 := Lib.hid j4
    have I3 := Lib.hid i3
    have I4 := Lib.hid i4
    have IP := Lib.hid j5
    have HK := Lib.hid hK
    have hsz := HS3.out
    clear j1 j2 j3 j4 j5 i3 i4 hK hyes
    gi_wp2_with fail
    refine ⟨by simp, .inl ⟨_, _, rfl, run_takeDeferred HK.out, ?_⟩⟩
    refine ⟨_, ls_results rfl _ _ (w.heap.size + 1) (w.heap.size + 1 + 1) _ _ rfl rfl ((World.putObj_heap_other (by omega)).trans I2.out) ((World.putObj_heap_other (by omega)).trans I3.out), fun p h => ?_, fun h => ?_, ?_⟩
    · rw [HYES.out] at h; cases h
      exact ⟨_, rfl, ints_grow IP.out (grownBy_putObj' V D _) (fun r e => by cases e; exact ⟨_, HK.out, rfl⟩)⟩
    · rw [HYES.out] at h; cases h
    · exact below_put _ I4.out (Nat.le_refl _) (by omega) HK.out rfl
end Go.Proofs.Ythflbbjilebhlaa
namespace Go.Proofs.Ythflbbjilebhlaa
open Go Go.RowKit Go.Shelf Sc

def tellE (c : Cse) (ls : List Scl) : Int := if errC c ≠ 0 then errC c else if 6 < ls.length then 3 else if scsE ls ≠ 0 then scsE ls else if twB c ls ls.length = true then 5 else 0
def tellC (c : Cse) (ls : List Scl) : List Int := ((allL c.hs.length).find? (tellB c ls)).getD []
theorem tellE_1 {c : Cse} {ls : List Scl} (h : errC c ≠ 0) : tellE c ls = errC c := by unfold tellE; rw [if_pos h]
theorem tellE_2 {c : Cse} {ls : List Scl} (h : errC c = 0) (h2 : 6 < ls.length) : tellE c ls = 3 := by unfold tellE; rw [if_neg (by simp [h]), if_pos h2]
theorem tellE_3 {c : Cse} {ls : List Scl} (h : errC c = 0) (h2 : ¬ 6 < ls.length) (h3 : scsE ls ≠ 0) : tellE c ls = scsE ls := by unfold tellE; rw [if_neg (by simp [h]), if_neg h2, if_pos h3]
theorem tellE_4 {c : Cse} {ls : List Scl} (h : errC c = 0) (h2 : ¬ 6 < ls.length) (h3 : scsE ls = 0) : tellE c ls = if twB c ls ls.length = true then 5 else 0 := by unfold tellE; rw [if_neg (by simp [h]), if_neg h2, if_neg (by simp [h3])]
set_option maxRecDepth 100000 in
set_option maxHeartbeats 16000000 in
theorem Tell_any (c : Cse) (hv rv sv : Value) (l : List Scl) (w : World) (hC : CseAt w c hv rv) (hS : PairsAt w sv l) :
    Calls Try.prog 34 #[.agg #[.int .i64 c.kind, .int .i64 c.base, .int .i64 c.most, hv, rv], sv] w (IntsP (tellC c l) (tellE c l) w) := by
  unfold IntsP
  obtain ⟨ha, n, hc, rfl⟩ : ∃ a n c, hv = .slice a n c := by obtain ⟨_, a, cap, h, _⟩ := hC.hs; exact ⟨_, _, _, h⟩
  obtain ⟨ra, m, rc, rfl⟩ : ∃ a n c, rv = .slice a n c := by obtain ⟨_, a, cap, h, _⟩ := hC.rd; exact ⟨_, _, _, h⟩
  obtain ⟨lsz, sa, sc, rfl, lsc, _⟩ := id hS
  obtain rfl : n = c.hs.length := by obtain ⟨_, a, cap, h, _⟩ := hC.hs; simp only [Value.slice.injEq] at h; exact h.2.1
  obtain ⟨n, hnn⟩ : ∃ n, c.hs.length = n := ⟨_, rfl⟩
  obtain ⟨ln, hln⟩ : ∃ k, l.length = k := ⟨_, rfl⟩
  rw [hnn] at hC
  rw [hnn]
  rw [hln] at hS lsz lsc ⊢
  have HN := Lib.hid hnn
  have HLN := Lib.hid hln
  obtain ⟨kind, hkind⟩ : ∃ x, c.kind = x := ⟨_, rfl⟩
  obtain ⟨base, hbase⟩ : ∃ x, c.base = x := ⟨_, rfl⟩
  obtain ⟨most, hmost⟩ : ∃ x, c.most = x := ⟨_, rfl⟩
  obtain ⟨F, hF⟩ : ∃ F, rnF c.kind = F := ⟨_, rfl⟩
  have HLK : Hid (lkV c (.slice ha n hc) (.slice ra m rc) = #[.int .i64 kind, .int .i64 base, .int .i64 most, .slice ha n hc, .slice ra m rc, .int .i64 kind, .func (.func F) #[] #[]]) := by show _ = _; unfold lkV lkC; rw [hF, hkind, hbase, hmost]
  obtain ⟨RL, hRL⟩ : ∃ R, tellC c l = R := ⟨_, rfl⟩
  obtain ⟨RE, hRE⟩ : ∃ R, tellE c l = R := ⟨_, rfl⟩
  have HRL := Lib.hid hRL
  have HRE := Lib.hid hRE
  rw [hRL, hRE, hkind, hbase, hmost]
  obtain ⟨W1, hW1, q1, hb⟩ : ∃ V, w.alloc (Obj.cells #[.int .i64 kind, .int .i64 base, .int .i64 most, .slice ha n hc, .slice ra m rc] 25) = V ∧ V.heap[w.heap.size]? = some (.cells #[.int .i64 kind, .int .i64 base, .int .i64 most, .slice ha n hc, .slice ra m rc] 25 (0, 0)) ∧ Below w.heap.size w V := ⟨_, rfl, heap_alloc_new _ _, by go_grown⟩
  have hlk := look_any c _ _ W1 (hC.below hb)
  obtain ⟨er, her⟩ : ∃ er, errC c = er := ⟨_, rfl⟩
  unfold LookP lk0 lkC at hlk
  rw [hkind, hbase, hmost, her, HLK.out] at hlk
  have HER := Lib.hid her
  have HLO := Lib.hid hlk
  have HW := Lib.hid hW1
  have Q1 := Lib.hid q1
  have HB := Lib.hid hb
  have HC := Lib.hid (hC.below hb)
  have HSS := Lib.hid (hS.below hb)
  have c0 := cellOf q1 0 (.int .i64 kind) rfl
  have c1 := cellOf q1 1 (.int .i64 base) rfl
  have c2 := cellOf q1 2 (.int .i64 most) rfl
  have c3 := cellOf q1 3 (.slice ha n hc) rfl
  have c4 := cellOf q1 4 (.slice ra m rc) rfl
  have cl := lt_of_block q1
  have lnI : (ln : Int) ≤ 4611686018427387904 := by omega
  clear q1 hb hlk hC hS hRL hRE her hkind hbase hmost hF hnn hln
  go_enter Try.func34, Try.ntmps34
  clear hW1
  go_upto_region 1 with fail
  rw [HW.out]
  go_wp2_with fail
  refine HLO.out.mono ?_
  rintro e w1 ⟨hy, hn', hb⟩
  have B1 := Lib.hid (HB.out.trans (hb.mono HB.out.size))
  have K1 := Lib.hid ((hb.block _ (lt_of_block Q1.out)).trans Q1.out)
  have C1 := Lib.hid (HC.out.below hb)
  have S1 := Lib.hid (HSS.out.below hb)
  have hlz := (zero_of_info lkZero).1
  unfold lk0 lkC at hlz
  clear hb HB Q1 HC HSS HW HLO c0 c1 c2 c3 c4 cl
  by_cases h0 : er = 0
  · subst h0
    obtain rfl := hy rfl
    clear hy hn'
    have HVA := Lib.hid (valid_of HER.out)
    obtain ⟨w2, hw2, G2, b2⟩ : ∃ X, w1.alloc (Obj.cells #[.int .i64 kind, .int .i64 base, .int .i64 most, .slice ha n hc, .slice ra m rc, .int .i64 kind, .func (.func F) #[] #[]] 95) = X ∧ X.heap[w1.heap.size]? = some (.cells #[.int .i64 kind, .int .i64 base, .int .i64 most, .slice ha n hc, .slice ra m rc, .int .i64 kind, .func (.func F) #[] #[]] 95 (0, 0)) ∧ Below w1.heap.size w1 X := ⟨_, rfl, heap_alloc_new _ _, by go_grown⟩
    have HW2 := Lib.hid hw2
    have HG2 := Lib.hid G2
    have K2 := Lib.hid ((b2.block _ (lt_of_block K1.out)).trans K1.out)
    have C2 := Lib.hid (C1.out.below b2)
    have S2 := Lib.hid (S1.out.below b2)
    have B2 := Lib.hid (B1.out.trans (b2.mono B1.out.size))
    by_cases h6 : 6 < ln
    · have h6I : (6 : Int) < (ln : Int) := by omega
      obtain rfl : RE = 3 := by rw [← HRE.out]; exact tellE_2 HER.out (by rw [HLN.out]; exact h6)
      clear G2 b2 hw2 h6
      go_wp2_with fail
      rw [HW2.out]
      refine bodyPost_ret (results_tmp2 rfl _ _ _) rfl ?_
      exact ⟨_, rfl, ints_nil _, B2.out⟩
    · have h6I : ¬ (6 : Int) < (ln : Int) := by omega
      have hwe := withEach_any c _ _ (.slice sa ln sc) l w2 C2.out HVA.out S2.out (by rw [HLN.out]; omega)
      unfold EachP at hwe
      rw [HLK.out] at hwe
      obtain ⟨se, hse⟩ : ∃ x, scsE l = x := ⟨_, rfl⟩
      rw [hse] at hwe
      have HWE := Lib.hid hwe
      have HSE := Lib.hid hse
      have H6 : Hid (¬ 6 < l.length) := by show ¬ _; rw [HLN.out]; exact h6
      have c0 : (w1.alloc (Obj.cells #[.int .i64 kind, .int .i64 base, .int .i64 most, .slice ha n hc, .slice ra m rc, .int .i64 kind, .func (.func F) #[] #[]] 95)).cell? ⟨w1.heap.size, 0, none⟩ = some (.int .i64 kind) := by rw [hw2]; exact cellOf G2 0 _ rfl
      have c1 : (w1.alloc (Obj.cells #[.int .i64 kind, .int .i64 base, .int .i64 most, .slice ha n hc, .slice ra m rc, .int .i64 kind, .func (.func F) #[] #[]] 95)).cell? ⟨w1.heap.size, 1, none⟩ = some (.int .i64 base) := by rw [hw2]; exact cellOf G2 1 _ rfl
      have c2 : (w1.alloc (Obj.cells #[.int .i64 kind, .int .i64 base, .int .i64 most, .slice ha n hc, .slice ra m rc, .int .i64 kind, .func (.func F) #[] #[]] 95)).cell? ⟨w1.heap.size, 2, none⟩ = some (.int .i64 most) := by rw [hw2]; exact cellOf G2 2 _ rfl
      have c3 : (w1.alloc (Obj.cells #[.int .i64 kind, .int .i64 base, .int .i64 most, .slice ha n hc, .slice ra m rc, .int .i64 kind, .func (.func F) #[] #[]] 95)).cell? ⟨w1.heap.size, 3, none⟩ = some (.slice ha n hc) := by rw [hw2]; exact cellOf G2 3 _ rfl
      have c4 : (w1.alloc (Obj.cells #[.int .i64 kind, .int .i64 base, .int .i64 most, .slice ha n hc, .slice ra m rc, .int .i64 kind, .func (.func F) #[] #[]] 95)).cell? ⟨w1.heap.size, 4, none⟩ = some (.slice ra m rc) := by rw [hw2]; exact cellOf G2 4 _ rfl
      have c5 : (w1.alloc (Obj.cells #[.int .i64 kind, .int .i64 base, .int .i64 most, .slice ha n hc, .slice ra m rc, .int .i64 kind, .func (.func F) #[] #[]] 95)).cell? ⟨w1.heap.size, 5, none⟩ = some (.int .i64 kind) := by rw [hw2]; exact cellOf G2 5 _ rfl
      have c6 : (w1.alloc (Obj.cells #[.int .i64 kind, .int .i64 base, .int .i64 most, .slice ha n hc, .slice ra m rc, .int .i64 kind, .func (.func F) #[] #[]] 95)).cell? ⟨w1.heap.size, 6, none⟩ = some (.func (.func F) #[] #[]) := by rw [hw2]; exact cellOf G2 6 _ rfl
      clear G2 b2 hw2 hwe hse h6
      go_wp2_with fail
      rw [HW2.out]
      refine HWE.out.mono ?_
      rintro e w3 ⟨hy3, hn3, b3⟩
      have K3 := Lib.hid ((b3.block _ (lt_of_block K2.out)).trans K2.out)
      have C3 := Lib.hid (C2.out.below b3)
      have B3 := Lib.hid (B2.out.trans (b3.mono B2.out.size))
      clear b3 c0 c1 c2 c3 c4 c5 c6 HWE K2 C2 S2 B2
      by_cases h3 : se = 0
      · subst h3
        obtain ⟨v, rfl, hm⟩ := hy3 rfl
        clear hy3 hn3
        obtain ⟨va, vcap, rfl, _⟩ := id hm
        obtain ⟨w4, hw4, G4, b4⟩ : ∃ X, w3.alloc (Obj.cells #[.slice va l.length vcap] 109) = X ∧ X.heap[w3.heap.size]? = some (.cells #[.slice va l.length vcap] 109 (0, 0)) ∧ Below w3.heap.size w3 X := ⟨_, rfl, heap_alloc_new _ _, by go_grown⟩
        have h6l : l.length ≤ 6 := by have := H6.out; omega
        have M4 := Lib.hid (hm.below b4)
        have HG4 := Lib.hid G4
        have K4 := Lib.hid ((b4.block _ (lt_of_block K3.out)).trans K3.out)
        have C4 := Lib.hid (C3.out.below b4)
        have B4 := Lib.hid (B3.out.trans (b4.mono B3.out.size))
        have HA := Lib.hid (anyAlike_any c _ _ (.slice va l.length vcap) l w4 C4.out M4.out h6l)
        have HW4 := Lib.hid hw4
        have H6L := Lib.hid h6l
        obtain ⟨tw, htw⟩ : ∃ x, twB c l l.length = x := ⟨_, rfl⟩
        rw [htw] at HA
        have HTE := Lib.hid (tellE_4 HER.out H6.out HSE.out)
        rw [htw, HRE.out] at HTE
        obtain ⟨ll, hll⟩ : ∃ k, l.length = k := ⟨_, rfl⟩
        rw [hll] at HW4 HA HG4
        rw [hll]
        clear G4 b4 hw4 hm htw h6l
        go_wp2_with fail
        rw [HW4.out]
        refine HA.out.mono ?_
        rintro e w5 ⟨rfl, b5⟩
        have K5 := Lib.hid ((b5.block _ (lt_of_block K4.out)).trans K4.out)
        have G5 := Lib.hid ((b5.block _ (lt_of_block HG4.out)).trans HG4.out)
        have C5 := Lib.hid (C4.out.below b5)
        have M5 := Lib.hid (M4.out.below b5)
        have B5 := Lib.hid (B4.out.trans (b5.mono B4.out.size))
        clear b5 K4 HG4 C4 M4 B4 HA
        cases tw
        · obtain rfl : RE = 0 := HTE.out
          have k3 := cellOf K5.out 3 (.slice ha n hc) rfl
          have kl := lt_of_block K5.out
          have HLA := Lib.hid (lists_any (n : Int) w5)
          go_wp2_with fail
          refine HLA.out.mono ?_
          rintro e w6' ⟨rfl, hw6⟩
          have b6 : Below w5.heap.size w5 w6' := by rw [← hw6]; go_grown
          have z6 : w6'.heap[w5.heap.size]? = some (.cells #[.int .i64 (n : Int)] 3 (0, 0)) := by rw [← hw6]; exact heap_alloc_new _ _
          have n8 : n ≤ 8 := by rw [← HN.out]; exact HVA.out.n8
          have HLF := Lib.hid (lfirst_any c _ _ (.slice va ll vcap) l n w5.heap.size w3.heap.size w6' (C5.out.below b6) (by have h := M5.out.below b6; rw [hll] at h; exact h) H6L.out n8 z6 ((b6.block _ (lt_of_block G5.out)).trans G5.out))
          have B6 := Lib.hid (B5.out.trans (b6.mono B5.out.size))
          clear hw6 b6 z6 n8 k3 kl HLA
          go_wp2_with fail
          refine HLF.out.mono ?_
          rintro e w7 ⟨hyes, hno, b7⟩
          have B7 := Lib.hid (B6.out.trans (b7.mono B6.out.size))
          clear b7 HLF
          have hrl := HRL.out
          unfold tellC at hrl
          rw [HN.out] at hrl
          have HRR := Lib.hid hrl
          clear hrl
          cases hf : (allL n).find? (tellB c l) with
          | none =>
            obtain rfl := hno hf
            have hr := HRR.out
            rw [hf] at hr
            obtain rfl : [] = RL := hr
            clear hyes hno hf
            go_wp2_with fail
            refine bodyPost_ret (results_tmp2 rfl _ _ _) rfl ?_
            exact ⟨_, rfl, ints_nil _, B7.out⟩
          | some p =>
            obtain ⟨pv, rfl, hip⟩ := hyes p hf
            have hr := HRR.out
            rw [hf] at hr
            obtain rfl : p = RL := hr
            have HIP := Lib.hid hip
            obtain ⟨_, pa, pc, rfl, _⟩ := id hip
            clear hyes hno hf hip
            go_wp2_with fail
            refine bodyPost_ret (results_tmp2 rfl _ _ _) rfl ?_
            exact ⟨_, rfl, HIP.out, B7.out⟩
        · obtain rfl : RE = 5 := HTE.out
          go_wp2_with fail
          refine bodyPost_ret (results_tmp2 rfl _ _ _) rfl ?_
          exact ⟨_, rfl, ints_nil _, B5.out⟩
      · obtain rfl := hn3 h3
        clear hy3 hn3
        obtain rfl : RE = se := by rw [← HRE.out, ← HSE.out]; exact tellE_3 HER.out H6.out (by rw [HSE.out]; exact h3)
        have tz : (RE != 0) = true := by simp [h3]
        go_wp2_with fail
        refine bodyPost_ret (results_tmp2 rfl _ _ _) rfl ?_
        refine ⟨_, rfl, ?_, B3.out.alloc B3.out.size _⟩
        exact ints_nil _
  · obtain rfl := hn' h0
    clear hy hn'
    obtain rfl : RE = er := by rw [← HRE.out, ← HER.out]; exact tellE_1 (by rw [HER.out]; exact h0)
    have tz : (RE != 0) = true := by simp [h0]
    go_wp2_with fail
    refine bodyPost_ret (results_tmp2 rfl _ _ _) rfl ?_
    refine ⟨_, rfl, ?_, B1.out.alloc B1.out.size _⟩
    exact ints_nil _
end Go.Proofs.Ythflbbjilebhlaa
namespace Go.Proofs.Ythflbbjilebhlaa
open Go Go.RowKit Go.Shelf Sc

/-- By how much the first so many roads are false; 0 behind them. -/
def offsTo (c : Cse) (s : Scl) (k : Nat) : List Int := (List.range c.rds.length).map fun i => if i < k then offR c s (c.rds.getD i default) else 0
def offsC (c : Cse) (s : Scl) : List Int := c.rds.map (offR c s)
theorem offsTo_length (c : Cse) (s : Scl) (k : Nat) : (offsTo c s k).length = c.rds.length := by simp [offsTo]
theorem offsTo_zero (c : Cse) (s : Scl) : offsTo c s 0 = List.replicate c.rds.length 0 := by
  apply List.ext_getElem?
  intro j
  rcases Nat.lt_or_ge j c.rds.length with hj | hj
  · simp only [offsTo, List.getElem?_map, List.getElem?_range hj, Option.map_some, Nat.not_lt_zero, if_false]
    rw [List.getElem?_replicate, if_pos hj]
  · rw [List.getElem?_eq_none (by rw [offsTo_length]; exact hj), List.getElem?_eq_none (by simp; exact hj)]
theorem offsTo_get (c : Cse) (s : Scl) (k : Nat) (hk : k < c.rds.length) : (offsTo c s k)[k]? = some 0 := by
  simp only [offsTo, List.getElem?_map, List.getElem?_range hk, Option.map_some, Nat.lt_irrefl, if_false]
theorem offsTo_succ (c : Cse) (s : Scl) (k : Nat) (hk : k < c.rds.length) : (offsTo c s k).set k (offR c s (c.rds.getD k default)) = offsTo c s (k + 1) := by
  apply List.ext_getElem?
  intro j
  rcases Nat.lt_or_ge j c.rds.length with hj | hj
  · rw [List.getElem?_set]
    by_cases e1 : k = j
    · subst e1
      rw [if_pos rfl, if_pos (by rw [offsTo_length]; omega)]
      simp only [offsTo, List.getElem?_map, List.getElem?_range hj, Option.map_some, Nat.lt_succ_self, if_true]
    · rw [if_neg e1]
      simp only [offsTo, List.getElem?_map, List.getElem?_range hj, Option.map_some, Option.some.injEq]
      by_cases q : j < k
      · rw [if_pos q, if_pos (by omega)]
      · rw [if_neg q, if_neg (by omega)]
  · rw [List.getElem?_eq_none (by rw [List.length_set, offsTo_length]; exact hj), List.getElem?_eq_none (by rw [offsTo_length]; exact hj)]
theorem offsTo_all (c : Cse) (s : Scl) : offsTo c s c.rds.length = offsC c s := by
  apply List.ext_getElem?
  intro j
  rcases Nat.lt_or_ge j c.rds.length with hj | hj
  · simp only [offsTo, offsC, List.getElem?_map, List.getElem?_range hj, Option.map_some, hj, if_true, List.getElem?_eq_getElem hj]
    simp [List.getD_eq_getElem?_getD, hj]
  · rw [List.getElem?_eq_none (by rw [offsTo_length]; exact hj), List.getElem?_eq_none (by simp [offsC]; exact hj)]
theorem made_ints (n : Nat) : (madeCells #[Value.int .i64 0] n).toList = (List.replicate n (0 : Int)).map (Value.int .i64) := by
  rw [List.map_replicate]
  apply List.ext_getElem
  · simp [madeCells]
  · intro i h1 h2
    simp [madeCells, Nat.mod_one]
set_option maxRecDepth 100000 in
set_option maxHeartbeats 8000000 in
theorem False_any (c : Cse) (hv rv : Value) (s : Scl) (w : World) (hC : CseAt w c hv rv) :
    Calls Try.prog 20 #[.agg #[.int .i64 c.kind, .int .i64 c.base, .int .i64 c.most, hv, rv], .agg #[.int .i64 s.1, .int .i64 s.2]] w (IntsP (offsC c s) (askE c s) w) := by
  unfold IntsP
  obtain ⟨ha, hn, hc, rfl⟩ : ∃ a n c, hv = .slice a n c := by obtain ⟨_, a, cap, h, _⟩ := hC.hs; exact ⟨_, _, _, h⟩
  obtain ⟨ra, rn, rc, rfl⟩ : ∃ a n c, rv = .slice a n c := by obtain ⟨_, a, cap, h, _⟩ := hC.rd; exact ⟨_, _, _, h⟩
  obtain rfl : hn = c.hs.length := by obtain ⟨_, a, cap, h, _⟩ := hC.hs; simp only [Value.slice.injEq] at h; exact h.2.1
  obtain rfl : rn = c.rds.length := by obtain ⟨_, a, cap, h, _⟩ := hC.rd; simp only [Value.slice.injEq] at h; exact h.2.1
  obtain ⟨n, hnn⟩ : ∃ n, c.hs.length = n := ⟨_, rfl⟩
  obtain ⟨m, hmm⟩ : ∃ m, c.rds.length = m := ⟨_, rfl⟩
  obtain ⟨kind, hkind⟩ : ∃ x, c.kind = x := ⟨_, rfl⟩
  obtain ⟨base, hbase⟩ : ∃ x, c.base = x := ⟨_, rfl⟩
  obtain ⟨most, hmost⟩ : ∃ x, c.most = x := ⟨_, rfl⟩
  rw [hnn, hmm] at hC
  rw [hnn, hmm, hkind, hbase, hmost]
  obtain ⟨W, hW, q1, q2, hb, hsz⟩ := al2 w (Obj.cells #[.int .i64 kind, .int .i64 base, .int .i64 most, .slice ha n hc, .slice ra m rc] 25) (Obj.cells #[.int .i64 s.1, .int .i64 s.2] 27)
  have hlk := lookWith_any c _ _ s W (hC.below hb)
  unfold LookWP at hlk
  obtain ⟨R, hR⟩ : ∃ R, askE c s = R := ⟨_, rfl⟩
  rw [hkind, hbase, hmost, hR] at hlk
  rw [hR]
  have HR := Lib.hid hR
  have HW := Lib.hid hW
  have Q1 := Lib.hid q1
  have HB := Lib.hid hb
  have HC := Lib.hid (hC.below hb)
  have HPL : Hid ((mdP c (.slice ha n hc) (.slice ra m rc) s).length = 9) := rfl
  have HONE : Hid ((mdP c (.slice ha n hc) (.slice ra m rc) s).all (·.oneCell') = true) := rfl
  have HC8 := Lib.hid (cut8_len c s)
  have HP1 : Hid (pf0.all (·.oneCell') = true) := rfl
  obtain ⟨p, hp⟩ : ∃ p, mdP c (.slice ha n hc) (.slice ra m rc) s = p := ⟨_, rfl⟩
  obtain ⟨cs, hcs⟩ : ∃ cs, cut8 c s = cs := ⟨_, rfl⟩
  have HPP := Lib.hid hp
  have HCS := Lib.hid hcs
  rw [hp] at HPL HONE hlk
  rw [hcs] at HC8 hlk
  have HLO := Lib.hid hlk
  have HN := Lib.hid hnn
  have HM := Lib.hid hmm
  obtain ⟨s1, s2⟩ := s
  dsimp only at *
  have c0 := cellOf q1 0 (.int .i64 kind) rfl
  have c1 := cellOf q1 1 (.int .i64 base) rfl
  have c2 := cellOf q1 2 (.int .i64 most) rfl
  have c3 := cellOf q1 3 (.slice ha n hc) rfl
  have c4 := cellOf q1 4 (.slice ra m rc) rfl
  have cl := lt_of_block q1
  have e0 := cellOf q2 0 (.int .i64 s1) rfl
  have e1 := cellOf q2 1 (.int .i64 s2) rfl
  have el := lt_of_block q2
  clear hW q1 q2 hb hsz hlk hC hR hp hcs hnn hmm hkind hbase hmost
  go_enter Try.func20, Try.ntmps20
  go_upto_region 1 with fail
  rw [HW.out]
  go_wp2_with fail
  refine HLO.out.mono ?_
  rintro e w1 ⟨hy, hn', hb⟩
  have B1 := Lib.hid (HB.out.trans (hb.mono HB.out.size))
  have K1 := Lib.hid ((hb.block _ (lt_of_block Q1.out)).trans Q1.out)
  have C1 := Lib.hid (HC.out.below hb)
  clear hb HB Q1 HC HW HLO c0 c1 c2 c3 c4 cl e0 e1 el
  have hz := (zero_of_info mdZero).1
  have HN2 : Hid (MdBlk (w1.alloc (Obj.cells (mdC pf0 z8) 99)) w1.heap.size pf0 z8) := heap_alloc_new w1 _
  by_cases h0 : R = 0
  · subst h0
    obtain rfl := hy rfl
    clear hy hn'
    obtain ⟨V, hV, MV, BV⟩ : ∃ V, (w1.alloc (Obj.cells (mdC pf0 z8) 99)).setRow w1.heap.size (mdC p cs) = V ∧ MdBlk V w1.heap.size p cs ∧ Below w1.heap.size w1 V := ⟨_, rfl, HN2.out.put _ _, below_setRow (by go_grown) (Nat.le_refl _) _⟩
    have HV := Lib.hid hV
    have HMV := Lib.hid MV
    have B2 := Lib.hid (B1.out.trans (BV.mono B1.out.size))
    have K2 := Lib.hid ((BV.block _ (lt_of_block K1.out)).trans K1.out)
    have C2 := Lib.hid (C1.out.below BV)
    have hask := askE_zero HR.out
    have HVA := Lib.hid (valid_of hask.1)
    have hs4 := sclE_zero hask.2
    have HS4 : Hid (1 ≤ s1 ∧ s1 ≤ 30 ∧ 1 ≤ s2 ∧ s2 ≤ 30) := ⟨hs4.1, hs4.2.1, hs4.2.2.1, hs4.2.2.2.1⟩
    have n8 : n ≤ 8 := by rw [← HN.out]; exact HVA.out.n8
    have nI : (n : Int) ≤ 8 := by omega
    clear hV MV BV B1 K1 C1 hask hs4
    have c4 := cellOf K2.out 4 (.slice ra m rc) rfl
    have cl := lt_of_block K2.out
    have m8 : m ≤ 8 := by rw [← HM.out]; exact HVA.out.r8
    have mI : (m : Int) ≤ 8 := by omega
    obtain ⟨i0, hi⟩ := info_of_underlying Try.underlying3
    have HI : Hid (i0.zero = some (.int .i64 0) ∧ i0.size = 1 ∧ i0.bytes = 8) := by
      show _ ∧ _
      have h := intInfo
      rw [hi] at h
      simp at h
      exact h
    go_wp2_with (first
      | (refine md_store rfl (.tmp 6) (.tmp 15) rfl w1.heap.size rfl p cs pf0 z8 rfl HN2.out HPL.out HC8.out rfl rfl HONE.out rfl ?_; rw [HV.out])
      | (at_make; refine wpList_make_full _ rfl _ _ 22 rfl V.heap.size 3 i0 (.int .i64 0) 1 Try.underlying22 hi HI.out.1 HI.out.2.1 .i64 .i64 _ _ m rfl rfl rfl rfl ?c1 ?c2 (Nat.le_refl _) ?_))
    case c1 => rw [HI.out.2.2]; omega
    case c2 => unfold maxLen; omega
    intro w3 hown0 hgr
    have HB0 : Hid (Below V.heap.size V w3) := (Below.refl V.heap.size V).grown hgr (Nat.le_refl _) (by simp)
    have HO0 : Hid (w3.ownsRow V.heap.size 3 1 (.slice (some ⟨V.heap.size, 0, none⟩) m m) m ((offsTo c (s1, s2) 0).map (Value.int .i64))) := by
      show World.ownsRow ..
      rw [offsTo_zero, HM.out]
      have h := made_ints (m * 1)
      rw [show m * 1 = m by omega] at h
      rw [← h]
      simpa using hown0
    clear hgr hown0 HI
    have K3 := Lib.hid ((HB0.out.block _ (lt_of_block K2.out)).trans K2.out)
    clear c4 cl
    have c4 := cellOf K3.out 4 (.slice ra m rc) rfl
    have cl := lt_of_block K3.out
    go_wp2
    clear c4 cl
    go_loopg [9, 10, 27] m (fun g _ _ v wr => ∃ (k : Nat), g + k = m ∧ v = .int .i64 k ∧ Hid (wr.ownsRow V.heap.size 3 1 (.slice (some ⟨V.heap.size, 0, none⟩) m m) m ((offsTo c (s1, s2) k).map (Value.int .i64))) ∧ Hid (Below V.heap.size V wr))
    case atStart => exact ⟨0, by omega, rfl, HO0, HB0⟩
    case round =>
      obtain ⟨k, hk, rfl, HO, HL⟩ := hrel
      by_cases hkm : k < m
      · have kI : (k : Int) < (m : Int) := by omega
        have hk' : k < c.rds.length := by rw [HM.out]; exact hkm
        have C3 := Lib.hid (C2.out.below HL.out)
        have M3 := Lib.hid (HMV.out.below HL.out HMV.out.lt)
        obtain ⟨b, o, rfl, d0, d1⟩ := C3.out.rd.get hk'
        have hin := HVA.out.rd _ (List.getElem_mem hk')
        have hgd : c.rds.getD k default = c.rds[k] := by simp [List.getD_eq_getElem?_getD, hk']
        obtain ⟨⟨r1, r2⟩, hr⟩ : ∃ r, c.rds[k] = r := ⟨_, rfl⟩
        rw [hr] at d0 d1 hin hgd
        simp only at d0 d1 hin
        obtain ⟨x, hx⟩ : ∃ x, offR c (s1, s2) (r1, r2) = x := ⟨_, rfl⟩
        have hset := offsTo_succ c (s1, s2) k hk'
        rw [hgd, hx] at hset
        have HSET := Lib.hid hset
        have HGET := Lib.hid (offsTo_get c (s1, s2) k hk')
        obtain ⟨W4, hW4, z4, b4⟩ : ∃ X, wr.alloc (Obj.cells #[.int .i64 r1, .int .i64 r2] 79) = X ∧ X.heap[wr.heap.size]? = some (.cells #[.int .i64 r1, .int .i64 r2] 79 (0, 0)) ∧ Below wr.heap.size wr X := ⟨_, rfl, heap_alloc_new _ _, by go_grown⟩
        have hcall := falseBy_any c _ _ (s1, s2) (r1, r2) W4 (C3.out.below b4) HVA.out HS4.out ⟨hin.1, hin.2.1, hin.2.2.1, hin.2.2.2.1⟩
        rw [hx, HPP.out, HCS.out] at hcall
        dsimp only at hcall
        have HCL := Lib.hid hcall
        have HW4 := Lib.hid hW4
        have f0 := cellOf z4 0 (.int .i64 r1) rfl
        have f1 := cellOf z4 1 (.int .i64 r2) rfl
        have fl := lt_of_block z4
        have M4 := Lib.hid (M3.out.below b4 M3.out.lt)
        have L4 := Lib.hid (HL.out.trans (b4.mono HL.out.size))
        have O4 := Lib.hid (own_below HO.out b4)
        have dl := World.block_lt_of_cell? wr ⟨b, o + k * 2, none⟩ d0
        clear hk' hin hgd hr hx hW4 z4 b4 hcall HO HL M3 C3 hset
        go_wp2_with (first | (refine md_load rfl (.tmp 6) rfl w1.heap.size rfl p cs M4.out HPL.out HC8.out ?_) | (rw [HW4.out]))
        refine HCL.out.mono ?_
        rintro e w5 ⟨rfl, hb⟩
        have L5 := Lib.hid (L4.out.trans (hb.mono L4.out.size))
        have hown5 := own_below O4.out hb
        have hlen : (offsTo c (s1, s2) k).length = m := by rw [offsTo_length]; exact HM.out
        have g0 : w5.cell? ⟨V.heap.size, k * 1, none⟩ = some (.int .i64 0) := by
          rw [hown5.cellAt (k * 1) (by omega), Nat.mul_one, List.getElem?_map, HGET.out]
          rfl
        have fz := hown5.frozenAt (k * 1)
        have gl := (hown5.lt V.heap.size rfl).2
        have s1' := hown5.stored (k * 1) (.int .i64 x)
        have HO6 := Lib.hid s1'.1
        have L6 : Hid (Below V.heap.size V (w5.setCell ⟨V.heap.size, k * 1, none⟩ (.int .i64 x))) := L5.out.setCell (Nat.le_refl _) _
        simp only [Nat.mul_one] at g0 fz HO6 L6
        have kz : (0 : Int) ≤ (k : Int) := by omega
        clear hb HCL L4 O4 M4 f0 f1 fl d0 d1 dl s1' hown5 hlen L5
        go_wp2_with fail
        go_roundg (gk - 1)
        case measure => omega
        case rel =>
          refine ⟨k + 1, by omega, by go_num, ?_, L6⟩
          show World.ownsRow ..
          rw [← HSET.out, List.map_set]
          exact HO6.out
      · obtain rfl : k = m := by omega
        have kI : ¬ (k : Int) < (k : Int) := by omega
        have HI2 : Hid (IntsAt wr (.slice (some ⟨V.heap.size, 0, none⟩) k k) (offsC c (s1, s2))) := by
          have e := offsTo_all c (s1, s2)
          rw [HM.out] at e
          have h := HO.out
          have hl : (offsC c (s1, s2)).length = k := by rw [← HM.out]; simp [offsC]
          refine intsAt_own (base := V.heap.size) ?_ (by rw [hl]; omega)
          rw [hl, ← e]
          exact h
        clear hkm hk HO
        go_wp2_with fail
        refine bodyPost_ret (results_tmp2 rfl _ _ _) rfl ?_
        exact ⟨_, rfl, HI2.out, B2.out.trans (HL.out.mono B2.out.size)⟩
  · obtain rfl := hn' h0
    clear hy hn'
    have BV : Below w1.heap.size w1 ((w1.alloc (Obj.cells (mdC pf0 z8) 99)).setRow w1.heap.size (mdC pf0 z8)) := below_setRow (by go_grown) (Nat.le_refl _) _
    have B2 := Lib.hid (B1.out.trans (BV.mono B1.out.size))
    have tz : (R != 0) = true := by simp [h0]
    clear BV
    go_wp2_with (refine md_store rfl (.tmp 6) (.tmp 15) rfl w1.heap.size rfl pf0 z8 pf0 z8 rfl HN2.out rfl rfl rfl rfl HP1.out rfl ?_)
    go_ret2
    exact ⟨_, rfl, by first | exact ints_nil _ | (rw [if_neg h0]; exact ints_nil _), B2.out⟩
end Go.Proofs.Ythflbbjilebhlaa
namespace Go.Proofs.Ythflbbjilebhlaa
open Go Go.RowKit Go.Shelf Sc

def caseR (k : Int) : Cse := ⟨k, 100, 50, [100, 110, 125, 160], [(0, 1), (1, 2), (3, 2)]⟩
set_option maxRecDepth 100000 in
theorem v_err : errC (caseR 2) = 0 := by decide +kernel
theorem v_err1 : errC (caseR 1) = 0 := by decide +kernel
theorem v_err3 : errC (caseR 3) = 0 := by decide +kernel
theorem v_cuts : cutsC (caseR 2) (1, 2) = [0, 5, 13, 30] := by decide +kernel
theorem v_ask12 : askE (caseR 2) (1, 2) = 0 := by decide +kernel
theorem v_false : offsC (caseR 2) (2, 3) = [50, 0, 15] := by decide +kernel
theorem v_ask23 : askE (caseR 2) (2, 3) = 0 := by decide +kernel
theorem v_flat : flatsC (caseR 2) (1, 30) = [0] := by decide +kernel
theorem v_ask130 : askE (caseR 2) (1, 30) = 0 := by decide +kernel
theorem v_great : greatC (caseR 2) 47 = ((5, 6), 0) := by decide +kernel
theorem v_least : leastC (caseR 2) = ((1, 16), 0) := by decide +kernel
theorem v_scales : scalesL (caseR 2) [⟨3, 41, 41⟩] = [(19, 28), (17, 25), (15, 22), (13, 19), (11, 16), (20, 29)] := by decide +kernel
theorem v_scalesE : scalesE (caseR 2) [⟨3, 41, 41⟩] = 0 := by decide +kernel
theorem v_apart : apartC (caseR 2) (1, 2) (2, 3) = [1, 2, 3] := by decide +kernel
theorem v_apartE : apartE (caseR 2) (1, 2) (2, 3) = 0 := by decide +kernel
theorem v_tell : tellC (caseR 2) [(1, 2), (3, 5), (2, 3)] = [1] := by decide +kernel
theorem v_tellE : tellE (caseR 2) [(1, 2), (3, 5), (2, 3)] = 0 := by decide +kernel
theorem v_twice : tellE (caseR 2) [(19, 28), (17, 25)] = 5 := by decide +kernel
theorem k_cuts2 : cutsC (caseR 2) (2, 3) = [0, 7, 17, 40] := by decide +kernel
theorem k_cuts1 : cutsC (caseR 1) (2, 3) = [0, 6, 16, 40] := by decide +kernel
theorem k_cuts3 : cutsC (caseR 3) (2, 3) = [0, 7, 17, 40] := by decide +kernel
theorem k_ask1 : askE (caseR 1) (2, 3) = 0 := by decide +kernel
theorem k_ask3 : askE (caseR 3) (2, 3) = 0 := by decide +kernel
theorem k_false : offsC (caseR 2) (1, 2) = [0, 67, 29] := by decide +kernel
theorem k_flat : flatsC (caseR 2) (1, 2) = [] := by decide +kernel
theorem k_great0 : greatC (caseR 2) 0 = ((4, 5), 0) := by decide +kernel
theorem k_great48 : greatC (caseR 2) 48 = ((21, 25), 0) := by decide +kernel
theorem k_scales : scalesL (caseR 2) [⟨2, 17, 17⟩, ⟨3, 40, 40⟩] = [(2, 3)] := by decide +kernel
theorem k_scalesE : scalesE (caseR 2) [⟨2, 17, 17⟩, ⟨3, 40, 40⟩] = 0 := by decide +kernel
theorem k_apart : apartC (caseR 2) (19, 28) (17, 25) = [] := by decide +kernel
theorem k_apartE : apartE (caseR 2) (19, 28) (17, 25) = 0 := by decide +kernel
end Go.Proofs.Ythflbbjilebhlaa
