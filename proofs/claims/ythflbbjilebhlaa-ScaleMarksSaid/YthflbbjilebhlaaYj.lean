/- Contracts of the reference's List, Told and Tell. No law is proved here. -/
import Derived.Test.YthflbbjilebhlaaYo
import Derived.Test.YthflbbjilebhlaaYe
import Derived.Test.YthflbbjilebhlaaYg
import Derived.Test.YthflbbjilebhlaaVb
set_option linter.unusedSimpArgs false
set_option linter.unusedVariables false
namespace Go.Proofs.Ythflbbjilebhlaa
open Go Go.RowKit Go.Shelf Sc

theorem own_tag {w : World} {base e size n g : Nat} {v : Value} {xs : List Value} (h : w.ownsRow base e size v n xs) (hg : v.ownBlock = some g) : ∃ cur, w.heap[g]? = some (.cells cur e (0, 0)) := by
  rcases h.2 with ⟨rfl, _⟩ | ⟨g', cap, cur, rfl, _, h1, _⟩
  · simp [Value.ownBlock] at hg
  · simp [Value.ownBlock] at hg
    subst hg
    exact ⟨cur, h1⟩
theorem own_none (w : World) (e : TypeId) (s : Nat) : (w.alloc (.cells #[] e)).ownsRow w.heap.size e s (.slice (some ⟨w.heap.size, 0, none⟩) 0 0) 0 [] :=
  ⟨by simp, .inr ⟨w.heap.size, 0, _, rfl, Nat.le_refl _, heap_alloc_new w _, Nat.le_refl _, by decide, by simp, by simp⟩⟩
theorem wpl_ints {ops : Array Oper} {rest : List Oper} {o : Oper} {a : Act} {Q : Exit → Act → World → Prop} {w : World} (hgd : o.guard = none) (s x : Operand)
    (ho : o.op = .call { callee := .builtin .append, args := #[s, x], argTypes := #[22, 22] })
    (base n : Nat) (v sv : Value) (xs l : List Int) (hn : n = xs.length) (hs : a.eval s = v) (hx : a.eval x = sv) (hown : w.ownsRow base 3 1 v n (xs.map (Value.int .i64))) (hl : IntsAt w sv l) (hb : base ≤ w.heap.size)
    (hlen : xs.length + l.length ≤ 1000)
    (h : ∀ v' w', w'.ownsRow base 3 1 v' (n + l.length) ((xs ++ l).map (Value.int .i64)) → w.grownBy w' v.ownBlock → wpList Try.prog ops Q rest (a.put o.dst v') w') : wpList Try.prog ops Q (o :: rest) a w := by
  refine wpList_plain hgd fun K hK => ?_
  obtain ⟨v', w', hr, h2, h3⟩ := run_ints w o.type base n v sv xs l hn hown hl hb hlen
  unfold Oper.wp execOp
  simp only [ho, resolve, invoke, builtin, Sem.run_bind, Sem.run_pure, Result.andThen_ok, List.map_toArray, List.map_cons, List.map_nil, hs, hx, hr]
  exact hK _ _ (h v' w' h2 h3)
theorem own_apartL {w : World} {b1 b2 s1 s2 n1 n2 : Nat} {v1 v2 : Value} {x1 x2 : List Value} (h1 : w.ownsRow b1 3 s1 v1 n1 x1) (h2 : w.ownsRow b2 22 s2 v2 n2 x2) : v1.ownBlock = none ∨ v1.ownBlock ≠ v2.ownBlock := by
  rcases e : v1.ownBlock with _ | g
  · exact .inl rfl
  · refine .inr fun e2 => ?_
    obtain ⟨c1, q1⟩ := own_tag h1 e
    obtain ⟨c2, q2⟩ := own_tag h2 e2.symm
    rw [q1] at q2
    injection q2 with q
    injection q with _ q
    exact absurd q (by decide)
/-- A row of lists of the call's own, each in a row of its own. -/
structure LsIn (B : Nat) (w : World) (v : Value) (cur : List Value) (L : List (List Int)) : Prop where
  outer : w.ownsRow B 22 1 v L.length cur
  inn : ∀ k (h : k < L.length), ∃ vk, cur[k]? = some vk ∧ w.ownsRow B 3 1 vk L[k].length (L[k].map (Value.int .i64))
theorem LsIn.up {B : Nat} {w w' : World} {v : Value} {cur : List Value} {L : List (List Int)} (h : LsIn B w v cur L) (hb : Below w.heap.size w w') : LsIn B w' v cur L :=
  ⟨own_below h.outer hb, fun k hk => by
    obtain ⟨vk, h1, h2⟩ := h.inn k hk
    exact ⟨vk, h1, own_below h2 hb⟩⟩
theorem LsIn.base {B B' : Nat} {w : World} {v : Value} {cur : List Value} {L : List (List Int)} (h : LsIn B w v cur L) (hB : B' ≤ B) : LsIn B' w v cur L :=
  ⟨own_base h.outer hB, fun k hk => by
    obtain ⟨vk, h1, h2⟩ := h.inn k hk
    exact ⟨vk, h1, own_base h2 hB⟩⟩
theorem LsIn.nil (B : Nat) (w : World) : LsIn B w (.slice none 0 0) [] [] := ⟨World.ownsRow_nil _ _ _ _, fun k hk => by simp at hk⟩
theorem LsIn.ones {B : Nat} {w : World} {v : Value} {cur : List Value} {L : List (List Int)} (h : LsIn B w v cur L) : ∀ u ∈ cur, u.oneCell' = true := by
  intro u hu
  obtain ⟨k, hk, rfl⟩ := List.mem_iff_getElem.1 hu
  have hkL : k < L.length := by have := h.outer.1; omega
  obtain ⟨vk, h1, h2⟩ := h.inn k hkL
  obtain ⟨sa, sc, rfl⟩ := own_slice h2
  rw [List.getElem?_eq_getElem hk] at h1
  injection h1 with h1
  rw [h1]
  rfl
theorem LsIn.one {w : World} {B : Nat} (hB : B ≤ w.heap.size) {bv : Value} {l : List Int} (h : w.ownsRow B 3 1 bv l.length (l.map (Value.int .i64))) : LsIn B (w.alloc (.cells #[bv] 22)) (.slice (some ⟨w.heap.size, 0, none⟩) 1 1) [bv] [l] := by
  refine ⟨⟨rfl, .inr ⟨w.heap.size, 1, _, rfl, hB, heap_alloc_new w _, Nat.le_refl _, by decide, rfl, rfl⟩⟩, fun k hk => ?_⟩
  obtain rfl : k = 0 := by simpa using hk
  exact ⟨_, rfl, h.alloc _⟩
theorem LsIn.more {B : Nat} {w w' : World} {v u v' : Value} {cur cur3 : List Value} {L L3 : List (List Int)} (h : LsIn B w v cur L) (h3 : LsIn B w u cur3 L3) (hg : w.grownBy w' v.ownBlock) (ho : w'.ownsRow B 22 1 v' (L.length + L3.length) (cur ++ cur3)) :
    LsIn B w' v' (cur ++ cur3) (L ++ L3) := by
  have hcl : cur.length = L.length := by have := h.outer.1; omega
  refine ⟨by rw [List.length_append]; exact ho, fun k hk => ?_⟩
  by_cases e : k < L.length
  · obtain ⟨vk, q1, q2⟩ := h.inn k e
    rw [List.getElem_append_left e]
    exact ⟨vk, by rw [List.getElem?_append_left (by omega)]; exact q1, q2.kept hg (own_apartL q2 h.outer)⟩
  · have hk3 : k - L.length < L3.length := by simp at hk; omega
    obtain ⟨vk, q1, q2⟩ := h3.inn (k - L.length) hk3
    rw [List.getElem_append_right (by omega)]
    exact ⟨vk, by rw [List.getElem?_append_right (by omega), hcl]; exact q1, q2.kept hg (own_apartL q2 h.outer)⟩
theorem LsIn.cell {B : Nat} {w : World} {v : Value} {cur : List Value} {L : List (List Int)} (h : LsIn B w v cur L) {k : Nat} (hk : k < L.length) :
    ∃ (g c : Nat) (sa : Option Addr) (sc : Nat), v = .slice (some ⟨g, 0, none⟩) L.length c ∧ w.cell? ⟨g, k, none⟩ = some (.slice sa L[k].length sc) ∧ w.ownsRow B 3 1 (.slice sa L[k].length sc) L[k].length (L[k].map (Value.int .i64)) := by
  have h' := h.outer
  obtain ⟨vk, h1, h2⟩ := h.inn k hk
  rcases h'.2 with ⟨_, e⟩ | ⟨g, cap, cu, rfl, _⟩
  · omega
  · obtain ⟨sa, sc, rfl⟩ := own_slice h2
    exact ⟨g, cap, sa, sc, rfl, (h'.cellAt k (by omega)).trans h1, h2⟩
theorem listInfo : (Try.prog.info? 22).map (fun i => (i.zero, i.size, i.bytes)) = some (some (.slice none 0 0), 1, 24) := by kernel_rfl
theorem wpl_lists {ops : Array Oper} {rest : List Oper} {o : Oper} {a : Act} {Q : Exit → Act → World → Prop} {w : World} (hgd : o.guard = none) (s x : Operand)
    (ho : o.op = .call { callee := .builtin .append, args := #[s, x], argTypes := #[138, 138] })
    (B : Nat) (v u : Value) (cur cur3 : List Value) (L L3 : List (List Int)) (hs : a.eval s = v) (hx : a.eval x = u) (h1 : LsIn B w v cur L) (h3 : LsIn B w u cur3 L3) (hb : B ≤ w.heap.size) (hlen : L.length + L3.length ≤ 1000000000)
    (h : ∀ v' w', LsIn B w' v' (cur ++ cur3) (L ++ L3) → w.grownBy w' v.ownBlock → wpList Try.prog ops Q rest (a.put o.dst v') w') : wpList Try.prog ops Q (o :: rest) a w := by
  refine wpList_plain hgd fun K hK => ?_
  obtain ⟨i0, hi⟩ := info_of_underlying Try.underlying22
  have HI : i0.zero = some (.slice none 0 0) ∧ i0.size = 1 ∧ i0.bytes = 24 := by
    have h := listInfo
    rw [hi] at h
    simp at h
    exact h
  have hown := h1.outer
  have main : ∃ v' w', (Builtin.append_ #[138, 138] o.type #[v, u]).run Try.prog w = .ok v' w' ∧ LsIn B w' v' (cur ++ cur3) (L ++ L3) ∧ w.grownBy w' v.ownBlock := by
    rcases h3.outer.2 with ⟨hu, h0⟩ | ⟨g, cap, cu, hu, _⟩
    · have hL3 : L3 = [] := List.length_eq_zero_iff.1 h0
      subst hL3 hu
      have hc3 : cur3 = [] := by have := h3.outer.1; simpa using this
      subst hc3
      have hrun : (Builtin.append_ #[138, 138] o.type #[v, .slice none 0 0]).run Try.prog w = .ok v w := by
        rcases hown.2 with ⟨rfl, h0⟩ | ⟨g, cap, cur, rfl, _, _, h1, _⟩
        · simp [Builtin.append_, run_underlying Try.underlying138, sizeOf, typeInfo, hi, Builtin.lenOf, Builtin.firstCells]
        · simp [Builtin.append_, run_underlying Try.underlying138, sizeOf, typeInfo, hi, Builtin.lenOf, Builtin.firstCells, h1, storeCells]
      exact ⟨v, w, hrun, by rw [List.append_nil, List.append_nil]; exact h1, grown_refl w _⟩
    · subst hu
      have hcl : cur3.length = L3.length := by have := h3.outer.1; omega
      have hcells : ∀ j z, cur3[j]? = some z → w.cell? ((⟨g, 0, none⟩ : Addr).add j) = some z := by
        intro j z hz
        have hj : j < cur3.length := (List.getElem?_eq_some_iff.1 hz).1
        rw [Go.WideShapes.add_plain, Nat.zero_add, h3.outer.cellAt j (by omega)]
        exact hz
      obtain ⟨v', w', hr, h2, h4, _, _⟩ := run_append_own_at (P := Try.prog) w B 138 o.type 22 i0 _ 1 24 Try.underlying138 hi HI.1 HI.2.1 HI.2.2 rfl (by decide) v L.length cur hown ⟨g, 0, none⟩ L3.length cap cur3 (by omega) hcells
        h3.ones (by unfold maxLen; omega) (by omega) hb
      exact ⟨v', w', hr, h1.more h3 h4 h2, h4⟩
  obtain ⟨v', w', hr, h2, h4⟩ := main
  unfold Oper.wp execOp
  simp only [ho, resolve, invoke, builtin, Sem.run_bind, Sem.run_pure, Result.andThen_ok, List.map_toArray, List.map_cons, List.map_nil, hs, hx, hr]
  exact hK _ _ (h v' w' h2 h4)
/-- All ascending lists of so many numbers below n that begin so, in order. -/
def fromL (l : List Int) : Nat := if l = [] then 0 else (l.getD (l.length - 1) 0 + 1).toNat
def lstM (n : Nat) : Nat → List Int → List (List Int)
  | 0, l => [l]
  | m + 1, l => (List.range (n - fromL l)).flatMap fun d => lstM n m (l ++ [((fromL l + d : Nat) : Int)])
def lstQ (n m : Nat) (l : List Int) (k : Nat) : List (List Int) := (List.range k).flatMap fun d => lstM n m (l ++ [((fromL l + d : Nat) : Int)])
theorem lstQ_succ (n m : Nat) (l : List Int) (k : Nat) : lstQ n m l (k + 1) = lstQ n m l k ++ lstM n m (l ++ [((fromL l + k : Nat) : Int)]) := by
  unfold lstQ
  rw [List.range_succ, List.flatMap_append]
  simp
theorem lstM_len (n : Nat) (hn : n ≤ 8) : ∀ m l, (lstM n m l).length ≤ 8 ^ m := by
  intro m
  induction m with
  | zero => intro l; simp [lstM]
  | succ m ih =>
    intro l
    have key : ∀ k, (lstQ n m l k).length ≤ k * 8 ^ m := by
      intro k
      induction k with
      | zero => simp [lstQ]
      | succ k ihk =>
        rw [lstQ_succ, List.length_append, Nat.succ_mul]
        have := ih (l ++ [((fromL l + k : Nat) : Int)])
        omega
    have h1 := key (n - fromL l)
    have h2 : (n - fromL l) * 8 ^ m ≤ 8 * 8 ^ m := Nat.mul_le_mul_right _ (by omega)
    rw [Nat.pow_succ, Nat.mul_comm]
    exact Nat.le_trans h1 h2
theorem lstQ_len (n : Nat) (hn : n ≤ 8) (m : Nat) (hm : m ≤ 8) (l : List Int) (k : Nat) (hk : k ≤ 8) : (lstQ n m l k).length ≤ 150000000 := by
  have key : ∀ k, (lstQ n m l k).length ≤ k * 8 ^ m := by
    intro k
    induction k with
    | zero => simp [lstQ]
    | succ k ihk =>
      rw [lstQ_succ, List.length_append, Nat.succ_mul]
      have := lstM_len n hn m (l ++ [((fromL l + k : Nat) : Int)])
      omega
  have h1 := key k
  have h2 : 8 ^ m ≤ 8 ^ 8 := Nat.pow_le_pow_right (by decide) hm
  have h3 : k * 8 ^ m ≤ 8 * 8 ^ 8 := Nat.mul_le_mul hk h2
  omega
set_option maxRecDepth 100000 in
set_option maxHeartbeats 8000000 in
theorem rlists_any (n : Nat) (hn : n ≤ 8) : ∀ (m : Nat) (l : List Int) (bv : Value) (w : World) (B : Nat), m ≤ 8 → B ≤ w.heap.size → w.ownsRow B 3 1 bv l.length (l.map (Value.int .i64)) → l.length + m ≤ 16 → (∀ x, x ∈ l → 0 ≤ x ∧ x < 8) →
    Calls Try.prog 84 #[bv, .int .i64 (m : Int), .int .i64 (n : Int)] w fun e w' => ∃ v cur, e = .returned v ∧ LsIn B w' v cur (lstM n m l) ∧ Below w.heap.size w w' := by
  intro m
  induction m with
  | zero =>
    intro l bv w B _ hB hown _ _
    have hb : Below w.heap.size w (w.alloc (.cells #[bv] 22)) := (Below.refl _ _).alloc (Nat.le_refl _) _
    have HL := Lib.hid (LsIn.one hB hown)
    have HB := Lib.hid hb
    obtain ⟨sa, sc, rfl⟩ := own_slice hown
    clear hown hb
    go_enter Try.func84, Try.ntmps84
    go_wp2
    go_ret
    exact ⟨_, _, rfl, HL.out, HB.out⟩
  | succ m ih =>
    intro l bv w B hm hB hown hlm hx
    obtain ⟨q, hq⟩ : ∃ q, l.length = q := ⟨_, rfl⟩
    obtain ⟨sa, sc, rfl⟩ := own_slice hown
    have HO := Lib.hid hown
    have HXS := Lib.hid hx
    have HIH := Lib.hid ih
    have HQ := Lib.hid hq
    have HI0 := Lib.hid (intsAt_own (l := l) hown (by omega))
    obtain ⟨f, hf⟩ : ∃ f, fromL l = f := ⟨_, rfl⟩
    have HFF := Lib.hid hf
    have hf8 : f ≤ 8 := by
      rw [← hf]
      unfold fromL
      split
      · omega
      · rename_i hne
        have hlp : 0 < l.length := List.length_pos_iff.2 hne
        have hmem : l.getD (l.length - 1) 0 ∈ l := by rw [List.getD_eq_getElem?_getD, List.getElem?_eq_getElem (by omega)]; exact List.getElem_mem _
        have := hx _ hmem
        omega
    have tz : (((m + 1 : Nat) : Int) == 0) = false := by rw [beq_eq_false_iff_ne]; omega
    have sm : IntKind.i64.wrap (((m + 1 : Nat) : Int) - 1) = (m : Int) := by rw [IntKind.wrap_i64] <;> omega
    obtain ⟨m1, hm1⟩ : ∃ z : Int, ((m + 1 : Nat) : Int) = z := ⟨_, rfl⟩
    rw [hm1] at tz sm ⊢
    rw [hq] at HO HI0 hlm ⊢
    obtain ⟨N, hN⟩ : ∃ N, n - f = N := ⟨_, rfl⟩
    have HRES : Hid (lstM n (m + 1) l = lstQ n m l N) := by show _ = _; rw [← hN, ← hf]; rfl
    rw [HRES.out]
    have q16 : q ≤ 16 := by omega
    have nI : (n : Int) ≤ 8 := by omega
    have m8 : m ≤ 8 := by omega
    clear hown hx ih hf hm1 hq
    have loop : ∀ (a : Act), True := fun _ => trivial
    clear loop
    go_enter Try.func84, Try.ntmps84
    by_cases h0 : q = 0
    · have tq : ¬ (0 : Int) < (q : Int) := by omega
      have f0 : f = 0 := by
        rw [← HFF.out]
        unfold fromL
        rw [if_pos (List.length_eq_zero_iff.1 (by rw [HQ.out]; exact h0))]
      subst f0
      have H00 := Lib.hid h0
      have tq2 : decide (0 < q) = false := by simp; omega
      clear tq h0
      go_wp2_with fail
      clear tz tq2
      have own0 : Hid (LsIn w.heap.size w (.slice none 0 0) [] (lstQ n m l 0)) := LsIn.nil _ _
      go_loopg [8, 9] N (fun gh ov i wr => ∃ (k : Nat) (na : Option Addr) (ln nc : Nat) (cur : List Value), gh + k = N ∧ i = .int .i64 ((0 + k : Nat) : Int) ∧ ov = .slice na ln nc ∧ Hid (LsIn w.heap.size wr (.slice na ln nc) cur (lstQ n m l k)) ∧ Hid (Below w.heap.size w wr))
      case atStart => exact ⟨0, none, 0, 0, [], by omega, by simp, rfl, own0, Below.refl _ _⟩
      case round =>
        clear own0
        obtain ⟨k, na, ln, nc, cur, hk, rfl, rfl, HLS, HBB⟩ := hrel
        obtain ⟨X, hX⟩ : ∃ z, 0 + k = z := ⟨_, rfl⟩
        rw [hX]
        have BZ := HBB.out.size
        by_cases hlt : k < N
        · have xI : (X : Int) < (n : Int) := by omega
          have xn : X < n := by omega
          have sx1 : IntKind.i64.wrap ((X : Int) + 1) = ((X + 1 : Nat) : Int) := by rw [IntKind.wrap_i64] <;> omega
          have HX := Lib.hid hX
          have hba : Below wr.heap.size wr (wr.alloc (Obj.cells #[] 3)) := (Below.refl _ _).alloc (Nat.le_refl _) _
          have hown := own_none wr 3 1
          have hsz : wr.heap.size ≤ (wr.alloc (Obj.cells #[] 3)).heap.size := by simp
          have L1a := Lib.hid ((HI0.out.below HBB.out).below hba)
          clear hX
          go_wp2_with (at_builtin; refine wpl_ints rfl _ _ rfl wr.heap.size 0 _ _ [] l rfl rfl rfl hown L1a.out hsz (by have := HQ.out; simp; omega) ?_)
          intro v1 w5 hown5 hg5
          rw [HQ.out] at hown5
          have B5 := Lib.hid (hba.grown hg5 hsz (fun g hg => by have := (hown.lt g hg).1; exact this))
          obtain ⟨va, vc, rfl⟩ := own_slice hown5
          have H5 := Lib.hid hown5
          have hb6 : Below w5.heap.size w5 (w5.alloc (Obj.cells #[.int .i64 (X : Int)] 3)) := (Below.refl _ _).alloc (Nat.le_refl _) _
          have hs5 : wr.heap.size ≤ w5.heap.size := B5.out.size
          have hs6 : wr.heap.size ≤ (w5.alloc (Obj.cells #[.int .i64 (X : Int)] 3)).heap.size := by simp; omega
          clear hown5 hg5 hown L1a hba hsz
          go_wp2_with (at_builtin; refine wpl_app1 rfl _ _ rfl wr.heap.size q _ _ w5.heap.size (X : Int) rfl rfl (H5.out.alloc _) (cellOf (heap_alloc_new w5 (Obj.cells #[.int .i64 (X : Int)] 3)) 0 _ rfl) (by omega) hs6 ?_)
          intro v2 w7 hown7 hg7 _
          have B7 := Lib.hid ((B5.out.trans (hb6.mono hs5)).grown hg7 hs6 (fun g hg => by have := (H5.out.lt g hg).1; exact this))
          obtain ⟨va2, vc2, rfl⟩ := own_slice hown7
          have hl7 : (l ++ [(X : Int)]).length = q + 1 := by simp [HQ.out]
          have hcall := HIH.out (l ++ [(X : Int)]) _ w7 wr.heap.size m8 B7.out.size (by rw [hl7, List.map_append]; exact hown7) (by rw [hl7]; omega) (fun x hx => by
            rcases List.mem_append.1 hx with h | h
            · exact HXS.out x h
            · simp at h; omega)
          have HCL := Lib.hid hcall
          clear hown7 hg7 H5 hb6 hs5 hs6 B5 hl7 hcall
          go_wp2_with fail
          refine HCL.out.mono ?_
          rintro e w9 ⟨v3, cur3, rfl, h3, hb9⟩
          have B9 := Lib.hid (B7.out.trans (hb9.mono B7.out.size))
          obtain ⟨ua, uc, rfl⟩ := own_slice h3.outer
          have H3 := Lib.hid (h3.base BZ)
          have H1 := Lib.hid (HLS.out.up B9.out)
          have BB9 := Lib.hid (HBB.out.trans (B9.out.mono BZ))
          have hln := lstQ_len n hn m m8 l k (by omega)
          have hlm2 := lstM_len n hn m (l ++ [(X : Int)])
          have hp8 : 8 ^ m ≤ 8 ^ 8 := Nat.pow_le_pow_right (by decide) m8
          have hle9 : (lstQ n m l k).length + (lstM n m (l ++ [(X : Int)])).length ≤ 1000000000 := by omega
          have hs9 : w.heap.size ≤ w9.heap.size := BB9.out.size
          clear h3 hb9 HCL B7 B9 HLS HBB hln hlm2 hp8
          go_wp2_with (at_builtin; go_must (refine wpl_lists rfl _ _ rfl w.heap.size _ _ cur cur3 (lstQ n m l k) (lstM n m (l ++ [(X : Int)])) rfl rfl H1.out H3.out hs9 hle9 ?_))
          intro v4 w10 h4 hg4
          have BB10 := Lib.hid (BB9.out.grown hg4 hs9 (fun g hg => (H1.out.outer.lt g hg).1))
          obtain ⟨na4, nc4, rfl⟩ := own_slice h4.outer
          have H4 : Hid (LsIn w.heap.size w10 (.slice na4 (lstQ n m l k ++ lstM n m (l ++ [(X : Int)])).length nc4) (cur ++ cur3) (lstQ n m l (k + 1))) := by
            show LsIn _ _ _ _ _
            rw [lstQ_succ, HFF.out, HX.out]
            exact h4
          generalize (lstQ n m l k ++ lstM n m (l ++ [(X : Int)])).length = l4 at *
          clear h4 hg4 H1 H3 hle9 hs9 BB9
          go_wp2
          go_roundg (gk - 1)
          case measure => omega
          case rel => exact ⟨k + 1, na4, l4, nc4, _, by omega, by rw [show 0 + (k + 1) = X + 1 by have := HX.out; omega]; go_num, rfl, H4, BB10⟩
        · have xI : ¬ (X : Int) < (n : Int) := by omega
          obtain rfl : k = N := by omega
          clear hlt hk hX
          go_wp2
          go_ret
          first | exact ⟨_, _, rfl, HLS.out.base hB, HBB.out⟩ | exact ⟨_, rfl, ⟨_, HLS.out.base hB⟩, HBB.out⟩
    · have tq : (0 : Int) < (q : Int) := by omega
      obtain ⟨q1, hq1⟩ : ∃ z : Nat, q = z + 1 := ⟨q - 1, by omega⟩
      have hq1l : q1 < l.length := by rw [HQ.out]; omega
      obtain ⟨lb, lo, rfl, e0⟩ := HI0.out.get hq1l
      have hxl := HXS.out _ (List.getElem_mem hq1l)
      have hfx : ((f : Nat) : Int) = l[q1] + 1 := by
        rw [← HFF.out]
        unfold fromL
        rw [if_neg (fun e => h0 (by rw [← HQ.out, e]; rfl)), HQ.out, show q - 1 = q1 by omega, show l.getD q1 0 = l[q1] by simp [List.getD_eq_getElem?_getD, hq1l]]
        omega
      generalize l[q1] = y at *
      have sq : IntKind.i64.wrap ((q : Int) - 1) = (q1 : Int) := by rw [IntKind.wrap_i64] <;> omega
      have sy : IntKind.i64.wrap (y + 1) = (f : Int) := by rw [IntKind.wrap_i64] <;> omega
      have q1I : (q1 : Int) < (q : Int) := by omega
      clear hfx hxl hq1l hq1
      have tq2 : decide (0 < q) = true := by simp; omega
      go_wp2_with fail
      have H00 := Lib.hid h0
      clear tz tq tq2 sq sy q1I e0 h0
      have own0 : Hid (LsIn w.heap.size w (.slice none 0 0) [] (lstQ n m l 0)) := LsIn.nil _ _
      go_loopg [8, 9] N (fun gh ov i wr => ∃ (k : Nat) (na : Option Addr) (ln nc : Nat) (cur : List Value), gh + k = N ∧ i = .int .i64 ((f + k : Nat) : Int) ∧ ov = .slice na ln nc ∧ Hid (LsIn w.heap.size wr (.slice na ln nc) cur (lstQ n m l k)) ∧ Hid (Below w.heap.size w wr))
      case atStart => exact ⟨0, none, 0, 0, [], by omega, by simp, rfl, own0, Below.refl _ _⟩
      case round =>
        clear own0
        obtain ⟨k, na, ln, nc, cur, hk, rfl, rfl, HLS, HBB⟩ := hrel
        obtain ⟨X, hX⟩ : ∃ z, f + k = z := ⟨_, rfl⟩
        rw [hX]
        have BZ := HBB.out.size
        by_cases hlt : k < N
        · have xI : (X : Int) < (n : Int) := by omega
          have xn : X < n := by omega
          have sx1 : IntKind.i64.wrap ((X : Int) + 1) = ((X + 1 : Nat) : Int) := by rw [IntKind.wrap_i64] <;> omega
          have HX := Lib.hid hX
          have hba : Below wr.heap.size wr (wr.alloc (Obj.cells #[] 3)) := (Below.refl _ _).alloc (Nat.le_refl _) _
          have hown := own_none wr 3 1
          have hsz : wr.heap.size ≤ (wr.alloc (Obj.cells #[] 3)).heap.size := by simp
          have L1a := Lib.hid ((HI0.out.below HBB.out).below hba)
          clear hX
          go_wp2_with (at_builtin; refine wpl_ints rfl _ _ rfl wr.heap.size 0 _ _ [] l rfl rfl rfl hown L1a.out hsz (by have := HQ.out; simp; omega) ?_)
          intro v1 w5 hown5 hg5
          rw [HQ.out] at hown5
          have B5 := Lib.hid (hba.grown hg5 hsz (fun g hg => by have := (hown.lt g hg).1; exact this))
          obtain ⟨va, vc, rfl⟩ := own_slice hown5
          have H5 := Lib.hid hown5
          have hb6 : Below w5.heap.size w5 (w5.alloc (Obj.cells #[.int .i64 (X : Int)] 3)) := (Below.refl _ _).alloc (Nat.le_refl _) _
          have hs5 : wr.heap.size ≤ w5.heap.size := B5.out.size
          have hs6 : wr.heap.size ≤ (w5.alloc (Obj.cells #[.int .i64 (X : Int)] 3)).heap.size := by simp; omega
          clear hown5 hg5 hown L1a hba hsz
          go_wp2_with (at_builtin; refine wpl_app1 rfl _ _ rfl wr.heap.size q _ _ w5.heap.size (X : Int) rfl rfl (H5.out.alloc _) (cellOf (heap_alloc_new w5 (Obj.cells #[.int .i64 (X : Int)] 3)) 0 _ rfl) (by omega) hs6 ?_)
          intro v2 w7 hown7 hg7 _
          have B7 := Lib.hid ((B5.out.trans (hb6.mono hs5)).grown hg7 hs6 (fun g hg => by have := (H5.out.lt g hg).1; exact this))
          obtain ⟨va2, vc2, rfl⟩ := own_slice hown7
          have hl7 : (l ++ [(X : Int)]).length = q + 1 := by simp [HQ.out]
          have hcall := HIH.out (l ++ [(X : Int)]) _ w7 wr.heap.size m8 B7.out.size (by rw [hl7, List.map_append]; exact hown7) (by rw [hl7]; omega) (fun x hx => by
            rcases List.mem_append.1 hx with h | h
            · exact HXS.out x h
            · simp at h; omega)
          have HCL := Lib.hid hcall
          clear hown7 hg7 H5 hb6 hs5 hs6 B5 hl7 hcall
          go_wp2_with fail
          refine HCL.out.mono ?_
          rintro e w9 ⟨v3, cur3, rfl, h3, hb9⟩
          have B9 := Lib.hid (B7.out.trans (hb9.mono B7.out.size))
          obtain ⟨ua, uc, rfl⟩ := own_slice h3.outer
          have H3 := Lib.hid (h3.base BZ)
          have H1 := Lib.hid (HLS.out.up B9.out)
          have BB9 := Lib.hid (HBB.out.trans (B9.out.mono BZ))
          have hln := lstQ_len n hn m m8 l k (by omega)
          have hlm2 := lstM_len n hn m (l ++ [(X : Int)])
          have hp8 : 8 ^ m ≤ 8 ^ 8 := Nat.pow_le_pow_right (by decide) m8
          have hle9 : (lstQ n m l k).length + (lstM n m (l ++ [(X : Int)])).length ≤ 1000000000 := by omega
          have hs9 : w.heap.size ≤ w9.heap.size := BB9.out.size
          clear h3 hb9 HCL B7 B9 HLS HBB hln hlm2 hp8
          go_wp2_with (at_builtin; go_must (refine wpl_lists rfl _ _ rfl w.heap.size _ _ cur cur3 (lstQ n m l k) (lstM n m (l ++ [(X : Int)])) rfl rfl H1.out H3.out hs9 hle9 ?_))
          intro v4 w10 h4 hg4
          have BB10 := Lib.hid (BB9.out.grown hg4 hs9 (fun g hg => (H1.out.outer.lt g hg).1))
          obtain ⟨na4, nc4, rfl⟩ := own_slice h4.outer
          have H4 : Hid (LsIn w.heap.size w10 (.slice na4 (lstQ n m l k ++ lstM n m (l ++ [(X : Int)])).length nc4) (cur ++ cur3) (lstQ n m l (k + 1))) := by
            show LsIn _ _ _ _ _
            rw [lstQ_succ, HFF.out, HX.out]
            exact h4
          generalize (lstQ n m l k ++ lstM n m (l ++ [(X : Int)])).length = l4 at *
          clear h4 hg4 H1 H3 hle9 hs9 BB9
          go_wp2
          go_roundg (gk - 1)
          case measure => omega
          case rel => exact ⟨k + 1, na4, l4, nc4, _, by omega, by rw [show f + (k + 1) = X + 1 by have := HX.out; omega]; go_num, rfl, H4, BB10⟩
        · have xI : ¬ (X : Int) < (n : Int) := by omega
          obtain rfl : k = N := by omega
          clear hlt hk hX
          go_wp2
          go_ret
          first | exact ⟨_, _, rfl, HLS.out.base hB, HBB.out⟩ | exact ⟨_, rfl, ⟨_, HLS.out.base hB⟩, HBB.out⟩
end Go.Proofs.Ythflbbjilebhlaa
namespace Go.Proofs.Ythflbbjilebhlaa
open Go Go.RowKit Go.Shelf Sc

theorem cut8_ext {c : Cse} {s t : Scl} (h : ∀ i, i < c.hs.length → (cut8 c s).getD i 0 = (cut8 c t).getD i 0) : cut8 c s = cut8 c t := by
  apply List.ext_getElem?
  intro i
  rcases Nat.lt_or_ge i 8 with h8 | h8
  · have e : (cut8 c s).getD i 0 = (cut8 c t).getD i 0 := by
      rcases Nat.lt_or_ge i c.hs.length with hi | hi
      · exact h i hi
      · rw [cut8_zero c s i hi, cut8_zero c t i hi]
    have l1 := cut8_len c s
    have l2 := cut8_len c t
    rw [List.getElem?_eq_getElem (by omega), List.getElem?_eq_getElem (by omega)]
    simpa [List.getD_eq_getElem?_getD, l1, l2, h8] using e
  · rw [List.getElem?_eq_none (by rw [cut8_len]; exact h8), List.getElem?_eq_none (by rw [cut8_len]; exact h8)]
theorem apart_nil (c : Cse) (s t : Scl) : (apartC c s t).length = 0 ↔ (cut8 c s == cut8 c t) = true := by
  unfold apartC apTo
  simp only [List.length_map, List.length_eq_zero_iff, List.filter_eq_nil_iff, List.mem_range, beq_iff_eq]
  constructor
  · intro h
    exact cut8_ext fun i hi => by have := h i hi; simpa using this
  · intro h i hi
    rw [h]; simp
theorem take_any {α : Type} (f : α → Bool) (l : List α) (k j : Nat) (hj : j < l.length) (hjk : j < k) (h : f l[j] = true) : (l.take k).any f = true := by
  rw [List.any_eq_true]
  exact ⟨l[j], by rw [List.mem_take_iff_getElem]; exact ⟨j, by omega, rfl⟩, h⟩
set_option maxRecDepth 100000 in
set_option maxHeartbeats 16000000 in
theorem rList_any (c : Cse) (hv rv lv : Value) (l : List Scl) (w : World) (hC : CseAt w c hv rv) (hS : PairsAt w lv l) :
    Calls Try.prog 49 #[.agg #[.int .i64 c.kind, .int .i64 c.base, .int .i64 c.most, hv, rv], lv] w fun e w' => e = .returned (.int .i64 (tellE c l)) ∧ Below w.heap.size w w' := by
  obtain ⟨ha, n, hc, rfl⟩ : ∃ a n c, hv = .slice a n c := by obtain ⟨_, a, cap, h, _⟩ := hC.hs; exact ⟨_, _, _, h⟩
  obtain ⟨ra, m, rc, rfl⟩ : ∃ a n c, rv = .slice a n c := by obtain ⟨_, a, cap, h, _⟩ := hC.rd; exact ⟨_, _, _, h⟩
  obtain ⟨lm, la, lc, rfl, lmc, _⟩ := id hS
  obtain ⟨q, hl⟩ : ∃ q, l.length = q := ⟨_, rfl⟩
  rw [hl] at lm lmc hS ⊢
  obtain ⟨kind, hkind⟩ : ∃ x, c.kind = x := ⟨_, rfl⟩
  obtain ⟨base, hbase⟩ : ∃ x, c.base = x := ⟨_, rfl⟩
  obtain ⟨most, hmost⟩ : ∃ x, c.most = x := ⟨_, rfl⟩
  obtain ⟨R, hR⟩ : ∃ R, tellE c l = R := ⟨_, rfl⟩
  obtain ⟨W, hW, q1, hb⟩ : ∃ W, w.alloc (Obj.cells #[.int .i64 kind, .int .i64 base, .int .i64 most, .slice ha n hc, .slice ra m rc] 25) = W ∧ W.heap[w.heap.size]? = some (.cells #[.int .i64 kind, .int .i64 base, .int .i64 most, .slice ha n hc, .slice ra m rc] 25 (0, 0)) ∧ Below w.heap.size w W := ⟨_, rfl, heap_alloc_new _ _, by go_grown⟩
  have h1 := rCheck_any c _ _ W (hC.below hb)
  obtain ⟨p1, hp1⟩ : ∃ x, (checkC c).1 = x := ⟨_, rfl⟩
  obtain ⟨p2, hp2⟩ : ∃ x, (checkC c).2.1 = x := ⟨_, rfl⟩
  obtain ⟨er, her⟩ : ∃ er, errC c = er := ⟨_, rfl⟩
  have e3 : (checkC c).2.2 = er := her
  rw [hp1, hp2, e3, hkind, hbase, hmost] at h1
  have HDF : Hid (∀ s t V, CseAt V c (.slice ha n hc) (.slice ra m rc) → Valid c → (1 ≤ s.1 ∧ s.1 ≤ 30 ∧ 1 ≤ s.2 ∧ s.2 ≤ 30) → (1 ≤ t.1 ∧ t.1 ≤ 30 ∧ 1 ≤ t.2 ∧ t.2 ≤ 30) → Calls Try.prog 66 #[.agg #[.int .i64 kind, .int .i64 base, .int .i64 most, .slice ha n hc, .slice ra m rc], .agg #[.int .i64 s.1, .int .i64 s.2], .agg #[.int .i64 t.1, .int .i64 t.2]] V fun e w' => (∃ a cap, e = .returned (.slice a (apartC c s t).length cap)) ∧ Below V.heap.size V w') := fun s t V h1 h2 h3 h4 => by
    have h := rDiffer_any c _ _ s t V h1 h2 h3 h4
    rw [hkind, hbase, hmost] at h
    refine h.mono ?_
    rintro e w' ⟨v, rfl, hi, hb⟩
    obtain ⟨_, a, cap, rfl, _⟩ := hi
    exact ⟨⟨_, _, rfl⟩, hb⟩
  have HER := Lib.hid her
  have HRR := Lib.hid hR
  have HLN := Lib.hid hl
  have H1 := Lib.hid h1
  have HW := Lib.hid hW
  have HB := Lib.hid hb
  have HC := Lib.hid (hC.below hb)
  have HS := Lib.hid (hS.below hb)
  have Q1 := Lib.hid q1
  have c0 := cellOf q1 0 (.int .i64 kind) rfl
  have c1 := cellOf q1 1 (.int .i64 base) rfl
  have c2 := cellOf q1 2 (.int .i64 most) rfl
  have c3 := cellOf q1 3 (.slice ha n hc) rfl
  have c4 := cellOf q1 4 (.slice ra m rc) rfl
  have cl := lt_of_block q1
  have qI : (q : Int) ≤ 4611686018427387904 := by omega
  rw [hR, hkind, hbase, hmost]
  clear h1 hW hb q1 hC hS her e3 hp1 hp2 hkind hbase hmost hR hl
  go_enter Try.func49, Try.ntmps49
  go_upto_region 1 with fail
  rw [HW.out]
  go_wp2_with fail
  refine H1.out.mono ?_
  rintro e w1 ⟨rfl, hb⟩
  have B1 := Lib.hid (HB.out.trans (hb.mono HB.out.size))
  have K1 := Lib.hid ((hb.block _ (lt_of_block Q1.out)).trans Q1.out)
  have C1 := Lib.hid (HC.out.below hb)
  have S1 := Lib.hid (HS.out.below hb)
  clear hb c0 c1 c2 c3 c4 cl H1 HC HW Q1 HB HS
  by_cases h0 : er = 0
  · subst h0
    have HVA := Lib.hid (valid_of HER.out)
    by_cases h6 : 6 < q
    · have h6I : (6 : Int) < (q : Int) := by omega
      have q0 : (0 : Int) < (q : Int) := by omega
      have hr := tellE_2 HER.out (by rw [HLN.out]; exact h6)
      rw [HRR.out] at hr
      subst hr
      clear h6 HRR
      go_wp2
      go_loopg [7, 8] 1 (fun gh v7 i wr => v7 = .int .i64 3 ∧ i = .int .i64 0 ∧ wr = w1)
      case atStart => exact ⟨rfl, rfl, rfl⟩
      case round =>
        obtain ⟨rfl, rfl, rfl⟩ := hrel
        go_wp2
        go_loopg [7, 9] 1 (fun gh v7 i w2 => v7 = .int .i64 3 ∧ i = .int .i64 0 ∧ w2 = wr)
        case atStart => exact ⟨rfl, rfl, rfl⟩
        case round =>
          obtain ⟨rfl, rfl, rfl⟩ := hrel
          go_wp2_with fail
          go_ret
          exact ⟨rfl, B1.out⟩
    · have h6I : ¬ (6 : Int) < (q : Int) := by omega
      have q6 : (q : Int) ≤ 6 := by omega
      have H6 : Hid (¬ 6 < l.length) := by show ¬ _; rw [HLN.out]; exact h6
      clear h6
      go_wp2
      go_loopg [7, 8] q (fun gh v7 i wr => ∃ (k : Nat) (e : Int), gh + k = q ∧ i = .int .i64 (k : Int) ∧ v7 = .int .i64 e ∧ Hid (scsE l = if e = 0 then scsE (l.drop k) else e) ∧ Hid (Below w1.heap.size w1 wr))
      case atStart => exact ⟨0, 0, by omega, rfl, rfl, rfl, Below.refl _ _⟩
      case round =>
        obtain ⟨k, e, hk, rfl, rfl, HE, HL⟩ := hrel
        have hstep : ¬ (e = 0 ∧ k < q) → (e = scsE l) := fun hn => by
          have h := HE.out
          by_cases he : e = 0
          · rw [if_pos he, List.drop_of_length_le (by have := HLN.out; omega)] at h
            rw [h, he]; rfl
          · rw [if_neg he] at h; exact h.symm
        by_cases hgo : e = 0 ∧ k < q
        · obtain ⟨rfl, hlt⟩ := hgo
          have kI : (k : Int) < (q : Int) := by omega
          have kz : (0 : Int) ≤ (k : Int) := by omega
          have hk' : k < l.length := by rw [HLN.out]; exact hlt
          obtain ⟨b, o, rfl, d0, d1⟩ := (S1.out.below HL.out).get hk'
          have hd := scsE_drop l k hk'
          have he2 := HE.out
          rw [if_pos rfl, hd] at he2
          obtain ⟨s, hs⟩ : ∃ s, l[k] = s := ⟨_, rfl⟩
          rw [hs] at d0 d1 he2
          have HSC : Hid (∀ V, _) := fun V => rScale_any s V
          obtain ⟨x, hx⟩ : ∃ x, sclE s = x := ⟨_, rfl⟩
          rw [hx] at he2
          simp only [hx] at HSC
          have HE2 := Lib.hid he2
          have dl := World.block_lt_of_cell? wr ⟨b, o + k * 2, none⟩ d0
          obtain ⟨s1, s2⟩ := s
          simp only at d0 d1 HSC
          clear hk' hd he2 hs hx hstep HE
          go_wp2_with fail
          refine (HSC.out _).mono ?_
          rintro e w2 ⟨rfl, hb⟩
          have L2 := Lib.hid (HL.out.trans (hb.mono HL.out.size))
          clear hb d0 d1 dl
          go_wp2_with fail
          go_roundg (gk - 1)
          case measure => omega
          case rel => exact ⟨k + 1, x, by omega, by go_num, rfl, HE2, L2⟩
        · have hes := hstep hgo
          have HES := Lib.hid hes
          have hgd : decide (e = 0 ∧ k < q) = false := by simp [hgo]
          have B2 := Lib.hid (B1.out.trans (HL.out.mono B1.out.size))
          have K2 := Lib.hid ((HL.out.block _ (lt_of_block K1.out)).trans K1.out)
          have C2 := Lib.hid (C1.out.below HL.out)
          have S2 := Lib.hid (S1.out.below HL.out)
          have hcond : (¬ (k : Int) < (q : Int)) ∨ (¬ e = 0) := by
            by_cases he : e = 0
            · left; intro h; exact hgo ⟨he, by omega⟩
            · exact .inr he
          clear hstep hes hgd hgo HE HL hk
          by_cases he : e = 0
          · have kI : ¬ (k : Int) < (q : Int) := hcond.resolve_right (fun h => h he)
            subst he
            clear hcond
            have HVS := Lib.hid (scsE_zero (HES.out.symm))
            have hte := tellE_4 HER.out H6.out HES.out.symm
            rw [HLN.out, HRR.out] at hte
            have HTE := Lib.hid hte
            clear hte
            go_wp2
            go_loopg [7, 9, 10] q (fun gh v7 i _ w2 => ∃ (k : Nat) (e : Int), gh + k = q ∧ i = .int .i64 (k : Int) ∧ v7 = .int .i64 e ∧ ((e = 0 ∧ twB c l k = false) ∨ (e = 5 ∧ twB c l q = true)) ∧ Hid (Below wr.heap.size wr w2))
            case atStart => exact ⟨0, 0, by omega, rfl, rfl, .inl ⟨rfl, rfl⟩, Below.refl _ _⟩
            case round =>
              rename World => w2
              obtain ⟨i, e, hi, rfl, rfl, hor, HL⟩ := hrel
              rcases hor with ⟨rfl, htw⟩ | ⟨rfl, htw⟩
              · by_cases hlt : i < q
                · have iI : (i : Int) < (q : Int) := by omega
                  have HTW := Lib.hid htw
                  obtain ⟨g', rfl⟩ : ∃ g', gk = g' + 1 := ⟨gk - 1, by omega⟩
                  clear htw
                  go_wp2
                  go_loopg [7, 10] i (fun gh v7 j w3 => ∃ (jj : Nat) (e : Int), gh + jj = i ∧ j = .int .i64 (jj : Int) ∧ v7 = .int .i64 e ∧ ((e = 0 ∧ (l.take jj).any (fun t => cut8 c (l.getD i default) == cut8 c t) = false) ∨ (e = 5 ∧ twB c l q = true)) ∧ Hid (Below wr.heap.size wr w3))
                  case atStart => exact ⟨0, 0, by omega, rfl, rfl, .inl ⟨rfl, by simp⟩, HL⟩
                  case round =>
                    rename World => w3
                    obtain ⟨j, e, hj, rfl, rfl, hor, HL3⟩ := hrel
                    rcases hor with ⟨rfl, htj⟩ | ⟨rfl, htw⟩
                    · by_cases hjt : j < i
                      · have jI : (j : Int) < (i : Int) := by omega
                        have jz : (0 : Int) ≤ (j : Int) := by omega
                        have iz : (0 : Int) ≤ (i : Int) := by omega
                        have jq : (j : Int) < (q : Int) := by omega
                        have hi' : i < l.length := by rw [HLN.out]; exact hlt
                        have hj' : j < l.length := by rw [HLN.out]; omega
                        obtain ⟨b, o, rfl, dd⟩ : ∃ b o, la = some ⟨b, o, none⟩ ∧ ∀ V, Below wr.heap.size wr V → ∀ k (hk : k < l.length), V.cell? ⟨b, o + k * 2, none⟩ = some (.int .i64 l[k].1) ∧ V.cell? ⟨b, o + k * 2 + 1, none⟩ = some (.int .i64 l[k].2) := by
                          obtain ⟨b, o, e, _⟩ := S2.out.get hi'
                          refine ⟨b, o, e, fun V hV k hk => ?_⟩
                          obtain ⟨b', o', e', h0, h1⟩ := (S2.out.below hV).get hk
                          rw [e] at e'
                          simp only [Option.some.injEq, Addr.mk.injEq, and_true] at e'
                          obtain ⟨rfl, rfl⟩ := e'
                          exact ⟨h0, h1⟩
                        have hgi : l.getD i default = l[i] := by simp [List.getD_eq_getElem?_getD, hi']
                        obtain ⟨s, hs⟩ : ∃ s, l[i] = s := ⟨_, rfl⟩
                        obtain ⟨t, ht⟩ : ∃ t, l[j] = t := ⟨_, rfl⟩
                        have hsb : 1 ≤ s.1 ∧ s.1 ≤ 30 ∧ 1 ≤ s.2 ∧ s.2 ≤ 30 := by
                          have h := sclE_zero (HVS.out s (by rw [← hs]; exact List.getElem_mem hi'))
                          exact ⟨h.1, h.2.1, h.2.2.1, h.2.2.2.1⟩
                        have htb : 1 ≤ t.1 ∧ t.1 ≤ 30 ∧ 1 ≤ t.2 ∧ t.2 ≤ 30 := by
                          have h := sclE_zero (HVS.out t (by rw [← ht]; exact List.getElem_mem hj'))
                          exact ⟨h.1, h.2.1, h.2.2.1, h.2.2.2.1⟩
                        have HCS := Lib.hid (fun V hV => by have h := dd V hV i hi'; rw [hs] at h; exact h)
                        have HCT := Lib.hid (fun V hV => by have h := dd V hV j hj'; rw [ht] at h; exact h)
                        have HD : Hid (∀ V, Below wr.heap.size wr V → _) := fun V hV => HDF.out s t V (C2.out.below hV) HVA.out hsb htb
                        obtain ⟨f, hf⟩ : ∃ f : Scl → Bool, (fun t => cut8 c (l.getD i default) == cut8 c t) = f := ⟨_, rfl⟩
                        have hfe : f t = (cut8 c s == cut8 c t) := by rw [← hf, hgi, hs]
                        rw [hf] at htj
                        have HMO : Hid (f t = false → (l.take (j + 1)).any f = false) := fun h => any_more f l j hj' htj (by rw [ht]; exact h)
                        have HAT : Hid (f t = true → twB c l q = true) := fun h => twB_at hlt (by rw [hf]; exact take_any f l i j hj' hjt (by rw [ht]; exact h))
                        have hap := apart_nil c s t
                        rw [← hfe] at hap
                        obtain ⟨d, hd⟩ : ∃ d, (apartC c s t).length = d := ⟨_, rfl⟩
                        rw [hd] at hap
                        simp only [hd] at HD
                        have HAP := Lib.hid hap
                        have HFF := Lib.hid hf
                        have hdI : (d : Int) ≤ 8 := by
                          have : d ≤ c.hs.length := by rw [← hd]; unfold apartC apTo; rw [List.length_map]; exact Nat.le_trans (List.length_filter_le _ _) (by simp)
                          have := HVA.out.n8
                          omega
                        obtain ⟨s1, s2⟩ := s
                        obtain ⟨t1, t2⟩ := t
                        simp only at HCS HCT HD
                        clear hi' hj' dd hgi hs ht hsb htb hf hfe htj hap hd
                        have HALL : Hid (∀ V : World, Below wr.heap.size wr V → V.cell? ⟨w.heap.size, 0, none⟩ = some (.int .i64 kind) ∧ V.cell? ⟨w.heap.size, 1, none⟩ = some (.int .i64 base) ∧ V.cell? ⟨w.heap.size, 2, none⟩ = some (.int .i64 most) ∧ V.cell? ⟨w.heap.size, 3, none⟩ = some (.slice ha n hc) ∧ V.cell? ⟨w.heap.size, 4, none⟩ = some (.slice ra m rc) ∧ V.cell? ⟨b, o + i * 2, none⟩ = some (.int .i64 s1) ∧ V.cell? ⟨b, o + i * 2 + 1, none⟩ = some (.int .i64 s2) ∧ V.cell? ⟨b, o + j * 2, none⟩ = some (.int .i64 t1) ∧ V.cell? ⟨b, o + j * 2 + 1, none⟩ = some (.int .i64 t2)) := fun V hV => ⟨cellOf ((hV.block _ (lt_of_block K2.out)).trans K2.out) 0 _ rfl, cellOf ((hV.block _ (lt_of_block K2.out)).trans K2.out) 1 _ rfl, cellOf ((hV.block _ (lt_of_block K2.out)).trans K2.out) 2 _ rfl, cellOf ((hV.block _ (lt_of_block K2.out)).trans K2.out) 3 _ rfl, cellOf ((hV.block _ (lt_of_block K2.out)).trans K2.out) 4 _ rfl, (HCS.out V hV).1, (HCS.out V hV).2, (HCT.out V hV).1, (HCT.out V hV).2⟩
                        obtain ⟨c0, c1, c2, c3, c4, d0, d1, g0, g1⟩ := HALL.out w3 HL3.out
                        have dl := World.block_lt_of_cell? w3 ⟨b, o + i * 2, none⟩ d0
                        have cl := World.block_lt_of_cell? w3 ⟨w.heap.size, 0, none⟩ c0
                        by_cases hd0 : d = 0
                        · subst hd0
                          have htw := HAT.out (HAP.out.1 rfl)
                          go_wp2_with fail
                          have KA : ∀ W' : World, Below w3.heap.size w3 W' → (W'.cell? ⟨w.heap.size, 0, none⟩ = some (.int .i64 kind) ∧ W'.cell? ⟨w.heap.size, 1, none⟩ = some (.int .i64 base) ∧ W'.cell? ⟨w.heap.size, 2, none⟩ = some (.int .i64 most) ∧ W'.cell? ⟨w.heap.size, 3, none⟩ = some (.slice ha n hc) ∧ W'.cell? ⟨w.heap.size, 4, none⟩ = some (.slice ra m rc) ∧ W'.cell? ⟨b, o + i * 2, none⟩ = some (.int .i64 s1) ∧ W'.cell? ⟨b, o + i * 2 + 1, none⟩ = some (.int .i64 s2) ∧ W'.cell? ⟨b, o + j * 2, none⟩ = some (.int .i64 t1) ∧ W'.cell? ⟨b, o + j * 2 + 1, none⟩ = some (.int .i64 t2) ∧ Below w3.heap.size w3 W') := fun W' hb => ⟨keepK c0 hb, keepK c1 hb, keepK c2 hb, keepK c3 hb, keepK c4 hb, keepK d0 hb, keepK d1 hb, keepK g0 hb, keepK g1 hb, hb⟩
                          refine wp_region_noPanic ?_
                          refine wp_region_held_drew (S := (fun W' => W'.cell? ⟨w.heap.size, 0, none⟩ = some (.int .i64 kind) ∧ W'.cell? ⟨w.heap.size, 1, none⟩ = some (.int .i64 base) ∧ W'.cell? ⟨w.heap.size, 2, none⟩ = some (.int .i64 most) ∧ W'.cell? ⟨w.heap.size, 3, none⟩ = some (.slice ha n hc) ∧ W'.cell? ⟨w.heap.size, 4, none⟩ = some (.slice ra m rc) ∧ W'.cell? ⟨b, o + i * 2, none⟩ = some (.int .i64 s1) ∧ W'.cell? ⟨b, o + i * 2 + 1, none⟩ = some (.int .i64 s2) ∧ W'.cell? ⟨b, o + j * 2, none⟩ = some (.int .i64 t1) ∧ W'.cell? ⟨b, o + j * 2 + 1, none⟩ = some (.int .i64 t2) ∧ Below w3.heap.size w3 W')) (by kernel_rfl) ?_ (fun hh0 => ?_)
                          · exact KA _ (Below.refl _ _).drew
                          refine wpAnyH_take (i := 0) (v := ?_) rfl (by as_aux_lemma => kernel_rfl) (by as_aux_lemma => kernel_rfl) (by as_aux_lemma => kernel_rfl) (fun _ _ _ h => h) (Or.inl ⟨by rfl, ?_⟩) (by assumption) ?_
                          rotate_left
                          · intro w hSw
                            try dsimp only at hSw
                            go_simp
                            try with_reducible rfl
                          try simp only [Act.put, List.getElem_toArray, List.getElem_cons_succ, List.getElem_cons_zero, List.setIfInBounds_toArray, List.set_cons_zero, List.set_cons_succ]
                          refine wpAnyH_take (i := 1) (v := ?_) rfl (by as_aux_lemma => kernel_rfl) (by as_aux_lemma => kernel_rfl) (by as_aux_lemma => kernel_rfl) (fun _ _ _ h => h) (Or.inl ⟨by rfl, ?_⟩) (by assumption) ?_
                          rotate_left
                          · intro w hSw
                            try dsimp only at hSw
                            go_simp
                            try with_reducible rfl
                          try simp only [Act.put, List.getElem_toArray, List.getElem_cons_succ, List.getElem_cons_zero, List.setIfInBounds_toArray, List.set_cons_zero, List.set_cons_succ]
                          refine wpAnyH_take (i := 2) (v := ?_) rfl (by as_aux_lemma => kernel_rfl) (by as_aux_lemma => kernel_rfl) (by as_aux_lemma => kernel_rfl) (fun _ _ _ h => h) (Or.inl ⟨by rfl, ?_⟩) (by assumption) ?_
                          rotate_left
                          · intro w hSw
                            try dsimp only at hSw
                            go_simp
                            try with_reducible rfl
                          try simp only [Act.put, List.getElem_toArray, List.getElem_cons_succ, List.getElem_cons_zero, List.setIfInBounds_toArray, List.set_cons_zero, List.set_cons_succ]
                          refine wpAnyH_take (i := 3) (v := ?_) rfl (by as_aux_lemma => kernel_rfl) (by as_aux_lemma => kernel_rfl) (by as_aux_lemma => kernel_rfl) (fun _ _ _ h => h) (Or.inl ⟨by rfl, ?_⟩) (by assumption) ?_
                          rotate_left
                          · intro w hSw
                            try dsimp only at hSw
                            go_simp
                            try with_reducible rfl
                          try simp only [Act.put, List.getElem_toArray, List.getElem_cons_succ, List.getElem_cons_zero, List.setIfInBounds_toArray, List.set_cons_zero, List.set_cons_succ]
                          refine wpAnyH_take (i := 4) (v := ?_) rfl (by as_aux_lemma => kernel_rfl) (by as_aux_lemma => kernel_rfl) (by as_aux_lemma => kernel_rfl) (fun _ _ _ h => h) (Or.inl ⟨by rfl, ?_⟩) (by assumption) ?_
                          rotate_left
                          · intro w hSw
                            try dsimp only at hSw
                            go_simp
                            try with_reducible rfl
                          try simp only [Act.put, List.getElem_toArray, List.getElem_cons_succ, List.getElem_cons_zero, List.setIfInBounds_toArray, List.set_cons_zero, List.set_cons_succ]
                          refine wpAnyH_take (i := 5) (v := ?_) rfl (by as_aux_lemma => kernel_rfl) (by as_aux_lemma => kernel_rfl) (by as_aux_lemma => kernel_rfl) (fun _ _ _ h => h) (Or.inl ⟨by rfl, ?_⟩) (by assumption) ?_
                          rotate_left
                          · intro w hSw
                            try dsimp only at hSw
                            go_simp
                            try with_reducible rfl
                          try simp only [Act.put, List.getElem_toArray, List.getElem_cons_succ, List.getElem_cons_zero, List.setIfInBounds_toArray, List.set_cons_zero, List.set_cons_succ]
                          refine wpAnyH_take (i := 6) (v := ?_) rfl (by as_aux_lemma => kernel_rfl) (by as_aux_lemma => kernel_rfl) (by as_aux_lemma => kernel_rfl) (fun _ _ _ h => h) (Or.inl ⟨by rfl, ?_⟩) (by assumption) ?_
                          rotate_left
                          · intro w hSw
                            try dsimp only at hSw
                            go_simp
                            try with_reducible rfl
                          try simp only [Act.put, List.getElem_toArray, List.getElem_cons_succ, List.getElem_cons_zero, List.setIfInBounds_toArray, List.set_cons_zero, List.set_cons_succ]
                          refine wpAnyH_take (i := 7) (v := ?_) rfl (by as_aux_lemma => kernel_rfl) (by as_aux_lemma => kernel_rfl) (by as_aux_lemma => kernel_rfl) (fun _ _ _ h => h) (Or.inl ⟨by rfl, ?_⟩) (by assumption) ?_
                          rotate_left
                          · intro w hSw
                            try dsimp only at hSw
                            go_simp
                            try with_reducible rfl
                          try simp only [Act.put, List.getElem_toArray, List.getElem_cons_succ, List.getElem_cons_zero, List.setIfInBounds_toArray, List.set_cons_zero, List.set_cons_succ]
                          refine wpAnyH_take (i := 8) (v := ?_) rfl (by as_aux_lemma => kernel_rfl) (by as_aux_lemma => kernel_rfl) (by as_aux_lemma => kernel_rfl) (fun _ _ _ h => h) (Or.inl ⟨by rfl, ?_⟩) (by assumption) ?_
                          rotate_left
                          · intro w hSw
                            try dsimp only at hSw
                            go_simp
                            try with_reducible rfl
                          try simp only [Act.put, List.getElem_toArray, List.getElem_cons_succ, List.getElem_cons_zero, List.setIfInBounds_toArray, List.set_cons_zero, List.set_cons_succ]
                          refine wpAnyH_ready (rs := [9]) (by as_aux_lemma => kernel_rfl) (by simp) ?_
                          refine AllReadyH.cons rfl (fun K hK => ?_) AllReadyH.nil
                          go_simp
                          refine (HD.out _ (HL3.out.trans (Below.mono hh0.2.2.2.2.2.2.2.2.2 HL3.out.size))).mono ?_
                          rintro e w9 ⟨⟨va, vc, rfl⟩, hb9⟩
                          refine hK.out _ _ (KA _ (Below.trans hh0.2.2.2.2.2.2.2.2.2 (Below.mono hb9 (hh0.2.2.2.2.2.2.2.2.2).size))) (fun hh1 => ?_)
                          clear hK K
                          try simp only [Act.put, List.getElem_toArray, List.getElem_cons_succ, List.getElem_cons_zero, List.setIfInBounds_toArray, List.set_cons_zero, List.set_cons_succ]
                          refine wpAnyH_take (i := 10) (v := ?_) rfl (by as_aux_lemma => kernel_rfl) (by as_aux_lemma => kernel_rfl) (by as_aux_lemma => kernel_rfl) (fun _ _ _ h => h) (Or.inl ⟨by rfl, ?_⟩) (by assumption) ?_
                          rotate_left
                          · intro w hSw
                            try dsimp only at hSw
                            go_simp
                            try with_reducible rfl
                          try simp only [Act.put, List.getElem_toArray, List.getElem_cons_succ, List.getElem_cons_zero, List.setIfInBounds_toArray, List.set_cons_zero, List.set_cons_succ]
                          refine wpAnyH_take (i := 11) (v := ?_) rfl (by as_aux_lemma => kernel_rfl) (by as_aux_lemma => kernel_rfl) (by as_aux_lemma => kernel_rfl) (fun _ _ _ h => h) (Or.inl ⟨by rfl, ?_⟩) (by assumption) ?_
                          rotate_left
                          · intro w hSw
                            try dsimp only at hSw
                            go_simp
                            try with_reducible rfl
                          try simp only [Act.put, List.getElem_toArray, List.getElem_cons_succ, List.getElem_cons_zero, List.setIfInBounds_toArray, List.set_cons_zero, List.set_cons_succ]
                          refine wpAnyH_done (by as_aux_lemma => kernel_rfl) ?_ _
                          refine NoPanic.normal ?_
                          have HBZ := Lib.hid (hh1.2.2.2.2.2.2.2.2.2)
                          have L9 := Lib.hid (HL3.out.trans (HBZ.out.mono HL3.out.size))
                          clear KA c0 c1 c2 c3 c4 cl d0 d1 g0 g1 dl
                          go_wp2_with fail
                          go_roundg (gk - 1)
                          case measure => omega
                          case rel => exact ⟨j + 1, 5, by omega, by go_num, rfl, .inr ⟨rfl, htw⟩, L9⟩
                        · have hfalse : f (t1, t2) = false := by
                            cases e : f (t1, t2)
                            · rfl
                            · exact absurd (HAP.out.2 e) hd0
                          have hmo := HMO.out hfalse
                          have dz : ((d : Int) == 0) = false := by simp; omega
                          have dz2 : ¬ (d : Int) = 0 := by omega
                          go_wp2_with fail
                          have KA : ∀ W' : World, Below w3.heap.size w3 W' → (W'.cell? ⟨w.heap.size, 0, none⟩ = some (.int .i64 kind) ∧ W'.cell? ⟨w.heap.size, 1, none⟩ = some (.int .i64 base) ∧ W'.cell? ⟨w.heap.size, 2, none⟩ = some (.int .i64 most) ∧ W'.cell? ⟨w.heap.size, 3, none⟩ = some (.slice ha n hc) ∧ W'.cell? ⟨w.heap.size, 4, none⟩ = some (.slice ra m rc) ∧ W'.cell? ⟨b, o + i * 2, none⟩ = some (.int .i64 s1) ∧ W'.cell? ⟨b, o + i * 2 + 1, none⟩ = some (.int .i64 s2) ∧ W'.cell? ⟨b, o + j * 2, none⟩ = some (.int .i64 t1) ∧ W'.cell? ⟨b, o + j * 2 + 1, none⟩ = some (.int .i64 t2) ∧ Below w3.heap.size w3 W') := fun W' hb => ⟨keepK c0 hb, keepK c1 hb, keepK c2 hb, keepK c3 hb, keepK c4 hb, keepK d0 hb, keepK d1 hb, keepK g0 hb, keepK g1 hb, hb⟩
                          refine wp_region_noPanic ?_
                          refine wp_region_held_drew (S := (fun W' => W'.cell? ⟨w.heap.size, 0, none⟩ = some (.int .i64 kind) ∧ W'.cell? ⟨w.heap.size, 1, none⟩ = some (.int .i64 base) ∧ W'.cell? ⟨w.heap.size, 2, none⟩ = some (.int .i64 most) ∧ W'.cell? ⟨w.heap.size, 3, none⟩ = some (.slice ha n hc) ∧ W'.cell? ⟨w.heap.size, 4, none⟩ = some (.slice ra m rc) ∧ W'.cell? ⟨b, o + i * 2, none⟩ = some (.int .i64 s1) ∧ W'.cell? ⟨b, o + i * 2 + 1, none⟩ = some (.int .i64 s2) ∧ W'.cell? ⟨b, o + j * 2, none⟩ = some (.int .i64 t1) ∧ W'.cell? ⟨b, o + j * 2 + 1, none⟩ = some (.int .i64 t2) ∧ Below w3.heap.size w3 W')) (by kernel_rfl) ?_ (fun hh0 => ?_)
                          · exact KA _ (Below.refl _ _).drew
                          refine wpAnyH_take (i := 0) (v := ?_) rfl (by as_aux_lemma => kernel_rfl) (by as_aux_lemma => kernel_rfl) (by as_aux_lemma => kernel_rfl) (fun _ _ _ h => h) (Or.inl ⟨by rfl, ?_⟩) (by assumption) ?_
                          rotate_left
                          · intro w hSw
                            try dsimp only at hSw
                            go_simp
                            try with_reducible rfl
                          try simp only [Act.put, List.getElem_toArray, List.getElem_cons_succ, List.getElem_cons_zero, List.setIfInBounds_toArray, List.set_cons_zero, List.set_cons_succ]
                          refine wpAnyH_take (i := 1) (v := ?_) rfl (by as_aux_lemma => kernel_rfl) (by as_aux_lemma => kernel_rfl) (by as_aux_lemma => kernel_rfl) (fun _ _ _ h => h) (Or.inl ⟨by rfl, ?_⟩) (by assumption) ?_
                          rotate_left
                          · intro w hSw
                            try dsimp only at hSw
                            go_simp
                            try with_reducible rfl
                          try simp only [Act.put, List.getElem_toArray, List.getElem_cons_succ, List.getElem_cons_zero, List.setIfInBounds_toArray, List.set_cons_zero, List.set_cons_succ]
                          refine wpAnyH_take (i := 2) (v := ?_) rfl (by as_aux_lemma => kernel_rfl) (by as_aux_lemma => kernel_rfl) (by as_aux_lemma => kernel_rfl) (fun _ _ _ h => h) (Or.inl ⟨by rfl, ?_⟩) (by assumption) ?_
                          rotate_left
                          · intro w hSw
                            try dsimp only at hSw
                            go_simp
                            try with_reducible rfl
                          try simp only [Act.put, List.getElem_toArray, List.getElem_cons_succ, List.getElem_cons_zero, List.setIfInBounds_toArray, List.set_cons_zero, List.set_cons_succ]
                          refine wpAnyH_take (i := 3) (v := ?_) rfl (by as_aux_lemma => kernel_rfl) (by as_aux_lemma => kernel_rfl) (by as_aux_lemma => kernel_rfl) (fun _ _ _ h => h) (Or.inl ⟨by rfl, ?_⟩) (by assumption) ?_
                          rotate_left
                          · intro w hSw
                            try dsimp only at hSw
                            go_simp
                            try with_reducible rfl
                          try simp only [Act.put, List.getElem_toArray, List.getElem_cons_succ, List.getElem_cons_zero, List.setIfInBounds_toArray, List.set_cons_zero, List.set_cons_succ]
                          refine wpAnyH_take (i := 4) (v := ?_) rfl (by as_aux_lemma => kernel_rfl) (by as_aux_lemma => kernel_rfl) (by as_aux_lemma => kernel_rfl) (fun _ _ _ h => h) (Or.inl ⟨by rfl, ?_⟩) (by assumption) ?_
                          rotate_left
                          · intro w hSw
                            try dsimp only at hSw
                            go_simp
                            try with_reducible rfl
                          try simp only [Act.put, List.getElem_toArray, List.getElem_cons_succ, List.getElem_cons_zero, List.setIfInBounds_toArray, List.set_cons_zero, List.set_cons_succ]
                          refine wpAnyH_take (i := 5) (v := ?_) rfl (by as_aux_lemma => kernel_rfl) (by as_aux_lemma => kernel_rfl) (by as_aux_lemma => kernel_rfl) (fun _ _ _ h => h) (Or.inl ⟨by rfl, ?_⟩) (by assumption) ?_
                          rotate_left
                          · intro w hSw
                            try dsimp only at hSw
                            go_simp
                            try with_reducible rfl
                          try simp only [Act.put, List.getElem_toArray, List.getElem_cons_succ, List.getElem_cons_zero, List.setIfInBounds_toArray, List.set_cons_zero, List.set_cons_succ]
                          refine wpAnyH_take (i := 6) (v := ?_) rfl (by as_aux_lemma => kernel_rfl) (by as_aux_lemma => kernel_rfl) (by as_aux_lemma => kernel_rfl) (fun _ _ _ h => h) (Or.inl ⟨by rfl, ?_⟩) (by assumption) ?_
                          rotate_left
                          · intro w hSw
                            try dsimp only at hSw
                            go_simp
                            try with_reducible rfl
                          try simp only [Act.put, List.getElem_toArray, List.getElem_cons_succ, List.getElem_cons_zero, List.setIfInBounds_toArray, List.set_cons_zero, List.set_cons_succ]
                          refine wpAnyH_take (i := 7) (v := ?_) rfl (by as_aux_lemma => kernel_rfl) (by as_aux_lemma => kernel_rfl) (by as_aux_lemma => kernel_rfl) (fun _ _ _ h => h) (Or.inl ⟨by rfl, ?_⟩) (by assumption) ?_
                          rotate_left
                          · intro w hSw
                            try dsimp only at hSw
                            go_simp
                            try with_reducible rfl
                          try simp only [Act.put, List.getElem_toArray, List.getElem_cons_succ, List.getElem_cons_zero, List.setIfInBounds_toArray, List.set_cons_zero, List.set_cons_succ]
                          refine wpAnyH_take (i := 8) (v := ?_) rfl (by as_aux_lemma => kernel_rfl) (by as_aux_lemma => kernel_rfl) (by as_aux_lemma => kernel_rfl) (fun _ _ _ h => h) (Or.inl ⟨by rfl, ?_⟩) (by assumption) ?_
                          rotate_left
                          · intro w hSw
                            try dsimp only at hSw
                            go_simp
                            try with_reducible rfl
                          try simp only [Act.put, List.getElem_toArray, List.getElem_cons_succ, List.getElem_cons_zero, List.setIfInBounds_toArray, List.set_cons_zero, List.set_cons_succ]
                          refine wpAnyH_ready (rs := [9]) (by as_aux_lemma => kernel_rfl) (by simp) ?_
                          refine AllReadyH.cons rfl (fun K hK => ?_) AllReadyH.nil
                          go_simp
                          refine (HD.out _ (HL3.out.trans (Below.mono hh0.2.2.2.2.2.2.2.2.2 HL3.out.size))).mono ?_
                          rintro e w9 ⟨⟨va, vc, rfl⟩, hb9⟩
                          refine hK.out _ _ (KA _ (Below.trans hh0.2.2.2.2.2.2.2.2.2 (Below.mono hb9 (hh0.2.2.2.2.2.2.2.2.2).size))) (fun hh1 => ?_)
                          clear hK K
                          try simp only [Act.put, List.getElem_toArray, List.getElem_cons_succ, List.getElem_cons_zero, List.setIfInBounds_toArray, List.set_cons_zero, List.set_cons_succ]
                          refine wpAnyH_take (i := 10) (v := ?_) rfl (by as_aux_lemma => kernel_rfl) (by as_aux_lemma => kernel_rfl) (by as_aux_lemma => kernel_rfl) (fun _ _ _ h => h) (Or.inl ⟨by rfl, ?_⟩) (by assumption) ?_
                          rotate_left
                          · intro w hSw
                            try dsimp only at hSw
                            go_simp
                            try with_reducible rfl
                          try simp only [Act.put, List.getElem_toArray, List.getElem_cons_succ, List.getElem_cons_zero, List.setIfInBounds_toArray, List.set_cons_zero, List.set_cons_succ]
                          refine wpAnyH_take (i := 11) (v := ?_) rfl (by as_aux_lemma => kernel_rfl) (by as_aux_lemma => kernel_rfl) (by as_aux_lemma => kernel_rfl) (fun _ _ _ h => h) (Or.inl ⟨by rfl, ?_⟩) (by assumption) ?_
                          rotate_left
                          · intro w hSw
                            try dsimp only at hSw
                            go_simp
                            try with_reducible rfl
                          try simp only [Act.put, List.getElem_toArray, List.getElem_cons_succ, List.getElem_cons_zero, List.setIfInBounds_toArray, List.set_cons_zero, List.set_cons_succ]
                          refine wpAnyH_done (by as_aux_lemma => kernel_rfl) ?_ _
                          refine NoPanic.normal ?_
                          have HBZ := Lib.hid (hh1.2.2.2.2.2.2.2.2.2)
                          have L9 := Lib.hid (HL3.out.trans (HBZ.out.mono HL3.out.size))
                          clear KA c0 c1 c2 c3 c4 cl d0 d1 g0 g1 dl
                          go_wp2_with fail
                          go_roundg (gk - 1)
                          case measure => omega
                          case rel => exact ⟨j + 1, 0, by omega, by go_num, rfl, .inl ⟨rfl, by rw [HFF.out]; exact hmo⟩, L9⟩
                      · obtain rfl : j = i := by omega
                        have jI : ¬ (j : Int) < (j : Int) := by omega
                        have hnx := twB_no HTW.out htj
                        clear htj
                        go_wp2_with fail
                        go_roundg g'
                        case measure => omega
                        case rel => exact ⟨j + 1, 0, by omega, by go_num, rfl, .inl ⟨rfl, hnx⟩, HL3⟩
                    · have te : ((5 : Int) == 0) = false := rfl
                      by_cases jI : (j : Int) < (i : Int)
                      · go_wp2_with fail
                        go_roundg g'
                        case measure => omega
                        case rel => exact ⟨i + 1, 5, by omega, by go_num, rfl, .inr ⟨rfl, htw⟩, HL3⟩
                      · go_wp2_with fail
                        go_roundg g'
                        case measure => omega
                        case rel => exact ⟨i + 1, 5, by omega, by go_num, rfl, .inr ⟨rfl, htw⟩, HL3⟩
                · obtain rfl : i = q := by omega
                  have iI : ¬ (i : Int) < (i : Int) := by omega
                  have hr := HTE.out
                  rw [htw] at hr
                  obtain rfl : R = 0 := hr
                  clear htw
                  go_wp2_with fail
                  go_ret
                  exact ⟨rfl, B2.out.trans (HL.out.mono B2.out.size)⟩
              · have te : ((5 : Int) == 0) = false := rfl
                have hr := HTE.out
                rw [htw] at hr
                obtain rfl : R = 5 := hr
                by_cases iI : (i : Int) < (q : Int)
                · go_wp2_with fail
                  go_ret
                  exact ⟨rfl, B2.out.trans (HL.out.mono B2.out.size)⟩
                · go_wp2_with fail
                  go_ret
                  exact ⟨rfl, B2.out.trans (HL.out.mono B2.out.size)⟩
          · have te : (e == 0) = false := by simp [he]
            have hte := tellE_3 HER.out H6.out (by rw [← HES.out]; exact he)
            rw [HRR.out, ← HES.out] at hte
            subst hte
            clear hcond
            by_cases kI : (k : Int) < (q : Int)
            · go_wp2
              go_loopg [7, 9] 1 (fun gh v7 i w2 => v7 = .int .i64 R ∧ i = .int .i64 0 ∧ w2 = wr)
              case atStart => exact ⟨rfl, rfl, rfl⟩
              case round =>
                obtain ⟨rfl, rfl, rfl⟩ := hrel
                have q0 : (0 : Int) < (q : Int) := by omega
                go_wp2_with fail
                go_ret
                exact ⟨rfl, B2.out⟩
            · go_wp2
              go_loopg [7, 9] 1 (fun gh v7 i w2 => v7 = .int .i64 R ∧ i = .int .i64 0 ∧ w2 = wr)
              case atStart => exact ⟨rfl, rfl, rfl⟩
              case round =>
                obtain ⟨rfl, rfl, rfl⟩ := hrel
                by_cases q0 : (0 : Int) < (q : Int)
                · go_wp2_with fail
                  go_ret
                  exact ⟨rfl, B2.out⟩
                · go_wp2_with fail
                  go_ret
                  exact ⟨rfl, B2.out⟩
  · have te : (er == 0) = false := by simp [h0]
    have hr := tellE_1 (c := c) (ls := l) (by rw [HER.out]; exact h0)
    rw [HRR.out, HER.out] at hr
    subst hr
    clear HRR
    go_wp2
    go_loopg [7, 8] 1 (fun gh v7 i wr => v7 = .int .i64 R ∧ i = .int .i64 0 ∧ wr = w1)
    case atStart => exact ⟨rfl, rfl, rfl⟩
    case round =>
      obtain ⟨rfl, rfl, rfl⟩ := hrel
      by_cases q0 : (0 : Int) < (q : Int)
      · go_wp2
        go_loopg [7, 9] 1 (fun gh v7 i w2 => v7 = .int .i64 R ∧ i = .int .i64 0 ∧ w2 = wr)
        case atStart => exact ⟨rfl, rfl, rfl⟩
        case round =>
          obtain ⟨rfl, rfl, rfl⟩ := hrel
          go_wp2_with fail
          go_ret
          exact ⟨rfl, B1.out⟩
      · go_wp2
        go_loopg [7, 9] 1 (fun gh v7 i w2 => v7 = .int .i64 R ∧ i = .int .i64 0 ∧ w2 = wr)
        case atStart => exact ⟨rfl, rfl, rfl⟩
        case round =>
          obtain ⟨rfl, rfl, rfl⟩ := hrel
          go_wp2_with fail
          go_ret
          exact ⟨rfl, B1.out⟩
end Go.Proofs.Ythflbbjilebhlaa
namespace Go.Proofs.Ythflbbjilebhlaa
open Go Go.RowKit Go.Shelf Sc

set_option maxRecDepth 100000 in
set_option maxHeartbeats 4000000 in
theorem rHas_any (l : List Int) (x : Int) (v : Value) (w : World) (hi : IntsAt w v l) :
    Calls Try.prog 87 #[v, .int .i64 x] w fun e w' => e = .returned (.bool (l.any fun y => y == x)) ∧ Below w.heap.size w w' := by
  obtain ⟨lm, va, vc, rfl, lvc, _⟩ := id hi
  obtain ⟨n, hn⟩ : ∃ n, l.length = n := ⟨_, rfl⟩
  obtain ⟨R, hR⟩ : ∃ R, (l.any fun y => y == x) = R := ⟨_, rfl⟩
  rw [hR]
  rw [hn] at lm lvc hi ⊢
  have HI := Lib.hid hi
  have HN := Lib.hid hn
  have HR := Lib.hid hR
  have nI : (n : Int) ≤ 4611686018427387904 := by omega
  clear hi hn hR
  go_enter Try.func87, Try.ntmps87
  go_wp2
  go_loopg [5] n (fun gh i wr => ∃ (k : Nat), gh + k = n ∧ i = .int .i64 (k : Int) ∧ Hid ((l.take k).any (fun y => y == x) = false) ∧ w = wr)
  case atStart => exact ⟨0, by omega, rfl, rfl, rfl⟩
  case round =>
    obtain ⟨k, hk, rfl, HA, rfl⟩ := hrel
    by_cases hlt : k < n
    · have kI : (k : Int) < (n : Int) := by omega
      have kz : (0 : Int) ≤ (k : Int) := by omega
      have hk' : k < l.length := by rw [HN.out]; exact hlt
      obtain ⟨b, o, rfl, d0⟩ := HI.out.get hk'
      have HMO := Lib.hid (any_more (fun y => y == x) l k hk' HA.out)
      have HAT := Lib.hid (any_at (fun y => y == x) l k hk')
      obtain ⟨y, hy⟩ : ∃ y, l[k] = y := ⟨_, rfl⟩
      rw [hy] at d0 HMO HAT
      have dl := World.block_lt_of_cell? w ⟨b, o + k, none⟩ d0
      clear hk' hy
      cases hq : (y == x)
      · have HM2 := Lib.hid (HMO.out hq)
        go_wp2_with fail
        go_roundg (gk - 1)
        case measure => omega
        case rel => exact ⟨k + 1, by omega, by go_num, HM2, rfl⟩
      · have hr := HAT.out hq
        rw [HR.out] at hr
        have HRR := Lib.hid hr
        clear hr
        go_wp2_with fail
        go_ret
        first
          | exact ⟨rfl, Below.refl _ _⟩
          | exact ⟨congrArg (fun x => Ending.returned (.bool x)) HRR.out.symm, Below.refl _ _⟩
    · obtain rfl : k = n := by omega
      have kI : ¬ (k : Int) < (k : Int) := by omega
      have hr := HA.out
      rw [List.take_of_length_le (by rw [HN.out]; exact Nat.le_refl _), HR.out] at hr
      have HRR := Lib.hid hr
      clear hlt hk hr
      go_wp2_with fail
      go_ret
      first
        | exact ⟨rfl, Below.refl _ _⟩
        | exact ⟨congrArg (fun x => Ending.returned (.bool x)) HRR.out.symm, Below.refl _ _⟩
end Go.Proofs.Ythflbbjilebhlaa
namespace Go.Proofs.Ythflbbjilebhlaa
open Go Go.RowKit Go.Shelf Sc

/-- Does one of the points tell two scales apart? -/
def apB (c : Cse) (pts : List Int) (s t : Scl) : Bool := pts.any fun p => ((apartC c s t).any fun y => y == p)
def toldI (c : Cse) (l : List Scl) (pts : List Int) (i k : Nat) : Bool := (List.range k).all fun j => apB c pts (l.getD i default) (l.getD j default)
def toldTo (c : Cse) (l : List Scl) (pts : List Int) (k : Nat) : Bool := (List.range k).all fun i => toldI c l pts i i
def toldB (c : Cse) (l : List Scl) (pts : List Int) : Bool := toldTo c l pts l.length
theorem toldI_more {c : Cse} {l : List Scl} {pts : List Int} {i k : Nat} (h : toldI c l pts i k = true) (h2 : apB c pts (l.getD i default) (l.getD k default) = true) : toldI c l pts i (k + 1) = true := by
  unfold toldI at *
  rw [List.range_succ, List.all_append, h, List.all_cons, List.all_nil, h2]
  rfl
theorem toldTo_more {c : Cse} {l : List Scl} {pts : List Int} {k : Nat} (h : toldTo c l pts k = true) (h2 : toldI c l pts k k = true) : toldTo c l pts (k + 1) = true := by
  unfold toldTo at *
  rw [List.range_succ, List.all_append, h, List.all_cons, List.all_nil, h2]
  rfl
theorem toldB_no {c : Cse} {l : List Scl} {pts : List Int} {i k : Nat} (hi : i < l.length) (hk : k < i) (h : apB c pts (l.getD i default) (l.getD k default) = false) : toldB c l pts = false := by
  unfold toldB toldTo
  rw [List.all_eq_false]
  refine ⟨i, List.mem_range.2 hi, ?_⟩
  rw [Bool.not_eq_true]
  unfold toldI
  rw [List.all_eq_false]
  exact ⟨k, List.mem_range.2 hk, by rw [h]; simp⟩
set_option maxRecDepth 100000 in
set_option maxHeartbeats 16000000 in
theorem rTold_any (c : Cse) (hv rv lv pv : Value) (l : List Scl) (pts : List Int) (w : World) (hC : CseAt w c hv rv) (hS : PairsAt w lv l) (hP : IntsAt w pv pts) (hV : Valid c) (hok : ∀ s, s ∈ l → sclE s = 0) :
    Calls Try.prog 50 #[.agg #[.int .i64 c.kind, .int .i64 c.base, .int .i64 c.most, hv, rv], lv, pv] w fun e w' => e = .returned (.bool (toldB c l pts)) ∧ Below w.heap.size w w' := by
  obtain ⟨ha, n, hc, rfl⟩ : ∃ a n c, hv = .slice a n c := by obtain ⟨_, a, cap, h, _⟩ := hC.hs; exact ⟨_, _, _, h⟩
  obtain ⟨ra, m, rc, rfl⟩ : ∃ a n c, rv = .slice a n c := by obtain ⟨_, a, cap, h, _⟩ := hC.rd; exact ⟨_, _, _, h⟩
  obtain ⟨lm, la, lc, rfl, lmc, _⟩ := id hS
  obtain ⟨pm, pa, pc, rfl, pmc, _⟩ := id hP
  obtain ⟨q, hl⟩ : ∃ q, l.length = q := ⟨_, rfl⟩
  obtain ⟨np, hp⟩ : ∃ q, pts.length = q := ⟨_, rfl⟩
  rw [hl] at lm lmc hS ⊢
  rw [hp] at pm pmc hP ⊢
  obtain ⟨kind, hkind⟩ : ∃ x, c.kind = x := ⟨_, rfl⟩
  obtain ⟨base, hbase⟩ : ∃ x, c.base = x := ⟨_, rfl⟩
  obtain ⟨most, hmost⟩ : ∃ x, c.most = x := ⟨_, rfl⟩
  obtain ⟨R, hR⟩ : ∃ R, toldB c l pts = R := ⟨_, rfl⟩
  obtain ⟨W, hW, q1, hb⟩ : ∃ W, w.alloc (Obj.cells #[.int .i64 kind, .int .i64 base, .int .i64 most, .slice ha n hc, .slice ra m rc] 25) = W ∧ W.heap[w.heap.size]? = some (.cells #[.int .i64 kind, .int .i64 base, .int .i64 most, .slice ha n hc, .slice ra m rc] 25 (0, 0)) ∧ Below w.heap.size w W := ⟨_, rfl, heap_alloc_new _ _, by go_grown⟩
  have HDF : Hid (∀ s t V, CseAt V c (.slice ha n hc) (.slice ra m rc) → (1 ≤ s.1 ∧ s.1 ≤ 30 ∧ 1 ≤ s.2 ∧ s.2 ≤ 30) → (1 ≤ t.1 ∧ t.1 ≤ 30 ∧ 1 ≤ t.2 ∧ t.2 ≤ 30) → Calls Try.prog 66 #[.agg #[.int .i64 kind, .int .i64 base, .int .i64 most, .slice ha n hc, .slice ra m rc], .agg #[.int .i64 s.1, .int .i64 s.2], .agg #[.int .i64 t.1, .int .i64 t.2]] V fun e w' => (∃ a cap, e = .returned (.slice a (apartC c s t).length cap) ∧ IntsAt w' (.slice a (apartC c s t).length cap) (apartC c s t)) ∧ Below V.heap.size V w') := fun s t V h1 h3 h4 => by
    have h := rDiffer_any c _ _ s t V h1 hV h3 h4
    rw [hkind, hbase, hmost] at h
    refine h.mono ?_
    rintro e w' ⟨v, rfl, hi, hb⟩
    obtain ⟨_, a, cap, rfl, _⟩ := id hi
    exact ⟨⟨_, _, rfl, hi⟩, hb⟩
  have HRR := Lib.hid hR
  have HLN := Lib.hid hl
  have HPN := Lib.hid hp
  have HW := Lib.hid hW
  have HB := Lib.hid hb
  have C2 := Lib.hid (hC.below hb)
  have S2 := Lib.hid (hS.below hb)
  have P2 := Lib.hid (hP.below hb)
  have K2 := Lib.hid q1
  have HOK := Lib.hid hok
  have qI : (q : Int) ≤ 4611686018427387904 := by omega
  have pI : (np : Int) ≤ 4611686018427387904 := by omega
  rw [hR, hkind, hbase, hmost]
  clear hW hb q1 hC hS hP hkind hbase hmost hR hl hp hok hV
  go_enter Try.func50, Try.ntmps50
  go_upto_region 1 with fail
  rw [HW.out]
  go_wp2
  go_loopg [7] q (fun gh i wr => ∃ (i' : Nat), gh + i' = q ∧ i = .int .i64 (i' : Int) ∧ Hid (toldTo c l pts i' = true) ∧ Hid (Below W.heap.size W wr))
  case atStart => exact ⟨0, by omega, rfl, rfl, Below.refl _ _⟩
  case round =>
    obtain ⟨i, hi, rfl, HTO, HL⟩ := hrel
    by_cases hlt : i < q
    · have iI : (i : Int) < (q : Int) := by omega
      obtain ⟨g', rfl⟩ : ∃ g', gk = g' + 1 := ⟨gk - 1, by omega⟩
      go_wp2
      go_loopg [8] i (fun gh j w2 => ∃ (j' : Nat), gh + j' = i ∧ j = .int .i64 (j' : Int) ∧ Hid (toldI c l pts i j' = true) ∧ Hid (Below W.heap.size W w2))
      case atStart => exact ⟨0, by omega, rfl, rfl, HL⟩
      case round =>
        rename World => w2
        obtain ⟨j, hj, rfl, HTI, HL2⟩ := hrel
        by_cases hjt : j < i
        · have jI : (j : Int) < (i : Int) := by omega
          have jz : (0 : Int) ≤ (j : Int) := by omega
          have iz : (0 : Int) ≤ (i : Int) := by omega
          have jq : (j : Int) < (q : Int) := by omega
          obtain ⟨g2, rfl⟩ : ∃ g', gk = g' + 1 := ⟨gk - 1, by omega⟩
          have hi' : i < l.length := by rw [HLN.out]; exact hlt
          have hj' : j < l.length := by rw [HLN.out]; omega
          obtain ⟨b, o, rfl, dd⟩ : ∃ b o, la = some ⟨b, o, none⟩ ∧ ∀ V, Below W.heap.size W V → ∀ k (hk : k < l.length), V.cell? ⟨b, o + k * 2, none⟩ = some (.int .i64 l[k].1) ∧ V.cell? ⟨b, o + k * 2 + 1, none⟩ = some (.int .i64 l[k].2) := by
            obtain ⟨b, o, e, _⟩ := S2.out.get hi'
            refine ⟨b, o, e, fun V hV k hk => ?_⟩
            obtain ⟨b', o', e', h0, h1⟩ := (S2.out.below hV).get hk
            rw [e] at e'
            simp only [Option.some.injEq, Addr.mk.injEq, and_true] at e'
            obtain ⟨rfl, rfl⟩ := e'
            exact ⟨h0, h1⟩
          have hgi : l.getD i default = l[i] := by simp [List.getD_eq_getElem?_getD, hi']
          have hgj : l.getD j default = l[j] := by simp [List.getD_eq_getElem?_getD, hj']
          obtain ⟨s, hs⟩ : ∃ s, l[i] = s := ⟨_, rfl⟩
          obtain ⟨t, ht⟩ : ∃ t, l[j] = t := ⟨_, rfl⟩
          have hsb : 1 ≤ s.1 ∧ s.1 ≤ 30 ∧ 1 ≤ s.2 ∧ s.2 ≤ 30 := by
            have h := sclE_zero (HOK.out s (by rw [← hs]; exact List.getElem_mem hi'))
            exact ⟨h.1, h.2.1, h.2.2.1, h.2.2.2.1⟩
          have htb : 1 ≤ t.1 ∧ t.1 ≤ 30 ∧ 1 ≤ t.2 ∧ t.2 ≤ 30 := by
            have h := sclE_zero (HOK.out t (by rw [← ht]; exact List.getElem_mem hj'))
            exact ⟨h.1, h.2.1, h.2.2.1, h.2.2.2.1⟩
          have HCS := Lib.hid (fun V hV => by have h := dd V hV i hi'; rw [hs] at h; exact h)
          have HCT := Lib.hid (fun V hV => by have h := dd V hV j hj'; rw [ht] at h; exact h)
          have HD : Hid (∀ V, Below W.heap.size W V → _) := fun V hV => HDF.out s t V (C2.out.below hV) hsb htb
          have HYES : Hid (apB c pts s t = true → toldI c l pts i (j + 1) = true) := fun h => toldI_more HTI.out (by rw [hgi, hgj, hs, ht]; exact h)
          have HNO : Hid (apB c pts s t = false → R = false) := fun h => by rw [← HRR.out]; exact toldB_no hi' hjt (by rw [hgi, hgj, hs, ht]; exact h)
          obtain ⟨ap, hap⟩ : ∃ ap, apartC c s t = ap := ⟨_, rfl⟩
          have HAB : Hid (apB c pts s t = pts.any fun p => (ap.any fun y => y == p)) := by show _ = _; unfold apB; rw [hap]
          simp only [hap] at HD
          obtain ⟨d, hd⟩ : ∃ d, ap.length = d := ⟨_, rfl⟩
          rw [hd] at HD
          obtain ⟨X, hX⟩ : ∃ X, apB c pts s t = X := ⟨_, rfl⟩
          rw [hX] at HYES HNO HAB
          obtain ⟨s1, s2⟩ := s
          obtain ⟨t1, t2⟩ := t
          simp only at HCS HCT HD
          clear hi' hj' dd hgi hgj hs ht hsb htb hap hd hX
          have HALL : Hid (∀ V : World, Below W.heap.size W V → V.cell? ⟨w.heap.size, 0, none⟩ = some (.int .i64 kind) ∧ V.cell? ⟨w.heap.size, 1, none⟩ = some (.int .i64 base) ∧ V.cell? ⟨w.heap.size, 2, none⟩ = some (.int .i64 most) ∧ V.cell? ⟨w.heap.size, 3, none⟩ = some (.slice ha n hc) ∧ V.cell? ⟨w.heap.size, 4, none⟩ = some (.slice ra m rc) ∧ V.cell? ⟨b, o + i * 2, none⟩ = some (.int .i64 s1) ∧ V.cell? ⟨b, o + i * 2 + 1, none⟩ = some (.int .i64 s2) ∧ V.cell? ⟨b, o + j * 2, none⟩ = some (.int .i64 t1) ∧ V.cell? ⟨b, o + j * 2 + 1, none⟩ = some (.int .i64 t2)) := fun V hV => ⟨cellOf ((hV.block _ (lt_of_block K2.out)).trans K2.out) 0 _ rfl, cellOf ((hV.block _ (lt_of_block K2.out)).trans K2.out) 1 _ rfl, cellOf ((hV.block _ (lt_of_block K2.out)).trans K2.out) 2 _ rfl, cellOf ((hV.block _ (lt_of_block K2.out)).trans K2.out) 3 _ rfl, cellOf ((hV.block _ (lt_of_block K2.out)).trans K2.out) 4 _ rfl, (HCS.out V hV).1, (HCS.out V hV).2, (HCT.out V hV).1, (HCT.out V hV).2⟩
          obtain ⟨c0, c1, c2, c3, c4, d0, d1, g0, g1⟩ := HALL.out w2 HL2.out
          have dl := World.block_lt_of_cell? w2 ⟨b, o + i * 2, none⟩ d0
          have cl := World.block_lt_of_cell? w2 ⟨w.heap.size, 0, none⟩ c0
          go_wp2_with fail
          have KA : ∀ W' : World, Below w2.heap.size w2 W' → (W'.cell? ⟨w.heap.size, 0, none⟩ = some (.int .i64 kind) ∧ W'.cell? ⟨w.heap.size, 1, none⟩ = some (.int .i64 base) ∧ W'.cell? ⟨w.heap.size, 2, none⟩ = some (.int .i64 most) ∧ W'.cell? ⟨w.heap.size, 3, none⟩ = some (.slice ha n hc) ∧ W'.cell? ⟨w.heap.size, 4, none⟩ = some (.slice ra m rc) ∧ W'.cell? ⟨b, o + i * 2, none⟩ = some (.int .i64 s1) ∧ W'.cell? ⟨b, o + i * 2 + 1, none⟩ = some (.int .i64 s2) ∧ W'.cell? ⟨b, o + j * 2, none⟩ = some (.int .i64 t1) ∧ W'.cell? ⟨b, o + j * 2 + 1, none⟩ = some (.int .i64 t2) ∧ Below w2.heap.size w2 W') := fun W' hb => ⟨keepK c0 hb, keepK c1 hb, keepK c2 hb, keepK c3 hb, keepK c4 hb, keepK d0 hb, keepK d1 hb, keepK g0 hb, keepK g1 hb, hb⟩
          refine wp_region_noPanic ?_
          refine wp_region_held_drew (S := (fun W' => W'.cell? ⟨w.heap.size, 0, none⟩ = some (.int .i64 kind) ∧ W'.cell? ⟨w.heap.size, 1, none⟩ = some (.int .i64 base) ∧ W'.cell? ⟨w.heap.size, 2, none⟩ = some (.int .i64 most) ∧ W'.cell? ⟨w.heap.size, 3, none⟩ = some (.slice ha n hc) ∧ W'.cell? ⟨w.heap.size, 4, none⟩ = some (.slice ra m rc) ∧ W'.cell? ⟨b, o + i * 2, none⟩ = some (.int .i64 s1) ∧ W'.cell? ⟨b, o + i * 2 + 1, none⟩ = some (.int .i64 s2) ∧ W'.cell? ⟨b, o + j * 2, none⟩ = some (.int .i64 t1) ∧ W'.cell? ⟨b, o + j * 2 + 1, none⟩ = some (.int .i64 t2) ∧ Below w2.heap.size w2 W')) (by kernel_rfl) ?_ (fun hh0 => ?_)
          · exact KA _ (Below.refl _ _).drew
          refine wpAnyH_take (i := 0) (v := ?_) rfl (by as_aux_lemma => kernel_rfl) (by as_aux_lemma => kernel_rfl) (by as_aux_lemma => kernel_rfl) (fun _ _ _ h => h) (Or.inl ⟨by rfl, ?_⟩) (by assumption) ?_
          rotate_left
          · intro w hSw
            try dsimp only at hSw
            go_simp
            try with_reducible rfl
          try simp only [Act.put, List.getElem_toArray, List.getElem_cons_succ, List.getElem_cons_zero, List.setIfInBounds_toArray, List.set_cons_zero, List.set_cons_succ]
          refine wpAnyH_take (i := 1) (v := ?_) rfl (by as_aux_lemma => kernel_rfl) (by as_aux_lemma => kernel_rfl) (by as_aux_lemma => kernel_rfl) (fun _ _ _ h => h) (Or.inl ⟨by rfl, ?_⟩) (by assumption) ?_
          rotate_left
          · intro w hSw
            try dsimp only at hSw
            go_simp
            try with_reducible rfl
          try simp only [Act.put, List.getElem_toArray, List.getElem_cons_succ, List.getElem_cons_zero, List.setIfInBounds_toArray, List.set_cons_zero, List.set_cons_succ]
          refine wpAnyH_take (i := 2) (v := ?_) rfl (by as_aux_lemma => kernel_rfl) (by as_aux_lemma => kernel_rfl) (by as_aux_lemma => kernel_rfl) (fun _ _ _ h => h) (Or.inl ⟨by rfl, ?_⟩) (by assumption) ?_
          rotate_left
          · intro w hSw
            try dsimp only at hSw
            go_simp
            try with_reducible rfl
          try simp only [Act.put, List.getElem_toArray, List.getElem_cons_succ, List.getElem_cons_zero, List.setIfInBounds_toArray, List.set_cons_zero, List.set_cons_succ]
          refine wpAnyH_take (i := 3) (v := ?_) rfl (by as_aux_lemma => kernel_rfl) (by as_aux_lemma => kernel_rfl) (by as_aux_lemma => kernel_rfl) (fun _ _ _ h => h) (Or.inl ⟨by rfl, ?_⟩) (by assumption) ?_
          rotate_left
          · intro w hSw
            try dsimp only at hSw
            go_simp
            try with_reducible rfl
          try simp only [Act.put, List.getElem_toArray, List.getElem_cons_succ, List.getElem_cons_zero, List.setIfInBounds_toArray, List.set_cons_zero, List.set_cons_succ]
          refine wpAnyH_take (i := 4) (v := ?_) rfl (by as_aux_lemma => kernel_rfl) (by as_aux_lemma => kernel_rfl) (by as_aux_lemma => kernel_rfl) (fun _ _ _ h => h) (Or.inl ⟨by rfl, ?_⟩) (by assumption) ?_
          rotate_left
          · intro w hSw
            try dsimp only at hSw
            go_simp
            try with_reducible rfl
          try simp only [Act.put, List.getElem_toArray, List.getElem_cons_succ, List.getElem_cons_zero, List.setIfInBounds_toArray, List.set_cons_zero, List.set_cons_succ]
          refine wpAnyH_take (i := 5) (v := ?_) rfl (by as_aux_lemma => kernel_rfl) (by as_aux_lemma => kernel_rfl) (by as_aux_lemma => kernel_rfl) (fun _ _ _ h => h) (Or.inl ⟨by rfl, ?_⟩) (by assumption) ?_
          rotate_left
          · intro w hSw
            try dsimp only at hSw
            go_simp
            try with_reducible rfl
          try simp only [Act.put, List.getElem_toArray, List.getElem_cons_succ, List.getElem_cons_zero, List.setIfInBounds_toArray, List.set_cons_zero, List.set_cons_succ]
          refine wpAnyH_take (i := 6) (v := ?_) rfl (by as_aux_lemma => kernel_rfl) (by as_aux_lemma => kernel_rfl) (by as_aux_lemma => kernel_rfl) (fun _ _ _ h => h) (Or.inl ⟨by rfl, ?_⟩) (by assumption) ?_
          rotate_left
          · intro w hSw
            try dsimp only at hSw
            go_simp
            try with_reducible rfl
          try simp only [Act.put, List.getElem_toArray, List.getElem_cons_succ, List.getElem_cons_zero, List.setIfInBounds_toArray, List.set_cons_zero, List.set_cons_succ]
          refine wpAnyH_take (i := 7) (v := ?_) rfl (by as_aux_lemma => kernel_rfl) (by as_aux_lemma => kernel_rfl) (by as_aux_lemma => kernel_rfl) (fun _ _ _ h => h) (Or.inl ⟨by rfl, ?_⟩) (by assumption) ?_
          rotate_left
          · intro w hSw
            try dsimp only at hSw
            go_simp
            try with_reducible rfl
          try simp only [Act.put, List.getElem_toArray, List.getElem_cons_succ, List.getElem_cons_zero, List.setIfInBounds_toArray, List.set_cons_zero, List.set_cons_succ]
          refine wpAnyH_take (i := 8) (v := ?_) rfl (by as_aux_lemma => kernel_rfl) (by as_aux_lemma => kernel_rfl) (by as_aux_lemma => kernel_rfl) (fun _ _ _ h => h) (Or.inl ⟨by rfl, ?_⟩) (by assumption) ?_
          rotate_left
          · intro w hSw
            try dsimp only at hSw
            go_simp
            try with_reducible rfl
          try simp only [Act.put, List.getElem_toArray, List.getElem_cons_succ, List.getElem_cons_zero, List.setIfInBounds_toArray, List.set_cons_zero, List.set_cons_succ]
          refine wpAnyH_ready (rs := [9]) (by as_aux_lemma => kernel_rfl) (by simp) ?_
          refine AllReadyH.cons rfl (fun K hK => ?_) AllReadyH.nil
          go_simp
          refine (HD.out _ (HL2.out.trans (Below.mono hh0.2.2.2.2.2.2.2.2.2 HL2.out.size))).mono ?_
          rintro e w9 ⟨⟨va, vc, rfl, HDD⟩, hb9⟩
          refine hK.out _ _ (KA _ (Below.trans hh0.2.2.2.2.2.2.2.2.2 (Below.mono hb9 (hh0.2.2.2.2.2.2.2.2.2).size))) (fun hh1 => ?_)
          clear hK K
          try simp only [Act.put, List.getElem_toArray, List.getElem_cons_succ, List.getElem_cons_zero, List.setIfInBounds_toArray, List.set_cons_zero, List.set_cons_succ]
          refine wpAnyH_ready (rs := [10]) (by as_aux_lemma => kernel_rfl) (by simp) ?_
          refine AllReadyH.cons rfl (fun K hK => ?_) AllReadyH.nil
          go_simp
          refine hK.out _ _ hh1 (fun hh2 => ?_)
          clear hK K
          try simp only [Act.put, List.getElem_toArray, List.getElem_cons_succ, List.getElem_cons_zero, List.setIfInBounds_toArray, List.set_cons_zero, List.set_cons_succ]
          refine wpAnyH_done (by as_aux_lemma => kernel_rfl) ?_ _
          refine NoPanic.normal ?_
          have HBZ := Lib.hid (hh2.2.2.2.2.2.2.2.2.2)
          have L9 := Lib.hid (HL2.out.trans (HBZ.out.mono HL2.out.size))
          have D9 := Lib.hid HDD
          clear KA c0 c1 c2 c3 c4 cl d0 d1 g0 g1 dl HDD
          go_wp2
          go_loopg [9, 11] np (fun gh is i w3 => ∃ (k : Nat), gh + k = np ∧ i = .int .i64 (k : Int) ∧ is = .bool ((pts.take k).any fun p => (ap.any fun y => y == p)) ∧ Hid (Below w9.heap.size w9 w3))
          case atStart => exact ⟨0, by omega, rfl, by simp, Below.refl _ _⟩
          case round =>
            rename World => w3
            obtain ⟨k, hk, rfl, rfl, HL3⟩ := hrel
            by_cases hkt : k < np
            · have kI : (k : Int) < (np : Int) := by omega
              have kz : (0 : Int) ≤ (k : Int) := by omega
              have hk' : k < pts.length := by rw [HPN.out]; exact hkt
              have hbw := L9.out.trans (HL3.out.mono L9.out.size)
              obtain ⟨pb, po, rfl, e0⟩ := (P2.out.below hbw).get hk'
              have hHas := rHas_any ap pts[k] (.slice va d vc) w3 (D9.out.below HL3.out)
              have htk : (pts.take (k + 1)).any (fun p => (ap.any fun y => y == p)) = ((pts.take k).any (fun p => (ap.any fun y => y == p)) || (ap.any fun y => y == pts[k])) := by
                rw [List.take_succ_eq_append_getElem hk', List.any_append]; simp
              obtain ⟨x, hx⟩ : ∃ x, pts[k] = x := ⟨_, rfl⟩
              rw [hx] at e0 hHas htk
              obtain ⟨Y, hY⟩ : ∃ Y, ((pts.take k).any fun p => (ap.any fun y => y == p)) = Y := ⟨_, rfl⟩
              obtain ⟨Z, hZ⟩ : ∃ Z, (ap.any fun y => y == x) = Z := ⟨_, rfl⟩
              rw [hY, hZ] at htk
              rw [hZ] at hHas
              rw [hY]
              have HTK := Lib.hid htk
              have HHS := Lib.hid hHas
              have el := World.block_lt_of_cell? w3 _ e0
              clear hk' hHas htk hx hY hZ hbw
              cases Y
              · go_wp2_with fail
                refine HHS.out.mono ?_
                rintro e w4 ⟨rfl, hb4⟩
                have L4 := Lib.hid (HL3.out.trans (hb4.mono HL3.out.size))
                clear hb4 e0 el HHS
                go_wp2_with fail
                go_roundg (gk - 1)
                case measure => omega
                case rel => exact ⟨k + 1, by omega, by go_num, by rw [HTK.out]; simp, L4⟩
              · clear e0 el HHS
                go_wp2_with fail
                go_roundg (gk - 1)
                case measure => omega
                case rel => exact ⟨k + 1, by omega, by go_num, by rw [HTK.out]; simp, HL3⟩
            · obtain rfl : k = np := by omega
              have kI : ¬ (k : Int) < (k : Int) := by omega
              have hfin : ((pts.take k).any fun p => (ap.any fun y => y == p)) = X := by rw [List.take_of_length_le (by rw [HPN.out]; exact Nat.le_refl _)]; exact HAB.out.symm
              rw [hfin]
              have L4 := Lib.hid (L9.out.trans (HL3.out.mono L9.out.size))
              clear hfin hkt hk
              cases X
              · obtain rfl : R = false := HNO.out rfl
                go_wp2_with fail
                go_ret
                exact ⟨rfl, HB.out.trans (L4.out.mono HB.out.size)⟩
              · have hy := HYES.out rfl
                go_wp2_with fail
                go_roundg g2
                case measure => omega
                case rel => exact ⟨j + 1, by omega, by go_num, hy, L4⟩
        · obtain rfl : j = i := by omega
          have jI : ¬ (j : Int) < (j : Int) := by omega
          have hnx := toldTo_more HTO.out HTI.out
          clear hjt
          go_wp2_with fail
          go_roundg g'
          case measure => omega
          case rel => exact ⟨j + 1, by omega, by go_num, hnx, HL2⟩
    · obtain rfl : i = q := by omega
      have iI : ¬ (i : Int) < (i : Int) := by omega
      obtain rfl : R = true := by rw [← HRR.out]; unfold toldB; rw [HLN.out]; exact HTO.out
      clear hlt hi
      go_wp2_with fail
      go_ret
      exact ⟨rfl, HB.out.trans (HL.out.mono HB.out.size)⟩
end Go.Proofs.Ythflbbjilebhlaa
namespace Go.Proofs.Ythflbbjilebhlaa
open Go Go.RowKit Go.Shelf Sc

theorem fromL_snoc (xs : List Int) (p : Nat) : fromL (xs ++ [(p : Int)]) = p + 1 := by
  unfold fromL
  rw [if_neg (by simp)]
  simp [List.getD_eq_getElem?_getD]
theorem lsF_lstM (n : Nat) : ∀ (m : Nat) (xs : List Int) (fr : Nat), fromL xs = fr → lsF n m xs fr = lstM n m xs
  | 0, _, _, _ => rfl
  | m + 1, xs, fr, h => by
    subst h
    unfold lsF lstM
    rw [List.range'_eq_map_range, List.flatMap_map]
    congr 1
    funext d
    exact lsF_lstM n m _ _ (fromL_snoc xs (fromL xs + d))
theorem lsF_lst0 (n m : Nat) : lsF n m [] 0 = lstM n m [] := lsF_lstM n m [] 0 rfl
theorem seenF_iff (l : List (List Int)) : ∀ acc, (l.foldl seenI acc).length = acc.length + l.length ↔ (l.Nodup ∧ ∀ y, y ∈ l → y ∉ acc) := by
  induction l with
  | nil => intro acc; simp
  | cons x l ih =>
    intro acc
    rw [List.foldl_cons, List.nodup_cons]
    unfold seenI
    by_cases hx : x ∈ acc
    · rw [if_pos hx]
      constructor
      · intro h
        have := seenF_le l acc
        simp at h
        unfold seenI at *
        omega
      · rintro ⟨_, h⟩
        exact absurd hx (h x (by simp))
    · rw [if_neg hx]
      have h := ih (acc ++ [x])
      unfold seenI at h
      rw [List.length_append, List.length_singleton] at h
      rw [List.length_cons, show acc.length + (l.length + 1) = acc.length + 1 + l.length by omega, h]
      constructor
      · rintro ⟨h1, h2⟩
        refine ⟨⟨fun hm => ?_, h1⟩, fun y hy => ?_⟩
        · have := h2 x hm; simp at this
        · rcases List.mem_cons.1 hy with rfl | hy
          · exact hx
          · have := h2 y hy; simp at this; exact this.1
      · rintro ⟨⟨h1, h2⟩, h3⟩
        refine ⟨h2, fun y hy => ?_⟩
        rw [List.mem_append, List.mem_singleton]
        rintro (h | rfl)
        · exact h3 y (by simp [hy]) h
        · exact h1 hy
theorem seenK_iff (l : List (List Int)) : (seenK l).length = l.length ↔ l.Nodup := by
  have h := seenF_iff l []
  simp only [List.length_nil, Nat.zero_add, List.not_mem_nil, not_false_eq_true, implies_true, and_true] at h
  exact h
theorem onlyL_get (x pts : List Int) (i : Nat) (h : i < 8) : (onlyL x pts).getD i 0 = if (i : Int) ∈ pts then x.getD i 0 else 0 := by
  simp [onlyL, List.getD_eq_getElem?_getD, h]
theorem mem_apart {c : Cse} {s t : Scl} (p : Int) : p ∈ apartC c s t ↔ ∃ i : Nat, p = (i : Int) ∧ i < c.hs.length ∧ (cut8 c s).getD i 0 ≠ (cut8 c t).getD i 0 := by
  unfold apartC apTo
  simp only [List.mem_map, List.mem_filter, List.mem_range, bne_iff_ne]
  constructor
  · rintro ⟨i, ⟨h1, h2⟩, rfl⟩; exact ⟨i, rfl, h1, h2⟩
  · rintro ⟨i, rfl, h1, h2⟩; exact ⟨i, ⟨h1, h2⟩, rfl⟩
theorem apB_iff {c : Cse} {pts : List Int} (hp : ∀ p, p ∈ pts → 0 ≤ p ∧ p < 8) (h8 : c.hs.length ≤ 8) (s t : Scl) : apB c pts s t = true ↔ onlyL (cut8 c s) pts ≠ onlyL (cut8 c t) pts := by
  unfold apB
  rw [List.any_eq_true]
  constructor
  · rintro ⟨p, hpp, h⟩ e
    rw [List.any_eq_true] at h
    obtain ⟨y, hy, hyp⟩ := h
    have : y = p := by simpa using hyp
    subst this
    obtain ⟨i, rfl, hi, hne⟩ := (mem_apart y).1 hy
    have e1 := onlyL_get (cut8 c s) pts i (by omega)
    have e2 := onlyL_get (cut8 c t) pts i (by omega)
    rw [e, e2, if_pos hpp, if_pos hpp] at e1
    exact hne e1.symm
  · intro hne
    refine Classical.byContradiction fun hno => hne ?_
    apply List.ext_getElem?
    intro i
    rcases Nat.lt_or_ge i 8 with hi | hi
    · have l1 := onlyL_length (cut8 c s) pts
      have l2 := onlyL_length (cut8 c t) pts
      have key : (onlyL (cut8 c s) pts).getD i 0 = (onlyL (cut8 c t) pts).getD i 0 := by
        rw [onlyL_get _ _ i hi, onlyL_get _ _ i hi]
        by_cases hm : (i : Int) ∈ pts
        · rw [if_pos hm, if_pos hm]
          rcases Nat.lt_or_ge i c.hs.length with hn | hn
          · refine Classical.byContradiction fun hd => hno ⟨(i : Int), hm, ?_⟩
            rw [List.any_eq_true]
            exact ⟨(i : Int), (mem_apart _).2 ⟨i, rfl, hn, hd⟩, by simp⟩
          · rw [cut8_zero c s i hn, cut8_zero c t i hn]
        · rw [if_neg hm, if_neg hm]
      rw [List.getElem?_eq_getElem (by omega), List.getElem?_eq_getElem (by omega)]
      simpa [List.getD_eq_getElem?_getD, l1, l2, hi] using key
    · rw [List.getElem?_eq_none (by rw [onlyL_length]; exact hi), List.getElem?_eq_none (by rw [onlyL_length]; exact hi)]
/-- What the reference says of the points is what the program says of them. -/
theorem told_tell {c : Cse} {l : List Scl} {pts : List Int} (hp : ∀ p, p ∈ pts → 0 ≤ p ∧ p < 8) (h8 : c.hs.length ≤ 8) : toldB c l pts = tellB c l pts := by
  unfold tellB
  rw [Bool.eq_iff_iff, decide_eq_true_eq]
  have hs := seenK_iff (l.map fun s => onlyL (cut8 c s) pts)
  rw [List.length_map] at hs
  rw [hs, List.Nodup, List.pairwise_iff_getElem]
  unfold toldB toldTo
  rw [List.all_eq_true]
  constructor
  · intro h i j hi hj hij
    have hj' : j < l.length := by simpa using hj
    have h1 := h j (List.mem_range.2 hj')
    unfold toldI at h1
    rw [List.all_eq_true] at h1
    have h2 := (apB_iff hp h8 _ _).1 (h1 i (List.mem_range.2 hij))
    have hi' : i < l.length := by omega
    simp only [List.getD_eq_getElem?_getD, List.getElem?_eq_getElem hj', List.getElem?_eq_getElem hi', Option.getD_some] at h2
    simpa using fun e => h2 e.symm
  · intro h i hi
    unfold toldI
    rw [List.all_eq_true]
    intro j hj
    have hi' := List.mem_range.1 hi
    have hj' := List.mem_range.1 hj
    have h1 := h j i (by simp; omega) (by simpa using hi') hj'
    refine (apB_iff hp h8 _ _).2 ?_
    simp only [List.getD_eq_getElem?_getD, List.getElem?_eq_getElem hi', List.getElem?_eq_getElem (show j < l.length by omega), Option.getD_some]
    simpa using fun e => h1 (by simpa using e.symm)
theorem tellE_zero {c : Cse} {l : List Scl} (h : tellE c l = 0) : errC c = 0 ∧ ¬ 6 < l.length ∧ (∀ s, s ∈ l → sclE s = 0) := by
  by_cases h0 : errC c = 0
  · by_cases h6 : 6 < l.length
    · rw [tellE_2 h0 h6] at h; cases h
    · by_cases h3 : scsE l = 0
      · exact ⟨h0, h6, scsE_zero h3⟩
      · rw [tellE_3 h0 h6 h3] at h; exact absurd h h3
  · rw [tellE_1 h0] at h; exact absurd h h0
set_option maxRecDepth 100000 in
set_option maxHeartbeats 16000000 in
theorem rTell_any (c : Cse) (hv rv lv : Value) (l : List Scl) (w : World) (hC : CseAt w c hv rv) (hS : PairsAt w lv l) :
    Calls Try.prog 35 #[.agg #[.int .i64 c.kind, .int .i64 c.base, .int .i64 c.most, hv, rv], lv] w (IntsP (tellC c l) (tellE c l) w) := by
  unfold IntsP
  obtain ⟨ha, n, hc, rfl⟩ : ∃ a n c, hv = .slice a n c := by obtain ⟨_, a, cap, h, _⟩ := hC.hs; exact ⟨_, _, _, h⟩
  obtain ⟨ra, m, rc, rfl⟩ : ∃ a n c, rv = .slice a n c := by obtain ⟨_, a, cap, h, _⟩ := hC.rd; exact ⟨_, _, _, h⟩
  obtain rfl : n = c.hs.length := by obtain ⟨_, a, cap, h, _⟩ := hC.hs; simp only [Value.slice.injEq] at h; exact h.2.1
  obtain ⟨n, hn⟩ : ∃ n, c.hs.length = n := ⟨_, rfl⟩
  rw [hn] at hC ⊢
  obtain ⟨lm, la, lc, rfl, lmc, _⟩ := id hS
  obtain ⟨q, hl⟩ : ∃ q, l.length = q := ⟨_, rfl⟩
  rw [hl] at lm lmc hS ⊢
  obtain ⟨kind, hkind⟩ : ∃ x, c.kind = x := ⟨_, rfl⟩
  obtain ⟨base, hbase⟩ : ∃ x, c.base = x := ⟨_, rfl⟩
  obtain ⟨most, hmost⟩ : ∃ x, c.most = x := ⟨_, rfl⟩
  obtain ⟨RE, hRE⟩ : ∃ R, tellE c l = R := ⟨_, rfl⟩
  obtain ⟨RL, hRL⟩ : ∃ R, tellC c l = R := ⟨_, rfl⟩
  obtain ⟨W, hW, q1, hb⟩ : ∃ W, w.alloc (Obj.cells #[.int .i64 kind, .int .i64 base, .int .i64 most, .slice ha n hc, .slice ra m rc] 25) = W ∧ W.heap[w.heap.size]? = some (.cells #[.int .i64 kind, .int .i64 base, .int .i64 most, .slice ha n hc, .slice ra m rc] 25 (0, 0)) ∧ Below w.heap.size w W := ⟨_, rfl, heap_alloc_new _ _, by go_grown⟩
  have h1 := rList_any c _ _ _ l W (hC.below hb) (hS.below hb)
  rw [hRE, hkind, hbase, hmost] at h1
  have HTD : Hid (∀ pv pts V, CseAt V c (.slice ha n hc) (.slice ra m rc) → PairsAt V (.slice la q lc) l → IntsAt V pv pts → Valid c → (∀ s, s ∈ l → sclE s = 0) → Calls Try.prog 50 #[.agg #[.int .i64 kind, .int .i64 base, .int .i64 most, .slice ha n hc, .slice ra m rc], .slice la q lc, pv] V fun e w' => e = .returned (.bool (toldB c l pts)) ∧ Below V.heap.size V w') := fun pv pts V h1 h2 h3 h4 h5 => by
    have h := rTold_any c _ _ _ pv l pts V h1 h2 h3 h4 h5
    rw [hkind, hbase, hmost] at h
    exact h
  have HRE := Lib.hid hRE
  have HRL := Lib.hid hRL
  have HN := Lib.hid hn
  have HLN := Lib.hid hl
  have H1 := Lib.hid h1
  have HW := Lib.hid hW
  have HB := Lib.hid hb
  have HC := Lib.hid (hC.below hb)
  have HS := Lib.hid (hS.below hb)
  have Q1 := Lib.hid q1
  have c0 := cellOf q1 0 (.int .i64 kind) rfl
  have c1 := cellOf q1 1 (.int .i64 base) rfl
  have c2 := cellOf q1 2 (.int .i64 most) rfl
  have c3 := cellOf q1 3 (.slice ha n hc) rfl
  have c4 := cellOf q1 4 (.slice ra m rc) rfl
  have cl := lt_of_block q1
  rw [hRE, hRL, hkind, hbase, hmost]
  clear h1 hW hb q1 hC hS hRE hRL hn hl hkind hbase hmost
  go_enter Try.func35, Try.ntmps35
  go_upto_region 1 with fail
  rw [HW.out]
  go_wp2_with fail
  refine H1.out.mono ?_
  rintro e w1 ⟨rfl, hb⟩
  have B1 := Lib.hid (HB.out.trans (hb.mono HB.out.size))
  have K1 := Lib.hid ((hb.block _ (lt_of_block Q1.out)).trans Q1.out)
  have C1 := Lib.hid (HC.out.below hb)
  have S1 := Lib.hid (HS.out.below hb)
  clear hb c0 c1 c2 c3 c4 cl H1 HC HS HW Q1 HB
  by_cases h0 : RE = 0
  · subst h0
    obtain ⟨e0, e6, hok⟩ := tellE_zero HRE.out
    have HVA := Lib.hid (valid_of e0)
    have HOK := Lib.hid hok
    have n8 : n ≤ 8 := by rw [← HN.out]; exact HVA.out.n8
    have nI : (n : Int) ≤ 8 := by omega
    have hrl := HRL.out
    unfold tellC at hrl
    rw [HN.out] at hrl
    obtain ⟨f, hf⟩ : ∃ f : List Int → Bool, tellB c l = f := ⟨_, rfl⟩
    rw [hf] at hrl
    have HRR := Lib.hid hrl
    have HFF : Hid (∀ y, y ∈ allL n → toldB c l y = f y) := fun y hy => by rw [← hf]; exact told_tell (fun p hp => by have := (allL_mem hy).2 p hp; omega) HVA.out.n8
    clear e0 e6 hok hrl hf
    go_wp2
    go_loopg [7] (n + 1) (fun gh i wr => ∃ (k : Nat), gh + k = n + 1 ∧ i = .int .i64 (k : Int) ∧ Hid ((allTo n k).find? f = none) ∧ Hid (Below w1.heap.size w1 wr))
    case atStart => exact ⟨0, by omega, rfl, rfl, Below.refl _ _⟩
    case round =>
      obtain ⟨k, hk, rfl, HF0, HL⟩ := hrel
      have K2 := Lib.hid ((HL.out.block _ (lt_of_block K1.out)).trans K1.out)
      have k3 := cellOf K2.out 3 (.slice ha n hc) rfl
      have kl := lt_of_block K2.out
      by_cases hlt : k ≤ n
      · have kI : (k : Int) ≤ (n : Int) := by omega
        obtain ⟨g', rfl⟩ : ∃ g', gk = g' + 1 := ⟨gk - 1, by omega⟩
        have hcall := rlists_any n n8 k [] (.slice none 0 0) wr wr.heap.size (by omega) (Nat.le_refl _) (World.ownsRow_nil ..) (by simp; omega) (fun x hx => by cases hx)
        have HCL := Lib.hid hcall
        clear hcall
        go_wp2_with fail
        refine HCL.out.mono ?_
        rintro e w2 ⟨v, cur, rfl, hls, hb⟩
        rw [← lsF_lst0] at hls
        obtain ⟨LL, hLL⟩ : ∃ LL, lsF n k [] 0 = LL := ⟨_, rfl⟩
        rw [hLL] at hls
        obtain ⟨va, vc, rfl⟩ := own_slice hls.outer
        have hnx := allTo_next n k
        rw [hLL] at hnx
        have HNX := Lib.hid hnx
        have HPRE : Hid (allTo n (k + 1) <+: allL n) := allTo_pre n (k + 1) (n + 1) (by omega)
        have L2 := Lib.hid (HL.out.trans (hb.mono HL.out.size))
        have K3 := Lib.hid ((hb.block _ (lt_of_block K2.out)).trans K2.out)
        have C3 := Lib.hid (C1.out.below L2.out)
        have S3 := Lib.hid (S1.out.below L2.out)
        have HLS := Lib.hid hls
        obtain ⟨z, hz⟩ : ∃ z, LL.length = z := ⟨_, rfl⟩
        have HZ := Lib.hid hz
        have zI : (z : Int) ≤ 1000000000 := by
          have h1 := lstM_len n n8 k []
          have h2 : 8 ^ k ≤ 8 ^ 8 := Nat.pow_le_pow_right (by decide) (by omega)
          rw [← lsF_lst0, hLL, hz] at h1
          omega
        rw [hz]
        clear hls hb hLL hnx hz k3 kl HCL
        go_wp2
        go_loopg [9] z (fun gh i w3 => ∃ (j : Nat), gh + j = z ∧ i = .int .i64 (j : Int) ∧ Hid ((LL.take j).find? f = none) ∧ Hid (Below w2.heap.size w2 w3))
        case atStart => exact ⟨0, by omega, rfl, rfl, Below.refl _ _⟩
        case round =>
          rename World => w3
          obtain ⟨j, hj, rfl, HFJ, HL3⟩ := hrel
          by_cases hjt : j < z
          · have jI : (j : Int) < (z : Int) := by omega
            have jz : (0 : Int) ≤ (j : Int) := by omega
            have hj' : j < LL.length := by rw [HZ.out]; exact hjt
            obtain ⟨g, gc, sa, sc, ev, hcell, hrow⟩ := HLS.out.cell hj'
            simp only [Value.slice.injEq] at ev
            obtain ⟨rfl, _, rfl⟩ := ev
            obtain ⟨y, hy⟩ : ∃ y, LL[j] = y := ⟨_, rfl⟩
            rw [hy] at hcell hrow
            have hyall : y ∈ allL n := by
              have h1 : y ∈ LL := by rw [← hy]; exact List.getElem_mem hj'
              exact HPRE.out.subset (by rw [HNX.out]; exact List.mem_append_right _ h1)
            have hylen : y.length ≤ 8 := by have := (allL_mem hyall).1; omega
            have hints : IntsAt w2 (.slice sa y.length sc) y := intsAt_own hrow (by omega)
            have hfy := HFF.out y hyall
            have hfind : f y = true → RL = y := fun h => by
              have h1 : (allL n).find? f = some y := by
                refine find_at (q := allTo n k ++ LL.take j) ?_ (fun z hz => ?_) h
                · refine List.IsPrefix.trans ?_ HPRE.out
                  rw [HNX.out, List.append_assoc]
                  refine (List.prefix_append_right_inj _).2 ?_
                  rw [← hy, ← List.take_succ_eq_append_getElem hj']
                  exact List.take_prefix _ _
                · rcases List.mem_append.1 hz with h | h
                  · simpa using List.find?_eq_none.1 HF0.out z h
                  · simpa using List.find?_eq_none.1 HFJ.out z h
              rw [← HRR.out, h1]; rfl
            have hmore : f y = false → (LL.take (j + 1)).find? f = none := fun h => by
              rw [List.take_succ_eq_append_getElem hj', List.find?_append, HFJ.out, hy]
              simp [h]
            obtain ⟨ln, hln⟩ : ∃ z, y.length = z := ⟨_, rfl⟩
            rw [hln] at hcell hints
            have HTL : Hid (∀ V, Below w2.heap.size w2 V → _) := fun V hV => HTD.out (.slice sa ln sc) y V (C3.out.below hV) (S3.out.below hV) (hints.below hV) HVA.out HOK.out
            rw [hfy] at HTL
            have HIN := Lib.hid hints
            have HFI := Lib.hid hfind
            have HMO := Lib.hid hmore
            obtain ⟨X, hX⟩ : ∃ X, f y = X := ⟨_, rfl⟩
            rw [hX] at HTL HFI HMO
            have HCE := Lib.hid hcell
            have HALL : Hid (∀ V : World, Below w2.heap.size w2 V → V.cell? ⟨w.heap.size, 0, none⟩ = some (.int .i64 kind) ∧ V.cell? ⟨w.heap.size, 1, none⟩ = some (.int .i64 base) ∧ V.cell? ⟨w.heap.size, 2, none⟩ = some (.int .i64 most) ∧ V.cell? ⟨w.heap.size, 3, none⟩ = some (.slice ha n hc) ∧ V.cell? ⟨w.heap.size, 4, none⟩ = some (.slice ra m rc) ∧ V.cell? ⟨g, j, none⟩ = some (.slice sa ln sc)) := fun V hV => ⟨cellOf ((hV.block _ (lt_of_block K3.out)).trans K3.out) 0 _ rfl, cellOf ((hV.block _ (lt_of_block K3.out)).trans K3.out) 1 _ rfl, cellOf ((hV.block _ (lt_of_block K3.out)).trans K3.out) 2 _ rfl, cellOf ((hV.block _ (lt_of_block K3.out)).trans K3.out) 3 _ rfl, cellOf ((hV.block _ (lt_of_block K3.out)).trans K3.out) 4 _ rfl, keepK HCE.out hV⟩
            obtain ⟨c0, c1, c2, c3, c4, d0⟩ := HALL.out w3 HL3.out
            have dl := World.block_lt_of_cell? w3 ⟨g, j, none⟩ d0
            have cl := World.block_lt_of_cell? w3 ⟨w.heap.size, 0, none⟩ c0
            clear hj' hcell hrow hy hyall hylen hints hfy hfind hmore hln hX
            cases X
            · have hm := HMO.out rfl
              go_wp2_with fail
              have KA : ∀ W' : World, Below w3.heap.size w3 W' → (W'.cell? ⟨w.heap.size, 0, none⟩ = some (.int .i64 kind) ∧ W'.cell? ⟨w.heap.size, 1, none⟩ = some (.int .i64 base) ∧ W'.cell? ⟨w.heap.size, 2, none⟩ = some (.int .i64 most) ∧ W'.cell? ⟨w.heap.size, 3, none⟩ = some (.slice ha n hc) ∧ W'.cell? ⟨w.heap.size, 4, none⟩ = some (.slice ra m rc) ∧ W'.cell? ⟨g, j, none⟩ = some (.slice sa ln sc) ∧ Below w3.heap.size w3 W') := fun W' hb => ⟨keepK c0 hb, keepK c1 hb, keepK c2 hb, keepK c3 hb, keepK c4 hb, keepK d0 hb, hb⟩
              refine wp_region_noPanic ?_
              refine wp_region_held_drew (S := (fun W' => W'.cell? ⟨w.heap.size, 0, none⟩ = some (.int .i64 kind) ∧ W'.cell? ⟨w.heap.size, 1, none⟩ = some (.int .i64 base) ∧ W'.cell? ⟨w.heap.size, 2, none⟩ = some (.int .i64 most) ∧ W'.cell? ⟨w.heap.size, 3, none⟩ = some (.slice ha n hc) ∧ W'.cell? ⟨w.heap.size, 4, none⟩ = some (.slice ra m rc) ∧ W'.cell? ⟨g, j, none⟩ = some (.slice sa ln sc) ∧ Below w3.heap.size w3 W')) (by kernel_rfl) ?_ (fun hh0 => ?_)
              · exact KA _ (Below.refl _ _).drew
              refine wpAnyH_take (i := 0) (v := ?_) rfl (by as_aux_lemma => kernel_rfl) (by as_aux_lemma => kernel_rfl) (by as_aux_lemma => kernel_rfl) (fun _ _ _ h => h) (Or.inl ⟨by rfl, ?_⟩) (by assumption) ?_
              rotate_left
              · intro w hSw
                try dsimp only at hSw
                go_simp
                try with_reducible rfl
              try simp only [Act.put, List.getElem_toArray, List.getElem_cons_succ, List.getElem_cons_zero, List.setIfInBounds_toArray, List.set_cons_zero, List.set_cons_succ]
              refine wpAnyH_take (i := 1) (v := ?_) rfl (by as_aux_lemma => kernel_rfl) (by as_aux_lemma => kernel_rfl) (by as_aux_lemma => kernel_rfl) (fun _ _ _ h => h) (Or.inl ⟨by rfl, ?_⟩) (by assumption) ?_
              rotate_left
              · intro w hSw
                try dsimp only at hSw
                go_simp
                try with_reducible rfl
              try simp only [Act.put, List.getElem_toArray, List.getElem_cons_succ, List.getElem_cons_zero, List.setIfInBounds_toArray, List.set_cons_zero, List.set_cons_succ]
              refine wpAnyH_take (i := 2) (v := ?_) rfl (by as_aux_lemma => kernel_rfl) (by as_aux_lemma => kernel_rfl) (by as_aux_lemma => kernel_rfl) (fun _ _ _ h => h) (Or.inl ⟨by rfl, ?_⟩) (by assumption) ?_
              rotate_left
              · intro w hSw
                try dsimp only at hSw
                go_simp
                try with_reducible rfl
              try simp only [Act.put, List.getElem_toArray, List.getElem_cons_succ, List.getElem_cons_zero, List.setIfInBounds_toArray, List.set_cons_zero, List.set_cons_succ]
              refine wpAnyH_take (i := 3) (v := ?_) rfl (by as_aux_lemma => kernel_rfl) (by as_aux_lemma => kernel_rfl) (by as_aux_lemma => kernel_rfl) (fun _ _ _ h => h) (Or.inl ⟨by rfl, ?_⟩) (by assumption) ?_
              rotate_left
              · intro w hSw
                try dsimp only at hSw
                go_simp
                try with_reducible rfl
              try simp only [Act.put, List.getElem_toArray, List.getElem_cons_succ, List.getElem_cons_zero, List.setIfInBounds_toArray, List.set_cons_zero, List.set_cons_succ]
              refine wpAnyH_take (i := 4) (v := ?_) rfl (by as_aux_lemma => kernel_rfl) (by as_aux_lemma => kernel_rfl) (by as_aux_lemma => kernel_rfl) (fun _ _ _ h => h) (Or.inl ⟨by rfl, ?_⟩) (by assumption) ?_
              rotate_left
              · intro w hSw
                try dsimp only at hSw
                go_simp
                try with_reducible rfl
              try simp only [Act.put, List.getElem_toArray, List.getElem_cons_succ, List.getElem_cons_zero, List.setIfInBounds_toArray, List.set_cons_zero, List.set_cons_succ]
              refine wpAnyH_take (i := 5) (v := ?_) rfl (by as_aux_lemma => kernel_rfl) (by as_aux_lemma => kernel_rfl) (by as_aux_lemma => kernel_rfl) (fun _ _ _ h => h) (Or.inl ⟨by rfl, ?_⟩) (by assumption) ?_
              rotate_left
              · intro w hSw
                try dsimp only at hSw
                go_simp
                try with_reducible rfl
              try simp only [Act.put, List.getElem_toArray, List.getElem_cons_succ, List.getElem_cons_zero, List.setIfInBounds_toArray, List.set_cons_zero, List.set_cons_succ]
              refine wpAnyH_ready (rs := [6]) (by as_aux_lemma => kernel_rfl) (by simp) ?_
              refine AllReadyH.cons rfl (fun K hK => ?_) AllReadyH.nil
              go_simp
              refine (HTL.out _ (HL3.out.trans (Below.mono hh0.2.2.2.2.2.2 HL3.out.size))).mono ?_
              rintro e w9 ⟨rfl, hb9⟩
              refine hK.out _ _ (KA _ (Below.trans hh0.2.2.2.2.2.2 (Below.mono hb9 (hh0.2.2.2.2.2.2).size))) (fun hh1 => ?_)
              clear hK K
              try simp only [Act.put, List.getElem_toArray, List.getElem_cons_succ, List.getElem_cons_zero, List.setIfInBounds_toArray, List.set_cons_zero, List.set_cons_succ]
              refine wpAnyH_done (by as_aux_lemma => kernel_rfl) ?_ _
              refine NoPanic.normal ?_
              have HBZ := Lib.hid (hh1.2.2.2.2.2.2)
              have L9 := Lib.hid (HL3.out.trans (HBZ.out.mono HL3.out.size))
              clear KA c0 c1 c2 c3 c4 cl d0 dl
              go_wp2_with fail
              go_roundg (gk - 1)
              case measure => omega
              case rel => exact ⟨j + 1, by omega, by go_num, hm, L9⟩
            · obtain rfl : RL = y := HFI.out rfl
              go_wp2_with fail
              have KA : ∀ W' : World, Below w3.heap.size w3 W' → (W'.cell? ⟨w.heap.size, 0, none⟩ = some (.int .i64 kind) ∧ W'.cell? ⟨w.heap.size, 1, none⟩ = some (.int .i64 base) ∧ W'.cell? ⟨w.heap.size, 2, none⟩ = some (.int .i64 most) ∧ W'.cell? ⟨w.heap.size, 3, none⟩ = some (.slice ha n hc) ∧ W'.cell? ⟨w.heap.size, 4, none⟩ = some (.slice ra m rc) ∧ W'.cell? ⟨g, j, none⟩ = some (.slice sa ln sc) ∧ Below w3.heap.size w3 W') := fun W' hb => ⟨keepK c0 hb, keepK c1 hb, keepK c2 hb, keepK c3 hb, keepK c4 hb, keepK d0 hb, hb⟩
              refine wp_region_noPanic ?_
              refine wp_region_held_drew (S := (fun W' => W'.cell? ⟨w.heap.size, 0, none⟩ = some (.int .i64 kind) ∧ W'.cell? ⟨w.heap.size, 1, none⟩ = some (.int .i64 base) ∧ W'.cell? ⟨w.heap.size, 2, none⟩ = some (.int .i64 most) ∧ W'.cell? ⟨w.heap.size, 3, none⟩ = some (.slice ha n hc) ∧ W'.cell? ⟨w.heap.size, 4, none⟩ = some (.slice ra m rc) ∧ W'.cell? ⟨g, j, none⟩ = some (.slice sa ln sc) ∧ Below w3.heap.size w3 W')) (by kernel_rfl) ?_ (fun hh0 => ?_)
              · exact KA _ (Below.refl _ _).drew
              refine wpAnyH_take (i := 0) (v := ?_) rfl (by as_aux_lemma => kernel_rfl) (by as_aux_lemma => kernel_rfl) (by as_aux_lemma => kernel_rfl) (fun _ _ _ h => h) (Or.inl ⟨by rfl, ?_⟩) (by assumption) ?_
              rotate_left
              · intro w hSw
                try dsimp only at hSw
                go_simp
                try with_reducible rfl
              try simp only [Act.put, List.getElem_toArray, List.getElem_cons_succ, List.getElem_cons_zero, List.setIfInBounds_toArray, List.set_cons_zero, List.set_cons_succ]
              refine wpAnyH_take (i := 1) (v := ?_) rfl (by as_aux_lemma => kernel_rfl) (by as_aux_lemma => kernel_rfl) (by as_aux_lemma => kernel_rfl) (fun _ _ _ h => h) (Or.inl ⟨by rfl, ?_⟩) (by assumption) ?_
              rotate_left
              · intro w hSw
                try dsimp only at hSw
                go_simp
                try with_reducible rfl
              try simp only [Act.put, List.getElem_toArray, List.getElem_cons_succ, List.getElem_cons_zero, List.setIfInBounds_toArray, List.set_cons_zero, List.set_cons_succ]
              refine wpAnyH_take (i := 2) (v := ?_) rfl (by as_aux_lemma => kernel_rfl) (by as_aux_lemma => kernel_rfl) (by as_aux_lemma => kernel_rfl) (fun _ _ _ h => h) (Or.inl ⟨by rfl, ?_⟩) (by assumption) ?_
              rotate_left
              · intro w hSw
                try dsimp only at hSw
                go_simp
                try with_reducible rfl
              try simp only [Act.put, List.getElem_toArray, List.getElem_cons_succ, List.getElem_cons_zero, List.setIfInBounds_toArray, List.set_cons_zero, List.set_cons_succ]
              refine wpAnyH_take (i := 3) (v := ?_) rfl (by as_aux_lemma => kernel_rfl) (by as_aux_lemma => kernel_rfl) (by as_aux_lemma => kernel_rfl) (fun _ _ _ h => h) (Or.inl ⟨by rfl, ?_⟩) (by assumption) ?_
              rotate_left
              · intro w hSw
                try dsimp only at hSw
                go_simp
                try with_reducible rfl
              try simp only [Act.put, List.getElem_toArray, List.getElem_cons_succ, List.getElem_cons_zero, List.setIfInBounds_toArray, List.set_cons_zero, List.set_cons_succ]
              refine wpAnyH_take (i := 4) (v := ?_) rfl (by as_aux_lemma => kernel_rfl) (by as_aux_lemma => kernel_rfl) (by as_aux_lemma => kernel_rfl) (fun _ _ _ h => h) (Or.inl ⟨by rfl, ?_⟩) (by assumption) ?_
              rotate_left
              · intro w hSw
                try dsimp only at hSw
                go_simp
                try with_reducible rfl
              try simp only [Act.put, List.getElem_toArray, List.getElem_cons_succ, List.getElem_cons_zero, List.setIfInBounds_toArray, List.set_cons_zero, List.set_cons_succ]
              refine wpAnyH_take (i := 5) (v := ?_) rfl (by as_aux_lemma => kernel_rfl) (by as_aux_lemma => kernel_rfl) (by as_aux_lemma => kernel_rfl) (fun _ _ _ h => h) (Or.inl ⟨by rfl, ?_⟩) (by assumption) ?_
              rotate_left
              · intro w hSw
                try dsimp only at hSw
                go_simp
                try with_reducible rfl
              try simp only [Act.put, List.getElem_toArray, List.getElem_cons_succ, List.getElem_cons_zero, List.setIfInBounds_toArray, List.set_cons_zero, List.set_cons_succ]
              refine wpAnyH_ready (rs := [6]) (by as_aux_lemma => kernel_rfl) (by simp) ?_
              refine AllReadyH.cons rfl (fun K hK => ?_) AllReadyH.nil
              go_simp
              refine (HTL.out _ (HL3.out.trans (Below.mono hh0.2.2.2.2.2.2 HL3.out.size))).mono ?_
              rintro e w9 ⟨rfl, hb9⟩
              refine hK.out _ _ (KA _ (Below.trans hh0.2.2.2.2.2.2 (Below.mono hb9 (hh0.2.2.2.2.2.2).size))) (fun hh1 => ?_)
              clear hK K
              try simp only [Act.put, List.getElem_toArray, List.getElem_cons_succ, List.getElem_cons_zero, List.setIfInBounds_toArray, List.set_cons_zero, List.set_cons_succ]
              refine wpAnyH_done (by as_aux_lemma => kernel_rfl) ?_ _
              refine NoPanic.normal ?_
              have HBZ := Lib.hid (hh1.2.2.2.2.2.2)
              have L9 := Lib.hid (HL3.out.trans (HBZ.out.mono HL3.out.size))
              have d9 := keepK HCE.out L9.out
              have dl9 := World.block_lt_of_cell? _ _ d9
              clear KA c0 c1 c2 c3 c4 cl d0 dl
              go_wp2_with fail
              refine bodyPost_ret (results_tmp2 rfl _ _ _) rfl ?_
              have BB := B1.out.trans (L2.out.mono B1.out.size)
              exact ⟨_, rfl, HIN.out.below L9.out, BB.trans (L9.out.mono BB.size)⟩
          · obtain rfl : j = z := by omega
            have jI : ¬ (j : Int) < (j : Int) := by omega
            have hnx : (allTo n (k + 1)).find? f = none := by
              have h := HFJ.out
              rw [List.take_of_length_le (by rw [HZ.out]; exact Nat.le_refl _)] at h
              rw [HNX.out, List.find?_append, HF0.out, h]
              rfl
            have L9 := Lib.hid (L2.out.trans (HL3.out.mono L2.out.size))
            clear hjt
            go_wp2_with fail
            go_roundg g'
            case measure => omega
            case rel => exact ⟨k + 1, by omega, by go_num, hnx, L9⟩
      · obtain rfl : k = n + 1 := by omega
        obtain ⟨N, hN⟩ : ∃ N : Int, ((n + 1 : Nat) : Int) = N := ⟨_, rfl⟩
        have kI : ¬ N ≤ (n : Int) := by omega
        have hr := HRR.out
        have hall : (allL n).find? f = none := HF0.out
        rw [hall] at hr
        obtain rfl : [] = RL := hr
        rw [hN]
        clear hlt hk hall
        go_wp2_with fail
        refine bodyPost_ret (results_tmp2 rfl _ _ _) rfl ?_
        exact ⟨_, rfl, ints_nil _, B1.out.trans (HL.out.mono B1.out.size)⟩
  · have tz : (RE != 0) = true := by simp [h0]
    go_wp2_with fail
    refine bodyPost_ret (results_tmp2 rfl _ _ _) rfl ?_
    exact ⟨_, rfl, ints_nil _, B1.out⟩
end Go.Proofs.Ythflbbjilebhlaa
