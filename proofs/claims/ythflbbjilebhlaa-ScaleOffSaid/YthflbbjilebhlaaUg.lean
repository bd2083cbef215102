/- Words that the texts of a layer share: lists of numbers in memory, rows of a call's own, steps that append; within of package scale. -/
import Derived.WalkKit
import Derived.WalkSpells
import Derived.WalkLawsBesides
import Derived.Lib.Hide
import Derived.OneCell
import Derived.Laws.Rows
import Derived.Handy
import Derived.Laws.OwnMore
import Derived.Laws.AppendOwn
import Derived.Maps.AppendAt
import Derived.OwnWalk
import Derived.BigQuiet
import Derived.Deep.LoopGhost
import Derived.Deep.RegionLaw
import Derived.Deep.AppendLies
import Derived.Test.YthflbbjilebhlaaProg
import Derived.Test.YthflbbjilebhlaaChecked
import Derived.Test.YthflbbjilebhlaaHeld
import Derived.Test.YthflbbjilebhlaaLasti
set_option linter.unusedSimpArgs false
set_option linter.unusedVariables false
namespace Go.Proofs.Ythflbbjilebhlaa
open Go Go.RowKit

def okIn (lo hi x : Int) : Bool := decide (lo ≤ x) && decide (x ≤ hi)
theorem cellOf {w : World} {b : Nat} {C : Array Value} {t : TypeId} {fr : Nat × Nat} (h : w.heap[b]? = some (.cells C t fr)) (i : Nat) (v : Value) (hv : C[i]? = some v) : w.cell? ⟨b, i, none⟩ = some v := by
  unfold World.cell?
  rw [h]
  exact hv
/-- A value reads as a list of integers. -/
def IntsAt (w : World) (v : Value) (l : List Int) : Prop :=
  l.length ≤ 4611686018427387904 ∧ ∃ a cap, v = .slice a l.length cap ∧ l.length ≤ cap ∧ (l ≠ [] → ∃ b o, a = some ⟨b, o, none⟩ ∧ ∀ k (h : k < l.length), w.cell? ⟨b, o + k, none⟩ = some (.int .i64 l[k]))
theorem IntsAt.below {w w' : World} {v : Value} {l : List Int} (h : IntsAt w v l) (hb : Below w.heap.size w w') : IntsAt w' v l := by
  obtain ⟨h1, a, cap, rfl, hc, h2⟩ := h
  refine ⟨h1, a, cap, rfl, hc, fun hne => ?_⟩
  obtain ⟨b, o, rfl, hk⟩ := h2 hne
  exact ⟨b, o, rfl, fun k h => (hb.cell (p := ⟨b, o + k, none⟩) (World.block_lt_of_cell? w ⟨b, o + k, none⟩ (hk k h))).trans (hk k h)⟩
theorem IntsAt.get {w : World} {a : Option Addr} {n cap : Nat} {l : List Int} (h : IntsAt w (.slice a n cap) l) {k : Nat} (hk : k < l.length) :
    ∃ b o, a = some ⟨b, o, none⟩ ∧ w.cell? ⟨b, o + k, none⟩ = some (.int .i64 l[k]) := by
  obtain ⟨_, a', cap', e, _, h2⟩ := h
  simp only [Value.slice.injEq] at e
  obtain ⟨rfl, _, _⟩ := e
  obtain ⟨b, o, rfl, hc⟩ := h2 (by rintro rfl; simp at hk)
  exact ⟨b, o, rfl, hc k hk⟩
theorem ints1 (W : World) (n : Nat) (hn : n = W.heap.size) (x : Int) (t : TypeId) : IntsAt (W.alloc (.cells #[.int .i64 x] t)) (.slice (some ⟨n, 0, none⟩) 1 1) [x] := by
  subst hn
  refine ⟨by simp, some ⟨W.heap.size, 0, none⟩, 1, rfl, by simp, fun _ => ⟨W.heap.size, 0, rfl, fun k hk => ?_⟩⟩
  obtain rfl : k = 0 := by simpa using hk
  exact cellOf (heap_alloc_new W _) 0 _ rfl
theorem ints2 (W : World) (n : Nat) (hn : n = W.heap.size) (x y : Int) (t : TypeId) : IntsAt (W.alloc (.cells #[.int .i64 x, .int .i64 y] t)) (.slice (some ⟨n, 0, none⟩) 2 2) [x, y] := by
  subst hn
  refine ⟨by simp, some ⟨W.heap.size, 0, none⟩, 2, rfl, by simp, fun _ => ⟨W.heap.size, 0, rfl, fun k hk => ?_⟩⟩
  have h : k = 0 ∨ k = 1 := by simp at hk; omega
  rcases h with rfl | rfl
  · exact cellOf (heap_alloc_new W _) 0 _ rfl
  · exact cellOf (heap_alloc_new W _) 1 _ rfl
theorem ints3 (W : World) (n : Nat) (hn : n = W.heap.size) (x y z : Int) (t : TypeId) : IntsAt (W.alloc (.cells #[.int .i64 x, .int .i64 y, .int .i64 z] t)) (.slice (some ⟨n, 0, none⟩) 3 3) [x, y, z] := by
  subst hn
  refine ⟨by simp, some ⟨W.heap.size, 0, none⟩, 3, rfl, by simp, fun _ => ⟨W.heap.size, 0, rfl, fun k hk => ?_⟩⟩
  have h : k = 0 ∨ k = 1 ∨ k = 2 := by simp at hk; omega
  rcases h with rfl | rfl | rfl
  · exact cellOf (heap_alloc_new W _) 0 _ rfl
  · exact cellOf (heap_alloc_new W _) 1 _ rfl
  · exact cellOf (heap_alloc_new W _) 2 _ rfl
def allIn (lo hi : Int) (l : List Int) : Bool := l.all fun n => okIn lo hi n
theorem allIn_not (lo hi : Int) (l : List Int) (k : Nat) (h : k < l.length) (hb : l[k] < lo ∨ hi < l[k]) : allIn lo hi l = false := by
  unfold allIn okIn
  rw [List.all_eq_false]
  exact ⟨l[k], List.getElem_mem h, by simp; omega⟩
theorem allIn_more (lo hi : Int) (l : List Int) (k : Nat) (h : k < l.length) (hw : allIn lo hi (l.take k) = true) (h1 : lo ≤ l[k]) (h2 : l[k] ≤ hi) : allIn lo hi (l.take (k + 1)) = true := by
  unfold allIn okIn at *
  rw [List.take_succ_eq_append_getElem h, List.all_append, hw]
  simp [h1, h2]
theorem own_below {w w' : World} {B e size n : Nat} {v : Value} {xs : List Value} (h : w.ownsRow B e size v n xs) (hb : Below w.heap.size w w') : w'.ownsRow B e size v n xs := by
  obtain ⟨h0, h⟩ := h
  refine ⟨h0, ?_⟩
  rcases h with h | ⟨g, cap, cur, r1, r2, r3, r4⟩
  · exact .inl h
  · exact .inr ⟨g, cap, cur, r1, r2, (hb.block g (lt_of_block r3)).trans r3, r4⟩

theorem own_base {w : World} {B B' e size n : Nat} {v : Value} {xs : List Value} (h : w.ownsRow B e size v n xs) (hb : B' ≤ B) : w.ownsRow B' e size v n xs := by
  obtain ⟨h0, h⟩ := h
  refine ⟨h0, ?_⟩
  rcases h with h | ⟨g, cap, cur, r1, r2, r3⟩
  · exact .inl h
  · exact .inr ⟨g, cap, cur, r1, Nat.le_trans hb r2, r3⟩

theorem intInfo : (Try.prog.info? 3).map (fun i => (i.zero, i.size, i.bytes)) = some (some (.int .i64 0), 1, 8) := by kernel_rfl

theorem own_slice {w : World} {base e size n : Nat} {v : Value} {xs : List Value} (h : w.ownsRow base e size v n xs) : ∃ sa sc, v = .slice sa n sc := by
  rcases h.2 with ⟨rfl, rfl⟩ | ⟨g, cap, cur, rfl, _⟩
  · exact ⟨_, _, rfl⟩
  · exact ⟨_, _, rfl⟩
theorem own_some {w : World} {base e size n c : Nat} {a : Option Addr} {xs : List Value} (h : w.ownsRow base e size (.slice a n c) n xs) (hn : 0 < n) : ∃ g, a = some ⟨g, 0, none⟩ := by
  rcases h.2 with ⟨h1, rfl⟩ | ⟨g, cap, cur, h1, _⟩
  · omega
  · simp only [Value.slice.injEq] at h1
    exact ⟨g, h1.1⟩
theorem intsAt_own {w : World} {base : Nat} {v : Value} {l : List Int} (h : w.ownsRow base 3 1 v l.length (l.map (Value.int .i64))) (hl : l.length ≤ 4611686018427387904) : IntsAt w v l := by
  rcases h.2 with ⟨rfl, h0⟩ | ⟨g, cap, cur, rfl, hb, hg, hnc, hcm, hcs, htake⟩
  · have : l = [] := List.length_eq_zero_iff.1 h0
    subst this
    exact ⟨by simp, none, 0, rfl, by simp, fun hne => absurd rfl hne⟩
  · refine ⟨hl, _, cap, rfl, hnc, fun _ => ⟨g, 0, rfl, fun k hk => ?_⟩⟩
    rw [Nat.zero_add]
    have h1 := h.cellAt k (by omega)
    rw [h1]
    simp [hk]
theorem grown_refl (w : World) (k : Option Nat) : w.grownBy w k := ⟨rfl, rfl, rfl, Nat.le_refl _, fun _ _ _ => rfl⟩
set_option maxRecDepth 100000 in
/-- Numbers are appended to a row of the call's own, at the step of a region that draws its order. -/
theorem run_ints (w : World) (ty : TypeId) (base n : Nat) (v sv : Value) (xs l : List Int) (hn : n = xs.length) (hown : w.ownsRow base 3 1 v n (xs.map (Value.int .i64))) (hl : IntsAt w sv l) (hb : base ≤ w.heap.size)
    (hlen : xs.length + l.length ≤ 1000) :
    ∃ v' w', (Builtin.append_ #[22, 22] ty #[v, sv]).run Try.prog w = .ok v' w' ∧ w'.ownsRow base 3 1 v' (n + l.length) ((xs ++ l).map (Value.int .i64)) ∧ w.grownBy w' v.ownBlock := by
  subst hn
  obtain ⟨i0, hi⟩ := info_of_underlying Try.underlying3
  have HI : i0.zero = some (.int .i64 0) ∧ i0.size = 1 ∧ i0.bytes = 8 := by
    have h := intInfo
    rw [hi] at h
    simp at h
    exact h
  obtain ⟨_, A, c, rfl, _, hc⟩ := hl
  cases A with
  | none =>
    have hn : l = [] := by
      cases l with
      | nil => rfl
      | cons x l => obtain ⟨_, _, h, _⟩ := hc (by simp); cases h
    subst hn
    have hrun : (Builtin.append_ #[22, 22] ty #[v, .slice none 0 c]).run Try.prog w = .ok v w := by
      rcases hown.2 with ⟨rfl, h0⟩ | ⟨g, cap, cur, rfl, _, _, h1, _⟩
      · simp [Builtin.append_, run_underlying Try.underlying22, sizeOf, typeInfo, hi, Builtin.lenOf, Builtin.firstCells]
      · simp [Builtin.append_, run_underlying Try.underlying22, sizeOf, typeInfo, hi, Builtin.lenOf, Builtin.firstCells, h1, storeCells]
    exact ⟨v, w, hrun, by rw [List.append_nil]; exact hown, grown_refl w _⟩
  | some ad =>
    have hcells : ∀ j u, (l.map (Value.int .i64))[j]? = some u → w.cell? (ad.add j) = some u := by
      intro j u hu
      have hj : j < l.length := by have := (List.getElem?_eq_some_iff.1 hu).1; simpa using this
      obtain ⟨b, o, e, hk⟩ := hc (by rintro rfl; simp at hj)
      injection e with e
      subst e
      rw [Go.WideShapes.add_plain, hk j hj, ← hu]
      simp [hj]
    obtain ⟨v', w', h1, h2, h3, _, _⟩ := run_append_own_at (P := Try.prog) w base 22 ty 3 i0 _ 1 8 Try.underlying22 hi HI.1 HI.2.1 HI.2.2 rfl (by decide) v xs.length _ hown ad l.length c (l.map (Value.int .i64)) (by simp) hcells
      (by intro u hu; obtain ⟨x, _, rfl⟩ := List.mem_map.1 hu; rfl) (by unfold maxLen; omega) (by omega) hb
    exact ⟨v', w', h1, by rw [List.map_append]; exact h2, h3⟩
theorem step_ints {ops : Array Oper} {o : Oper} {a : Act} {K : Act → World → Prop} {Q : Exit → Act → World → Prop} {E : Prop} {w : World} (hgd : o.guard = none) (s x : Operand)
    (ho : o.op = .call { callee := .builtin .append, args := #[s, x], argTypes := #[22, 22] })
    (base n : Nat) (v sv : Value) (xs l : List Int) (hn : n = xs.length) (hs : a.eval s = v) (hx : a.eval x = sv) (hown : w.ownsRow base 3 1 v n (xs.map (Value.int .i64))) (hl : IntsAt w sv l) (hb : base ≤ w.heap.size)
    (hlen : xs.length + l.length ≤ 1000)
    (h : ∀ v' w', w'.ownsRow base 3 1 v' (n + l.length) ((xs ++ l).map (Value.int .i64)) → w.grownBy w' v.ownBlock → (∀ k, v.ownBlock = some k → base ≤ k) → K (a.put o.dst v') w') :
    if Region.wanted o (yielded ops a.tmps) = true then Oper.wp Try.prog o a w K Q else E := by
  rw [if_pos (by simp [Region.wanted, hgd])]
  obtain ⟨v', w', hrun, h2, h3⟩ := run_ints w o.type base n v sv xs l hn hown hl hb hlen
  unfold Oper.wp execOp
  simp only [ho, resolve, invoke, builtin, Sem.run_bind, Sem.run_pure, Result.andThen_ok, List.map_toArray, List.map_cons, List.map_nil, hs, hx, hrun]
  exact h v' w' h2 h3 (fun k hk => (hown.lt k hk).1)
theorem step_app {ops : Array Oper} {o : Oper} {a : Act} {K : Act → World → Prop} {Q : Exit → Act → World → Prop} {E : Prop} {w : World} (hgd : o.guard = none) (s x : Operand) (t e : TypeId)
    (ho : o.op = .call { callee := .builtin .append, args := #[s, x], argTypes := #[t, t] })
    (i0 : TypeInfo) (z : Value) (size bytes : Nat) (ht : Try.prog.underlying t = some (.slice e)) (hi : Try.prog.info? e = some i0) (hz : i0.zero = some z) (h1 : i0.size = size) (h2 : i0.bytes = bytes) (h3 : z.cells.size = size) (h4 : 0 < size)
    (base n : Nat) (v : Value) (xs : List Value) (ad : Addr) (m c : Nat) (news : List Value) (hs : a.eval s = v) (hx : a.eval x = .slice (some ad) m c) (hown : w.ownsRow base e size v n xs)
    (hl : news.length = m * size) (hnews : ∀ j u, news[j]? = some u → w.cell? (ad.add j) = some u) (hone : ∀ u ∈ news, u.oneCell' = true) (hb : base ≤ w.heap.size) (h63 : n + m ≤ maxLen) (hbytes : (n + m) * bytes ≤ 140737488355328)
    (h : ∀ v' w', w'.ownsRow base e size v' (n + m) (xs ++ news) → w.grownBy w' v.ownBlock → (∀ k, v.ownBlock = some k → base ≤ k ∧ k < w.heap.size) → (v'.ownBlock = v.ownBlock ∨ v'.ownBlock = some w.heap.size) → K (a.put o.dst v') w') :
    if Region.wanted o (yielded ops a.tmps) = true then Oper.wp Try.prog o a w K Q else E := by
  rw [if_pos (by simp [Region.wanted, hgd])]
  obtain ⟨v', w', hrun, h5, h6, _, h7⟩ := run_append_own_at (P := Try.prog) w base t o.type e i0 z size bytes ht hi hz h1 h2 h3 h4 v n xs hown ad m c news hl hnews hone h63 hbytes hb
  unfold Oper.wp execOp
  simp only [ho, resolve, invoke, builtin, Sem.run_bind, Sem.run_pure, Result.andThen_ok, List.map_toArray, List.map_cons, List.map_nil, hs, hx, hrun]
  exact h v' w' h5 h6 (fun k hk => hown.lt k hk) h7
theorem keepK {w w' : World} {b q : Nat} {v : Value} (h : w.cell? ⟨b, q, none⟩ = some v) (hb : Below w.heap.size w w') : w'.cell? ⟨b, q, none⟩ = some v :=
  (hb.cell (p := ⟨b, q, none⟩) (World.block_lt_of_cell? w _ h)).trans h
theorem al2 (w : World) (A B : Obj) : ∃ W, (w.alloc A).alloc B = W ∧ W.heap[w.heap.size]? = some A ∧ W.heap[w.heap.size + 1]? = some B ∧ Below w.heap.size w W ∧ W.heap.size = w.heap.size + 2 := by
  refine ⟨_, rfl, ?_, ?_, ?_, ?_⟩
  · have h := heap_alloc_new w A
    exact (Below.heap_alloc _ B _ (lt_of_block h)).trans h
  · have h := heap_alloc_new (w.alloc A) B
    rw [show (w.alloc A).heap.size = w.heap.size + 1 by simp] at h
    exact h
  · go_grown
  · simp
theorem al3 (w : World) (A B C : Obj) : ∃ W, ((w.alloc A).alloc B).alloc C = W ∧ W.heap[w.heap.size]? = some A ∧ W.heap[w.heap.size + 1]? = some B ∧ W.heap[w.heap.size + 1 + 1]? = some C ∧ Below w.heap.size w W ∧ W.heap.size = w.heap.size + 3 := by
  refine ⟨_, rfl, ?_, ?_, ?_, ?_, ?_⟩
  · have h := heap_alloc_new w A
    have h2 := (Below.heap_alloc _ B _ (lt_of_block h)).trans h
    exact (Below.heap_alloc _ C _ (lt_of_block h2)).trans h2
  · have h := heap_alloc_new (w.alloc A) B
    rw [show (w.alloc A).heap.size = w.heap.size + 1 by simp] at h
    exact (Below.heap_alloc _ C _ (lt_of_block h)).trans h
  · have h := heap_alloc_new ((w.alloc A).alloc B) C
    rw [show ((w.alloc A).alloc B).heap.size = w.heap.size + 1 + 1 by simp] at h
    exact h
  · go_grown
  · simp
theorem own_oneN (W : World) (e : TypeId) (x : Value) (n : Nat) (h : W.heap.size = n) : (W.alloc (.cells #[x] e)).ownsRow n e 1 (.slice (some ⟨n, 0, none⟩) 1 1) 1 [x] := by
  subst h
  exact ⟨rfl, .inr ⟨W.heap.size, 1, _, rfl, Nat.le_refl _, heap_alloc_new W _, Nat.le_refl _, by decide, rfl, rfl⟩⟩
theorem block_kept {w w' : World} {row : Option Nat} {k : Nat} {x : Obj} (h : w.heap[k]? = some x) (hg : w.grownBy w' row) (hne : row ≠ some k) : w'.heap[k]? = some x := by
  obtain ⟨_, _, _, _, hk⟩ := hg
  exact (hk k (lt_of_block h) (fun e => hne e.symm)).trans h
theorem two_at (w : World) (x y : Obj) : ((w.alloc x).alloc y).heap[w.heap.size]? = some x ∧ ((w.alloc x).alloc y).heap[w.heap.size + 1]? = some y := by
  obtain ⟨_, rfl, h1, h2, _, _⟩ := al2 w x y
  exact ⟨h1, h2⟩
theorem own_other {w : World} {base e size n : Nat} {v : Value} {xs : List Value} (h : w.ownsRow base e size v n xs) (p : Addr) (hp : p.block < base) (u : Value) : (w.setCell p u).ownsRow base e size v n xs := by
  obtain ⟨h0, h⟩ := h
  refine ⟨h0, ?_⟩
  rcases h with h | ⟨g, cap, cur, r1, r2, r3, r4⟩
  · exact .inl h
  · exact .inr ⟨g, cap, cur, r1, r2, (heap_setCell_other w p g u (by omega)).trans r3, r4⟩
theorem cells2_new (W : World) (t : TypeId) (x y : Value) : ∀ j u, [x, y][j]? = some u → (W.alloc (Obj.cells #[x, y] t)).cell? ((⟨W.heap.size, 0, none⟩ : Addr).add j) = some u := by
  intro j u hj
  match j, hj with
  | 0, hj => simp at hj; subst hj; exact cellOf (heap_alloc_new W (Obj.cells #[x, y] t)) 0 _ rfl
  | 1, hj => simp at hj; subst hj; exact cellOf (heap_alloc_new W (Obj.cells #[x, y] t)) 1 _ rfl
  | j + 2, hj => simp at hj
theorem ones2 (x y : Int) : ∀ u ∈ [Value.int .i64 x, Value.int .i64 y], u.oneCell' = true := by
  intro u hu
  simp at hu
  rcases hu with rfl | rfl <;> rfl
/-- A value reads as a list of bytes. -/
def U8At (w : World) (v : Value) (l : List Nat) : Prop :=
  l.length ≤ 4611686018427387904 ∧ ∃ a cap, v = .slice a l.length cap ∧ (l ≠ [] → ∃ b o, a = some ⟨b, o, none⟩ ∧ ∀ k, k < l.length → w.cell? ⟨b, o + k, none⟩ = some (.int .u8 (l.getD k 0)) ∧ l.getD k 0 ≤ 255)
theorem U8At.below {w w' : World} {v : Value} {l : List Nat} (h : U8At w v l) (hb : Below w.heap.size w w') : U8At w' v l := by
  obtain ⟨h1, a, cap, rfl, h2⟩ := h
  refine ⟨h1, a, cap, rfl, fun hne => ?_⟩
  obtain ⟨b, o, rfl, hc⟩ := h2 hne
  exact ⟨b, o, rfl, fun k hk => ⟨(hb.cell (p := ⟨b, o + k, none⟩) (World.block_lt_of_cell? w _ (hc k hk).1)).trans (hc k hk).1, (hc k hk).2⟩⟩
def turnS (l : List Nat) (n : Nat) : Nat := if l = [] then 0 else l.getD (n % l.length) 0
theorem tmod_nat (x n : Nat) : ((x : Int)).tmod (n : Int) = ((x % n : Nat) : Int) := by
  rw [Int.tmod_eq_emod_of_nonneg (by omega)]
  exact (Int.natCast_emod x n).symm
set_option maxHeartbeats 400000 in
theorem within_any (lo hi : Int) (v : Value) (l : List Int) (w : World) (hv : IntsAt w v l) :
    Calls Try.prog 53 #[.int .i64 lo, .int .i64 hi, v] w fun e w' => e = .returned (.bool (allIn lo hi l)) ∧ w = w' := by
  obtain ⟨hm, a, cap, rfl, _, hc⟩ := hv
  go_enter Try.func53, Try.ntmps53
  go_wp2
  go_loop [11] (fun i => ∃ k : Nat, k ≤ l.length ∧ i = .int .i64 k ∧ allIn lo hi (l.take k) = true) (fun i => l.length - (intOf i).toNat)
  case atStart => exact ⟨0, Nat.zero_le _, rfl, rfl⟩
  case round =>
    obtain ⟨k, hk, rfl, hw⟩ := hrel
    have HW := Lib.hid hw
    clear hw
    by_cases hlt : k < l.length
    · obtain ⟨b, o, rfl, hd⟩ := hc (by intro e; simp [e] at hlt)
      have hck := hd k hlt
      clear hc hd
      go_wp2
      all_goals first
        | (go_ret; exact ⟨by rw [allIn_not lo hi l k hlt (by omega)]; rfl, rfl⟩)
        | (go_round
           case rel => exact ⟨k + 1, by omega, by go_num, allIn_more lo hi l k hlt HW.out (by omega) (by omega)⟩
           case measure => simp [intOf]; omega)
    · go_wp2
      go_ret
      have e : l.take k = l := List.take_of_length_le (by omega)
      rw [e] at HW
      exact ⟨by rw [HW.out]; rfl, rfl⟩
theorem within_1 (lo hi x : Int) (W : World) (n : Nat) (t : TypeId) (hn : n = W.heap.size) :
    Calls Try.prog 53 #[.int .i64 lo, .int .i64 hi, .slice (some ⟨n, 0, none⟩) 1 1] (W.alloc (.cells #[.int .i64 x] t)) fun e w' => e = .returned (.bool (okIn lo hi x)) ∧ W.alloc (.cells #[.int .i64 x] t) = w' := by
  have := within_any lo hi _ [x] _ (ints1 W n hn x t)
  simpa [allIn] using this
theorem within_2 (lo hi x y : Int) (W : World) (n : Nat) (t : TypeId) (hn : n = W.heap.size) :
    Calls Try.prog 53 #[.int .i64 lo, .int .i64 hi, .slice (some ⟨n, 0, none⟩) 2 2] (W.alloc (.cells #[.int .i64 x, .int .i64 y] t)) fun e w' => e = .returned (.bool (okIn lo hi x && okIn lo hi y)) ∧ W.alloc (.cells #[.int .i64 x, .int .i64 y] t) = w' := by
  have := within_any lo hi _ [x, y] _ (ints2 W n hn x y t)
  simpa [allIn] using this
theorem within_3 (lo hi x y z : Int) (W : World) (n : Nat) (t : TypeId) (hn : n = W.heap.size) :
    Calls Try.prog 53 #[.int .i64 lo, .int .i64 hi, .slice (some ⟨n, 0, none⟩) 3 3] (W.alloc (.cells #[.int .i64 x, .int .i64 y, .int .i64 z] t)) fun e w' => e = .returned (.bool (okIn lo hi x && okIn lo hi y && okIn lo hi z)) ∧ W.alloc (.cells #[.int .i64 x, .int .i64 y, .int .i64 z] t) = w' := by
  have := within_any lo hi _ [x, y, z] _ (ints3 W n hn x y z t)
  simpa [allIn, Bool.and_assoc] using this

theorem results_tmp2 {fn : Func} {t u : Tmp} (h : fn.results = #[.tmp t, .tmp u]) (tmps : Array Value) (P : Program) (w : World) :
    (results fn tmps).run P w = .ok (.tuple #[tmps.getD t undef, tmps.getD u undef]) w := by
  simp [results, h, Sem.run_bind, Result.andThen, go_sem]
theorem results_tmp3 {fn : Func} {t u v : Tmp} (h : fn.results = #[.tmp t, .tmp u, .tmp v]) (tmps : Array Value) (P : Program) (w : World) :
    (results fn tmps).run P w = .ok (.tuple #[tmps.getD t undef, tmps.getD u undef, tmps.getD v undef]) w := by
  simp [results, h, Sem.run_bind, Result.andThen, go_sem]
theorem results_tmp4 {fn : Func} {t u v x : Tmp} (h : fn.results = #[.tmp t, .tmp u, .tmp v, .tmp x]) (tmps : Array Value) (P : Program) (w : World) :
    (results fn tmps).run P w = .ok (.tuple #[tmps.getD t undef, tmps.getD u undef, tmps.getD v undef, tmps.getD x undef]) w := by
  simp [results, h, Sem.run_bind, Result.andThen, go_sem]
end Go.Proofs.Ythflbbjilebhlaa
