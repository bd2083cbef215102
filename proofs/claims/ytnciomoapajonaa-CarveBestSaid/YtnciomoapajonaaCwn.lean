/- Package carve: the heights that good surfaces have behind a place. -/
import Derived.Test.YtnciomoapajonaaCwm
import Derived.Scope
set_option linter.unusedSimpArgs false
set_option linter.unusedVariables false
namespace Go.Proofs.Ytnciomoapajonaa
open Go Go.RowKit Go.Shelf Cv
attribute [local go_sem] Oper.semAt_some

theorem passAt_own {w : World} {base e : Nat} {v : Value} {l : List (Int × Int)} (h : w.ownsRow base e 2 v l.length (passC l)) (hl : l.length ≤ 4611686018427387904) : PassAt w v l := by
  rcases h.2 with ⟨rfl, h0⟩ | ⟨g, cap, cur, rfl, hb, hg, hnc, hcm, hcs, htake⟩
  · have : l = [] := List.length_eq_zero_iff.1 h0
    subst this
    exact ⟨by simp, none, 0, rfl, by simp, fun hne => absurd rfl hne⟩
  · refine ⟨hl, _, cap, rfl, hnc, fun _ => ⟨g, 0, rfl, fun k hk => ?_⟩⟩
    have e1 := passC_get l k hk
    rw [Nat.zero_add]
    have c0 := (h.cellAt (k * 2) (by omega)).trans e1.1
    have c1 := (h.cellAt (k * 2 + 1) (by omega)).trans e1.2
    have e : l.getD k (0, 0) = l[k] := by simp [List.getD_eq_getElem?_getD, hk]
    rw [e] at c0 c1
    exact ⟨c0, c1⟩
/-- Three blocks stay as they are. -/
def KB3 (a b c : Nat) (W W' : World) : Prop := KB a W W' ∧ KB b W W' ∧ KB c W W'
/-- A height between two. -/
abbrev Ht (lo hi : Int) := { h : Int // lo ≤ h ∧ h ≤ hi }
def encH {lo hi : Int} (x : Ht lo hi) : Array Value := #[.int .i64 x.1]
/-- Whether a height is near that of a place. -/
def nearZ (st z g h : Int) : Bool := if z = -1 then true else decide (g - st ≤ h) && decide (h ≤ g + st)
/-- The heights that come of the first k numbers. -/
def htTo (st z g lo : Int) (k : Nat) : List Int := ((List.range k).map fun (i : Nat) => lo + (i : Int)).filter (nearZ st z g)
theorem htTo_succ (st z g lo : Int) (k : Nat) : htTo st z g lo (k + 1) = htTo st z g lo k ++ (if nearZ st z g (lo + k) then [lo + (k : Int)] else []) := by
  unfold htTo
  rw [List.range_succ, List.map_append, List.filter_append]
  simp only [List.map_cons, List.map_nil]
  congr 1
  rw [List.filter_cons, List.filter_nil]
theorem htTo_far (st z g lo : Int) (k : Nat) (hz : z ≠ -1) (h : g + st < lo + k) : ∀ m, htTo st z g lo (k + m) = htTo st z g lo k := by
  intro m
  induction m with
  | zero => rfl
  | succ m ih =>
    rw [← Nat.add_assoc, htTo_succ, ih]
    have : nearZ st z g (lo + ((k + m : Nat) : Int)) = false := by
      unfold nearZ
      rw [if_neg hz]
      simp
      intro _
      push_cast
      omega
    rw [this]
    simp
theorem htTo_span (st z g lo hi : Int) : htTo st z g lo (hi - lo + 1).toNat = (spanL lo hi).filter (nearZ st z g) := rfl
set_option maxRecDepth 100000 in
theorem heights_in (m : Nat) (st : Int) (pv : Value) (gb cap n : Nat) (l : List (Int × Int)) (z g : Int) (k : Nat) (w : World) (hB : PassAt w (.slice (some ⟨gb, 0, none⟩) n cap) l) (hn : l.length = n) (n10 : n ≤ 10) (hz : z + 1 = k) (hk : k < l.length) (z0 : -1 ≤ z) :
    CallsIn Fence.wide m Try.prog 90 #[.agg #[.int .i64 st, pv, .slice (some ⟨gb, 0, none⟩) n cap], .agg #[.int .i64 z, .int .i64 g]] w fun e w' => e = .returned (.func (.func 96) #[] #[.pointer (some ⟨w.heap.size + 2, 0, none⟩), .pointer (some ⟨w.heap.size + 1, 0, none⟩), .pointer (some ⟨w.heap.size, 0, none⟩)]) ∧ ((w.alloc (.cells #[.int .i64 st, pv, .slice (some ⟨gb, 0, none⟩) n cap] 78)).alloc (.cells #[.int .i64 z, .int .i64 g] 123)).alloc (.cells #[.int .i64 (l[k]'hk).1, .int .i64 (l[k]'hk).2] 56) = w' := by
  subst hn
  obtain ⟨b, o, e, c0, c1⟩ := hB.get hk
  simp only [Option.some.injEq, Addr.mk.injEq, and_true] at e
  obtain ⟨rfl, rfl⟩ := e
  rw [Nat.zero_add] at c0 c1
  have hbl : gb < w.heap.size := World.block_lt_of_cell? w _ c0
  have kI : (k : Int) < (l.length : Int) := by omega
  have lI : (l.length : Int) ≤ 10 := by omega
  generalize (l[k]'hk).1 = lo at *
  generalize (l[k]'hk).2 = hi at *
  clear hB
  refine callsIn_of_wp Try.func90 rfl trivial ?_ rfl
  simp only [Try.ntmps90, List.size_toArray, List.length_cons, List.length_nil, Nat.reduceAdd, Nat.reduceSub, Array.replicate_succ, Array.replicate_zero, List.push_toArray, List.append_toArray, List.nil_append, List.cons_append]
  gi_wp2
  go_ret
  exact ⟨rfl, rfl⟩
theorem ht_snoc {lo hi st z g : Int} {pre : List (Ht lo hi)} {k : Nat} (h : pre.map (·.1) = htTo st z g lo k) (hh : lo ≤ lo + (k : Int) ∧ lo + (k : Int) ≤ hi) (hn : nearZ st z g (lo + k) = true) : (pre ++ [(⟨lo + k, hh⟩ : Ht lo hi)]).map (·.1) = htTo st z g lo (k + 1) := by
  rw [List.map_append, h, htTo_succ, hn]
  rfl
set_option maxRecDepth 100000 in
set_option maxHeartbeats 4000000 in
theorem hts1_in (m : Nat) (hm : 1 ≤ m) (l Bs Bp Bx : Nat) (st z g lo hi : Int) (pv bv : Value) (s0 : 0 ≤ st) (s2 : st ≤ 200) (g0 : 0 ≤ g) (g9 : g ≤ 9000) (l0 : 0 ≤ lo) (h9 : hi ≤ 9000) (hlh : lo ≤ hi + 1) (J Jx : List (Ht lo hi) → World → Prop) (W : World)
    (hY : ∀ pre x W1, J pre W1 → pre.length < 9002 → YieldAt Fence.wide (m - 1) Try.prog l (encH x) W1 fun e W' =>
      (e = .returned (.bool true) ∧ J (pre ++ [x]) W' ∧ KB3 Bs Bp Bx W1 W') ∨ (e = .returned (.bool false) ∧ Jx (pre ++ [x]) W'))
    (hS : W.heap[Bs]? = some (.cells #[.int .i64 lo, .int .i64 hi] 56 (0, 0))) (hP : W.heap[Bp]? = some (.cells #[.int .i64 z, .int .i64 g] 123 (0, 0))) (hX : W.heap[Bx]? = some (.cells #[.int .i64 st, pv, bv] 78 (0, 0))) (h0 : J [] W) :
    CallsIn Fence.wide m Try.prog 96 #[.func (.yield l) #[] #[], .pointer (some ⟨Bs, 0, none⟩), .pointer (some ⟨Bp, 0, none⟩), .pointer (some ⟨Bx, 0, none⟩)] W fun e W' => (∃ v, e = .returned v) ∧
      ((∃ ys : List (Ht lo hi), ys.map (·.1) = (spanL lo hi).filter (nearZ st z g) ∧ J ys W') ∨ (∃ pre, True ∧ Jx pre W')) := by
  have HY := Lib.hid hY
  have HB0 : Hid (W.heap[Bs]? = some (.cells #[.int .i64 lo, .int .i64 hi] 56 (0, 0)) ∧ W.heap[Bp]? = some (.cells #[.int .i64 z, .int .i64 g] 123 (0, 0)) ∧ W.heap[Bx]? = some (.cells #[.int .i64 st, pv, bv] 78 (0, 0))) := ⟨hS, hP, hX⟩
  have q0 : W.cell? ⟨Bs, 0, none⟩ = some (.int .i64 lo) := cellOf hS 0 _ rfl
  have q1 : W.cell? ⟨Bs, 1, none⟩ = some (.int .i64 hi) := cellOf hS 1 _ rfl
  obtain ⟨n, hn⟩ : ∃ n : Nat, (hi - lo + 1).toNat = n := ⟨_, rfl⟩
  have hnI : hi - lo + 1 = (n : Int) := by omega
  have n9 : n ≤ 9001 := by omega
  have HN := Lib.hid hnI
  have HFN : Hid (htTo st z g lo n = (spanL lo hi).filter (nearZ st z g)) := by show _ = _; rw [← hn, htTo_span]
  have hnJ : hi - lo = (n : Int) - 1 := by omega
  clear hY hS hP hX hn hnI hlh
  refine callsIn_of_wp Try.func96 rfl trivial ?_ rfl
  simp only [Try.ntmps96, List.size_toArray, List.length_cons, List.length_nil, Nat.reduceAdd, Nat.reduceSub, Array.replicate_succ, Array.replicate_zero, List.push_toArray, List.append_toArray, List.nil_append, List.cons_append]
  gi_wp2_with fail
  refine wpIn_wide.2 (wp_scope_straight ((wpIn_wide (n := m)).1 ?_))
  refine wpIn_seq_k (fun K hK => ?_)
  refine wpIn_label ?_
  refine hK _ _ ?_
  clear hK K
  gi_wp2_with fail
  gi_loopw [13] (fun i wr => ∃ (k : Nat) (pre : List (Ht lo hi)), k ≤ n ∧ i = .int .i64 (k : Int) ∧ Hid (pre.map (·.1) = htTo st z g lo k) ∧ Hid (J pre wr) ∧ Hid (wr.heap[Bs]? = some (.cells #[.int .i64 lo, .int .i64 hi] 56 (0, 0)) ∧ wr.heap[Bp]? = some (.cells #[.int .i64 z, .int .i64 g] 123 (0, 0)) ∧ wr.heap[Bx]? = some (.cells #[.int .i64 st, pv, bv] 78 (0, 0)))) (fun i _ => n - (intOf i).toNat)
  case atStart => exact ⟨0, [], by omega, rfl, rfl, h0, HB0⟩
  case round =>
    obtain ⟨k, pre, hk, rfl, HM, HJ, HB⟩ := hrel
    clear h0 HB0 q0 q1
    have r0 : wr.cell? ⟨Bs, 0, none⟩ = some (.int .i64 lo) := cellOf HB.out.1 0 _ rfl
    have r2 : wr.cell? ⟨Bp, 0, none⟩ = some (.int .i64 z) := cellOf HB.out.2.1 0 _ rfl
    have r3 : wr.cell? ⟨Bp, 1, none⟩ = some (.int .i64 g) := cellOf HB.out.2.1 1 _ rfl
    have r4 : wr.cell? ⟨Bx, 0, none⟩ = some (.int .i64 st) := cellOf HB.out.2.2 0 _ rfl
    have HHN := Lib.hid hnJ
    by_cases hlt : k < n
    · have kI : (k : Int) < (n : Int) := by omega
      obtain ⟨x, hx⟩ : ∃ x : Int, lo + (k : Int) = x := ⟨_, rfl⟩
      have hh : lo ≤ lo + (k : Int) ∧ lo + (k : Int) ≤ hi := by omega
      have x0 : 0 ≤ x := by omega
      have x9 : x ≤ 9000 := by omega
      have HX := Lib.hid hx
      have HLT := Lib.hid hlt
      by_cases hz : z = -1
      · have HNR : Hid (nearZ st z g (lo + k) = true) := by show _ = _; unfold nearZ; rw [if_pos hz]
        subst hz
        obtain ⟨fn, tmps, assign, body, hy, hR⟩ := HY.out pre ⟨lo + (k : Int), hh⟩ wr HJ.out (by have := congrArg List.length HM.out; have h2 : (htTo st (-1) g lo k).length ≤ k := by { unfold htTo; exact Nat.le_trans (List.length_filter_le _ _) (by simp) }; simp only [List.length_map] at this; omega)
        unfold encH at hy
        dsimp only at hy
        rw [hx] at hy
        have HR := Lib.hid hR
        clear hR hlt hnJ
        gi_wp2_with fail
        refine HR.out.mono ?_
        rintro e W5 (⟨rfl, hJ5, hk5⟩ | ⟨rfl, hJx5⟩)
        · have HJ5 := Lib.hid hJ5
          have HB5 := Lib.hid (show _ ∧ _ ∧ _ from ⟨hk5.1 _ HB.out.1, hk5.2.1 _ HB.out.2.1, hk5.2.2 _ HB.out.2.2⟩)
          have HM5 := Lib.hid (ht_snoc HM.out hh HNR.out)
          clear hJ5 hk5 hy HR
          gi_wp2_with fail
          go_roundw
          case rel => exact ⟨k + 1, _, by have := HLT.out; omega, by go_num, HM5, HJ5, HB5⟩
          case measure => simp [intOf]; have := HLT.out; omega
        · have JX : Hid (∃ pre, True ∧ Jx pre W5) := ⟨_, trivial, hJx5⟩
          clear hJx5 hy HR
          gi_wp2_with fail
          try rw [Exit.noGoto_ret]
          refine bodyPost_ret (results_none rfl _ _ _) rfl ?_
          exact ⟨⟨_, rfl⟩, .inr JX.out⟩
      · have tz : (z == -1) = false := by simp; exact hz
        have HZ := Lib.hid hz
        clear hz
        by_cases h1 : x < g - st
        · have HNR : Hid (nearZ st z g (lo + k) = false) := by show _ = _; unfold nearZ; rw [if_neg HZ.out, hx]; simp; omega
          have HM5 : Hid (pre.map (·.1) = htTo st z g lo (k + 1)) := by show _ = _; rw [htTo_succ, HNR.out, HM.out]; simp
          clear hlt hnJ
          gi_wp2_with fail
          go_roundw
          case rel => exact ⟨k + 1, pre, by have := HLT.out; omega, by go_num, HM5, HJ, HB⟩
          case measure => simp [intOf]; have := HLT.out; omega
        · by_cases h2 : g + st < x
          · have HM5 : Hid (pre.map (·.1) = htTo st z g lo n) := by
              show _ = _
              have := htTo_far st z g lo k HZ.out (by omega) (n - k)
              rw [show k + (n - k) = n by omega] at this
              rw [this, HM.out]
            clear hlt hnJ
            gi_wp2_with fail
            try rw [Exit.noGoto_normal]
            go_end0
            exact ⟨⟨_, rfl⟩, .inl ⟨pre, by rw [HM5.out, HFN.out], HJ.out⟩⟩
          · have HNR : Hid (nearZ st z g (lo + k) = true) := by show _ = _; unfold nearZ; rw [if_neg HZ.out, hx]; simp; omega
            obtain ⟨fn, tmps, assign, body, hy, hR⟩ := HY.out pre ⟨lo + (k : Int), hh⟩ wr HJ.out (by have := congrArg List.length HM.out; have h2 : (htTo st z g lo k).length ≤ k := by { unfold htTo; exact Nat.le_trans (List.length_filter_le _ _) (by simp) }; simp only [List.length_map] at this; omega)
            unfold encH at hy
            dsimp only at hy
            rw [hx] at hy
            have HR := Lib.hid hR
            clear hR hlt hnJ
            gi_wp2_with fail
            refine HR.out.mono ?_
            rintro e W5 (⟨rfl, hJ5, hk5⟩ | ⟨rfl, hJx5⟩)
            · have HJ5 := Lib.hid hJ5
              have HB5 := Lib.hid (show _ ∧ _ ∧ _ from ⟨hk5.1 _ HB.out.1, hk5.2.1 _ HB.out.2.1, hk5.2.2 _ HB.out.2.2⟩)
              have HM5 := Lib.hid (ht_snoc HM.out hh HNR.out)
              clear hJ5 hk5 hy HR
              gi_wp2_with fail
              go_roundw
              case rel => exact ⟨k + 1, _, by have := HLT.out; omega, by go_num, HM5, HJ5, HB5⟩
              case measure => simp [intOf]; have := HLT.out; omega
            · have JX : Hid (∃ pre, True ∧ Jx pre W5) := ⟨_, trivial, hJx5⟩
              clear hJx5 hy HR
              gi_wp2_with fail
              try rw [Exit.noGoto_ret]
              refine bodyPost_ret (results_none rfl _ _ _) rfl ?_
              exact ⟨⟨_, rfl⟩, .inr JX.out⟩
    · obtain rfl : k = n := by omega
      have kI : ¬ (k : Int) < (k : Int) := by omega
      clear hlt hk
      gi_wp2_with fail
      try rw [Exit.noGoto_normal]
      go_end0
      exact ⟨⟨_, rfl⟩, .inl ⟨pre, by rw [HM.out, HFN.out], HJ.out⟩⟩
theorem hts_stops (m : Nat) (hm : 1 ≤ m) (Bs Bp Bx : Nat) (st z g lo hi : Int) (pv bv : Value) (s0 : 0 ≤ st) (s2 : st ≤ 200) (g0 : 0 ≤ g) (g9 : g ≤ 9000) (l0 : 0 ≤ lo) (h9 : hi ≤ 9000) (hlh : lo ≤ hi + 1) (w : World)
    (hS : w.heap[Bs]? = some (.cells #[.int .i64 lo, .int .i64 hi] 56 (0, 0))) (hP : w.heap[Bp]? = some (.cells #[.int .i64 z, .int .i64 g] 123 (0, 0))) (hX : w.heap[Bx]? = some (.cells #[.int .i64 st, pv, bv] 78 (0, 0))) :
    SeqStopsK Fence.wide m Try.prog 96 #[.pointer (some ⟨Bs, 0, none⟩), .pointer (some ⟨Bp, 0, none⟩), .pointer (some ⟨Bx, 0, none⟩)] (encH (lo := lo) (hi := hi)) (KB3 Bs Bp Bx) (fun ys => ys.map (·.1) = (spanL lo hi).filter (nearZ st z g)) (fun _ => True) 9002 w := fun l J Jx W hW hJ _ hY h0 =>
  hts1_in m hm l Bs Bp Bx st z g lo hi pv bv s0 s2 g0 g9 l0 h9 hlh J Jx W hY ((hW.block Bs (lt_of_block hS)).trans hS) ((hW.block Bp (lt_of_block hP)).trans hP) ((hW.block Bx (lt_of_block hX)).trans hX) h0
end Go.Proofs.Ytnciomoapajonaa
