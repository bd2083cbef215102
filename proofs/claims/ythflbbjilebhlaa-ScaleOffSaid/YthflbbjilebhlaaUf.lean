/- Package scale: all scales between two, as a function that is ranged over. -/
import Derived.Test.YthflbbjilebhlaaUd
import Derived.Test.YthflbbjilebhlaaRgy
import Derived.Shelf.Abstract
import Derived.Shelf.RegionOpen
import Derived.OwnWalkIn
import Derived.TacticsInMore
import Derived.LoopNIn
import Derived.LoopIn
import Derived.Laws.EntriesVeiled
set_option linter.unusedSimpArgs false
set_option linter.unusedVariables false
namespace Go.Proofs.Ythflbbjilebhlaa
open Go Go.RowKit Go.Shelf Sc
attribute [local go_sem] Oper.semAt_some

def encP (x : Scl) : Array Value := #[.agg #[.int .i64 x.1, .int .i64 x.2]]
theorem sbL_stop (g : Nat) (a b : Scl) (h : 30 < max (a.1 + b.1) (a.2 + b.2)) : sbL g a b = [] := by
  cases g with
  | zero => rfl
  | succ g => unfold sbL; rw [if_pos h]
set_option maxRecDepth 100000 in
set_option maxHeartbeats 4000000 in
theorem each_Y (l B bE bY : Nat) (LL : List Scl) (kept : Nat → Prop) (ob : Option Nat) (J Jx : List Scl → World → Prop) (hJ : OwnFrom B J)
    (hY : ∀ m' pre (x : Scl) W1, J pre W1 → pre ++ [x] <+: LL → B ≤ W1.heap.size → Okw ob W1 → YieldAt Fence.wide m' Try.prog l (encP x) W1 fun e W' =>
      (e = .returned (.bool true) ∧ J (pre ++ [x]) W' ∧ KeptY B kept ob W1 W') ∨ (e = .returned (.bool false) ∧ Jx (pre ++ [x]) W' ∧ KeptY B kept ob W1 W')) (hE : B ≤ bE) (hYb : B ≤ bY) :
    ∀ (g : Nat) (a b : Scl) (m : Nat) (pre : List Scl) (W : World), (0 ≤ a.1 ∧ a.1 ≤ 30 ∧ 0 ≤ a.2 ∧ a.2 ≤ 30 ∧ 1 ≤ a.1 + a.2) → (0 ≤ b.1 ∧ b.1 ≤ 30 ∧ 0 ≤ b.2 ∧ b.2 ≤ 30 ∧ 1 ≤ b.1 + b.2) → 61 ≤ a.1 + a.2 + b.1 + b.2 + g →
      AtY ob W bE (.cells #[.func (.func 118) #[] #[.pointer (some ⟨bE, 0, none⟩), .pointer (some ⟨bY, 0, none⟩)]] 63 (0, 0)) →
      AtY ob W bY (.cells #[.func (.yield l) #[] #[]] 164 (0, 0)) → J pre W → pre ++ sbL g a b <+: LL →
      CallsIn Fence.wide m Try.prog 118 #[.agg #[.int .i64 a.1, .int .i64 a.2], .agg #[.int .i64 b.1, .int .i64 b.2], .pointer (some ⟨bE, 0, none⟩), .pointer (some ⟨bY, 0, none⟩)] W fun e W' =>
        (e = .returned (.bool true) ∧ J (pre ++ sbL g a b) W' ∧ KeptY B kept ob W W') ∨ (e = .returned (.bool false) ∧ ∃ q, q <+: sbL g a b ∧ Jx (pre ++ q) W' ∧ KeptY B kept ob W W') := by
  intro g
  have HYY := Lib.hid hY
  have HJO := Lib.hid hJ
  clear hY hJ
  induction g with
  | zero =>
    intro a b m pre W ha hb hs h1 h2 h3 h4
    obtain ⟨a1, a2⟩ := a
    obtain ⟨b1, b2⟩ := b
    simp only at ha hb hs ⊢
    have hls : B ≤ W.heap.size := by have := lt_of_block h1.at_; omega
    obtain ⟨u, hu⟩ : ∃ u, a1 + b1 = u := ⟨_, rfl⟩
    obtain ⟨v, hv⟩ : ∃ v, a2 + b2 = v := ⟨_, rfl⟩
    have u0 : 0 ≤ u := by omega
    have v0 : 0 ≤ v := by omega
    have u60 : u ≤ 60 := by omega
    have v60 : v ≤ 60 := by omega
    obtain ⟨M, hM⟩ : ∃ M, (if u < v then v else u) = M := ⟨_, rfl⟩
    have hM30 : 30 < M := by rw [← hM]; split <;> omega
    rw [sbL_stop 0 (a1, a2) (b1, b2) (by simp only; omega), List.append_nil]
    obtain ⟨W3, hW3, _, _, _, hb3, _⟩ := al3 W (Obj.cells #[.int .i64 a1, .int .i64 a2] 27) (Obj.cells #[.int .i64 b1, .int .i64 b2] 27) (Obj.cells #[.int .i64 u, .int .i64 v] 27)
    have HW3 := Lib.hid hW3
    have HB3 := Lib.hid hb3
    have OK0 := Lib.hid h1.ok
    have J3 : Hid (J pre W3) := own_kept HJO.out h3 hb3
    obtain ⟨p0, p1, p2, p3, p4⟩ := ha
    obtain ⟨q0, q1, q2, q3, q4⟩ := hb
    clear h1 h2 h3 h4 hs hW3 hb3
    refine callsIn_of_wp Try.func118 rfl trivial ?_ rfl
    simp only [Try.ntmps118, List.size_toArray, List.length_cons, List.length_nil, Nat.reduceAdd, Nat.reduceSub, Array.replicate_succ, Array.replicate_zero, List.push_toArray, List.append_toArray, List.nil_append, List.cons_append]
    gi_wp2_with fail
    rw [HW3.out]
    go_ret
    exact .inl ⟨rfl, J3.out, KeptY.of_below OK0.out HB3.out⟩
  | succ g ih =>
    intro a b m pre W ha hb hs h1 h2 h3 h4
    obtain ⟨a1, a2⟩ := a
    obtain ⟨b1, b2⟩ := b
    simp only at ha hb hs ⊢
    by_cases hst : 30 < max (a1 + b1) (a2 + b2)
    · clear ih
      have hls : B ≤ W.heap.size := by have := lt_of_block h1.at_; omega
      obtain ⟨u, hu⟩ : ∃ u, a1 + b1 = u := ⟨_, rfl⟩
      obtain ⟨v, hv⟩ : ∃ v, a2 + b2 = v := ⟨_, rfl⟩
      have u0 : 0 ≤ u := by omega
      have v0 : 0 ≤ v := by omega
      have u60 : u ≤ 60 := by omega
      have v60 : v ≤ 60 := by omega
      obtain ⟨M, hM⟩ : ∃ M, (if u < v then v else u) = M := ⟨_, rfl⟩
      have hM30 : 30 < M := by rw [← hM]; split <;> omega
      rw [sbL_stop (g + 1) (a1, a2) (b1, b2) (by simp only; omega), List.append_nil]
      obtain ⟨W3, hW3, _, _, _, hb3, _⟩ := al3 W (Obj.cells #[.int .i64 a1, .int .i64 a2] 27) (Obj.cells #[.int .i64 b1, .int .i64 b2] 27) (Obj.cells #[.int .i64 u, .int .i64 v] 27)
      have HW3 := Lib.hid hW3
      have HB3 := Lib.hid hb3
      have OK0 := Lib.hid h1.ok
      have J3 : Hid (J pre W3) := own_kept HJO.out h3 hb3
      obtain ⟨p0, p1, p2, p3, p4⟩ := ha
      obtain ⟨q0, q1, q2, q3, q4⟩ := hb
      clear h1 h2 h3 h4 hs hW3 hb3
      refine callsIn_of_wp Try.func118 rfl trivial ?_ rfl
      simp only [Try.ntmps118, List.size_toArray, List.length_cons, List.length_nil, Nat.reduceAdd, Nat.reduceSub, Array.replicate_succ, Array.replicate_zero, List.push_toArray, List.append_toArray, List.nil_append, List.cons_append]
      gi_wp2_with fail
      rw [HW3.out]
      go_ret
      exact .inl ⟨rfl, J3.out, KeptY.of_below OK0.out HB3.out⟩
    · have hsb : sbL (g + 1) (a1, a2) (b1, b2) = sbL g (a1, a2) (a1 + b1, a2 + b2) ++ (a1 + b1, a2 + b2) :: sbL g (a1 + b1, a2 + b2) (b1, b2) := by
        conv => lhs; unfold sbL
        rw [if_neg hst]
      obtain ⟨p0, p1, p2, p3, p4⟩ := ha
      obtain ⟨q0, q1, q2, q3, q4⟩ := hb
      have hls : B ≤ W.heap.size := by have := lt_of_block h1.at_; omega
      obtain ⟨u, hu⟩ : ∃ u, a1 + b1 = u := ⟨_, rfl⟩
      obtain ⟨v, hv⟩ : ∃ v, a2 + b2 = v := ⟨_, rfl⟩
      have u0 : 0 ≤ u := by omega
      have v0 : 0 ≤ v := by omega
      have u30 : u ≤ 30 := by omega
      have v30 : v ≤ 30 := by omega
      have uv1 : 1 ≤ u + v := by omega
      have ms1 : 61 ≤ a1 + a2 + u + v + (g : Int) := by omega
      have ms2 : 61 ≤ u + v + b1 + b2 + (g : Int) := by omega
      obtain ⟨M, hM⟩ : ∃ M, (if u < v then v else u) = M := ⟨_, rfl⟩
      have hM30 : ¬ 30 < M := by rw [← hM]; split <;> omega
      rw [hu, hv] at hsb
      obtain ⟨W3, hW3, z1, z2, z3, hb3, hs3⟩ := al3 W (Obj.cells #[.int .i64 a1, .int .i64 a2] 27) (Obj.cells #[.int .i64 b1, .int .i64 b2] 27) (Obj.cells #[.int .i64 u, .int .i64 v] 27)
      have e1 := h1.below hb3
      have y1 := h2.below hb3
      have z2 := AtY.fresh h1.ok hb3 (by omega) z2
      have z3 := AtY.fresh h1.ok hb3 (by omega) z3
      obtain ⟨L1, hL1⟩ : ∃ L, sbL g (a1, a2) (u, v) = L := ⟨_, rfl⟩
      obtain ⟨L2, hL2⟩ : ∃ L, sbL g (u, v) (b1, b2) = L := ⟨_, rfl⟩
      rw [hL1, hL2] at hsb
      rw [hsb] at h4
      obtain ⟨L, hL⟩ : ∃ L, sbL (g + 1) (a1, a2) (b1, b2) = L := ⟨_, rfl⟩
      rw [hL] at hsb ⊢
      have HSB := Lib.hid hsb
      have c1 := fun m => ih (a1, a2) (u, v) m pre W3 ⟨p0, p1, p2, p3, p4⟩ ⟨u0, u30, v0, v30, uv1⟩ ms1 e1 y1 (own_kept HJO.out h3 hb3) (by rw [hL1]; exact List.IsPrefix.trans ⟨(u, v) :: L2, by simp⟩ h4)
      rw [hL1] at c1
      dsimp only at c1
      have C1 := Lib.hid c1
      have C2 : Hid (∀ W', AtY ob W' bE (.cells #[.func (.func 118) #[] #[.pointer (some ⟨bE, 0, none⟩), .pointer (some ⟨bY, 0, none⟩)]] 63 (0, 0)) →
          AtY ob W' bY (.cells #[.func (.yield l) #[] #[]] 164 (0, 0)) → J (pre ++ L1 ++ [(u, v)]) W' → ∀ m, CallsIn Fence.wide m Try.prog 118 #[.agg #[.int .i64 u, .int .i64 v], .agg #[.int .i64 b1, .int .i64 b2], .pointer (some ⟨bE, 0, none⟩), .pointer (some ⟨bY, 0, none⟩)] W' fun e W2 =>
        (e = .returned (.bool true) ∧ J (pre ++ L1 ++ [(u, v)] ++ L2) W2 ∧ KeptY B kept ob W' W2) ∨ (e = .returned (.bool false) ∧ ∃ q, q <+: L2 ∧ Jx (pre ++ L1 ++ [(u, v)] ++ q) W2 ∧ KeptY B kept ob W' W2)) := fun W' h1 h2 h3 m => by
        have h := ih (u, v) (b1, b2) m (pre ++ L1 ++ [(u, v)]) W' ⟨u0, u30, v0, v30, uv1⟩ ⟨q0, q1, q2, q3, q4⟩ ms2 h1 h2 h3 (by rw [hL2]; simpa [List.append_assoc] using h4)
        rw [hL2] at h
        exact h
      have HW3 := Lib.hid hW3
      have E1 := Lib.hid e1
      have Y1 := Lib.hid y1
      have Z1 := Lib.hid z1
      have Z2 := Lib.hid z2
      have Z3 := Lib.hid z3
      have HB3 := Lib.hid hb3
      have OK0 := Lib.hid h1.ok
      have HS3 := Lib.hid hs3
      have HN := Lib.hid h4
      have cE : (((W.alloc (Obj.cells #[.int .i64 a1, .int .i64 a2] 27)).alloc (Obj.cells #[.int .i64 b1, .int .i64 b2] 27)).alloc (Obj.cells #[.int .i64 u, .int .i64 v] 27)).cell? ⟨bE, 0, none⟩ = some (.func (.func 118) #[] #[.pointer (some ⟨bE, 0, none⟩), .pointer (some ⟨bY, 0, none⟩)]) := by rw [hW3]; exact cellOf e1.at_ 0 _ rfl
      have cl := lt_of_block h1.at_
      have HLS := Lib.hid hls
      have HEB := Lib.hid hE
      have HYB := Lib.hid hYb
      clear h1 h2 h3 h4 ih hsb hst hL1 hL2 hL hW3 z1 z2 z3 hb3 hs3 e1 y1 c1 hls hE hYb ms1 ms2
      refine callsIn_of_wp Try.func118 rfl trivial ?_ rfl
      simp only [Try.ntmps118, List.size_toArray, List.length_cons, List.length_nil, Nat.reduceAdd, Nat.reduceSub, Array.replicate_succ, Array.replicate_zero, List.push_toArray, List.append_toArray, List.nil_append, List.cons_append]
      gi_wp2_with fail
      rw [HW3.out]
      clear hM hM30 hu hv cE cl
      refine ⟨trivial, fun h => (by cases h), ?_⟩
      refine (C1.out _).mono ?_
      rintro e W4 (⟨rfl, hJ4, hk4⟩ | ⟨rfl, q, hq, hx, hk4⟩)
      · have K4 : Hid (KeptY B kept ob W W4) := (KeptY.of_below OK0.out HB3.out).trans hk4
        have E4 := Lib.hid (hk4.keep E1.out (.inl HEB.out))
        have Y4 := Lib.hid (hk4.keep Y1.out (.inl HYB.out))
        have Z24 := Lib.hid (hk4.keep Z2.out (.inl (by have := HLS.out; omega)))
        have Z34 := Lib.hid (hk4.keep Z3.out (.inl (by have := HLS.out; omega)))
        have hB4 : B ≤ W4.heap.size := by have := HLS.out; have := K4.out.size; omega
        have hB4' := Lib.hid hB4
        obtain ⟨fn, tmps, assign, body, hy, hR⟩ := HYY.out 99 (pre ++ L1) (u, v) W4 hJ4 (List.IsPrefix.trans ⟨L2, by simp⟩ HN.out) hB4 Y4.out.ok
        unfold encP at hy
        dsimp only at hy
        have HR := Lib.hid hR
        have cY := cellOf Y4.out.at_ 0 _ rfl
        have d0 := cellOf Z34.out.at_ 0 _ rfl
        have d1 := cellOf Z34.out.at_ 1 _ rfl
        have dl := lt_of_block Z34.out.at_
        clear hJ4 hk4 hB4 hR E1 Y1 Z1 Z2 Z3
        gi_wp2_with fail
        refine ⟨fun h => (by cases h), ?_⟩
        refine (roundIn_free HR.out).mono ?_
        rintro e W5 (⟨rfl, hJ5, hk5⟩ | ⟨rfl, hx5, hk5⟩)
        · clear hy HR cY d0 d1 dl
          have K5 : Hid (KeptY B kept ob W W5) := K4.out.trans hk5
          have E5 := Lib.hid (hk5.keep E4.out (.inl HEB.out))
          have Y5 := Lib.hid (hk5.keep Y4.out (.inl HYB.out))
          have Z25 := Lib.hid (hk5.keep Z24.out (.inl (by have := HLS.out; omega)))
          have Z35 := Lib.hid (hk5.keep Z34.out (.inl (by have := HLS.out; omega)))
          have C2' := Lib.hid (C2.out W5 E5.out Y5.out hJ5)
          have cE := cellOf E5.out.at_ 0 _ rfl
          have d0 := cellOf Z35.out.at_ 0 _ rfl
          have d1 := cellOf Z35.out.at_ 1 _ rfl
          have g0 := cellOf Z25.out.at_ 0 _ rfl
          have g1 := cellOf Z25.out.at_ 1 _ rfl
          have dl := lt_of_block Z35.out.at_
          clear hJ5 hk5 E4 Y4 Z24 Z34 C2
          gi_wp2_with fail
          refine ⟨trivial, fun h => (by cases h), ?_⟩
          refine (C2'.out _).mono ?_
          rintro e W6 (⟨rfl, hJ6, hk6⟩ | ⟨rfl, q, hq, hx6, hk6⟩)
          · have hJ6' : Hid (J (pre ++ L) W6) := by
              show J _ _
              rw [HSB.out]
              simpa [List.append_assoc] using hJ6
            have HK6 := Lib.hid (K5.out.trans hk6)
            clear hJ6 hk6 cE d0 d1 g0 g1 dl C2'
            gi_wp2_with fail
            go_ret
            exact .inl ⟨rfl, hJ6'.out, HK6.out⟩
          · have hq' : Hid (∃ r, r <+: L ∧ Jx (pre ++ r) W6) := by
              obtain ⟨r, hr⟩ := hq
              refine ⟨L1 ++ (u, v) :: q, ⟨r, by rw [HSB.out, ← hr]; simp⟩, ?_⟩
              simpa [List.append_assoc] using hx6
            have HK6 := Lib.hid (K5.out.trans hk6)
            clear hx6 hk6 cE d0 d1 g0 g1 dl C2'
            gi_wp2_with fail
            go_ret
            obtain ⟨r, hr, hx⟩ := hq'.out
            exact .inr ⟨rfl, r, hr, hx, HK6.out⟩
        · clear hy HR cY d0 d1 dl
          have hq' : Hid (∃ r, r <+: L ∧ Jx (pre ++ r) W5) := by
            refine ⟨L1 ++ [(u, v)], ⟨L2, by rw [HSB.out]; simp⟩, ?_⟩
            simpa [List.append_assoc] using hx5
          have HK5 := Lib.hid (K4.out.trans hk5)
          clear hx5 hk5
          gi_wp2_with fail
          refine ⟨fun _ h => (by cases h), ?_⟩
          gi_wp2_with fail
          go_ret
          obtain ⟨r, hr, hx⟩ := hq'.out
          exact .inr ⟨rfl, r, hr, hx, HK5.out⟩
      · have hq' : Hid (∃ r, r <+: L ∧ Jx (pre ++ r) W4) := by
          obtain ⟨r, hr⟩ := hq
          refine ⟨q, ⟨r ++ (u, v) :: L2, by rw [HSB.out, ← hr]; simp⟩, hx⟩
        have HK4 : Hid (KeptY B kept ob W W4) := (KeptY.of_below OK0.out HB3.out).trans hk4
        clear hx hk4
        gi_wp2_with fail
        refine ⟨fun _ h => (by cases h), ?_⟩
        gi_wp2_with fail
        refine ⟨fun _ h => (by cases h), ?_⟩
        gi_wp2_with fail
        go_ret
        obtain ⟨r, hr, hx⟩ := hq'.out
        exact .inr ⟨rfl, r, hr, hx, HK4.out⟩
set_option maxRecDepth 100000 in
set_option maxHeartbeats 4000000 in
theorem between_Y (f t : Scl) (kept : Nat → Prop) (ob : Option Nat) (hf : 0 ≤ f.1 ∧ f.1 ≤ 30 ∧ 0 ≤ f.2 ∧ f.2 ≤ 30 ∧ 1 ≤ f.1 + f.2) (ht : 0 ≤ t.1 ∧ t.1 ≤ 30 ∧ 0 ≤ t.2 ∧ t.2 ≤ 30 ∧ 1 ≤ t.1 + t.2) (bf bt : Nat) (w : World)
    (h1 : w.heap[bf]? = some (.cells #[.int .i64 f.1, .int .i64 f.2] 27 (0, 0))) (h2 : w.heap[bt]? = some (.cells #[.int .i64 t.1, .int .i64 t.2] 27 (0, 0))) :
    SeqY Try.prog 117 #[.pointer (some ⟨bf, 0, none⟩), .pointer (some ⟨bt, 0, none⟩)] encP kept ob (fun pre x _ => pre ++ [x] <+: sbL 61 f t) (fun xs => xs = sbL 61 f t) (fun pre => pre <+: sbL 61 f t) (sbL 61 f t).length w := by
  intro m l J Jx W hW hJ hJx hOk hOwn hY h0
  obtain ⟨f1, f2⟩ := f
  obtain ⟨t1, t2⟩ := t
  simp only at hf ht h1 h2
  have g1 := (hW.block _ (lt_of_block h1)).trans h1
  have g2 := (hW.block _ (lt_of_block h2)).trans h2
  have b1 := lt_of_block g1
  have b2 := lt_of_block g2
  obtain ⟨W2, hW2, z1, z2, hb2, hs2⟩ := al2 W (Obj.cells #[.func (.yield l) #[] #[]] 164) (Obj.cells #[.func (.func 118) #[] #[.pointer (some ⟨W.heap.size + 1, 0, none⟩), .pointer (some ⟨W.heap.size, 0, none⟩)]] 63)
  have e := fun m => each_Y l W.heap.size (W.heap.size + 1) W.heap.size (sbL 61 (f1, f2) (t1, t2)) kept ob J Jx hJ (fun m' pre x W1 q1 q2 q3 q4 => hY m' pre x W1 q1 q2 (by have := q2.length_le; simp at this; omega) q3 q4) (by omega) (Nat.le_refl _) 61 (f1, f2) (t1, t2) m [] W2 hf ht (by simp only; omega) (AtY.fresh hOk hb2 (by omega) z2) (AtY.fresh hOk hb2 (by omega) z1) (own_kept hJ h0 hb2) (List.prefix_refl _)
  dsimp only at e
  have HE := Lib.hid e
  have HW2 := Lib.hid hW2
  have c0 := cellOf g1 0 _ rfl
  have c1 := cellOf g1 1 _ rfl
  have d0 := cellOf g2 0 _ rfl
  have d1 := cellOf g2 1 _ rfl
  clear hOk hOwn hW2 z1 z2 hb2 hs2 e hY h0 hJ hJx hW h1 h2 g1 g2 hf ht
  refine callsIn_wide.2 ((callsIn_wide (n := 9)).1 ?_)
  refine callsIn_of_wp Try.func117 rfl trivial ?_ rfl
  simp only [Try.ntmps117, List.size_toArray, List.length_cons, List.length_nil, Nat.reduceAdd, Nat.reduceSub, Array.replicate_succ, Array.replicate_zero, List.push_toArray, List.append_toArray, List.nil_append, List.cons_append]
  gi_wp2_with fail
  refine ⟨trivial, ?_⟩
  rw [HW2.out]
  refine (HE.out _).mono ?_
  rintro e W3 (⟨rfl, hJ3, hk⟩ | ⟨rfl, q, hq, hx, hk⟩)
  · rw [List.nil_append] at hJ3
    have H3 := Lib.hid hJ3
    clear hJ3 hk
    gi_wp2_with fail
    go_end0
    exact ⟨⟨_, rfl⟩, .inl ⟨_, rfl, H3.out⟩⟩
  · rw [List.nil_append] at hx
    have H3 := Lib.hid hx
    clear hx hk
    gi_wp2_with fail
    go_end0
    exact ⟨⟨_, rfl⟩, .inr ⟨_, hq, H3.out⟩⟩
theorem between_X (f t : Scl) (kept : Nat → Prop) (hf : 0 ≤ f.1 ∧ f.1 ≤ 30 ∧ 0 ≤ f.2 ∧ f.2 ≤ 30 ∧ 1 ≤ f.1 + f.2) (ht : 0 ≤ t.1 ∧ t.1 ≤ 30 ∧ 0 ≤ t.2 ∧ t.2 ≤ 30 ∧ 1 ≤ t.1 + t.2) (bf bt : Nat) (w : World)
    (h1 : w.heap[bf]? = some (.cells #[.int .i64 f.1, .int .i64 f.2] 27 (0, 0))) (h2 : w.heap[bt]? = some (.cells #[.int .i64 t.1, .int .i64 t.2] 27 (0, 0))) :
    SeqX Try.prog 117 #[.pointer (some ⟨bf, 0, none⟩), .pointer (some ⟨bt, 0, none⟩)] encP kept (fun pre x _ => pre ++ [x] <+: sbL 61 f t) (fun xs => xs = sbL 61 f t) (fun pre => pre <+: sbL 61 f t) (sbL 61 f t).length w := (between_Y f t kept none hf ht bf bt w h1 h2).toX
set_option maxRecDepth 100000 in
theorem between_any (f t : Scl) (w : World) :
    Calls Try.prog 101 #[.agg #[.int .i64 f.1, .int .i64 f.2], .agg #[.int .i64 t.1, .int .i64 t.2]] w fun e w' => e = .returned (.func (.func 117) #[] #[.pointer (some ⟨w.heap.size, 0, none⟩), .pointer (some ⟨w.heap.size + 1, 0, none⟩)]) ∧ (w.alloc (.cells #[.int .i64 f.1, .int .i64 f.2] 27)).alloc (.cells #[.int .i64 t.1, .int .i64 t.2] 27) = w' := by
  obtain ⟨f1, f2⟩ := f
  obtain ⟨t1, t2⟩ := t
  simp only
  go_enter Try.func101, Try.ntmps101
  go_wp2_with fail
  go_ret
  exact ⟨rfl, rfl⟩
/-- What comes with ascending and descending: the two ends in memory. -/
def EndsAt (w : World) (v : Value) (f t : Scl) : Prop :=
  ∃ bf bt, v = .func (.func 117) #[] #[.pointer (some ⟨bf, 0, none⟩), .pointer (some ⟨bt, 0, none⟩)] ∧ w.heap[bf]? = some (.cells #[.int .i64 f.1, .int .i64 f.2] 27 (0, 0)) ∧ w.heap[bt]? = some (.cells #[.int .i64 t.1, .int .i64 t.2] 27 (0, 0))
set_option maxRecDepth 100000 in
theorem descending_any (w : World) :
    Calls Try.prog 68 #[] w fun e w' => (∃ v, e = .returned v ∧ EndsAt w' v (1, 0) (0, 1)) ∧ Below w.heap.size w w' := by
  have HC := Lib.hid (between_any (1, 0) (0, 1) w)
  go_enter Try.func68, Try.ntmps68
  go_wp2_with fail
  refine HC.out.mono ?_
  rintro e w2 ⟨rfl, rfl⟩
  obtain ⟨W2, hW2, z1, z2, hb2, hs2⟩ := al2 w (Obj.cells #[.int .i64 1, .int .i64 0] 27) (Obj.cells #[.int .i64 0, .int .i64 1] 27)
  rw [hW2]
  have Z1 := Lib.hid z1
  have Z2 := Lib.hid z2
  have HB := Lib.hid hb2
  clear HC hW2 z1 z2 hb2 hs2
  go_wp2_with fail
  go_ret
  exact ⟨⟨_, rfl, _, _, rfl, Z1.out, Z2.out⟩, HB.out⟩
set_option maxRecDepth 100000 in
theorem ascending_any (w : World) :
    Calls Try.prog 72 #[] w fun e w' => (∃ v, e = .returned v ∧ EndsAt w' v (0, 1) (1, 0)) ∧ Below w.heap.size w w' := by
  have HC := Lib.hid (between_any (0, 1) (1, 0) w)
  go_enter Try.func72, Try.ntmps72
  go_wp2_with fail
  refine HC.out.mono ?_
  rintro e w2 ⟨rfl, rfl⟩
  obtain ⟨W2, hW2, z1, z2, hb2, hs2⟩ := al2 w (Obj.cells #[.int .i64 0, .int .i64 1] 27) (Obj.cells #[.int .i64 1, .int .i64 0] 27)
  rw [hW2]
  have Z1 := Lib.hid z1
  have Z2 := Lib.hid z2
  have HB := Lib.hid hb2
  clear HC hW2 z1 z2 hb2 hs2
  go_wp2_with fail
  go_ret
  exact ⟨⟨_, rfl, _, _, rfl, Z1.out, Z2.out⟩, HB.out⟩
end Go.Proofs.Ythflbbjilebhlaa
