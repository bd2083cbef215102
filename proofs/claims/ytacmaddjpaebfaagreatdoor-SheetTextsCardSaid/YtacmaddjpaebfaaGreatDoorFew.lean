/- fewest of package sheet, with its closure that calls itself. -/
import Derived.Test.YtacmaddjpaebfaaGreatDoorHav
set_option linter.unusedSimpArgs false
set_option linter.unusedVariables false
namespace Go.Proofs.YtacmaddjpaebfaaGreatDoor
open Go Go.RowKit Hs

theorem intsAt_own {w : World} {base : Nat} {v : Value} {l : List Int} (h : w.ownsRow base 3 1 v l.length (l.map (Value.int .i64))) (hl : l.length ≤ 4611686018427387904) : IntsAt w v l := by
  refine ⟨hl, ?_⟩
  rcases h.2 with ⟨rfl, hn⟩ | ⟨g, cap, cur, rfl, hb, hg, r⟩
  · exact ⟨none, 0, by rw [hn], fun hne => absurd (List.eq_nil_of_length_eq_zero hn) hne⟩
  · refine ⟨some ⟨g, 0, none⟩, cap, rfl, fun _ => ⟨g, 0, rfl, fun k hk => ?_⟩⟩
    have := h.cellAt k (by omega)
    rw [Nat.zero_add, this, List.getElem?_map, List.getElem?_eq_getElem hk]
    simp [List.getD_eq_getElem?_getD, hk]

/-- The cells that extend captures. -/
structure ExtSt (W0 : World) (gid : Nat) (gc : Array Value) (n Bn Bb Bg Be B1 : Nat) (best : List Int) (w : World) : Prop where
  n : w.heap[Bn]? = some (.cells #[.int .i64 n] 3 (0, 0))
  g : w.heap[Bg]? = some (.cells #[.func (.func gid) #[] gc] 109 (0, 0))
  e : w.heap[Be]? = some (.cells #[.func (.func 100) #[] #[.pointer (some ⟨Bn, 0, none⟩), .pointer (some ⟨Bb, 0, none⟩), .pointer (some ⟨Bg, 0, none⟩), .pointer (some ⟨Be, 0, none⟩)]] 138 (0, 0))
  b : ∃ ba bc, w.heap[Bb]? = some (.cells #[.slice ba best.length bc] 43 (0, 0)) ∧ w.ownsRow B1 3 1 (.slice ba best.length bc) best.length (best.map (Value.int .i64))
  below : Below W0.heap.size W0 w

structure ExtOk (W0 : World) (Bn Bb Bg Be B1 : Nat) : Prop where
  b0 : W0.heap.size ≤ Bb
  nb : Bn ≠ Bb
  gb : Bg ≠ Bb
  eb : Be ≠ Bb
  n1 : Bn < B1
  b1 : Bb < B1
  g1 : Bg < B1
  e1 : Be < B1

theorem ownBlock_ne {w : World} {B1 e s n : Nat} {v : Value} {xs : List Value} (h : w.ownsRow B1 e s v n xs) {b : Nat} (hb : b < B1) : v.ownBlock = none ∨ v.ownBlock ≠ some b := by
  rcases hv : v.ownBlock with _ | k
  · exact .inl rfl
  · right
    have := (h.lt k hv).1
    intro e
    simp at e
    omega
theorem ExtSt.kept {W0 : World} {gid : Nat} {gc : Array Value} {n Bn Bb Bg Be B1 : Nat} {best : List Int} {w w' : World} (h : ExtSt W0 gid gc n Bn Bb Bg Be B1 best w) (ok : ExtOk W0 Bn Bb Bg Be B1) (hb : Below w.heap.size w w') : ExtSt W0 gid gc n Bn Bb Bg Be B1 best w' := by
  obtain ⟨ba, bc, h1, h2⟩ := h.b
  exact ⟨(hb.block _ (lt_of_block h.n)).trans h.n, (hb.block _ (lt_of_block h.g)).trans h.g, (hb.block _ (lt_of_block h.e)).trans h.e, ⟨ba, bc, (hb.block _ (lt_of_block h1)).trans h1, own_below h2 hb⟩, h.below.trans (hb.mono h.below.size)⟩

theorem ExtSt.put {W0 : World} {gid : Nat} {gc : Array Value} {n Bn Bb Bg Be B1 : Nat} {best : List Int} {w : World} (h : ExtSt W0 gid gc n Bn Bb Bg Be B1 best w) (ok : ExtOk W0 Bn Bb Bg Be B1) (best' : List Int) (m : Nat) (hm : m = best'.length) (sa : Option Addr) (sc : Nat)
    (ho : w.ownsRow B1 3 1 (.slice sa m sc) best'.length (best'.map (Value.int .i64))) : ExtSt W0 gid gc n Bn Bb Bg Be B1 best' (w.setCell ⟨Bb, 0, none⟩ (.slice sa m sc)) := by
  subst hm
  obtain ⟨ba, bc, h1, h2⟩ := h.b
  exact ⟨(heap_setCell_other w _ _ _ ok.nb).trans h.n, (heap_setCell_other w _ _ _ ok.gb).trans h.g, (heap_setCell_other w _ _ _ ok.eb).trans h.e, ⟨sa, sc, heap_setCell_same w Bb 0 _ _ _ h1, own_other ho _ ok.b1 _⟩, h.below.setCell ok.b0 _⟩

theorem grown_trans {a b c : World} {row : Option Nat} (h : a.grownBy b row) (k : b.grownBy c row) : a.grownBy c row :=
  ⟨k.os.trans h.os, k.tape.trans h.tape, k.output.trans h.output, Nat.le_trans h.size k.size, fun i hi hne => (k.block i (Nat.lt_of_lt_of_le hi h.size) hne).trans (h.block i hi hne)⟩
theorem grown_row {a b : World} (h : a.grownBy b none) (row : Option Nat) : a.grownBy b row := ⟨h.os, h.tape, h.output, h.size, fun i hi _ => h.block i hi (by simp)⟩
theorem grown_refl (a : World) (row : Option Nat) : a.grownBy a row := ⟨rfl, rfl, rfl, Nat.le_refl _, fun _ _ _ => rfl⟩
theorem below_grown_row {a b : World} (h : Below a.heap.size a b) (row : Option Nat) : a.grownBy b row := grown_row (below_grownBy h) row
theorem grown_set (w : World) (b : Nat) (u : Value) : w.grownBy (w.setCell ⟨b, 0, none⟩ u) (some b) :=
  ⟨rfl, rfl, rfl, by simp, fun i hi hne => Below.heap_setCell _ _ _ _ (by simpa using hne)⟩

/-- What a function value owes that tells good lists. -/
def GoodFn (W0 : World) (gid : Nat) (gc : Array Value) (g : List Int → Bool) : Prop :=
  ∀ (wr : World) (lv : Value) (l : List Int), Below W0.heap.size W0 wr → IntsAt wr lv l → Calls Tryz.prog gid (#[lv] ++ gc) wr fun e w' => e = .returned (.bool (g l)) ∧ Below wr.heap.size wr w'

set_option maxRecDepth 100000 in
set_option maxHeartbeats 2000000 in
theorem extend_any (gid : Nat) (gc : Array Value) (g : List Int → Bool) (n : Nat) (W0 : World) (Bn Bb Bg Be B1 : Nat) (hn12 : n ≤ 12) (ok : ExtOk W0 Bn Bb Bg Be B1) (eg : ∀ args w, (callFunc gid args).run Tryz.prog w = .ok (.enter gid args) w) (G : GoodFn W0 gid gc g) (k : Nat) :
    ∀ (from' : Nat) (l best : List Int) (lv : Value) (w : World), from' + k = n → l.length ≤ from' → best.length ≤ n → B1 ≤ w.heap.size → ExtSt W0 gid gc n Bn Bb Bg Be B1 best w → w.ownsRow B1 3 1 lv l.length (l.map (Value.int .i64)) →
      Calls Tryz.prog 100 #[lv, .int .i64 from', .pointer (some ⟨Bn, 0, none⟩), .pointer (some ⟨Bb, 0, none⟩), .pointer (some ⟨Bg, 0, none⟩), .pointer (some ⟨Be, 0, none⟩)] w fun e w' =>
        e = .returned (.tuple #[]) ∧ ExtSt W0 gid gc n Bn Bb Bg Be B1 (extK g n k best l) w' ∧ w.grownBy w' (some Bb) := by
  induction k using Nat.strongRecOn with
  | _ k ih =>
  intro from' l best lv w hfk hlf hb12 hB1 hst hown
  obtain ⟨i0, hi⟩ := info_of_underlying Tryz.underlying3
  have HI : Hid (i0.zero = some (.int .i64 0) ∧ i0.size = 1 ∧ i0.bytes = 8) := by
    have h := intInfo
    rw [hi] at h
    simp at h
    exact h
  have IH := Lib.hid ih
  have OK := Lib.hid ok
  have GG := Lib.hid G
  have ST := Lib.hid hst
  have OW := Lib.hid hown
  have HB1 := Lib.hid hB1
  have fI : (from' : Int) ≤ 12 := by omega
  clear ih ok G hst hown hB1
  go_enter Tryz.func100, Tryz.ntmps100
  go_wp2_with fail
  go_step3
  go_wp2_with fail
  go_step3
  go_wp2_with fail
  go_loopw [8] (fun i wr => ∃ (j : Nat) (bj : List Int), from' ≤ j ∧ j ≤ n ∧ i = .int .i64 j ∧ bj.length ≤ n ∧ Hid (extK g n (n - j) bj l = extK g n k best l ∧ ExtSt W0 gid gc n Bn Bb Bg Be B1 bj wr ∧ w.grownBy wr (some Bb))) (fun i _ => n - (intOf i).toNat)
  case atStart => exact ⟨from', best, Nat.le_refl _, by omega, rfl, hb12, by rw [show n - from' = k by omega], ST.out, grown_refl _ _⟩
  case round =>
    obtain ⟨j, bj, hfj, hjn, rfl, hbj, HR⟩ := hrel
    obtain ⟨r1, r2, r3⟩ := HR.out
    have cn := cellOf r2.n 0 _ rfl
    have jI : (j : Int) ≤ 12 := by omega
    have nI : (n : Int) ≤ 12 := by omega
    by_cases hlt : j < n
    · obtain ⟨ba, bc, hb0, hbo⟩ := r2.b
      have hOl := OW.out.kept r3 (ownBlock_ne OW.out OK.out.b1)
      have hcl := clone_any lv l B1 wr hOl (by omega)
      have hsz := r3.size
      clear hOl
      go_wp2_with fail
      refine hcl.mono ?_
      rintro e w1 ⟨v1, rfl, ho1, hb1⟩
      have hownA := ho1.alloc (Obj.cells #[.int .i64 j] 3)
      clear hcl cn
      go_wp2_with (first
        | (at_builtin; refine wpList_append_own _ rfl _ _ 43 rfl wr.heap.size 3 i0 (.int .i64 0) 1 8 Tryz.underlying43 hi HI.out.1 HI.out.2.1 HI.out.2.2 rfl (by decide) _ _ _ rfl hownA ⟨w1.heap.size, 0, none⟩ 1 1 [.int .i64 j] rfl rfl ?c1 ?c2 ?c3 ?c4 ?c5 ?_))
      case c1 =>
        intro i u hj
        match i, hj with
        | 0, hj => simp at hj; subst hj; simp [Addr.add]
      case c2 => intro u hu; simp at hu; subst hu; rfl
      case c3 => unfold maxLen; omega
      case c4 => omega
      case c5 => have := hb1.size; simp; omega
      intro v' w3 hown3 hgrow _
      have hB3 : Below wr.heap.size wr w3 := (hb1.alloc hb1.size (Obj.cells #[.int .i64 j] 3)).grown hgrow (by have := hb1.size; simp; omega) (fun g hg => (hownA.lt g hg).1)
      obtain ⟨sa, sc, rfl⟩ := own_slice hown3
      have s3 := r2.kept OK.out hB3
      have g3 := below_grown_row hB3 (some Bb)
      have hL : Hid (IntsAt w3 (.slice sa (l.length + 1) sc) (l ++ [(j : Int)])) := intsAt_own (base := wr.heap.size) (by simpa using hown3) (by simp; omega)
      have hO : Hid (w3.ownsRow B1 3 1 (.slice sa (l.length + 1) sc) (l ++ [(j : Int)]).length ((l ++ [(j : Int)]).map (Value.int .i64))) := own_base (by simpa using hown3) (by have := HB1.out; omega)
      have hEx : Hid (extK g n (n - j) bj l = if bj ≠ [] ∧ bj.length ≤ l.length + 1 then bj else if g (l ++ [(j : Int)]) then extK g n (n - (j + 1)) (l ++ [(j : Int)]) l else extK g n (n - (j + 1)) (extK g n (n - (j + 1)) bj (l ++ [(j : Int)])) l) := by
        show _ = _
        rw [show n - j = (n - (j + 1)) + 1 by omega, extK, show n - (n - (j + 1) + 1) = j by omega]
      have b3 := (hB3.block _ (lt_of_block hb0)).trans hb0
      have cb := cellOf b3 0 _ rfl
      have hs3 := hB3.size
      have S3 := Lib.hid s3
      have G3 := Lib.hid (grown_trans r3 g3)
      have R1 := Lib.hid r1
      have cg := cellOf s3.g 0 _ rfl
      have n3 := frozen_of_row _ Bb 0 _ _ b3
      clear hb0 hbo hb1 ho1 hownA hown3 hgrow hB3 s3 g3 r1 r2 r3 HR
      have lI : (l.length : Int) ≤ 12 := by omega
      have bI : (bj.length : Int) ≤ 12 := by omega
      by_cases hA : bj ≠ [] ∧ bj.length ≤ l.length + 1
      · have h1 : (0 : Int) < (bj.length : Int) := by have := List.length_pos_iff.2 hA.1; omega
        have h2 : (bj.length : Int) ≤ (l.length : Int) + 1 := by omega
        have HA := Lib.hid hA
        clear hA
        go_wp2_with fail
        rw [Exit.noGoto_normal]
        go_end0
        have e := R1.out
        rw [hEx.out, if_pos HA.out] at e
        exact ⟨rfl, by rw [← e]; exact S3.out, G3.out⟩
      · have HA := Lib.hid hA
        have hG := GG.out w3 _ (l ++ [(j : Int)]) S3.out.below hL.out
        have HG := Lib.hid hG
        clear hG
        rcases Nat.eq_zero_or_pos bj.length with h0 | h0
        · have h1 : (bj.length : Int) ≤ 0 := by omega
          clear hA
          go_wp2_with fail
          refine HG.out.mono ?_
          rintro e w4 ⟨rfl, hb4⟩
          have S4 := Lib.hid (S3.out.kept OK.out hb4)
          have G4 := Lib.hid (grown_trans G3.out (below_grown_row hb4 (some Bb)))
          have hO4 : Hid (w4.ownsRow B1 3 1 (.slice sa (l.length + 1) sc) (l ++ [(j : Int)]).length ((l ++ [(j : Int)]).map (Value.int .i64))) := own_below hO.out hb4
          have b4 := (hb4.block _ (lt_of_block b3)).trans b3
          have c4 := cellOf b4 0 _ rfl
          have f4 := frozen_of_row _ Bb 0 _ _ b4
          have ce := cellOf S4.out.e 0 _ rfl
          have hs4 := hb4.size
          clear cb cg n3 hb4 b3 b4 HG
          cases hg : g (l ++ [(j : Int)])
          · have hE : Hid (extK g n (n - (j + 1)) (extK g n (n - (j + 1)) bj (l ++ [(j : Int)])) l = extK g n k best l) := by show _ = _; rw [← R1.out, hEx.out, if_neg HA.out, if_neg (by rw [hg]; decide)]
            have hih := IH.out (n - (j + 1)) (by omega) (j + 1) (l ++ [(j : Int)]) bj (.slice sa (l.length + 1) sc) w4 (by omega) (by simp; omega) hbj (by have := HB1.out; omega) S4.out hO4.out
            rw [show ((j + 1 : Nat) : Int) = (j : Int) + 1 by omega] at hih
            have HIH := Lib.hid hih
            have hl5 := extK_le g n (n - (j + 1)) (l ++ [(j : Int)]) bj (by omega) (by simp; omega) hbj
            clear hih hg c4 f4
            go_wp2_with fail
            refine HIH.out.mono ?_
            rintro e w5 ⟨rfl, s5, g5⟩
            generalize extK g n (n - (j + 1)) bj (l ++ [(j : Int)]) = b5 at *
            have S5 := Lib.hid s5
            have G5 := Lib.hid (grown_trans G4.out g5)
            clear s5 g5 ce
            go_wp2_with fail
            go_roundw
            case rel => exact ⟨j + 1, b5, by omega, by omega, by go_num, hl5, hE.out, S5.out, G5.out⟩
            case measure => simp [intOf]; omega
          · have hE : Hid (extK g n (n - (j + 1)) (l ++ [(j : Int)]) l = extK g n k best l) := by show _ = _; rw [← R1.out, hEx.out, if_neg HA.out, if_pos hg]
            have S5 := Lib.hid (S4.out.put OK.out (l ++ [(j : Int)]) (l.length + 1) (by simp) sa sc hO4.out)
            have G5 := Lib.hid (grown_trans G4.out (grown_set w4 Bb (.slice sa (l.length + 1) sc)))
            clear hg ce
            go_wp2_with fail
            go_roundw
            case rel => exact ⟨j + 1, l ++ [(j : Int)], by omega, by omega, by go_num, by simp; omega, hE.out, S5.out, G5.out⟩
            case measure => simp [intOf]; omega
        · have h1 : (0 : Int) < (bj.length : Int) := by omega
          have h2 : (l.length : Int) + 1 < (bj.length : Int) := by
            have : ¬ bj.length ≤ l.length + 1 := fun h => hA ⟨List.length_pos_iff.1 h0, h⟩
            omega
          have d2 : decide ((bj.length : Int) ≤ (l.length : Int) + 1) = false := by simp; omega
          clear hA
          go_wp2_with fail
          refine HG.out.mono ?_
          rintro e w4 ⟨rfl, hb4⟩
          have S4 := Lib.hid (S3.out.kept OK.out hb4)
          have G4 := Lib.hid (grown_trans G3.out (below_grown_row hb4 (some Bb)))
          have hO4 : Hid (w4.ownsRow B1 3 1 (.slice sa (l.length + 1) sc) (l ++ [(j : Int)]).length ((l ++ [(j : Int)]).map (Value.int .i64))) := own_below hO.out hb4
          have b4 := (hb4.block _ (lt_of_block b3)).trans b3
          have c4 := cellOf b4 0 _ rfl
          have f4 := frozen_of_row _ Bb 0 _ _ b4
          have ce := cellOf S4.out.e 0 _ rfl
          have hs4 := hb4.size
          clear cb cg n3 hb4 b3 b4 HG
          cases hg : g (l ++ [(j : Int)])
          · have hE : Hid (extK g n (n - (j + 1)) (extK g n (n - (j + 1)) bj (l ++ [(j : Int)])) l = extK g n k best l) := by show _ = _; rw [← R1.out, hEx.out, if_neg HA.out, if_neg (by rw [hg]; decide)]
            have hih := IH.out (n - (j + 1)) (by omega) (j + 1) (l ++ [(j : Int)]) bj (.slice sa (l.length + 1) sc) w4 (by omega) (by simp; omega) hbj (by have := HB1.out; omega) S4.out hO4.out
            rw [show ((j + 1 : Nat) : Int) = (j : Int) + 1 by omega] at hih
            have HIH := Lib.hid hih
            have hl5 := extK_le g n (n - (j + 1)) (l ++ [(j : Int)]) bj (by omega) (by simp; omega) hbj
            clear hih hg c4 f4
            go_wp2_with fail
            refine HIH.out.mono ?_
            rintro e w5 ⟨rfl, s5, g5⟩
            generalize extK g n (n - (j + 1)) bj (l ++ [(j : Int)]) = b5 at *
            have S5 := Lib.hid s5
            have G5 := Lib.hid (grown_trans G4.out g5)
            clear s5 g5 ce
            go_wp2_with fail
            go_roundw
            case rel => exact ⟨j + 1, b5, by omega, by omega, by go_num, hl5, hE.out, S5.out, G5.out⟩
            case measure => simp [intOf]; omega
          · have hE : Hid (extK g n (n - (j + 1)) (l ++ [(j : Int)]) l = extK g n k best l) := by show _ = _; rw [← R1.out, hEx.out, if_neg HA.out, if_pos hg]
            have S5 := Lib.hid (S4.out.put OK.out (l ++ [(j : Int)]) (l.length + 1) (by simp) sa sc hO4.out)
            have G5 := Lib.hid (grown_trans G4.out (grown_set w4 Bb (.slice sa (l.length + 1) sc)))
            clear hg ce
            go_wp2_with fail
            go_roundw
            case rel => exact ⟨j + 1, l ++ [(j : Int)], by omega, by omega, by go_num, by simp; omega, hE.out, S5.out, G5.out⟩
            case measure => simp [intOf]; omega
    · go_wp2_with fail
      rw [Exit.noGoto_normal]
      go_end0
      have : n - j = 0 := by omega
      rw [this] at r1
      exact ⟨rfl, by rw [← r1]; exact r2, r3⟩
end Go.Proofs.YtacmaddjpaebfaaGreatDoor
