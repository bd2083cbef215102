/- EdgeWider: the call returns true, whatever its arguments and the memory in which it begins; its arguments read as they did. -/
import Derived.Test.YtkcfcjijmgbciaaLom
import Derived.Laws.StructEq
import Derived.Deep.DeepCutAuto
import Derived.Test.YtkcfcjijmgbciaaRows
import Derived.Test.YtkcfcjijmgbciaaEar
import Derived.ProofKit
import Derived.JoinedOf
import Derived.JoinedAt
set_option linter.unusedSimpArgs false
set_option linter.unusedVariables false
namespace Go.Proofs.Ytkcfcjijmgbciaa
open Go Go.RowKit Go.Shelf Ed

/-- A case that is wider. -/
def wideS (b z : Nat) (s : Sht) : Sht := ⟨s.nm, max 0 (s.wt - ((z % 4 : Nat) : Int)), min 6 (s.most + ((b % 3 : Nat) : Int))⟩
def wideC (c : Cas) (a b z : Nat) : Cas := ⟨min 50 (c.tol + ((a % 5 : Nat) : Int)), c.shs.map (wideS b z), c.eds⟩
theorem wide_get (c : Cas) (a b z : Nat) (j : Nat) (hj : j < c.shs.length) : (wideC c a b z).shs.getD j default = wideS b z c.shs[j] := by simp [wideC, List.getD_eq_getElem?_getD, hj]
theorem wide_err (c : Cas) (a b z : Nat) (h : errC c = 0) : errC (wideC c a b z) = 0 := by
  have hv := valid_of h
  have h0 := hv.t0
  have h5 := hv.t50
  refine err_names h ?_ (by simp [wideC]) (fun j hj => ?_) (fun j hj => ?_) rfl
  · unfold inB wideC
    simp only [Bool.and_eq_true, decide_eq_true_eq]
    omega
  · rw [wide_get c a b z j hj, getD_lt _ _ hj]; rfl
  · have hs := hv.sh _ (List.getElem_mem hj)
    obtain ⟨w0, w20, m0, m6⟩ := hs
    rw [wide_get c a b z j hj]
    unfold inB wideS
    simp only [Bool.and_eq_true, decide_eq_true_eq]
    omega
theorem want_wide_fold (t t' : Int) (ht : t ≤ t') : ∀ (l : List (Int × Int)) (s s' : Int × Int), s'.1 ≤ s.1 → s.2 ≤ s'.2 → (l.foldl (wantStep t') s').1 ≤ (l.foldl (wantStep t) s).1 ∧ (l.foldl (wantStep t) s).2 ≤ (l.foldl (wantStep t') s').2 := by
  intro l
  induction l with
  | nil => intro s s' h1 h2; exact ⟨h1, h2⟩
  | cons p l ih =>
    intro s s' h1 h2
    rw [List.foldl_cons, List.foldl_cons]
    apply ih
    · simp only [wantStep]; omega
    · simp only [wantStep]; omega
theorem want_wide (t t' : Int) (ht : t ≤ t') (l : List (Int × Int)) : (wantS t' l).1 ≤ (wantS t l).1 ∧ (wantS t l).2 ≤ (wantS t' l).2 :=
  want_wide_fold t t' ht l _ _ (by simp only; omega) (by simp only; omega)
theorem wide_ag (c : Cas) (a b z : Nat) (hv : Valid c) (y : Nat → Int) (hy : Ag (sysA c) y) : Ag (sysA (wideC c a b z)) y := by
  have h5 := hv.t50
  have h8 := hv.m8
  refine ⟨fun i hi => ?_, fun e he => ?_⟩
  · have hi' : i < c.shs.length := by simpa [sysC, wideC] using hi
    have h1 := hy.bx i hi'
    have h2 := (hv.sh _ (List.getElem_mem hi')).m6
    have h3 : (sysA (wideC c a b z)).most i = min 6 (c.shs[i].most + ((b % 3 : Nat) : Int)) := by
      show ((wideC c a b z).shs.getD i default).most = _
      rw [wide_get c a b z i hi']; rfl
    have h4 : (sysA c).most i = c.shs[i].most := by show (c.shs.getD i default).most = _; rw [getD_lt _ _ hi']
    rw [h3]
    rw [h4] at h1
    omega
  · simp only [sysC, List.mem_map, List.mem_range] at he
    obtain ⟨i, hi, rfl⟩ := he
    have hi' : i < c.eds.length := hi
    have h1 := hy.ed ⟨(c.eds.getD i default).a.toNat, (c.eds.getD i default).b.toNat, (wL (wsC c) i).1, (wL (wsC c) i).2⟩ (by simp only [sysC, List.mem_map, List.mem_range]; exact ⟨i, hi', rfl⟩)
    have h2 := wsTo_get (wantF c) c.eds.length i hi' h8
    have h3 := wsTo_get (wantF (wideC c a b z)) c.eds.length i hi' h8
    have e2 : wL (wsC c) i = wantF c i := Prod.ext h2.1 h2.2
    have e3 : wL (wsC (wideC c a b z)) i = wantF (wideC c a b z) i := Prod.ext h3.1 h3.2
    have h4 := want_wide c.tol (wideC c a b z).tol (by simp only [wideC]; omega) (c.eds.getD i default).pts
    rw [e2] at h1
    rw [e3]
    have e : (wideC c a b z).eds = c.eds := rfl
    unfold wantF at h1 ⊢
    rw [e]
    show (wantS (wideC c a b z).tol (c.eds.getD i default).pts).1 ≤ y (c.eds.getD i default).a.toNat - y (c.eds.getD i default).b.toNat ∧ y (c.eds.getD i default).a.toNat - y (c.eds.getD i default).b.toNat ≤ (wantS (wideC c a b z).tol (c.eds.getD i default).pts).2
    have h1' : (wantS c.tol (c.eds.getD i default).pts).1 ≤ y (c.eds.getD i default).a.toNat - y (c.eds.getD i default).b.toNat ∧ y (c.eds.getD i default).a.toNat - y (c.eds.getD i default).b.toNat ≤ (wantS c.tol (c.eds.getD i default).pts).2 := h1
    omega
theorem wide_cost (c : Cas) (a b z : Nat) (hv : Valid c) (y : Nat → Int) : costF (sysA (wideC c a b z)) y ≤ costF (sysA c) y := by
  have hn : (sysA (wideC c a b z)).n = (sysA c).n := by simp [sysC, wideC]
  unfold costF
  rw [hn]
  refine sumR_le fun i hi => ?_
  have hi' : i < c.shs.length := hi
  have h1 : (sysA (wideC c a b z)).wt i = max 0 (c.shs[i].wt - ((z % 4 : Nat) : Int)) := by
    show ((wideC c a b z).shs.getD i default).wt = _
    rw [wide_get c a b z i hi']; rfl
  have h2 : (sysA c).wt i = c.shs[i].wt := by show (c.shs.getD i default).wt = _; rw [getD_lt _ _ hi']
  rw [h1, h2]
  have := (hv.sh _ (List.getElem_mem hi')).w0
  exact Int.mul_le_mul_of_nonneg_right (by omega) (by unfold absI; omega)
/-- What the law asks of Range and Least of a case and a wider one. -/
theorem wide_facts (c : Cas) (h : errC c = 0) (a b z i : Nat) (hi : i < c.shs.length) :
    ((rangeE c i = ((0, 0), 9) ∧ leastE c = ([], 0, 9)) ∧ ((rangeE (wideC c a b z) i = ((0, 0), 9) ∧ leastE (wideC c a b z) = ([], 0, 9)) ∨ (rangeE (wideC c a b z) i).2 = 0 ∧ (leastE (wideC c a b z)).2.2 = 0)) ∨
    ((rangeE c i).2 = 0 ∧ (leastE c).2.2 = 0 ∧ (rangeE (wideC c a b z) i).2 = 0 ∧ (leastE (wideC c a b z)).2.2 = 0 ∧ (rangeE (wideC c a b z) i).1.1 ≤ (rangeE c i).1.1 ∧ (rangeE c i).1.2 ≤ (rangeE (wideC c a b z) i).1.2 ∧ (leastE (wideC c a b z)).2.1 ≤ (leastE c).2.1) := by
  have hv := valid_of h
  have he := wide_err c a b z h
  have hi2 : i < (wideC c a b z).shs.length := by simp [wideC, hi]
  rcases range_spec c h i hi with ⟨h1, hno⟩ | ⟨h1, h2⟩
  · left
    refine ⟨⟨h1, least_no c h hno⟩, ?_⟩
    rcases range_spec _ he i hi2 with ⟨h3, hno2⟩ | ⟨h3, h4⟩
    · exact .inl ⟨h3, least_no _ he hno2⟩
    · right
      refine ⟨h3, ?_⟩
      rcases least_spec _ he with ⟨_, hno2⟩ | ⟨h5, _⟩
      · obtain ⟨y, hy, _⟩ := h4.lo
        exact absurd hy (hno2 _)
      · exact h5
  · right
    obtain ⟨y, hy, ey⟩ := h2.lo
    obtain ⟨y', hy', ey'⟩ := h2.hi
    rcases least_spec c h with ⟨_, hno⟩ | ⟨h5, h6⟩
    · exact absurd hy (hno _)
    · rcases range_spec _ he i hi2 with ⟨_, hno2⟩ | ⟨h3, h4⟩
      · exact absurd (wide_ag c a b z hv y hy) (hno2 _)
      · rcases least_spec _ he with ⟨_, hno2⟩ | ⟨h7, h8⟩
        · exact absurd (wide_ag c a b z hv y hy) (hno2 _)
        · refine ⟨h1, h5, h3, h7, ?_, ?_, ?_⟩
          · have := h4.all y (wide_ag c a b z hv y hy); omega
          · have := h4.all y' (wide_ag c a b z hv y' hy'); omega
          · rw [h8.cost, h6.cost]
            exact Int.le_trans (h8.mn.2 _ (wide_ag c a b z hv _ h6.ag)) (wide_cost c a b z hv _)
set_option maxRecDepth 100000 in
set_option maxHeartbeats 16000000 in
theorem lwider_any (c : Cas) (sv ev : Value) (x y z : Nat) (q : Int) (w : World) (hx : x ≤ 255) (hy : y ≤ 255) (hz : z ≤ 255) (hq : 0 ≤ q ∧ q ≤ 255) (hC : CasAt w c sv ev) :
    Calls Try.prog 13 #[.agg #[.int .i64 c.tol, sv, ev], .agg #[.int .u8 x, .int .u8 y, .int .u8 z], .int .u8 q] w fun e w' => e = .returned (.bool true) ∧ Below w.heap.size w w' := by
  obtain ⟨q, rfl⟩ : ∃ k : Nat, q = k := ⟨q.toNat, by omega⟩
  obtain ⟨sa, n, sc, rfl, hn⟩ : ∃ a n cc, sv = .slice a n cc ∧ n = c.shs.length := by obtain ⟨_, a, cap, h, _⟩ := hC.shs; exact ⟨_, _, _, h, rfl⟩
  obtain ⟨ea, m, ec, rfl⟩ : ∃ a n cc, ev = .slice a n cc := by obtain ⟨_, a, cap, h, _⟩ := hC.eds; exact ⟨_, _, _, h⟩
  obtain ⟨tol, htol⟩ : ∃ t, c.tol = t := ⟨_, rfl⟩
  obtain ⟨i0, hi0⟩ := info_of_underlying Try.underlying66
  have HI0 : Hid (i0.zero = some (.agg #[.string ⟨#[]⟩, .int .i64 0, .int .i64 0]) ∧ i0.size = 3 ∧ i0.bytes = 32) := by
    have h := shtInfo
    rw [hi0] at h
    simp at h
    exact h
  have HTOL := Lib.hid htol
  have HN := Lib.hid hn
  have nlim : (n : Int) ≤ 4611686018427387904 := by have := hC.shs.1; omega
  obtain ⟨W, hW, q1, q2, hb, hsz⟩ := al2 w (Obj.cells #[.int .i64 tol, .slice sa n sc, .slice ea m ec] 25) (Obj.cells #[.int .u8 x, .int .u8 y, .int .u8 z] 76)
  have HR := Lib.hid q1
  have HZ := Lib.hid q2
  have HC := Lib.hid (hC.below hb)
  have HW := Lib.hid hW
  have HB := Lib.hid hb
  obtain ⟨q0, q9⟩ := hq
  rw [htol]
  clear hW hb hC htol hn q1 q2 hsz
  go_enter Try.func13, Try.ntmps13
  go_wp2_with fail
  rw [HW.out]
  clear HW
  have r0 := cellOf HR.out 0 _ rfl
  have r1 := cellOf HR.out 1 _ rfl
  have r2 := cellOf HR.out 2 _ rfl
  have rl := lt_of_block HR.out
  have z0 := cellOf HZ.out 0 _ rfl
  have z1 := cellOf HZ.out 1 _ rfl
  have z2 := cellOf HZ.out 2 _ rfl
  have zl := lt_of_block HZ.out
  go_wp2_with fail
  clear r0 r1 r2 rl z0 z1 z2 zl
  have hcall := lvalid_any c _ _ W HC.out
  rw [HTOL.out] at hcall
  refine hcall.mono ?_
  clear hcall
  rintro e w1 ⟨rfl, hb⟩
  have HR' := Lib.hid ((hb.block _ (lt_of_block HR.out)).trans HR.out)
  have HZ' := Lib.hid ((hb.block _ (lt_of_block HZ.out)).trans HZ.out)
  have HC' := Lib.hid (HC.out.below hb)
  have HB' := Lib.hid (HB.out.trans (hb.mono HB.out.size))
  clear HR
  have HR := HR'
  clear HR'
  clear HZ
  have HZ := HZ'
  clear HZ'
  clear HC
  have HC := HC'
  clear HC'
  clear HB
  have HB := HB'
  clear HB'
  clear hb
  by_cases h0 : errC c = 0
  · skip
    have HV := Lib.hid (valid_of h0)
    have H0 := Lib.hid h0
    rw [show decide (errC c = 0) = true by simp [h0]]
    clear h0
    have n1 : 1 ≤ n := by have := HV.out.n1; have := HN.out; omega
    have n5 : n ≤ 5 := by have := HV.out.n5; have := HN.out; omega
    have n1I : (1 : Int) ≤ n := by omega
    have n5I : (n : Int) ≤ 5 := by omega
    have t0 : 0 ≤ tol := by have := HV.out.t0; have := HTOL.out; omega
    have t50 : tol ≤ 50 := by have := HV.out.t50; have := HTOL.out; omega
    have em1 : (x : Int).tmod 5 = ((x % 5 : Nat) : Int) := tmod_nat x 5
    have xI : (x : Int) ≤ 255 := by omega
    have hx5 : x % 5 < 5 := Nat.mod_lt _ (by decide)
    obtain ⟨a5, ha5⟩ : ∃ k, x % 5 = k := ⟨_, rfl⟩
    rw [ha5] at em1 hx5
    have HA5 := Lib.hid ha5
    clear ha5
    have a5I : (a5 : Int) < 5 := by omega
    have s1 : IntKind.i64.wrap (tol + (a5 : Int)) = tol + (a5 : Int) := by rw [IntKind.wrap_i64] <;> omega
    obtain ⟨tw, htw⟩ : ∃ t, min 50 (tol + (a5 : Int)) = t := ⟨_, rfl⟩
    have hif : (if tol + (a5 : Int) < 50 then tol + (a5 : Int) else 50) = tw := by split <;> omega
    have HTW := Lib.hid htw
    clear htw
    have r0 := cellOf HR.out 0 _ rfl
    have r1 := cellOf HR.out 1 _ rfl
    have r2 := cellOf HR.out 2 _ rfl
    have rl := lt_of_block HR.out
    have z0 := cellOf HZ.out 0 _ rfl
    have z1 := cellOf HZ.out 1 _ rfl
    have z2 := cellOf HZ.out 2 _ rfl
    have zl := lt_of_block HZ.out
    go_wp2_with fail
    clear r0 r1 r2 rl z0 z1 z2 zl
    clear em1 s1 hif xI a5I
    have HRU0 := lt_of_block HR.out
    have HZU0 := lt_of_block HZ.out
    have HC1 := Lib.hid HC.out
    have HL12 : Hid (Below w1.heap.size w1 (w1.alloc (Obj.cells #[.int .i64 tw, .slice none 0 0, .slice ea m ec] 25))) := (Below.refl _ _).alloc (Nat.le_refl _) _
    have HBO := Lib.hid HB.out
    have hb := (Below.refl w1.heap.size w1).alloc (Nat.le_refl _) (Obj.cells #[.int .i64 tw, .slice none 0 0, .slice ea m ec] 25)
    have HV2 := Lib.hid (heap_alloc_new w1 (Obj.cells #[.int .i64 tw, .slice none 0 0, .slice ea m ec] 25))
    have HR' := Lib.hid ((hb.block _ (lt_of_block HR.out)).trans HR.out)
    have HZ' := Lib.hid ((hb.block _ (lt_of_block HZ.out)).trans HZ.out)
    have HC' := Lib.hid (HC.out.below hb)
    have HB' := Lib.hid (HB.out.trans (hb.mono HB.out.size))
    clear HR
    have HR := HR'
    clear HR'
    clear HZ
    have HZ := HZ'
    clear HZ'
    clear HC
    have HC := HC'
    clear HC'
    clear HB
    have HB := HB'
    clear HB'
    clear hb
    generalize w1.alloc (Obj.cells #[.int .i64 tw, .slice none 0 0, .slice ea m ec] 25) = w2 at *
    obtain ⟨u, hu⟩ : ∃ u, w1.heap.size = u := ⟨_, rfl⟩
    rw [hu] at HV2 ⊢
    rw [hu] at HRU0 HZU0
    have HU1 := Lib.hid hu
    clear hu
    have hu2 := lt_of_block HV2.out
    have HRU := Lib.hid HRU0
    have HZU := Lib.hid HZU0
    have own0 : w2.ownsRow (u + 1) 66 3 (.slice none 0 0) 0 (sC ((c.shs.map (wideS y z)).take 0)) := World.ownsRow_nil _ _ _ _
    go_loopg [8] n (fun g v wr => ∃ (k : Nat) (qa : Option Addr) (qc : Nat), g + k = n ∧ v = .int .i64 k ∧ Hid (wr.heap[u]? = some (.cells #[.int .i64 tw, .slice qa k qc, .slice ea m ec] 25 (0, 0))) ∧ wr.ownsRow (u + 1) 66 3 (.slice qa k qc) k (sC ((c.shs.map (wideS y z)).take k)) ∧ Hid (Below u w2 wr) ∧ u < wr.heap.size)
    case atStart => exact ⟨0, none, 0, by omega, rfl, HV2, own0, Below.refl _ _, hu2⟩
    case round =>
      clear own0
      obtain ⟨k, qa, qc, hk, rfl, HY, OP, HL, hus⟩ := hrel
      have R2 := Lib.hid ((HL.out.block _ HRU.out).trans HR.out)
      have Z2 := Lib.hid ((HL.out.block _ HZU.out).trans HZ.out)
      have r0 := cellOf R2.out 0 _ rfl
      have r1 := cellOf R2.out 1 _ rfl
      have r2 := cellOf R2.out 2 _ rfl
      have rl := lt_of_block R2.out
      have z0 := cellOf Z2.out 0 _ rfl
      have z1 := cellOf Z2.out 1 _ rfl
      have z2 := cellOf Z2.out 2 _ rfl
      have zl := lt_of_block Z2.out
      by_cases hkn : k < n
      · have kI : (k : Int) < (n : Int) := by omega
        have hk' : k < c.shs.length := by have := HN.out; omega
        obtain ⟨sb, so, heq, d0, d1, d2⟩ := HC1.out.shs.get hk'
        have hsb := World.block_lt_of_cell? w1 _ d0
        subst heq
        have d0 := (HL12.out.cell (p := ⟨sb, so + k * 3, none⟩) hsb).trans d0
        have d1 := (HL12.out.cell (p := ⟨sb, so + k * 3 + 1, none⟩) hsb).trans d1
        have d2 := (HL12.out.cell (p := ⟨sb, so + k * 3 + 2, none⟩) hsb).trans d2
        have d0 := (HL.out.cell (p := ⟨sb, so + k * 3, none⟩) (by rw [← HU1.out]; exact hsb)).trans d0
        have d1 := (HL.out.cell (p := ⟨sb, so + k * 3 + 1, none⟩) (by rw [← HU1.out]; exact hsb)).trans d1
        have d2 := (HL.out.cell (p := ⟨sb, so + k * 3 + 2, none⟩) (by rw [← HU1.out]; exact hsb)).trans d2
        have hsk := HV.out.sh _ (List.getElem_mem hk')
        have w0 := hsk.w0
        have w20 := hsk.w20
        have m0 := hsk.m0
        have m6 := hsk.m6
        have HTK : Hid ((c.shs.map (wideS y z)).take (k + 1) = (c.shs.map (wideS y z)).take k ++ [wideS y z c.shs[k]]) := by show _ = _; rw [List.take_succ_eq_append_getElem (by rw [List.length_map]; exact hk'), List.getElem_map]
        clear hsk
        generalize c.shs[k] = s at *
        obtain ⟨nm, wt, most⟩ := s
        simp only at d0 d1 d2 w0 w20 m0 m6
        have em1 : (y : Int).tmod 3 = ((y % 3 : Nat) : Int) := tmod_nat y 3
        have em2 : (z : Int).tmod 4 = ((z % 4 : Nat) : Int) := tmod_nat z 4
        have yI : (y : Int) ≤ 255 := by omega
        have zI : (z : Int) ≤ 255 := by omega
        have hy3 : y % 3 < 3 := Nat.mod_lt _ (by decide)
        have hz4 : z % 4 < 4 := Nat.mod_lt _ (by decide)
        obtain ⟨y3, hy3e⟩ : ∃ k, y % 3 = k := ⟨_, rfl⟩
        obtain ⟨z4, hz4e⟩ : ∃ k, z % 4 = k := ⟨_, rfl⟩
        rw [hy3e] at em1 hy3
        rw [hz4e] at em2 hz4
        have y3I : (y3 : Int) < 3 := by omega
        have z4I : (z4 : Int) < 4 := by omega
        obtain ⟨mo, hmo⟩ : ∃ t, min 6 (most + (y3 : Int)) = t := ⟨_, rfl⟩
        have s1 : IntKind.i64.wrap (most + (y3 : Int)) = most + (y3 : Int) := by rw [IntKind.wrap_i64] <;> omega
        have hif1 : (if most + (y3 : Int) < 6 then most + (y3 : Int) else 6) = mo := by split <;> omega
        obtain ⟨dd, hdd⟩ : ∃ t, wt - (z4 : Int) = t := ⟨_, rfl⟩
        have s2 : IntKind.i64.wrap (wt - (z4 : Int)) = dd := by rw [IntKind.wrap_i64] <;> omega
        obtain ⟨wn, hwn⟩ : ∃ t, max 0 dd = t := ⟨_, rfl⟩
        have hif2 : (if 0 < dd then dd else 0) = wn := by split <;> omega
        have HTX : Hid ((c.shs.map (wideS y z)).take (k + 1) = (c.shs.map (wideS y z)).take k ++ [⟨nm, wn, mo⟩]) := by
          show _ = _
          rw [HTK.out]
          unfold wideS
          rw [hy3e, hz4e, hmo, hdd, hwn]
        clear hmo hdd hwn hy3e hz4e HTK hk'
        have y1 := cellOf HY.out 1 _ rfl
        have yl := lt_of_block HY.out
        have fy := frozen_of_row _ _ 1 _ _ HY.out
        have hba : Below wr.heap.size wr ((wr.alloc (Obj.cells #[.string nm, .int .i64 wn, .int .i64 mo] 66)).alloc (Obj.cells #[.string nm, .int .i64 wn, .int .i64 mo] 66)) := by go_grown
        have hownA := (OP.alloc (Obj.cells #[.string nm, .int .i64 wn, .int .i64 mo] 66)).alloc (Obj.cells #[.string nm, .int .i64 wn, .int .i64 mo] 66)
        have YA := Lib.hid ((hba.block _ (lt_of_block HY.out)).trans HY.out)
        have PB := Lib.hid (HL.out.trans (hba.mono (by omega)))
        have HKN : Hid (∀ j v, [Value.string nm, .int .i64 wn, .int .i64 mo][j]? = some v → ((wr.alloc (Obj.cells #[.string nm, .int .i64 wn, .int .i64 mo] 66)).alloc (Obj.cells #[.string nm, .int .i64 wn, .int .i64 mo] 66)).cell? ((⟨wr.heap.size + 1, 0, none⟩ : Addr).add j) = some v) := by
          have h := cells3_new (wr.alloc (Obj.cells #[.string nm, .int .i64 wn, .int .i64 mo] 66)) 66 (.string nm) (.int .i64 wn) (.int .i64 mo)
          rw [show (wr.alloc (Obj.cells #[.string nm, .int .i64 wn, .int .i64 mo] 66)).heap.size = wr.heap.size + 1 by simp] at h
          exact h
        have hsz2 : ((wr.alloc (Obj.cells #[.string nm, .int .i64 wn, .int .i64 mo] 66)).alloc (Obj.cells #[.string nm, .int .i64 wn, .int .i64 mo] 66)).heap.size = wr.heap.size + 2 := by simp
        have dl := World.block_lt_of_cell? wr _ d0
        have kI5 : (k : Int) < 5 := by omega
        clear hba
        go_wp2_with (at_builtin; refine wpList_append_own _ rfl _ _ 22 rfl (u + 1) 66 i0 (.agg #[.string ⟨#[]⟩, .int .i64 0, .int .i64 0]) 3 32 Try.underlying22 hi0 HI0.out.1 HI0.out.2.1 HI0.out.2.2 rfl (by decide) _ _ _ rfl hownA ⟨wr.heap.size + 1, 0, none⟩ 1 1 [.string nm, .int .i64 wn, .int .i64 mo] rfl rfl HKN.out (by intro u hu; simp at hu; rcases hu with rfl | rfl | rfl <;> rfl) (by unfold maxLen; omega) (by omega) (by omega) ?_)
        intro v' w3 hown3 hgrow _
        have hgb : ∀ g, (Value.slice qa k qc).ownBlock = some g → u + 1 ≤ g := fun g hg => (hownA.lt g hg).1
        have hB3 := Lib.hid (PB.out.grown hgrow (by omega) (fun g hg => by have := hgb g hg; omega))
        have Y3 := Lib.hid ((hgrow.block _ (lt_of_block YA.out) (fun e => by have := hgb _ e.symm; omega)).trans YA.out)
        obtain ⟨qa', qc', rfl⟩ := own_slice hown3
        have HO3 : Hid (w3.ownsRow (u + 1) 66 3 (.slice qa' (k + 1) qc') (k + 1) (sC ((c.shs.map (wideS y z)).take (k + 1)))) := by
          show World.ownsRow _ _ _ _ _ _ _
          rw [HTX.out, sC_append]
          exact hown3
        have y1 := cellOf Y3.out 1 _ rfl
        have fy := frozen_of_row _ _ 1 _ _ Y3.out
        have yl := lt_of_block Y3.out
        clear hown3 hgrow hownA hgb YA HKN PB OP HY hsz2 r0 r1 r2 rl z0 z1 z2 zl d0 d1 d2 dl em1 em2 s1 s2 hif1 hif2
        go_wp2
        go_roundg (gk - 1)
        case measure => omega
        case rel => exact ⟨k + 1, qa', qc', by omega, by go_num, heap_setCell_same w3 u 1 _ _ (.slice qa' (k + 1) qc') Y3.out, own_other HO3.out ⟨u, 1, none⟩ (by simp) _, hB3.out.setCell (by simp) _, by simp; omega⟩
      · obtain rfl : k = n := by omega
        have kI : ¬ (k : Int) < (k : Int) := by omega
        have hb1 : Below w1.heap.size w1 wr := HL12.out.trans (by rw [HU1.out]; exact HL.out)
        have hca := HC1.out.below hb1
        have hss : ∀ s, s ∈ c.shs.map (wideS y z) → s.nm.size ≤ 140737488351232 := by
          intro s hs
          obtain ⟨s', hs', rfl⟩ := List.mem_map.1 hs
          obtain ⟨_, _, _, _, _, hsn, _⟩ := HC1.out.shs
          exact hsn s' hs'
        have htk : (c.shs.map (wideS y z)).take k = c.shs.map (wideS y z) := by rw [List.take_of_length_le]; rw [List.length_map]; have := HN.out; omega
        rw [htk] at OP
        have HD : Hid (CasAt wr (wideC c x y z) (.slice qa k qc) (.slice ea m ec)) := ⟨shtsAt_own (l := c.shs.map (wideS y z)) (by rw [List.length_map]; have := HN.out; omega) OP (by rw [List.length_map]; have := HN.out; omega) hss, hca.eds⟩
        have HTD : Hid ((wideC c x y z).tol = tw) := by show _ = _; unfold wideC; rw [HTOL.out, HA5.out]; exact HTW.out
        have HC := Lib.hid hca
        have HB := Lib.hid (HBO.out.trans (hb1.mono HBO.out.size))
        have HV2 := HY
        have HR := R2
        have HZ := Z2
        clear HL OP hb1 hca hss htk HC1 HL12 HU1 hkn hk r0 r1 r2 rl z0 z1 z2 zl HY R2 Z2
        have nz : ((k : Int) == 0) = false := by rw [beq_eq_false_iff_ne]; omega
        have nd0 : ¬ k = 0 := by omega
        have nd1 : ¬ (k : Int) = -1 := by omega
        have em := tmod_nat q k
        have hxm : q % k < k := Nat.mod_lt _ (by omega)
        generalize hxn : q % k = i at *
        clear hxn
        have iI : (i : Int) < (k : Int) := by omega
        have r0 := cellOf HR.out 0 _ rfl
        have r1 := cellOf HR.out 1 _ rfl
        have r2 := cellOf HR.out 2 _ rfl
        have rl := lt_of_block HR.out
        have z0 := cellOf HZ.out 0 _ rfl
        have z1 := cellOf HZ.out 1 _ rfl
        have z2 := cellOf HZ.out 2 _ rfl
        have zl := lt_of_block HZ.out
        have v0 := cellOf HV2.out 0 _ rfl
        have v1 := cellOf HV2.out 1 _ rfl
        have v2 := cellOf HV2.out 2 _ rfl
        have vl := lt_of_block HV2.out
        go_wp2_with fail
        clear r0 r1 r2 rl z0 z1 z2 zl v0 v1 v2 vl
        clear em nz nd0 nd1 kI
        have hin : i < c.shs.length := by have := HN.out; omega
        have hfx := wide_facts c H0.out x y z i hin
        clear hin
        obtain ⟨⟨⟨lo, hi⟩, e1⟩, h1⟩ : ∃ r, rangeE c i = r := ⟨_, rfl⟩
        obtain ⟨⟨⟨lo2, hi2⟩, e2⟩, h2⟩ : ∃ r, rangeE (wideC c x y z) i = r := ⟨_, rfl⟩
        obtain ⟨⟨la, ca, e3⟩, h3⟩ : ∃ r, leastE c = r := ⟨_, rfl⟩
        obtain ⟨⟨lb, cb, e4⟩, h4⟩ : ∃ r, leastE (wideC c x y z) = r := ⟨_, rfl⟩
        rw [h1, h2, h3, h4] at hfx
        simp only [Prod.mk.injEq] at hfx
        have H1 := Lib.hid h1
        have H2 := Lib.hid h2
        have H3 := Lib.hid h3
        have H4 := Lib.hid h4
        have HFX := Lib.hid hfx
        clear h1 h2 h3 h4 hfx
        have hcall := rangeT_any c _ _ (i : Int) wr HC.out
        rw [HTOL.out] at hcall
        refine hcall.mono ?_
        clear hcall
        rintro e w4 ⟨rfl, hb⟩
        have HR' := Lib.hid ((hb.block _ (lt_of_block HR.out)).trans HR.out)
        have HZ' := Lib.hid ((hb.block _ (lt_of_block HZ.out)).trans HZ.out)
        have HC' := Lib.hid (HC.out.below hb)
        have HB' := Lib.hid (HB.out.trans (hb.mono HB.out.size))
        have HV2' := Lib.hid ((hb.block _ (lt_of_block HV2.out)).trans HV2.out)
        have HD' := Lib.hid (HD.out.below hb)
        clear HR
        have HR := HR'
        clear HR'
        clear HZ
        have HZ := HZ'
        clear HZ'
        clear HC
        have HC := HC'
        clear HC'
        clear HB
        have HB := HB'
        clear HB'
        clear HV2
        have HV2 := HV2'
        clear HV2'
        clear HD
        have HD := HD'
        clear HD'
        clear hb
        rw [H1.out]
        simp only
        have r0 := cellOf HR.out 0 _ rfl
        have r1 := cellOf HR.out 1 _ rfl
        have r2 := cellOf HR.out 2 _ rfl
        have rl := lt_of_block HR.out
        have z0 := cellOf HZ.out 0 _ rfl
        have z1 := cellOf HZ.out 1 _ rfl
        have z2 := cellOf HZ.out 2 _ rfl
        have zl := lt_of_block HZ.out
        have v0 := cellOf HV2.out 0 _ rfl
        have v1 := cellOf HV2.out 1 _ rfl
        have v2 := cellOf HV2.out 2 _ rfl
        have vl := lt_of_block HV2.out
        go_wp2_with fail
        clear r0 r1 r2 rl z0 z1 z2 zl v0 v1 v2 vl
        have hb := (Below.refl w4.heap.size w4).alloc (Nat.le_refl _) (Obj.cells #[.int .i64 lo, .int .i64 hi] 31)
        have HS1 := Lib.hid (heap_alloc_new w4 (Obj.cells #[.int .i64 lo, .int .i64 hi] 31))
        have HR' := Lib.hid ((hb.block _ (lt_of_block HR.out)).trans HR.out)
        have HZ' := Lib.hid ((hb.block _ (lt_of_block HZ.out)).trans HZ.out)
        have HC' := Lib.hid (HC.out.below hb)
        have HB' := Lib.hid (HB.out.trans (hb.mono HB.out.size))
        have HV2' := Lib.hid ((hb.block _ (lt_of_block HV2.out)).trans HV2.out)
        have HD' := Lib.hid (HD.out.below hb)
        clear HR
        have HR := HR'
        clear HR'
        clear HZ
        have HZ := HZ'
        clear HZ'
        clear HC
        have HC := HC'
        clear HC'
        clear HB
        have HB := HB'
        clear HB'
        clear HV2
        have HV2 := HV2'
        clear HV2'
        clear HD
        have HD := HD'
        clear HD'
        clear hb
        generalize w4.alloc (Obj.cells #[.int .i64 lo, .int .i64 hi] 31) = w5 at *
        obtain ⟨u11, hu11⟩ : ∃ u, w4.heap.size = u := ⟨_, rfl⟩
        rw [hu11] at HS1 ⊢
        clear hu11
        have hcall := rangeT_any (wideC c x y z) _ _ (i : Int) w5 HD.out
        rw [HTD.out] at hcall
        refine hcall.mono ?_
        clear hcall
        rintro e w6 ⟨rfl, hb⟩
        have HR' := Lib.hid ((hb.block _ (lt_of_block HR.out)).trans HR.out)
        have HZ' := Lib.hid ((hb.block _ (lt_of_block HZ.out)).trans HZ.out)
        have HC' := Lib.hid (HC.out.below hb)
        have HB' := Lib.hid (HB.out.trans (hb.mono HB.out.size))
        have HV2' := Lib.hid ((hb.block _ (lt_of_block HV2.out)).trans HV2.out)
        have HD' := Lib.hid (HD.out.below hb)
        have HS1' := Lib.hid ((hb.block _ (lt_of_block HS1.out)).trans HS1.out)
        clear HR
        have HR := HR'
        clear HR'
        clear HZ
        have HZ := HZ'
        clear HZ'
        clear HC
        have HC := HC'
        clear HC'
        clear HB
        have HB := HB'
        clear HB'
        clear HV2
        have HV2 := HV2'
        clear HV2'
        clear HD
        have HD := HD'
        clear HD'
        clear HS1
        have HS1 := HS1'
        clear HS1'
        clear hb
        rw [H2.out]
        simp only
        have r0 := cellOf HR.out 0 _ rfl
        have r1 := cellOf HR.out 1 _ rfl
        have r2 := cellOf HR.out 2 _ rfl
        have rl := lt_of_block HR.out
        have z0 := cellOf HZ.out 0 _ rfl
        have z1 := cellOf HZ.out 1 _ rfl
        have z2 := cellOf HZ.out 2 _ rfl
        have zl := lt_of_block HZ.out
        have v0 := cellOf HV2.out 0 _ rfl
        have v1 := cellOf HV2.out 1 _ rfl
        have v2 := cellOf HV2.out 2 _ rfl
        have vl := lt_of_block HV2.out
        have s0 := cellOf HS1.out 0 _ rfl
        have s1 := cellOf HS1.out 1 _ rfl
        have sl := lt_of_block HS1.out
        go_wp2_with fail
        clear r0 r1 r2 rl z0 z1 z2 zl v0 v1 v2 vl s0 s1 sl
        have hb := (Below.refl w6.heap.size w6).alloc (Nat.le_refl _) (Obj.cells #[.int .i64 lo2, .int .i64 hi2] 31)
        have HS2 := Lib.hid (heap_alloc_new w6 (Obj.cells #[.int .i64 lo2, .int .i64 hi2] 31))
        have HR' := Lib.hid ((hb.block _ (lt_of_block HR.out)).trans HR.out)
        have HZ' := Lib.hid ((hb.block _ (lt_of_block HZ.out)).trans HZ.out)
        have HC' := Lib.hid (HC.out.below hb)
        have HB' := Lib.hid (HB.out.trans (hb.mono HB.out.size))
        have HV2' := Lib.hid ((hb.block _ (lt_of_block HV2.out)).trans HV2.out)
        have HD' := Lib.hid (HD.out.below hb)
        have HS1' := Lib.hid ((hb.block _ (lt_of_block HS1.out)).trans HS1.out)
        clear HR
        have HR := HR'
        clear HR'
        clear HZ
        have HZ := HZ'
        clear HZ'
        clear HC
        have HC := HC'
        clear HC'
        clear HB
        have HB := HB'
        clear HB'
        clear HV2
        have HV2 := HV2'
        clear HV2'
        clear HD
        have HD := HD'
        clear HD'
        clear HS1
        have HS1 := HS1'
        clear HS1'
        clear hb
        generalize w6.alloc (Obj.cells #[.int .i64 lo2, .int .i64 hi2] 31) = w7 at *
        obtain ⟨u13, hu13⟩ : ∃ u, w6.heap.size = u := ⟨_, rfl⟩
        rw [hu13] at HS2 ⊢
        clear hu13
        have hcall := least1_any c _ _ w7 HC.out
        rw [HTOL.out] at hcall
        refine hcall.mono ?_
        clear hcall
        rintro e w8 ⟨lv, rfl, hI, hb⟩
        have HR' := Lib.hid ((hb.block _ (lt_of_block HR.out)).trans HR.out)
        have HZ' := Lib.hid ((hb.block _ (lt_of_block HZ.out)).trans HZ.out)
        have HC' := Lib.hid (HC.out.below hb)
        have HB' := Lib.hid (HB.out.trans (hb.mono HB.out.size))
        have HV2' := Lib.hid ((hb.block _ (lt_of_block HV2.out)).trans HV2.out)
        have HD' := Lib.hid (HD.out.below hb)
        have HS1' := Lib.hid ((hb.block _ (lt_of_block HS1.out)).trans HS1.out)
        have HS2' := Lib.hid ((hb.block _ (lt_of_block HS2.out)).trans HS2.out)
        clear HR
        have HR := HR'
        clear HR'
        clear HZ
        have HZ := HZ'
        clear HZ'
        clear HC
        have HC := HC'
        clear HC'
        clear HB
        have HB := HB'
        clear HB'
        clear HV2
        have HV2 := HV2'
        clear HV2'
        clear HD
        have HD := HD'
        clear HD'
        clear HS1
        have HS1 := HS1'
        clear HS1'
        clear HS2
        have HS2 := HS2'
        clear HS2'
        clear hb
        clear hI
        rw [H3.out]
        simp only
        have r0 := cellOf HR.out 0 _ rfl
        have r1 := cellOf HR.out 1 _ rfl
        have r2 := cellOf HR.out 2 _ rfl
        have rl := lt_of_block HR.out
        have z0 := cellOf HZ.out 0 _ rfl
        have z1 := cellOf HZ.out 1 _ rfl
        have z2 := cellOf HZ.out 2 _ rfl
        have zl := lt_of_block HZ.out
        have v0 := cellOf HV2.out 0 _ rfl
        have v1 := cellOf HV2.out 1 _ rfl
        have v2 := cellOf HV2.out 2 _ rfl
        have vl := lt_of_block HV2.out
        have s0 := cellOf HS1.out 0 _ rfl
        have s1 := cellOf HS1.out 1 _ rfl
        have sl := lt_of_block HS1.out
        have t0 := cellOf HS2.out 0 _ rfl
        have t1 := cellOf HS2.out 1 _ rfl
        have tl := lt_of_block HS2.out
        go_wp2_with fail
        clear r0 r1 r2 rl z0 z1 z2 zl v0 v1 v2 vl s0 s1 sl t0 t1 tl
        have hcall := least1_any (wideC c x y z) _ _ w8 HD.out
        rw [HTD.out] at hcall
        refine hcall.mono ?_
        clear hcall
        rintro e w9 ⟨lv2, rfl, hI, hb⟩
        have HR' := Lib.hid ((hb.block _ (lt_of_block HR.out)).trans HR.out)
        have HZ' := Lib.hid ((hb.block _ (lt_of_block HZ.out)).trans HZ.out)
        have HC' := Lib.hid (HC.out.below hb)
        have HB' := Lib.hid (HB.out.trans (hb.mono HB.out.size))
        have HV2' := Lib.hid ((hb.block _ (lt_of_block HV2.out)).trans HV2.out)
        have HD' := Lib.hid (HD.out.below hb)
        have HS1' := Lib.hid ((hb.block _ (lt_of_block HS1.out)).trans HS1.out)
        have HS2' := Lib.hid ((hb.block _ (lt_of_block HS2.out)).trans HS2.out)
        clear HR
        have HR := HR'
        clear HR'
        clear HZ
        have HZ := HZ'
        clear HZ'
        clear HC
        have HC := HC'
        clear HC'
        clear HB
        have HB := HB'
        clear HB'
        clear HV2
        have HV2 := HV2'
        clear HV2'
        clear HD
        have HD := HD'
        clear HD'
        clear HS1
        have HS1 := HS1'
        clear HS1'
        clear HS2
        have HS2 := HS2'
        clear HS2'
        clear hb
        clear hI
        rw [H4.out]
        simp only
        have hfx := HFX.out
        clear HFX H1 H2 H3 H4
        rcases hfx with ⟨⟨⟨⟨rfl, rfl⟩, rfl⟩, rfl, rfl, rfl⟩, hf2⟩ | ⟨rfl, rfl, rfl, rfl, k1, k2, k3⟩
        · skip
          rcases hf2 with ⟨⟨⟨rfl, rfl⟩, rfl⟩, rfl, rfl, rfl⟩ | ⟨rfl, rfl⟩
          · skip
            have r0 := cellOf HR.out 0 _ rfl
            have r1 := cellOf HR.out 1 _ rfl
            have r2 := cellOf HR.out 2 _ rfl
            have rl := lt_of_block HR.out
            have z0 := cellOf HZ.out 0 _ rfl
            have z1 := cellOf HZ.out 1 _ rfl
            have z2 := cellOf HZ.out 2 _ rfl
            have zl := lt_of_block HZ.out
            have v0 := cellOf HV2.out 0 _ rfl
            have v1 := cellOf HV2.out 1 _ rfl
            have v2 := cellOf HV2.out 2 _ rfl
            have vl := lt_of_block HV2.out
            have s0 := cellOf HS1.out 0 _ rfl
            have s1 := cellOf HS1.out 1 _ rfl
            have sl := lt_of_block HS1.out
            have t0 := cellOf HS2.out 0 _ rfl
            have t1 := cellOf HS2.out 1 _ rfl
            have tl := lt_of_block HS2.out
            go_wp2_with fail
            clear r0 r1 r2 rl z0 z1 z2 zl v0 v1 v2 vl s0 s1 sl t0 t1 tl
            refine (awake_any w9).mono ?_
            rintro e wz ⟨rfl, hb⟩
            have HBF := Lib.hid (HB.out.trans (hb.mono HB.out.size))
            clear hb
            go_wp2_with fail
            go_ret
            exact ⟨rfl, HBF.out⟩
          · skip
            have r0 := cellOf HR.out 0 _ rfl
            have r1 := cellOf HR.out 1 _ rfl
            have r2 := cellOf HR.out 2 _ rfl
            have rl := lt_of_block HR.out
            have z0 := cellOf HZ.out 0 _ rfl
            have z1 := cellOf HZ.out 1 _ rfl
            have z2 := cellOf HZ.out 2 _ rfl
            have zl := lt_of_block HZ.out
            have v0 := cellOf HV2.out 0 _ rfl
            have v1 := cellOf HV2.out 1 _ rfl
            have v2 := cellOf HV2.out 2 _ rfl
            have vl := lt_of_block HV2.out
            have s0 := cellOf HS1.out 0 _ rfl
            have s1 := cellOf HS1.out 1 _ rfl
            have sl := lt_of_block HS1.out
            have t0 := cellOf HS2.out 0 _ rfl
            have t1 := cellOf HS2.out 1 _ rfl
            have tl := lt_of_block HS2.out
            go_wp2_with fail
            clear r0 r1 r2 rl z0 z1 z2 zl v0 v1 v2 vl s0 s1 sl t0 t1 tl
            refine (awake_any w9).mono ?_
            rintro e wz ⟨rfl, hb⟩
            have HBF := Lib.hid (HB.out.trans (hb.mono HB.out.size))
            clear hb
            go_wp2_with fail
            go_ret
            exact ⟨rfl, HBF.out⟩
        · skip
          have r0 := cellOf HR.out 0 _ rfl
          have r1 := cellOf HR.out 1 _ rfl
          have r2 := cellOf HR.out 2 _ rfl
          have rl := lt_of_block HR.out
          have z0 := cellOf HZ.out 0 _ rfl
          have z1 := cellOf HZ.out 1 _ rfl
          have z2 := cellOf HZ.out 2 _ rfl
          have zl := lt_of_block HZ.out
          have v0 := cellOf HV2.out 0 _ rfl
          have v1 := cellOf HV2.out 1 _ rfl
          have v2 := cellOf HV2.out 2 _ rfl
          have vl := lt_of_block HV2.out
          have s0 := cellOf HS1.out 0 _ rfl
          have s1 := cellOf HS1.out 1 _ rfl
          have sl := lt_of_block HS1.out
          have t0 := cellOf HS2.out 0 _ rfl
          have t1 := cellOf HS2.out 1 _ rfl
          have tl := lt_of_block HS2.out
          go_wp2_with fail
          clear r0 r1 r2 rl z0 z1 z2 zl v0 v1 v2 vl s0 s1 sl t0 t1 tl
          refine (awake_any w9).mono ?_
          rintro e wz ⟨rfl, hb⟩
          have HBF := Lib.hid (HB.out.trans (hb.mono HB.out.size))
          clear hb
          go_wp2_with fail
          go_ret
          exact ⟨rfl, HBF.out⟩
  · skip
    rw [show decide (errC c = 0) = false by simp [h0]]
    clear h0
    have r0 := cellOf HR.out 0 _ rfl
    have r1 := cellOf HR.out 1 _ rfl
    have r2 := cellOf HR.out 2 _ rfl
    have rl := lt_of_block HR.out
    have z0 := cellOf HZ.out 0 _ rfl
    have z1 := cellOf HZ.out 1 _ rfl
    have z2 := cellOf HZ.out 2 _ rfl
    have zl := lt_of_block HZ.out
    go_wp2_with fail
    clear r0 r1 r2 rl z0 z1 z2 zl
    refine (awake_any w1).mono ?_
    rintro e wz ⟨rfl, hb⟩
    have HBF := Lib.hid (HB.out.trans (hb.mono HB.out.size))
    clear hb
    go_wp2_with fail
    go_ret
    exact ⟨rfl, HBF.out⟩
end Go.Proofs.Ytkcfcjijmgbciaa
namespace Go.Proofs.Ytkcfcjijmgbciaa
namespace ClaimEdgeWider
open Go.ChangeShapes Go.WideShapes Go.ChangeAt Go.RowKit

theorem own : ownKnob Try.prog.godebug = none := by kernel_rfl
theorem laidOutP : laidOutB Try.prog = true := by kernel_rfl

set_option maxRecDepth 100000 in
theorem contract (H : Type) (enc : TypeId × Value → H) (W : World) (base : Nat) (args : Array Value) (ds gs : List (DataW H)) (before : List MemPlace)
    (hval : ∀ (j : Nat) t v, Try.f13.params[j]? = some t → args[j]? = some v → Value.okWide Try.prog W .any base t v)
    (hW : DataW.Whole enc Try.prog Try.f13.params.toList Rows.edgeWiderSpec.vars false W args.toList ds gs before)
    (hsz : (DataW.weightsEach Try.prog (Try.f13.params.toList ++ Rows.edgeWiderSpec.plain.varTypes Try.prog) (ds ++ gs)).all (· ≤ reachBytes) = true) :
    Calls Try.prog 13 args W fun e W' => ∃ v, e = .returned v ∧ Rows.edgeWiderSpec.post enc Try.prog Try.f13 false true false false W args v W' := by
  have hW' := hW
  obtain ⟨p, q, hA0, hV, rfl, hfz, hnd⟩ := hW
  have hA : DataW.TrodAll enc Try.prog W 0 (fun _ => true) true Try.f13.params.toList args.toList ds p := hA0
  rw [Try.params13] at hA hval hsz
  obtain ⟨v0, vs0, d0, ds0, p0, q0, hargs, rfl, rfl, h0, r0⟩ := trodAll_cons hA
  obtain ⟨v1, vs1, d1, ds1, p1, q1, rfl, rfl, rfl, h1, r1⟩ := trodAll_cons r0
  obtain ⟨v2, vs2, d2, ds2, p2, q2, rfl, rfl, rfl, h2, r2⟩ := trodAll_cons r1
  obtain ⟨rfl, rfl, rfl⟩ := trodAll_nil r2
  obtain rfl : args = #[v0, v1, v2] := by cases args; simp_all
  obtain ⟨rfl, rfl⟩ := trodVars_none hV
  have w0 : ∀ x ∈ d0.weights Try.prog 25, x ≤ reachBytes := fun x hx => of_decide_eq_true (List.all_eq_true.1 hsz _ (DataW.weights_mem_each (j := 0) (t := 25) (d := d0) rfl rfl x hx))
  obtain ⟨c0, sv0, ev0, rfl, hC0⟩ := open_case (hval 0 25 v0 rfl rfl) h0 w0
  obtain ⟨x1, y1, z1, rfl, bx1, by1, bz1⟩ := open_u8x3 (hval 1 76 v1 rfl rfl) h1
  obtain ⟨n2, rfl, _, _, k2⟩ := open_int Try.underlying5 (hval 2 5 v2 rfl rfl) h2
  have b2 : 0 ≤ n2 ∧ n2 ≤ 255 := by simpa [Lit.wf, IntKind.min, IntKind.max, IntKind.signed, IntKind.bits] using k2
  clear hA0
  refine (lwider_any c0 sv0 ev0 x1 y1 z1 n2 W bx1 by1 bz1 b2 hC0).mono fun e W' ⟨he, hb⟩ => ?_
  subst he
  exact ⟨_, rfl, post_law laidOutP (by rw [Try.params13]; intro t ht; simp at ht; rcases ht with rfl | rfl | rfl <;> exact ⟨by kernel_rfl, of_decide_eq_true (by kernel_rfl)⟩) rfl rfl Try.underlying4 rfl hW' hb⟩

set_option maxRecDepth 100000 in
theorem lifted (os : Os) (started : os.Started) (H : Type) (enc : TypeId × Value → H) :
    ReturnsInHanded {} Try.checked os 13 .any (Rows.edgeWiderSpec.pre6 enc Try.prog Try.f13 Rows.edgeWiderRow.domain false) (Rows.edgeWiderSpec.post enc Try.prog Try.f13 false true false false) := by
  refine returnsInHanded_of_change_sized (C := Try.checked) own started (by kernel_rfl) Try.func13
    (ChangeSpec.witness6 (enc := enc) (C := Try.checked) false ⟨#[], #[.agg #[.int .i64 0, .slice none 0 0, .slice none 0 0], .agg #[.int .u8 0, .int .u8 0, .int .u8 0], .int .u8 0], []⟩ 8 (by kernel_rfl) (by kernel_rfl) (by kernel_rfl) (by kernel_rfl)) ?_
  intro W base args ds gs before hval hW _ hsz _
  exact contract H enc W base args ds gs before hval hW hsz

theorem over : Rows.EdgeWiderSaid :=
  OpenClaim.holds_of_wide 13 Try.f13 rfl rfl rfl rfl rfl rfl rfl ⟨rfl, rfl, rfl, rfl, rfl⟩ rfl rfl rfl rfl rfl (by kernel_rfl) Try.func13 (by kernel_rfl)
    (of_decide_eq_true (by kernel_rfl)) (by unfold Func.isWrapper; first | (rw [if_pos (by decide +kernel)]; kernel_rfl) | (rw [if_neg (by decide +kernel)]; exact ⟨rfl, rfl⟩))
    (fun os started H enc _ => lifted os started H enc)
end ClaimEdgeWider

theorem edgeWider_holds : Rows.EdgeWiderSaid := ClaimEdgeWider.over
end Go.Proofs.Ytkcfcjijmgbciaa
