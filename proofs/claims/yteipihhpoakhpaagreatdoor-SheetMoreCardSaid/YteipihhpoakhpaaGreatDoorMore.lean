/- SheetMore: the call returns true. Condition: the tables of Go's library are laid. -/
import Derived.Test.YteipihhpoakhpaaGreatDoorReached
set_option linter.unusedSimpArgs false
set_option linter.unusedVariables false
namespace Go.Proofs.YteipihhpoakhpaaGreatDoor
open Go Go.RowKit Hs Dc

/-- The spans that Heights hands back lie in block g. -/
def SpM (w : World) (g : Nat) (M : List Int) (n : Nat) : Prop := ∀ i, i < n → w.cell? ⟨g, i * 2, none⟩ = some (.int .i64 (-(ent M 8 i))) ∧ w.cell? ⟨g, i * 2 + 1, none⟩ = some (.int .i64 (ent M i 8))
theorem SpM.below {w w' : World} {g : Nat} {M : List Int} {n : Nat} (h : SpM w g M n) (hb : Below w.heap.size w w') : SpM w' g M n := fun i hi =>
  ⟨(hb.cell (p := ⟨g, i * 2, none⟩) (World.block_lt_of_cell? w _ (h i hi).1)).trans (h i hi).1, (hb.cell (p := ⟨g, i * 2 + 1, none⟩) (World.block_lt_of_cell? w _ (h i hi).2)).trans (h i hi).2⟩
theorem spm_of {n : Nat} {w : World} {v : Value} {s : Sheet} (h : SpansAt n w v (heightS s)) : ∃ g, v = .slice (some ⟨g, 0, none⟩) s.pts.length s.pts.length ∧ SpM w g (measM s) s.pts.length := by
  obtain ⟨g, e, _, _, hc⟩ := h
  have hl : (heightS s).length = s.pts.length := by simp [heightS]
  rw [hl] at e
  refine ⟨g, e, fun i hi => ?_⟩
  obtain ⟨c0, c1⟩ := hc i (by omega)
  have hE : (heightS s)[i]'(by omega) = (-(ent (measM s) 8 i), ent (measM s) i 8) := by
    simp only [heightS, List.getElem_map, List.getElem_range]
    rfl
  rw [hE] at c0 c1
  exact ⟨c0, c1⟩
theorem topsK_mono {M M' : List Int} {n : Nat} (k : Nat) (h : ∀ a b, a < k → b < n → ent M' a b ≤ ent M a b) : ∀ z, z ∈ topsK M' n k → z ∈ topsK M n k := by
  intro z hz
  unfold topsK at hz ⊢
  obtain ⟨a, ha, rfl⟩ := List.mem_map.1 hz
  obtain ⟨h1, h2⟩ := List.mem_filter.1 ha
  have hak := List.mem_range.1 h1
  refine List.mem_map.2 ⟨a, List.mem_filter.2 ⟨h1, ?_⟩, rfl⟩
  unfold topB at h2 ⊢
  rw [List.all_eq_true] at h2 ⊢
  intro b hb
  have := h2 b hb
  have hm := h a b hak (List.mem_range.1 hb)
  unfold ent at hm
  simp only [decide_eq_true_eq] at this ⊢
  omega
theorem highS_len (s : Sheet) : (highS s).length ≤ s.pts.length := by
  unfold highS
  split
  · exact topsK_le _ _ _
  · simp
theorem notes_len {n : Nat} {w : World} {v : Value} {l : List Note} (h : NotesAt n w v l) : ∃ a c, v = .slice a l.length c := by
  obtain ⟨_, a, c, e, _⟩ := h
  exact ⟨a, c, e⟩
theorem num_ge {a b : Int} (h : b ≤ a) : decide (b ≤ a) = true := by simp [h]

set_option maxRecDepth 100000 in
set_option maxHeartbeats 8000000 in
theorem lmore_any (s : Sheet) (pv nv : Value) (z : Note) (x y : Nat) (w : World) (hS : SheetAt w.heap.size w pv nv s) (hcap : CapOk pv) (hl40 : s.notes.length * 40 ≤ 140737488351232) (hx : x ≤ 255) (hy : y ≤ 255) (hT : Tabs w) :
    Calls Tryz.prog 9 #[.agg #[.int .i64 s.iv, pv, nv], noteV z, .agg #[.int .u8 x, .int .u8 y]] w fun e w' => e = .returned (.bool true) ∧ Below w.heap.size w w' := by
  obtain ⟨iv, pts, notes⟩ := s
  obtain ⟨k0, k1, k2, k3, k4⟩ := z
  obtain ⟨ln, na, nc, rfl, _⟩ := id hS.notes
  obtain ⟨lp, pa, pc, rfl, _⟩ := id hS.pts
  simp only at hS ln lp hl40 ⊢
  have B0 : Below w.heap.size w (((w.alloc (Obj.cells #[.int .i64 iv, .slice pa pts.length pc, .slice na notes.length nc] 25)).alloc (Obj.cells #[.int .i64 k0, .int .i64 k1, .int .i64 k2, .int .i64 k3, .int .i64 k4] 67)).alloc (Obj.cells #[.int .u8 x, .int .u8 y] 58)) := by go_grown
  have hA : (((w.alloc (Obj.cells #[.int .i64 iv, .slice pa pts.length pc, .slice na notes.length nc] 25)).alloc (Obj.cells #[.int .i64 k0, .int .i64 k1, .int .i64 k2, .int .i64 k3, .int .i64 k4] 67)).alloc (Obj.cells #[.int .u8 x, .int .u8 y] 58)).heap[w.heap.size]? = _ := (Below.heap_alloc _ _ _ (by simp; omega)).trans (heap_alloc2_old w _ _)
  have hU : (((w.alloc (Obj.cells #[.int .i64 iv, .slice pa pts.length pc, .slice na notes.length nc] 25)).alloc (Obj.cells #[.int .i64 k0, .int .i64 k1, .int .i64 k2, .int .i64 k3, .int .i64 k4] 67)).alloc (Obj.cells #[.int .u8 x, .int .u8 y] 58)).heap[w.heap.size + 1 + 1]? = some (.cells #[.int .u8 x, .int .u8 y] 58 (0, 0)) := by
    have := heap_alloc_new ((w.alloc (Obj.cells #[.int .i64 iv, .slice pa pts.length pc, .slice na notes.length nc] 25)).alloc (Obj.cells #[.int .i64 k0, .int .i64 k1, .int .i64 k2, .int .i64 k3, .int .i64 k4] 67)) (Obj.cells #[.int .u8 x, .int .u8 y] 58)
    simpa using this
  have HS := Lib.hid (hS.up B0)
  have HT := Lib.hid (hT.below B0)
  have HB := Lib.hid B0
  have HA := Lib.hid hA
  have HU := Lib.hid hU
  clear hA hU B0 hS hT
  go_enter Tryz.func9, Tryz.ntmps9
  go_wp2_with fail
  generalize (((w.alloc (Obj.cells #[.int .i64 iv, .slice pa pts.length pc, .slice na notes.length nc] 25)).alloc (Obj.cells #[.int .i64 k0, .int .i64 k1, .int .i64 k2, .int .i64 k3, .int .i64 k4] 67)).alloc (Obj.cells #[.int .u8 x, .int .u8 y] 58)) = W at *
  refine (lwith_any ⟨iv, pts, notes⟩ _ _ ⟨k0, k1, k2, k3, k4⟩ W HS.out hl40).mono ?_
  rintro e w1 ⟨nv', rfl, hSt, hb⟩
  obtain ⟨nb, nl, nd, rfl⟩ := notesAt_slice hSt.notes
  simp only at hSt ⊢
  have k2' : Below w1.heap.size w1 (w1.alloc (Obj.cells #[.int .i64 iv, .slice pa pts.length pc, .slice nb nl nd] 25)) := by go_grown
  have HA2 := Lib.hid ((k2'.block _ (lt_of_block ((hb.block _ (lt_of_block HA.out)).trans HA.out))).trans ((hb.block _ (lt_of_block HA.out)).trans HA.out))
  have HU2 := Lib.hid ((k2'.block _ (lt_of_block ((hb.block _ (lt_of_block HU.out)).trans HU.out))).trans ((hb.block _ (lt_of_block HU.out)).trans HU.out))
  have HR2 := Lib.hid (heap_alloc_new w1 (Obj.cells #[.int .i64 iv, .slice pa pts.length pc, .slice nb nl nd] 25))
  have HS2 := Lib.hid ((HS.out.up hb).up k2')
  have HSt2 := Lib.hid (hSt.up k2')
  have HT2 := Lib.hid ((HT.out.below hb).below k2')
  have HB2 := Lib.hid (HB.out.trans ((hb.trans (k2'.mono hb.size)).mono HB.out.size))
  clear hb hSt k2' HA HU HS HT HB
  go_wp2_with fail
  generalize hw2 : (w1.alloc (Obj.cells #[.int .i64 iv, .slice pa pts.length pc, .slice nb nl nd] 25)) = w2 at *
  clear hw2
  have hbR := lt_of_block HR2.out
  generalize w1.heap.size = bt at *
  refine (valid_any ⟨iv, pts, (notes ++ [(⟨k0, k1, k2, k3, k4⟩ : Note)])⟩ _ _ w2 HSt2.out hcap).mono ?_
  rintro e w3 ⟨rfl, hb⟩
  have HA3 := Lib.hid ((hb.block _ (lt_of_block HA2.out)).trans HA2.out)
  have HU3 := Lib.hid ((hb.block _ (lt_of_block HU2.out)).trans HU2.out)
  have HR3 := Lib.hid ((hb.block _ (lt_of_block HR2.out)).trans HR2.out)
  have HS3 := Lib.hid (HS2.out.up hb)
  have HSt3 := Lib.hid (HSt2.out.up hb)
  have HT3 := Lib.hid (HT2.out.below hb)
  have HB3 := Lib.hid (HB2.out.trans (hb.mono HB2.out.size))
  clear hb HA2 HU2 HR2 HS2 HSt2 HT2 HB2
  by_cases hv : errS ⟨iv, pts, (notes ++ [(⟨k0, k1, k2, k3, k4⟩ : Note)])⟩ = 0
  · have HVt := Lib.hid ((check_valid _).1 hv)
    have tv : (errS ⟨iv, pts, (notes ++ [(⟨k0, k1, k2, k3, k4⟩ : Note)])⟩ == 0) = true := by simp [hv]
    rw [tv]
    clear tv hv
    have HV : Hid (ValidS ⟨iv, pts, notes⟩) := HVt.out.with_ notes (by have := HVt.out.nn; simp at this; omega) (fun q hq => HVt.out.err0 q (by simp only [List.mem_append]; exact .inl hq))
    have a0 := cellOf HA3.out 0 _ rfl
    have a1 := cellOf HA3.out 1 _ rfl
    have a2 := cellOf HA3.out 2 _ rfl
    have t0 := cellOf HR3.out 0 _ rfl
    have t1 := cellOf HR3.out 1 _ rfl
    have t2 := cellOf HR3.out 2 _ rfl
    have hc := Heights_any ⟨iv, pts, notes⟩ (.slice pa pts.length pc) (.slice na notes.length nc) w3 HS3.out
    have HC := Lib.hid hc
    clear hc
    cases ft : fitB iv 0 (notes ++ [(⟨k0, k1, k2, k3, k4⟩ : Note)])
    · have het : measE ⟨iv, pts, (notes ++ [(⟨k0, k1, k2, k3, k4⟩ : Note)])⟩ = 9 := meas_no HVt.out ft
      have HET := Lib.hid het
      clear het ft
      go_wp2_with fail
      refine HC.out.mono ?_
      rintro e w4 ⟨v, rfl, _, _, hb⟩
      clear a0 a1 a2 t0 t1 t2
      have HA4 := Lib.hid ((hb.block _ (lt_of_block HA3.out)).trans HA3.out)
      have HU4 := Lib.hid ((hb.block _ (lt_of_block HU3.out)).trans HU3.out)
      have HR4 := Lib.hid ((hb.block _ (lt_of_block HR3.out)).trans HR3.out)
      have HS4 := Lib.hid (HS3.out.up hb)
      have HSt4 := Lib.hid (HSt3.out.up hb)
      have HT4 := Lib.hid (HT3.out.below hb)
      have HB4 := Lib.hid (HB3.out.trans (hb.mono HB3.out.size))
      clear hb HA3 HU3 HR3 HS3 HSt3 HT3 HB3
      have a0 := cellOf HA4.out 0 _ rfl
      have a1 := cellOf HA4.out 1 _ rfl
      have a2 := cellOf HA4.out 2 _ rfl
      have t0 := cellOf HR4.out 0 _ rfl
      have t1 := cellOf HR4.out 1 _ rfl
      have t2 := cellOf HR4.out 2 _ rfl
      have hc := Heights_any ⟨iv, pts, (notes ++ [(⟨k0, k1, k2, k3, k4⟩ : Note)])⟩ (.slice pa pts.length pc) (.slice nb nl nd) w4 HSt4.out
      rw [HET.out] at hc
      have HC2 := Lib.hid hc
      clear hc HC
      cases fs : fitB iv 0 notes
      · have hes : measE ⟨iv, pts, notes⟩ = 9 := meas_no HV.out fs
        rw [hes]
        clear hes fs
        go_wp2_with fail
        refine HC2.out.mono ?_
        rintro e w5 ⟨v', rfl, _, _, hb⟩
        clear a0 a1 a2 t0 t1 t2
        have HA5 := Lib.hid ((hb.block _ (lt_of_block HA4.out)).trans HA4.out)
        have HU5 := Lib.hid ((hb.block _ (lt_of_block HU4.out)).trans HU4.out)
        have HR5 := Lib.hid ((hb.block _ (lt_of_block HR4.out)).trans HR4.out)
        have HS5 := Lib.hid (HS4.out.up hb)
        have HSt5 := Lib.hid (HSt4.out.up hb)
        have HT5 := Lib.hid (HT4.out.below hb)
        have HB5 := Lib.hid (HB4.out.trans (hb.mono HB4.out.size))
        clear hb HA4 HU4 HR4 HS4 HSt4 HT4 HB4
        go_wp2_with fail
        refine (awake_any _ HT5.out).mono ?_
        rintro e wA ⟨rfl, hb⟩
        have HBA := Lib.hid (HB5.out.trans (hb.mono HB5.out.size))
        clear hb
        go_wp2
        go_ret
        exact ⟨rfl, HBA.out⟩
      · have hes : measE ⟨iv, pts, notes⟩ = 0 := (meas_fit HV.out fs).2
        rw [hes]
        clear hes fs
        go_wp2_with fail
        refine HC2.out.mono ?_
        rintro e w5 ⟨v', rfl, _, _, hb⟩
        clear a0 a1 a2 t0 t1 t2
        have HA5 := Lib.hid ((hb.block _ (lt_of_block HA4.out)).trans HA4.out)
        have HU5 := Lib.hid ((hb.block _ (lt_of_block HU4.out)).trans HU4.out)
        have HR5 := Lib.hid ((hb.block _ (lt_of_block HR4.out)).trans HR4.out)
        have HS5 := Lib.hid (HS4.out.up hb)
        have HSt5 := Lib.hid (HSt4.out.up hb)
        have HT5 := Lib.hid (HT4.out.below hb)
        have HB5 := Lib.hid (HB4.out.trans (hb.mono HB4.out.size))
        clear hb HA4 HU4 HR4 HS4 HSt4 HT4 HB4
        go_wp2_with fail
        refine (awake_any _ HT5.out).mono ?_
        rintro e wA ⟨rfl, hb⟩
        have HBA := Lib.hid (HB5.out.trans (hb.mono HB5.out.size))
        clear hb
        go_wp2
        go_ret
        exact ⟨rfl, HBA.out⟩
    · have fs : fitB iv 0 notes = true := fitB_sub (fun q hq => List.mem_append_left _ hq) ft
      obtain ⟨hmt, het⟩ := meas_fit HVt.out ft
      obtain ⟨hms, hes⟩ := meas_fit HV.out fs
      have hmono : ∀ a b, a < 9 → b < 9 → ent (measM ⟨iv, pts, (notes ++ [(⟨k0, k1, k2, k3, k4⟩ : Note)])⟩) a b ≤ ent (measM ⟨iv, pts, notes⟩) a b := fun a b ha hb => by
        rw [hmt, hms]
        exact farM_mono (fun q hq => List.mem_append_left _ hq) ft ha hb
      have HMO := Lib.hid hmono
      have HES := Lib.hid hes
      have HET := Lib.hid het
      have np1 := HV.out.np1
      have np8 := HV.out.np8
      simp only at np1 np8
      clear hmono fs ft hmt hms
      have hc := HC.out
      rw [hes] at hc
      have HC1 := Lib.hid hc
      clear hc HC hes het
      go_wp2_with fail
      refine HC1.out.mono ?_
      rintro e w4 ⟨v, rfl, hsp, hnil, hb⟩
      obtain ⟨g, rfl, hsm⟩ := spm_of (hsp (by first | trivial | rfl))
      clear hsp hnil HC1
      clear a0 a1 a2 t0 t1 t2
      have HA4 := Lib.hid ((hb.block _ (lt_of_block HA3.out)).trans HA3.out)
      have HU4 := Lib.hid ((hb.block _ (lt_of_block HU3.out)).trans HU3.out)
      have HR4 := Lib.hid ((hb.block _ (lt_of_block HR3.out)).trans HR3.out)
      have HS4 := Lib.hid (HS3.out.up hb)
      have HSt4 := Lib.hid (HSt3.out.up hb)
      have HT4 := Lib.hid (HT3.out.below hb)
      have HB4 := Lib.hid (HB3.out.trans (hb.mono HB3.out.size))
      have HG4 := Lib.hid hsm
      clear hsm
      clear hb HA3 HU3 HR3 HS3 HSt3 HT3 HB3
      have a0 := cellOf HA4.out 0 _ rfl
      have a1 := cellOf HA4.out 1 _ rfl
      have a2 := cellOf HA4.out 2 _ rfl
      have t0 := cellOf HR4.out 0 _ rfl
      have t1 := cellOf HR4.out 1 _ rfl
      have t2 := cellOf HR4.out 2 _ rfl
      have hc := Heights_any ⟨iv, pts, (notes ++ [(⟨k0, k1, k2, k3, k4⟩ : Note)])⟩ (.slice pa pts.length pc) (.slice nb nl nd) w4 HSt4.out
      rw [HET.out] at hc
      have HC2 := Lib.hid hc
      clear hc
      go_wp2_with fail
      refine HC2.out.mono ?_
      rintro e w5 ⟨v, rfl, hsp, hnil, hb⟩
      obtain ⟨gt, rfl, hsm⟩ := spm_of (hsp (by first | trivial | rfl))
      clear hsp hnil HC2
      clear a0 a1 a2 t0 t1 t2
      have HA5 := Lib.hid ((hb.block _ (lt_of_block HA4.out)).trans HA4.out)
      have HU5 := Lib.hid ((hb.block _ (lt_of_block HU4.out)).trans HU4.out)
      have HR5 := Lib.hid ((hb.block _ (lt_of_block HR4.out)).trans HR4.out)
      have HS5 := Lib.hid (HS4.out.up hb)
      have HSt5 := Lib.hid (HSt4.out.up hb)
      have HT5 := Lib.hid (HT4.out.below hb)
      have HB5 := Lib.hid (HB4.out.trans (hb.mono HB4.out.size))
      have HG5 := Lib.hid (HG4.out.below hb)
      have HGt5 := Lib.hid hsm
      clear hsm HG4
      clear hb HA4 HU4 HR4 HS4 HSt4 HT4 HB4
      simp only at *
      go_wp2
      try clear a0 a1 a2 t0 t1 t2
      go_loopw [12] (fun i wr => ∃ k : Nat, k ≤ pts.length ∧ i = .int .i64 k ∧ Hid (Below w5.heap.size w5 wr)) (fun i _ => pts.length - (intOf i).toNat)
      case atStart => exact ⟨0, Nat.zero_le _, rfl, Below.refl _ _⟩
      case round =>
        obtain ⟨k, hk, rfl, HLp⟩ := hrel
        by_cases hlt : k < pts.length
        · obtain ⟨c0, c1⟩ := (HG5.out.below HLp.out) k hlt
          obtain ⟨d0, d1⟩ := (HGt5.out.below HLp.out) k hlt
          have m0 := HMO.out 8 k (by omega) (by omega)
          have m1 := HMO.out k 8 (by omega) (by omega)
          have n0 : -(ent (measM ⟨iv, pts, notes⟩) 8 k) ≤ -(ent (measM ⟨iv, pts, (notes ++ [(⟨k0, k1, k2, k3, k4⟩ : Note)])⟩) 8 k) := by omega
          clear m0
          generalize -(ent (measM ⟨iv, pts, notes⟩) 8 k) = p0 at c0 n0
          generalize -(ent (measM ⟨iv, pts, (notes ++ [(⟨k0, k1, k2, k3, k4⟩ : Note)])⟩) 8 k) = q0 at d0 n0
          generalize ent (measM ⟨iv, pts, notes⟩) k 8 = p1 at c1 m1
          generalize ent (measM ⟨iv, pts, (notes ++ [(⟨k0, k1, k2, k3, k4⟩ : Note)])⟩) k 8 = q1 at d1 m1
          have f0 : decide (q0 < p0) = false := by simp; omega
          have f1 : decide (p1 < q1) = false := by simp; omega
          have kl : (k : Int) < (pts.length : Int) := by omega
          go_wp2_with fail
          go_quiet (fail)
          have HRN : Hid (Below w5.heap.size w5 (wr.drewN nq)) := HLp.out.trans ⟨rfl, rfl, rfl, Nat.le_refl _, fun _ _ => rfl⟩
          clear c0 c1 d0 d1
          go_wp2
          go_roundw
          case rel => exact ⟨k + 1, by omega, by go_num, HRN⟩
          case measure => simp [intOf]; omega
        · have hb := HLp.out
          have ha : x % pts.length < pts.length := Nat.mod_lt _ (by omega)
          have hbb : y % pts.length < pts.length := Nat.mod_lt _ (by omega)
          have e1 := mod_nat x pts.length
          have e2 := mod_nat y pts.length
          generalize x % pts.length = a at *
          generalize y % pts.length = b at *
          have HA6 := Lib.hid ((hb.block _ (lt_of_block HA5.out)).trans HA5.out)
          have HU6 := Lib.hid ((hb.block _ (lt_of_block HU5.out)).trans HU5.out)
          have HR6 := Lib.hid ((hb.block _ (lt_of_block HR5.out)).trans HR5.out)
          have HS6 := Lib.hid (HS5.out.up hb)
          have HSt6 := Lib.hid (HSt5.out.up hb)
          have HT6 := Lib.hid (HT5.out.below hb)
          have HB6 := Lib.hid (HB5.out.trans (hb.mono HB5.out.size))
          clear hb HA5 HU5 HR5 HS5 HSt5 HT5 HB5
          clear HLp HG5 HGt5
          generalize wr = w6 at *
          have u0 := cellOf HU6.out 0 _ rfl
          have u1 := cellOf HU6.out 1 _ rfl
          have z0 : ((pts.length : Int) == 0) = false := by rw [beq_eq_false_iff_ne]; omega
          have pl : (pts.length : Int) ≤ 8 := by omega
          have pl1 : (1 : Int) ≤ (pts.length : Int) := by omega
          have bx : (x : Int) ≤ 255 := by omega
          have by' : (y : Int) ≤ 255 := by omega
          go_wp2_with fail
          go_quiet (fail)
          have hb : Below w6.heap.size w6 (w6.drewN nq) := ⟨rfl, rfl, rfl, Nat.le_refl _, fun _ _ => rfl⟩
          clear hlt hk u0 u1 z0 e1 e2
          have HA7 := Lib.hid ((hb.block _ (lt_of_block HA6.out)).trans HA6.out)
          have HU7 := Lib.hid ((hb.block _ (lt_of_block HU6.out)).trans HU6.out)
          have HR7 := Lib.hid ((hb.block _ (lt_of_block HR6.out)).trans HR6.out)
          have HS7 := Lib.hid (HS6.out.up hb)
          have HSt7 := Lib.hid (HSt6.out.up hb)
          have HT7 := Lib.hid (HT6.out.below hb)
          have HB7 := Lib.hid (HB6.out.trans (hb.mono HB6.out.size))
          clear hb HA6 HU6 HR6 HS6 HSt6 HT6 HB6
          generalize w6.drewN nq = w7 at *
          have a0 := cellOf HA7.out 0 _ rfl
          have a1 := cellOf HA7.out 1 _ rfl
          have a2 := cellOf HA7.out 2 _ rfl
          have t0 := cellOf HR7.out 0 _ rfl
          have t1 := cellOf HR7.out 1 _ rfl
          have t2 := cellOf HR7.out 2 _ rfl
          have la : (a : Int) < (pts.length : Int) := by omega
          have lb : (b : Int) < (pts.length : Int) := by omega
          have haps : apartS ⟨iv, pts, notes⟩ (a : Int) (b : Int) = ((-(ent (measM ⟨iv, pts, notes⟩) b a), ent (measM ⟨iv, pts, notes⟩) a b), orderV (-(ent (measM ⟨iv, pts, notes⟩) b a)) (ent (measM ⟨iv, pts, notes⟩) a b), 0) := by
            unfold apartS
            rw [if_neg (by rw [errS_zero HV.out]; simp), if_neg (by simp only; omega), if_neg (by rw [HES.out]; simp)]
            rfl
          have hapt : apartS ⟨iv, pts, (notes ++ [(⟨k0, k1, k2, k3, k4⟩ : Note)])⟩ (a : Int) (b : Int) = ((-(ent (measM ⟨iv, pts, (notes ++ [(⟨k0, k1, k2, k3, k4⟩ : Note)])⟩) b a), ent (measM ⟨iv, pts, (notes ++ [(⟨k0, k1, k2, k3, k4⟩ : Note)])⟩) a b), orderV (-(ent (measM ⟨iv, pts, (notes ++ [(⟨k0, k1, k2, k3, k4⟩ : Note)])⟩) b a)) (ent (measM ⟨iv, pts, (notes ++ [(⟨k0, k1, k2, k3, k4⟩ : Note)])⟩) a b), 0) := by
            unfold apartS
            rw [if_neg (by rw [errS_zero HVt.out]; simp), if_neg (by simp only; omega), if_neg (by rw [HET.out]; simp)]
            rfl
          have m0 := HMO.out b a (by omega) (by omega)
          have m1 := HMO.out a b (by omega) (by omega)
          have n0 : -(ent (measM ⟨iv, pts, notes⟩) b a) ≤ -(ent (measM ⟨iv, pts, (notes ++ [(⟨k0, k1, k2, k3, k4⟩ : Note)])⟩) b a) := by omega
          have HIN : Hid (∀ z, z ∈ highS ⟨iv, pts, (notes ++ [(⟨k0, k1, k2, k3, k4⟩ : Note)])⟩ → z ∈ highS ⟨iv, pts, notes⟩) := by
            intro z hz
            unfold highS at hz ⊢
            rw [HET.out, if_pos rfl] at hz
            rw [HES.out, if_pos rfl]
            exact topsK_mono (n := pts.length) pts.length (fun p q hp hq => HMO.out p q (by omega) (by omega)) z hz
          clear m0
          generalize -(ent (measM ⟨iv, pts, notes⟩) b a) = p0 at *
          generalize -(ent (measM ⟨iv, pts, (notes ++ [(⟨k0, k1, k2, k3, k4⟩ : Note)])⟩) b a) = q0 at *
          generalize ent (measM ⟨iv, pts, notes⟩) a b = p1 at *
          generalize ent (measM ⟨iv, pts, (notes ++ [(⟨k0, k1, k2, k3, k4⟩ : Note)])⟩) a b = q1 at *
          generalize orderV p0 p1 = o0 at *
          generalize orderV q0 q1 = o1 at *
          have HAPT := Lib.hid hapt
          have hc := Apart_any ⟨iv, pts, notes⟩ (.slice pa pts.length pc) (.slice na notes.length nc) (a : Int) (b : Int) w7 HS7.out
          rw [haps] at hc
          simp only at hc
          have HC := Lib.hid hc
          clear hc haps hapt
          go_wp2_with fail
          refine HC.out.mono ?_
          rintro e w8 ⟨rfl, hb⟩
          clear a0 a1 a2 t0 t1 t2
          have HA8 := Lib.hid ((hb.block _ (lt_of_block HA7.out)).trans HA7.out)
          have HU8 := Lib.hid ((hb.block _ (lt_of_block HU7.out)).trans HU7.out)
          have HR8 := Lib.hid ((hb.block _ (lt_of_block HR7.out)).trans HR7.out)
          have HS8 := Lib.hid (HS7.out.up hb)
          have HSt8 := Lib.hid (HSt7.out.up hb)
          have HT8 := Lib.hid (HT7.out.below hb)
          have HB8 := Lib.hid (HB7.out.trans (hb.mono HB7.out.size))
          clear hb HA7 HU7 HR7 HS7 HSt7 HT7 HB7
          have hb : Below w8.heap.size w8 (w8.alloc (Obj.cells #[.int .i64 p0, .int .i64 p1] 40)) := by go_grown
          have HP9 : Hid ((w8.alloc (Obj.cells #[.int .i64 p0, .int .i64 p1] 40)).heap[w8.heap.size]? = some (.cells #[.int .i64 p0, .int .i64 p1] 40 (0, 0))) := heap_alloc_new w8 _
          have HA9 := Lib.hid ((hb.block _ (lt_of_block HA8.out)).trans HA8.out)
          have HU9 := Lib.hid ((hb.block _ (lt_of_block HU8.out)).trans HU8.out)
          have HR9 := Lib.hid ((hb.block _ (lt_of_block HR8.out)).trans HR8.out)
          have HS9 := Lib.hid (HS8.out.up hb)
          have HSt9 := Lib.hid (HSt8.out.up hb)
          have HT9 := Lib.hid (HT8.out.below hb)
          have HB9 := Lib.hid (HB8.out.trans (hb.mono HB8.out.size))
          clear hb HA8 HU8 HR8 HS8 HSt8 HT8 HB8
          have a0 := cellOf HA9.out 0 _ rfl
          have a1 := cellOf HA9.out 1 _ rfl
          have a2 := cellOf HA9.out 2 _ rfl
          have t0 := cellOf HR9.out 0 _ rfl
          have t1 := cellOf HR9.out 1 _ rfl
          have t2 := cellOf HR9.out 2 _ rfl
          have hc := Apart_any ⟨iv, pts, (notes ++ [(⟨k0, k1, k2, k3, k4⟩ : Note)])⟩ (.slice pa pts.length pc) (.slice nb nl nd) (a : Int) (b : Int) (w8.alloc (Obj.cells #[.int .i64 p0, .int .i64 p1] 40)) HSt9.out
          rw [HAPT.out] at hc
          simp only at hc
          have HC2 := Lib.hid hc
          clear hc HC
          go_wp2_with fail
          refine HC2.out.mono ?_
          rintro e w10 ⟨rfl, hb⟩
          clear a0 a1 a2 t0 t1 t2
          have HA10 := Lib.hid ((hb.block _ (lt_of_block HA9.out)).trans HA9.out)
          have HU10 := Lib.hid ((hb.block _ (lt_of_block HU9.out)).trans HU9.out)
          have HR10 := Lib.hid ((hb.block _ (lt_of_block HR9.out)).trans HR9.out)
          have HS10 := Lib.hid (HS9.out.up hb)
          have HSt10 := Lib.hid (HSt9.out.up hb)
          have HT10 := Lib.hid (HT9.out.below hb)
          have HB10 := Lib.hid (HB9.out.trans (hb.mono HB9.out.size))
          have HP10 := Lib.hid ((hb.block _ (lt_of_block HP9.out)).trans HP9.out)
          clear hb HA9 HU9 HR9 HS9 HSt9 HT9 HB9 HP9
          have hb : Below w10.heap.size w10 (w10.alloc (Obj.cells #[.int .i64 q0, .int .i64 q1] 40)) := by go_grown
          have HQ11 : Hid ((w10.alloc (Obj.cells #[.int .i64 q0, .int .i64 q1] 40)).heap[w10.heap.size]? = some (.cells #[.int .i64 q0, .int .i64 q1] 40 (0, 0))) := heap_alloc_new w10 _
          have HA11 := Lib.hid ((hb.block _ (lt_of_block HA10.out)).trans HA10.out)
          have HU11 := Lib.hid ((hb.block _ (lt_of_block HU10.out)).trans HU10.out)
          have HR11 := Lib.hid ((hb.block _ (lt_of_block HR10.out)).trans HR10.out)
          have HS11 := Lib.hid (HS10.out.up hb)
          have HSt11 := Lib.hid (HSt10.out.up hb)
          have HT11 := Lib.hid (HT10.out.below hb)
          have HB11 := Lib.hid (HB10.out.trans (hb.mono HB10.out.size))
          have HP11 := Lib.hid ((hb.block _ (lt_of_block HP10.out)).trans HP10.out)
          clear hb HA10 HU10 HR10 HS10 HSt10 HT10 HB10 HP10
          have a0 := cellOf HA11.out 0 _ rfl
          have a1 := cellOf HA11.out 1 _ rfl
          have a2 := cellOf HA11.out 2 _ rfl
          have t0 := cellOf HR11.out 0 _ rfl
          have t1 := cellOf HR11.out 1 _ rfl
          have t2 := cellOf HR11.out 2 _ rfl
          have hc := Highest_any ⟨iv, pts, notes⟩ (.slice pa pts.length pc) (.slice na notes.length nc) (w10.alloc (Obj.cells #[.int .i64 q0, .int .i64 q1] 40)) HS11.out
          rw [HES.out] at hc
          have HC3 := Lib.hid hc
          clear hc HC2
          go_wp2_with fail
          refine HC3.out.mono ?_
          rintro e w12 ⟨vh, rfl, hown, _, hb⟩
          have hl1 : (highS ⟨iv, pts, notes⟩).length ≤ 4611686018427387904 := by have := highS_len ⟨iv, pts, notes⟩; simp only at this; omega
          have HI12 := Lib.hid (intsAt_own hown hl1)
          clear hown hl1
          clear a0 a1 a2 t0 t1 t2
          have HA12 := Lib.hid ((hb.block _ (lt_of_block HA11.out)).trans HA11.out)
          have HU12 := Lib.hid ((hb.block _ (lt_of_block HU11.out)).trans HU11.out)
          have HR12 := Lib.hid ((hb.block _ (lt_of_block HR11.out)).trans HR11.out)
          have HS12 := Lib.hid (HS11.out.up hb)
          have HSt12 := Lib.hid (HSt11.out.up hb)
          have HT12 := Lib.hid (HT11.out.below hb)
          have HB12 := Lib.hid (HB11.out.trans (hb.mono HB11.out.size))
          have HP12 := Lib.hid ((hb.block _ (lt_of_block HP11.out)).trans HP11.out)
          have HQ12 := Lib.hid ((hb.block _ (lt_of_block HQ11.out)).trans HQ11.out)
          clear hb HA11 HU11 HR11 HS11 HSt11 HT11 HB11 HP11 HQ11
          have a0 := cellOf HA12.out 0 _ rfl
          have a1 := cellOf HA12.out 1 _ rfl
          have a2 := cellOf HA12.out 2 _ rfl
          have t0 := cellOf HR12.out 0 _ rfl
          have t1 := cellOf HR12.out 1 _ rfl
          have t2 := cellOf HR12.out 2 _ rfl
          have hc := Highest_any ⟨iv, pts, (notes ++ [(⟨k0, k1, k2, k3, k4⟩ : Note)])⟩ (.slice pa pts.length pc) (.slice nb nl nd) w12 HSt12.out
          rw [HET.out] at hc
          have HC4 := Lib.hid hc
          clear hc HC3
          go_wp2_with fail
          refine HC4.out.mono ?_
          rintro e w13 ⟨vf, rfl, hown, _, hb⟩
          have hl2 : (highS ⟨iv, pts, (notes ++ [(⟨k0, k1, k2, k3, k4⟩ : Note)])⟩).length ≤ 4611686018427387904 := by have := highS_len ⟨iv, pts, (notes ++ [(⟨k0, k1, k2, k3, k4⟩ : Note)])⟩; simp only at this; omega
          have HF13 := Lib.hid (intsAt_own hown hl2)
          clear hown hl2
          clear a0 a1 a2 t0 t1 t2
          have HA13 := Lib.hid ((hb.block _ (lt_of_block HA12.out)).trans HA12.out)
          have HU13 := Lib.hid ((hb.block _ (lt_of_block HU12.out)).trans HU12.out)
          have HR13 := Lib.hid ((hb.block _ (lt_of_block HR12.out)).trans HR12.out)
          have HS13 := Lib.hid (HS12.out.up hb)
          have HSt13 := Lib.hid (HSt12.out.up hb)
          have HT13 := Lib.hid (HT12.out.below hb)
          have HB13 := Lib.hid (HB12.out.trans (hb.mono HB12.out.size))
          have HP13 := Lib.hid ((hb.block _ (lt_of_block HP12.out)).trans HP12.out)
          have HQ13 := Lib.hid ((hb.block _ (lt_of_block HQ12.out)).trans HQ12.out)
          have HI13 := Lib.hid (IntsAt.below HI12.out hb)
          clear hb HA12 HU12 HR12 HS12 HSt12 HT12 HB12 HP12 HQ12 HI12
          obtain ⟨F, hF⟩ : ∃ F, Hid (F = highS ⟨iv, pts, (notes ++ [(⟨k0, k1, k2, k3, k4⟩ : Note)])⟩) := ⟨_, rfl⟩
          rw [← hF.out] at HF13 HIN
          obtain ⟨lf, fa, fc, rfl, _⟩ := id HF13.out
          obtain ⟨_, va, vc, rfl, _⟩ := id HI13.out
          have lf' : (F.length : Int) ≤ 4611686018427387904 := by omega
          obtain ⟨Hl, hHl⟩ : ∃ Hl, Hid (Hl = (highS ⟨iv, pts, notes⟩).length) := ⟨_, rfl⟩
          rw [← hHl.out] at HI13 ⊢
          clear HC4
          go_wp2
          go_loopw [25] (fun i wr => ∃ m : Nat, m ≤ F.length ∧ i = .int .i64 m ∧ Hid (Below w13.heap.size w13 wr)) (fun i _ => F.length - (intOf i).toNat)
          case atStart => exact ⟨0, Nat.zero_le _, rfl, Below.refl _ _⟩
          case round =>
            obtain ⟨m, hm, rfl, HLp⟩ := hrel
            by_cases hlt : m < F.length
            · obtain ⟨_, fa', fc', e', hcc⟩ := HF13.out.below HLp.out
              simp only [Value.slice.injEq, true_and] at e'
              obtain ⟨rfl, rfl⟩ := e'
              obtain ⟨bq, oq, rfl, hd⟩ := hcc (by intro e; simp [e] at hlt)
              have hck := hd m hlt
              have hg : F.getD m 0 = F[m] := by simp [hlt]
              rw [hg] at hck
              have hin := HIN.out F[m] (List.getElem_mem hlt)
              have hh := has_any F[m] (.slice va Hl vc) (highS ⟨iv, pts, notes⟩) wr (HI13.out.below HLp.out)
              have hdt : decide (F[m] ∈ highS ⟨iv, pts, notes⟩) = true := by simp [hin]
              rw [hdt] at hh
              have HC5 := Lib.hid hh
              have ml : (m : Int) < (F.length : Int) := by omega
              clear hcc hd hg hin hh hdt
              generalize F[m] = z at *
              go_wp2_with fail
              refine HC5.out.mono ?_
              rintro e w' ⟨rfl, rfl⟩
              clear hck HC5
              go_wp2
              go_roundw
              case rel => exact ⟨m + 1, by omega, by go_num, HLp⟩
              case measure => simp [intOf]; omega
            · have hb := HLp.out
              have HA14 := Lib.hid ((hb.block _ (lt_of_block HA13.out)).trans HA13.out)
              have HU14 := Lib.hid ((hb.block _ (lt_of_block HU13.out)).trans HU13.out)
              have HR14 := Lib.hid ((hb.block _ (lt_of_block HR13.out)).trans HR13.out)
              have HS14 := Lib.hid (HS13.out.up hb)
              have HSt14 := Lib.hid (HSt13.out.up hb)
              have HT14 := Lib.hid (HT13.out.below hb)
              have HB14 := Lib.hid (HB13.out.trans (hb.mono HB13.out.size))
              have HP14 := Lib.hid ((hb.block _ (lt_of_block HP13.out)).trans HP13.out)
              have HQ14 := Lib.hid ((hb.block _ (lt_of_block HQ13.out)).trans HQ13.out)
              have HI14 := Lib.hid (IntsAt.below HI13.out hb)
              clear hb HA13 HU13 HR13 HS13 HSt13 HT13 HB13 HP13 HQ13 HI13
              clear HLp
              generalize wr = w14 at *
              have s0 := cellOf HP14.out 0 _ rfl
              have s1 := cellOf HP14.out 1 _ rfl
              have v0 := cellOf HQ14.out 0 _ rfl
              have v1 := cellOf HQ14.out 1 _ rfl
              have g0 : decide (p0 ≤ q0) = true := by simp; omega
              have g1 : decide (q1 ≤ p1) = true := by simp; omega
              go_wp2_with fail
              refine (awake_any _ HT14.out).mono ?_
              rintro e wA ⟨rfl, hb⟩
              have HBA := Lib.hid (HB14.out.trans (hb.mono HB14.out.size))
              clear hb
              go_wp2
              go_ret
              exact ⟨rfl, HBA.out⟩
  · have tv : (errS ⟨iv, pts, (notes ++ [(⟨k0, k1, k2, k3, k4⟩ : Note)])⟩ == 0) = false := by simp [hv]
    rw [tv]
    clear tv hv
    go_wp2_with fail
    refine (awake_any _ HT3.out).mono ?_
    rintro e wA ⟨rfl, hb⟩
    have HBA := Lib.hid (HB3.out.trans (hb.mono HB3.out.size))
    clear hb
    go_wp2
    go_ret
    exact ⟨rfl, HBA.out⟩
end Go.Proofs.YteipihhpoakhpaaGreatDoor
