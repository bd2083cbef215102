/- The reference of scale: Scales. -/
import Derived.Test.YthflbbjilebhlaaYk
set_option linter.unusedSimpArgs false
set_option linter.unusedVariables false
namespace Go.Proofs.Ythflbbjilebhlaa
open Go Go.RowKit Go.Shelf Sc

set_option maxRecDepth 100000 in
set_option maxHeartbeats 16000000 in
theorem rScales_any (c : Cse) (hv rv mv : Value) (ms : List Mrk) (w : World) (hC : CseAt w c hv rv) (hM : MrksAt w mv ms) :
    Calls Try.prog 32 #[.agg #[.int .i64 c.kind, .int .i64 c.base, .int .i64 c.most, hv, rv], mv] w (PairsP (scalesL c ms) (scalesE c ms) w) := by
  unfold PairsP
  obtain ⟨ha, n, hc, rfl⟩ : ∃ a n c, hv = .slice a n c := by obtain ⟨_, a, cap, h, _⟩ := hC.hs; exact ⟨_, _, _, h⟩
  obtain ⟨ra, m, rc, rfl⟩ : ∃ a n c, rv = .slice a n c := by obtain ⟨_, a, cap, h, _⟩ := hC.rd; exact ⟨_, _, _, h⟩
  obtain ⟨ma, mn, mc, rfl⟩ : ∃ a n c, mv = .slice a n c := by obtain ⟨_, a, cap, h, _⟩ := hM; exact ⟨_, _, _, h⟩
  obtain ⟨kind, hkind⟩ : ∃ x, c.kind = x := ⟨_, rfl⟩
  obtain ⟨base, hbase⟩ : ∃ x, c.base = x := ⟨_, rfl⟩
  obtain ⟨most, hmost⟩ : ∃ x, c.most = x := ⟨_, rfl⟩
  obtain ⟨RE, hRE⟩ : ∃ R, scalesE c ms = R := ⟨_, rfl⟩
  obtain ⟨RL, hRL⟩ : ∃ R, scalesL c ms = R := ⟨_, rfl⟩
  obtain ⟨W, hW, q1, hb⟩ : ∃ W, w.alloc (Obj.cells #[.int .i64 kind, .int .i64 base, .int .i64 most, .slice ha n hc, .slice ra m rc] 25) = W ∧ W.heap[w.heap.size]? = some (.cells #[.int .i64 kind, .int .i64 base, .int .i64 most, .slice ha n hc, .slice ra m rc] 25 (0, 0)) ∧ Below w.heap.size w W := ⟨_, rfl, heap_alloc_new _ _, by go_grown⟩
  have h1 := rMarks_any c _ _ _ ms W (hC.below hb) (hM.below hb)
  have hme : marksE c ms = RE := hRE
  rw [hme, hkind, hbase, hmost] at h1
  have HFT : Hid (∀ s V, CseAt V c (.slice ha n hc) (.slice ra m rc) → Valid c → (1 ≤ s.1 ∧ s.1 ≤ 30 ∧ 1 ≤ s.2 ∧ s.2 ≤ 30) → Calls Try.prog 46 #[.agg #[.int .i64 kind, .int .i64 base, .int .i64 most, .slice ha n hc, .slice ra m rc], .agg #[.int .i64 s.1, .int .i64 s.2]] V fun e w' => e = .returned (.bool (fitsB c s)) ∧ Below V.heap.size V w') := fun s V h1 h2 h3 => by
    have h := rFits_any c _ _ s V h1 h2 h3
    rw [hkind, hbase, hmost] at h
    exact h
  have HAG : Hid (∀ s V, CseAt V c (.slice ha n hc) (.slice ra m rc) → MrksAt V (.slice ma mn mc) ms → Valid c → (1 ≤ s.1 ∧ s.1 ≤ 30 ∧ 1 ≤ s.2 ∧ s.2 ≤ 30) → ms.length ≤ 8 → (∀ q, q ∈ ms → 0 ≤ q.pt ∧ q.pt < c.hs.length) → Calls Try.prog 47 #[.agg #[.int .i64 kind, .int .i64 base, .int .i64 most, .slice ha n hc, .slice ra m rc], .agg #[.int .i64 s.1, .int .i64 s.2], .slice ma mn mc] V fun e w' => e = .returned (.bool (agreesB c s ms)) ∧ Below V.heap.size V w') := fun s V h1 h2 h3 h4 h5 h6 => by
    have h := rAgrees_any c _ _ _ s ms V h1 h3 h4 h2 h5 h6
    rw [hkind, hbase, hmost] at h
    exact h
  have HRE := Lib.hid hRE
  have HRL := Lib.hid hRL
  have H1 := Lib.hid h1
  have HW := Lib.hid hW
  have HB := Lib.hid hb
  have HC := Lib.hid (hC.below hb)
  have HM := Lib.hid (hM.below hb)
  have Q1 := Lib.hid q1
  have c0 := cellOf q1 0 (.int .i64 kind) rfl
  have c1 := cellOf q1 1 (.int .i64 base) rfl
  have c2 := cellOf q1 2 (.int .i64 most) rfl
  have c3 := cellOf q1 3 (.slice ha n hc) rfl
  have c4 := cellOf q1 4 (.slice ra m rc) rfl
  have cl := lt_of_block q1
  rw [hRE, hRL, hkind, hbase, hmost]
  clear h1 hme hW hb q1 hC hM hRE hRL hkind hbase hmost
  go_enter Try.func32, Try.ntmps32
  go_upto_region 1 with fail
  rw [HW.out]
  go_wp2_with fail
  refine H1.out.mono ?_
  rintro e w1 ⟨rfl, hb⟩
  have B1 := Lib.hid (HB.out.trans (hb.mono HB.out.size))
  have K1 := Lib.hid ((hb.block _ (lt_of_block Q1.out)).trans Q1.out)
  have C1 := Lib.hid (HC.out.below hb)
  have M1 := Lib.hid (HM.out.below hb)
  clear hb c0 c1 c2 c3 c4 cl H1 HC HM HW Q1 HB
  by_cases h0 : RE = 0
  · subst h0
    obtain ⟨herr, hmk⟩ : errC c = 0 ∧ mksE c.hs.length ms = 0 := by
      have h := HRE.out
      unfold scalesE at h
      by_cases he : errC c = 0
      · rw [if_neg (by simp [he])] at h; exact ⟨he, h⟩
      · rw [if_pos he] at h; exact absurd h he
    have HVA := Lib.hid (valid_of herr)
    have HMK := Lib.hid (mks_ok hmk)
    have hev := rEvery_any w1
    have HEV := Lib.hid hev
    clear herr hmk hev
    go_wp2_with fail
    refine HEV.out.mono ?_
    rintro e w2 ⟨v, rfl, ho, hb⟩
    obtain ⟨b, o, cap, rfl, hcc⟩ := every_at ho
    have hq9 : everyL.length ≤ 900 := everyTo_len 900
    obtain ⟨N, hq⟩ : ∃ q, everyL.length = q := ⟨_, rfl⟩
    have HQ := Lib.hid hq
    have HCC := Lib.hid hcc
    have B2 := Lib.hid (B1.out.trans (hb.mono B1.out.size))
    have K2 := Lib.hid ((hb.block _ (lt_of_block K1.out)).trans K1.out)
    have C2 := Lib.hid (C1.out.below hb)
    have M2 := Lib.hid (M1.out.below hb)
    rw [hq] at hq9 ⊢
    have NI : (N : Int) ≤ 900 := by omega
    clear hq hcc hb ho HEV K1 C1 M1 B1
    go_wp2
    go_loopg [7, 9] N (fun gh ov i wr => ∃ (k : Nat) (a1 : Option Addr) (q c1 : Nat) (L : List Scl), gh + k = N ∧ i = .int .i64 (k : Int) ∧ ov = .slice a1 q c1 ∧ Hid (L.length = q) ∧ Hid (InsI (fun s => agreesB c s ms && fitsB c s) k L) ∧ Hid (wr.ownsRow w2.heap.size 27 2 (.slice a1 q c1) q (scsL L)) ∧ Hid (Below w2.heap.size w2 wr))
    case atStart => exact ⟨0, none, 0, 0, [], by omega, rfl, rfl, rfl, ins_zero _, World.ownsRow_nil .., Below.refl _ _⟩
    case round =>
      obtain ⟨k, a1, q, cq, L, hk, rfl, rfl, HLL, HIN, HOW, HL⟩ := hrel
      have hqN : q ≤ 900 := by
        have h1 := ins_len HIN.out
        rw [HLL.out, HQ.out] at h1
        omega
      have qI : (q : Int) ≤ 900 := by omega
      by_cases hlt : k < N
      · have kI : (k : Int) < (N : Int) := by omega
        have kz : (0 : Int) ≤ (k : Int) := by omega
        have hkE : k < everyL.length := by rw [HQ.out]; exact hlt
        obtain ⟨g', rfl⟩ : ∃ g', gk = g' + 1 := ⟨gk - 1, by omega⟩
        obtain ⟨s, hs⟩ : ∃ s, everyL.getD k default = s := ⟨_, rfl⟩
        have hsb := every_bd hkE
        rw [hs] at hsb
        have hft : ∀ V, Below w2.heap.size w2 V → _ := fun V hV => HFT.out s V (C2.out.below hV) HVA.out hsb
        have hag : ∀ V, Below w2.heap.size w2 V → _ := fun V hV => HAG.out s V (C2.out.below hV) (M2.out.below hV) HVA.out hsb HMK.out.1 HMK.out.2
        have HSK : Hid ((agreesB c s ms && fitsB c s) = false → InsI (fun s => agreesB c s ms && fitsB c s) (k + 1) L) := fun h => ins_skip HIN.out hkE (by rw [hs]; exact h)
        have HPUT : Hid ((agreesB c s ms && fitsB c s) = true → ∀ j, j ≤ L.length → (∀ i, i < j → lessS (L.getD i default) s = true) → (j < L.length → lessS (L.getD j default) s = false) → InsI (fun s => agreesB c s ms && fitsB c s) (k + 1) (L.take j ++ [s] ++ L.drop j)) := fun h j h1 h2 h3 => by
          have := ins_put HIN.out hkE (by rw [hs]; exact h) j h1 (by rw [hs]; exact h2) (by rw [hs]; exact h3)
          rw [hs] at this
          exact this
        obtain ⟨A, hA⟩ : ∃ A, agreesB c s ms = A := ⟨_, rfl⟩
        obtain ⟨F, hF⟩ : ∃ F, fitsB c s = F := ⟨_, rfl⟩
        rw [hF] at hft HSK HPUT
        rw [hA] at hag HSK HPUT
        have HF := Lib.hid hft
        have HA := Lib.hid hag
        have HCS := Lib.hid (fun V (hV : Below w2.heap.size w2 V) => by have h := HCC.out V hV k hkE; rw [hs] at h; exact h)
        have HSB := Lib.hid hsb
        have HLP : Hid (∀ i, i < q → 1 ≤ (L.getD i default).1 ∧ (L.getD i default).1 ≤ 30 ∧ 1 ≤ (L.getD i default).2 ∧ (L.getD i default).2 ≤ 30) := fun i hi => by
          have hm : L.getD i default ∈ L := getD_mem (by rw [HLL.out]; exact hi)
          have h := sclE_zero ((everyL_mem _).1 (List.mem_of_mem_take ((HIN.out.2 _).1 hm).1))
          exact ⟨h.1, h.2.1, h.2.2.1, h.2.2.2.1⟩
        clear hs hF hA hsb hft hag hkE
        obtain ⟨s1, s2⟩ := s
        simp only at HCS HF HA
        have HALL : Hid (∀ V : World, Below w2.heap.size w2 V → V.cell? ⟨w.heap.size, 0, none⟩ = some (.int .i64 kind) ∧ V.cell? ⟨w.heap.size, 1, none⟩ = some (.int .i64 base) ∧ V.cell? ⟨w.heap.size, 2, none⟩ = some (.int .i64 most) ∧ V.cell? ⟨w.heap.size, 3, none⟩ = some (.slice ha n hc) ∧ V.cell? ⟨w.heap.size, 4, none⟩ = some (.slice ra m rc) ∧ V.cell? ⟨b, o + k * 2, none⟩ = some (.int .i64 s1) ∧ V.cell? ⟨b, o + k * 2 + 1, none⟩ = some (.int .i64 s2)) := fun V hV => ⟨cellOf ((hV.block _ (lt_of_block K2.out)).trans K2.out) 0 _ rfl, cellOf ((hV.block _ (lt_of_block K2.out)).trans K2.out) 1 _ rfl, cellOf ((hV.block _ (lt_of_block K2.out)).trans K2.out) 2 _ rfl, cellOf ((hV.block _ (lt_of_block K2.out)).trans K2.out) 3 _ rfl, cellOf ((hV.block _ (lt_of_block K2.out)).trans K2.out) 4 _ rfl, (HCS.out V hV).1, (HCS.out V hV).2⟩
        obtain ⟨c0, c1, c2, c3, c4, d0, d1⟩ := HALL.out wr HL.out
        have dl := World.block_lt_of_cell? wr ⟨b, o + k * 2, none⟩ d0
        have cl := World.block_lt_of_cell? wr ⟨w.heap.size, 0, none⟩ c0
        cases A
        · have hn := HSK.out rfl
          go_wp2_with fail
          have KA : ∀ W' : World, Below wr.heap.size wr W' → (W'.cell? ⟨w.heap.size, 0, none⟩ = some (.int .i64 kind) ∧ W'.cell? ⟨w.heap.size, 1, none⟩ = some (.int .i64 base) ∧ W'.cell? ⟨w.heap.size, 2, none⟩ = some (.int .i64 most) ∧ W'.cell? ⟨w.heap.size, 3, none⟩ = some (.slice ha n hc) ∧ W'.cell? ⟨w.heap.size, 4, none⟩ = some (.slice ra m rc) ∧ W'.cell? ⟨b, o + k * 2, none⟩ = some (.int .i64 s1) ∧ W'.cell? ⟨b, o + k * 2 + 1, none⟩ = some (.int .i64 s2) ∧ Below wr.heap.size wr W') := fun W' hb => ⟨keepK c0 hb, keepK c1 hb, keepK c2 hb, keepK c3 hb, keepK c4 hb, keepK d0 hb, keepK d1 hb, hb⟩
          refine wp_region_noPanic ?_
          refine wp_region_held_drew (S := (fun W' => W'.cell? ⟨w.heap.size, 0, none⟩ = some (.int .i64 kind) ∧ W'.cell? ⟨w.heap.size, 1, none⟩ = some (.int .i64 base) ∧ W'.cell? ⟨w.heap.size, 2, none⟩ = some (.int .i64 most) ∧ W'.cell? ⟨w.heap.size, 3, none⟩ = some (.slice ha n hc) ∧ W'.cell? ⟨w.heap.size, 4, none⟩ = some (.slice ra m rc) ∧ W'.cell? ⟨b, o + k * 2, none⟩ = some (.int .i64 s1) ∧ W'.cell? ⟨b, o + k * 2 + 1, none⟩ = some (.int .i64 s2) ∧ Below wr.heap.size wr W')) (by kernel_rfl) ?_ (fun hh0 => ?_)
          · exact KA _ (Below.refl _ _).drew
          refine wpAnyH_take (i := 0) (v := ?_) rfl (by as_aux_lemma => kernel_rfl) (by as_aux_lemma => kernel_rfl) (by as_aux_lemma => kernel_rfl) (fun _ _ _ h => h) (Or.inl ⟨by rfl, ?_⟩) (by assumption) ?_
          rotate_left
          · intro w hSw
            try dsimp only at hSw
            go_simp
            try with_reducible rfl
          try simp only [Act.put, List.getElem_toArray, List.getElem_cons_succ, List.getElem_cons_zero, List.setIfInBounds_toArray, List.set_cons_zero, List.set_cons_succ]
          refine wpAnyH_take (i := 1) (v := ?_) rfl (by as_aux_lemma => kernel_rfl) (by as_aux_lemma => kernel_rfl) (by as_aux_lemma => kernel_rfl) (fun _ _ _ h => h) (Or.inl ⟨by rfl, ?_⟩) (by assumption) ?_
          rotate_left
          · intro w hSw
            try dsimp only at hSw
            go_simp
            try with_reducible rfl
          try simp only [Act.put, List.getElem_toArray, List.getElem_cons_succ, List.getElem_cons_zero, List.setIfInBounds_toArray, List.set_cons_zero, List.set_cons_succ]
          refine wpAnyH_take (i := 2) (v := ?_) rfl (by as_aux_lemma => kernel_rfl) (by as_aux_lemma => kernel_rfl) (by as_aux_lemma => kernel_rfl) (fun _ _ _ h => h) (Or.inl ⟨by rfl, ?_⟩) (by assumption) ?_
          rotate_left
          · intro w hSw
            try dsimp only at hSw
            go_simp
            try with_reducible rfl
          try simp only [Act.put, List.getElem_toArray, List.getElem_cons_succ, List.getElem_cons_zero, List.setIfInBounds_toArray, List.set_cons_zero, List.set_cons_succ]
          refine wpAnyH_take (i := 3) (v := ?_) rfl (by as_aux_lemma => kernel_rfl) (by as_aux_lemma => kernel_rfl) (by as_aux_lemma => kernel_rfl) (fun _ _ _ h => h) (Or.inl ⟨by rfl, ?_⟩) (by assumption) ?_
          rotate_left
          · intro w hSw
            try dsimp only at hSw
            go_simp
            try with_reducible rfl
          try simp only [Act.put, List.getElem_toArray, List.getElem_cons_succ, List.getElem_cons_zero, List.setIfInBounds_toArray, List.set_cons_zero, List.set_cons_succ]
          refine wpAnyH_take (i := 4) (v := ?_) rfl (by as_aux_lemma => kernel_rfl) (by as_aux_lemma => kernel_rfl) (by as_aux_lemma => kernel_rfl) (fun _ _ _ h => h) (Or.inl ⟨by rfl, ?_⟩) (by assumption) ?_
          rotate_left
          · intro w hSw
            try dsimp only at hSw
            go_simp
            try with_reducible rfl
          try simp only [Act.put, List.getElem_toArray, List.getElem_cons_succ, List.getElem_cons_zero, List.setIfInBounds_toArray, List.set_cons_zero, List.set_cons_succ]
          refine wpAnyH_take (i := 5) (v := ?_) rfl (by as_aux_lemma => kernel_rfl) (by as_aux_lemma => kernel_rfl) (by as_aux_lemma => kernel_rfl) (fun _ _ _ h => h) (Or.inl ⟨by rfl, ?_⟩) (by assumption) ?_
          rotate_left
          · intro w hSw
            try dsimp only at hSw
            go_simp
            try with_reducible rfl
          try simp only [Act.put, List.getElem_toArray, List.getElem_cons_succ, List.getElem_cons_zero, List.setIfInBounds_toArray, List.set_cons_zero, List.set_cons_succ]
          refine wpAnyH_ready (rs := [6]) (by as_aux_lemma => kernel_rfl) (by simp) ?_
          refine AllReadyH.cons rfl (fun K hK => ?_) AllReadyH.nil
          go_simp
          refine (HA.out _ (HL.out.trans (Below.mono hh0.2.2.2.2.2.2.2 HL.out.size))).mono ?_
          rintro e w7 ⟨rfl, hb7⟩
          refine hK.out _ _ (KA _ (Below.trans hh0.2.2.2.2.2.2.2 (Below.mono hb7 (hh0.2.2.2.2.2.2.2).size))) (fun hh1 => ?_)
          clear hK K
          try simp only [Act.put, List.getElem_toArray, List.getElem_cons_succ, List.getElem_cons_zero, List.setIfInBounds_toArray, List.set_cons_zero, List.set_cons_succ]
          refine wpAnyH_take (i := 7) (v := ?_) rfl (by as_aux_lemma => kernel_rfl) (by as_aux_lemma => kernel_rfl) (by as_aux_lemma => kernel_rfl) (fun _ _ _ h => h) (Or.inl ⟨by rfl, ?_⟩) (by assumption) ?_
          rotate_left
          · intro w hSw
            try dsimp only at hSw
            go_simp
            try with_reducible rfl
          try simp only [Act.put, List.getElem_toArray, List.getElem_cons_succ, List.getElem_cons_zero, List.setIfInBounds_toArray, List.set_cons_zero, List.set_cons_succ]
          refine wpAnyH_take (i := 8) (v := ?_) rfl (by as_aux_lemma => kernel_rfl) (by as_aux_lemma => kernel_rfl) (by as_aux_lemma => kernel_rfl) (fun _ _ _ h => h) (Or.inl ⟨by rfl, ?_⟩) (by assumption) ?_
          rotate_left
          · intro w hSw
            try dsimp only at hSw
            go_simp
            try with_reducible rfl
          try simp only [Act.put, List.getElem_toArray, List.getElem_cons_succ, List.getElem_cons_zero, List.setIfInBounds_toArray, List.set_cons_zero, List.set_cons_succ]
          refine wpAnyH_take (i := 9) (v := undef) rfl (by as_aux_lemma => kernel_rfl) (by as_aux_lemma => kernel_rfl) (by as_aux_lemma => kernel_rfl) (fun _ _ _ h => h) (Or.inr ⟨by rfl, rfl⟩) (by assumption) ?_
          try simp only [Act.put, List.getElem_toArray, List.getElem_cons_succ, List.getElem_cons_zero, List.setIfInBounds_toArray, List.set_cons_zero, List.set_cons_succ]
          refine wpAnyH_take (i := 10) (v := undef) rfl (by as_aux_lemma => kernel_rfl) (by as_aux_lemma => kernel_rfl) (by as_aux_lemma => kernel_rfl) (fun _ _ _ h => h) (Or.inr ⟨by rfl, rfl⟩) (by assumption) ?_
          try simp only [Act.put, List.getElem_toArray, List.getElem_cons_succ, List.getElem_cons_zero, List.setIfInBounds_toArray, List.set_cons_zero, List.set_cons_succ]
          refine wpAnyH_take (i := 11) (v := undef) rfl (by as_aux_lemma => kernel_rfl) (by as_aux_lemma => kernel_rfl) (by as_aux_lemma => kernel_rfl) (fun _ _ _ h => h) (Or.inr ⟨by rfl, rfl⟩) (by assumption) ?_
          try simp only [Act.put, List.getElem_toArray, List.getElem_cons_succ, List.getElem_cons_zero, List.setIfInBounds_toArray, List.set_cons_zero, List.set_cons_succ]
          refine wpAnyH_take (i := 12) (v := undef) rfl (by as_aux_lemma => kernel_rfl) (by as_aux_lemma => kernel_rfl) (by as_aux_lemma => kernel_rfl) (fun _ _ _ h => h) (Or.inr ⟨by rfl, rfl⟩) (by assumption) ?_
          try simp only [Act.put, List.getElem_toArray, List.getElem_cons_succ, List.getElem_cons_zero, List.setIfInBounds_toArray, List.set_cons_zero, List.set_cons_succ]
          refine wpAnyH_take (i := 13) (v := undef) rfl (by as_aux_lemma => kernel_rfl) (by as_aux_lemma => kernel_rfl) (by as_aux_lemma => kernel_rfl) (fun _ _ _ h => h) (Or.inr ⟨by rfl, rfl⟩) (by assumption) ?_
          try simp only [Act.put, List.getElem_toArray, List.getElem_cons_succ, List.getElem_cons_zero, List.setIfInBounds_toArray, List.set_cons_zero, List.set_cons_succ]
          refine wpAnyH_take (i := 14) (v := undef) rfl (by as_aux_lemma => kernel_rfl) (by as_aux_lemma => kernel_rfl) (by as_aux_lemma => kernel_rfl) (fun _ _ _ h => h) (Or.inr ⟨by rfl, rfl⟩) (by assumption) ?_
          try simp only [Act.put, List.getElem_toArray, List.getElem_cons_succ, List.getElem_cons_zero, List.setIfInBounds_toArray, List.set_cons_zero, List.set_cons_succ]
          refine wpAnyH_take (i := 15) (v := undef) rfl (by as_aux_lemma => kernel_rfl) (by as_aux_lemma => kernel_rfl) (by as_aux_lemma => kernel_rfl) (fun _ _ _ h => h) (Or.inr ⟨by rfl, rfl⟩) (by assumption) ?_
          try simp only [Act.put, List.getElem_toArray, List.getElem_cons_succ, List.getElem_cons_zero, List.setIfInBounds_toArray, List.set_cons_zero, List.set_cons_succ]
          refine wpAnyH_take (i := 16) (v := ?_) rfl (by as_aux_lemma => kernel_rfl) (by as_aux_lemma => kernel_rfl) (by as_aux_lemma => kernel_rfl) (fun _ _ _ h => h) (Or.inl ⟨by rfl, ?_⟩) (by assumption) ?_
          rotate_left
          · intro w hSw
            try dsimp only at hSw
            go_simp
            try with_reducible rfl
          try simp only [Act.put, List.getElem_toArray, List.getElem_cons_succ, List.getElem_cons_zero, List.setIfInBounds_toArray, List.set_cons_zero, List.set_cons_succ]
          refine wpAnyH_done (by as_aux_lemma => kernel_rfl) ?_ _
          refine NoPanic.normal ?_
          have HBZ := Lib.hid (hh1.2.2.2.2.2.2.2)
          have L8 := Lib.hid (HL.out.trans (HBZ.out.mono HL.out.size))
          have O8 := Lib.hid (own_below HOW.out HBZ.out)
          clear KA c0 c1 c2 c3 c4 cl d0 d1 dl
          go_wp2_with fail
          go_roundg g'
          case measure => omega
          case rel => exact ⟨k + 1, a1, q, cq, L, by omega, by go_num, rfl, HLL, hn, O8, L8⟩
        · cases F
          · have hn := HSK.out rfl
            go_wp2_with fail
            have KA : ∀ W' : World, Below wr.heap.size wr W' → (W'.cell? ⟨w.heap.size, 0, none⟩ = some (.int .i64 kind) ∧ W'.cell? ⟨w.heap.size, 1, none⟩ = some (.int .i64 base) ∧ W'.cell? ⟨w.heap.size, 2, none⟩ = some (.int .i64 most) ∧ W'.cell? ⟨w.heap.size, 3, none⟩ = some (.slice ha n hc) ∧ W'.cell? ⟨w.heap.size, 4, none⟩ = some (.slice ra m rc) ∧ W'.cell? ⟨b, o + k * 2, none⟩ = some (.int .i64 s1) ∧ W'.cell? ⟨b, o + k * 2 + 1, none⟩ = some (.int .i64 s2) ∧ Below wr.heap.size wr W') := fun W' hb => ⟨keepK c0 hb, keepK c1 hb, keepK c2 hb, keepK c3 hb, keepK c4 hb, keepK d0 hb, keepK d1 hb, hb⟩
            refine wp_region_noPanic ?_
            refine wp_region_held_drew (S := (fun W' => W'.cell? ⟨w.heap.size, 0, none⟩ = some (.int .i64 kind) ∧ W'.cell? ⟨w.heap.size, 1, none⟩ = some (.int .i64 base) ∧ W'.cell? ⟨w.heap.size, 2, none⟩ = some (.int .i64 most) ∧ W'.cell? ⟨w.heap.size, 3, none⟩ = some (.slice ha n hc) ∧ W'.cell? ⟨w.heap.size, 4, none⟩ = some (.slice ra m rc) ∧ W'.cell? ⟨b, o + k * 2, none⟩ = some (.int .i64 s1) ∧ W'.cell? ⟨b, o + k * 2 + 1, none⟩ = some (.int .i64 s2) ∧ Below wr.heap.size wr W')) (by kernel_rfl) ?_ (fun hh0 => ?_)
            · exact KA _ (Below.refl _ _).drew
            refine wpAnyH_take (i := 0) (v := ?_) rfl (by as_aux_lemma => kernel_rfl) (by as_aux_lemma => kernel_rfl) (by as_aux_lemma => kernel_rfl) (fun _ _ _ h => h) (Or.inl ⟨by rfl, ?_⟩) (by assumption) ?_
            rotate_left
            · intro w hSw
              try dsimp only at hSw
              go_simp
              try with_reducible rfl
            try simp only [Act.put, List.getElem_toArray, List.getElem_cons_succ, List.getElem_cons_zero, List.setIfInBounds_toArray, List.set_cons_zero, List.set_cons_succ]
            refine wpAnyH_take (i := 1) (v := ?_) rfl (by as_aux_lemma => kernel_rfl) (by as_aux_lemma => kernel_rfl) (by as_aux_lemma => kernel_rfl) (fun _ _ _ h => h) (Or.inl ⟨by rfl, ?_⟩) (by assumption) ?_
            rotate_left
            · intro w hSw
              try dsimp only at hSw
              go_simp
              try with_reducible rfl
            try simp only [Act.put, List.getElem_toArray, List.getElem_cons_succ, List.getElem_cons_zero, List.setIfInBounds_toArray, List.set_cons_zero, List.set_cons_succ]
            refine wpAnyH_take (i := 2) (v := ?_) rfl (by as_aux_lemma => kernel_rfl) (by as_aux_lemma => kernel_rfl) (by as_aux_lemma => kernel_rfl) (fun _ _ _ h => h) (Or.inl ⟨by rfl, ?_⟩) (by assumption) ?_
            rotate_left
            · intro w hSw
              try dsimp only at hSw
              go_simp
              try with_reducible rfl
            try simp only [Act.put, List.getElem_toArray, List.getElem_cons_succ, List.getElem_cons_zero, List.setIfInBounds_toArray, List.set_cons_zero, List.set_cons_succ]
            refine wpAnyH_take (i := 3) (v := ?_) rfl (by as_aux_lemma => kernel_rfl) (by as_aux_lemma => kernel_rfl) (by as_aux_lemma => kernel_rfl) (fun _ _ _ h => h) (Or.inl ⟨by rfl, ?_⟩) (by assumption) ?_
            rotate_left
            · intro w hSw
              try dsimp only at hSw
              go_simp
              try with_reducible rfl
            try simp only [Act.put, List.getElem_toArray, List.getElem_cons_succ, List.getElem_cons_zero, List.setIfInBounds_toArray, List.set_cons_zero, List.set_cons_succ]
            refine wpAnyH_take (i := 4) (v := ?_) rfl (by as_aux_lemma => kernel_rfl) (by as_aux_lemma => kernel_rfl) (by as_aux_lemma => kernel_rfl) (fun _ _ _ h => h) (Or.inl ⟨by rfl, ?_⟩) (by assumption) ?_
            rotate_left
            · intro w hSw
              try dsimp only at hSw
              go_simp
              try with_reducible rfl
            try simp only [Act.put, List.getElem_toArray, List.getElem_cons_succ, List.getElem_cons_zero, List.setIfInBounds_toArray, List.set_cons_zero, List.set_cons_succ]
            refine wpAnyH_take (i := 5) (v := ?_) rfl (by as_aux_lemma => kernel_rfl) (by as_aux_lemma => kernel_rfl) (by as_aux_lemma => kernel_rfl) (fun _ _ _ h => h) (Or.inl ⟨by rfl, ?_⟩) (by assumption) ?_
            rotate_left
            · intro w hSw
              try dsimp only at hSw
              go_simp
              try with_reducible rfl
            try simp only [Act.put, List.getElem_toArray, List.getElem_cons_succ, List.getElem_cons_zero, List.setIfInBounds_toArray, List.set_cons_zero, List.set_cons_succ]
            refine wpAnyH_ready (rs := [6]) (by as_aux_lemma => kernel_rfl) (by simp) ?_
            refine AllReadyH.cons rfl (fun K hK => ?_) AllReadyH.nil
            go_simp
            refine (HA.out _ (HL.out.trans (Below.mono hh0.2.2.2.2.2.2.2 HL.out.size))).mono ?_
            rintro e w7 ⟨rfl, hb7⟩
            refine hK.out _ _ (KA _ (Below.trans hh0.2.2.2.2.2.2.2 (Below.mono hb7 (hh0.2.2.2.2.2.2.2).size))) (fun hh1 => ?_)
            clear hK K
            try simp only [Act.put, List.getElem_toArray, List.getElem_cons_succ, List.getElem_cons_zero, List.setIfInBounds_toArray, List.set_cons_zero, List.set_cons_succ]
            refine wpAnyH_take (i := 7) (v := ?_) rfl (by as_aux_lemma => kernel_rfl) (by as_aux_lemma => kernel_rfl) (by as_aux_lemma => kernel_rfl) (fun _ _ _ h => h) (Or.inl ⟨by rfl, ?_⟩) (by assumption) ?_
            rotate_left
            · intro w hSw
              try dsimp only at hSw
              go_simp
              try with_reducible rfl
            try simp only [Act.put, List.getElem_toArray, List.getElem_cons_succ, List.getElem_cons_zero, List.setIfInBounds_toArray, List.set_cons_zero, List.set_cons_succ]
            refine wpAnyH_take (i := 8) (v := ?_) rfl (by as_aux_lemma => kernel_rfl) (by as_aux_lemma => kernel_rfl) (by as_aux_lemma => kernel_rfl) (fun _ _ _ h => h) (Or.inl ⟨by rfl, ?_⟩) (by assumption) ?_
            rotate_left
            · intro w hSw
              try dsimp only at hSw
              go_simp
              try with_reducible rfl
            try simp only [Act.put, List.getElem_toArray, List.getElem_cons_succ, List.getElem_cons_zero, List.setIfInBounds_toArray, List.set_cons_zero, List.set_cons_succ]
            refine wpAnyH_take (i := 9) (v := ?_) rfl (by as_aux_lemma => kernel_rfl) (by as_aux_lemma => kernel_rfl) (by as_aux_lemma => kernel_rfl) (fun _ _ _ h => h) (Or.inl ⟨by rfl, ?_⟩) (by assumption) ?_
            rotate_left
            · intro w hSw
              try dsimp only at hSw
              go_simp
              try with_reducible rfl
            try simp only [Act.put, List.getElem_toArray, List.getElem_cons_succ, List.getElem_cons_zero, List.setIfInBounds_toArray, List.set_cons_zero, List.set_cons_succ]
            refine wpAnyH_take (i := 10) (v := ?_) rfl (by as_aux_lemma => kernel_rfl) (by as_aux_lemma => kernel_rfl) (by as_aux_lemma => kernel_rfl) (fun _ _ _ h => h) (Or.inl ⟨by rfl, ?_⟩) (by assumption) ?_
            rotate_left
            · intro w hSw
              try dsimp only at hSw
              go_simp
              try with_reducible rfl
            try simp only [Act.put, List.getElem_toArray, List.getElem_cons_succ, List.getElem_cons_zero, List.setIfInBounds_toArray, List.set_cons_zero, List.set_cons_succ]
            refine wpAnyH_take (i := 11) (v := ?_) rfl (by as_aux_lemma => kernel_rfl) (by as_aux_lemma => kernel_rfl) (by as_aux_lemma => kernel_rfl) (fun _ _ _ h => h) (Or.inl ⟨by rfl, ?_⟩) (by assumption) ?_
            rotate_left
            · intro w hSw
              try dsimp only at hSw
              go_simp
              try with_reducible rfl
            try simp only [Act.put, List.getElem_toArray, List.getElem_cons_succ, List.getElem_cons_zero, List.setIfInBounds_toArray, List.set_cons_zero, List.set_cons_succ]
            refine wpAnyH_take (i := 12) (v := ?_) rfl (by as_aux_lemma => kernel_rfl) (by as_aux_lemma => kernel_rfl) (by as_aux_lemma => kernel_rfl) (fun _ _ _ h => h) (Or.inl ⟨by rfl, ?_⟩) (by assumption) ?_
            rotate_left
            · intro w hSw
              try dsimp only at hSw
              go_simp
              try with_reducible rfl
            try simp only [Act.put, List.getElem_toArray, List.getElem_cons_succ, List.getElem_cons_zero, List.setIfInBounds_toArray, List.set_cons_zero, List.set_cons_succ]
            refine wpAnyH_take (i := 13) (v := ?_) rfl (by as_aux_lemma => kernel_rfl) (by as_aux_lemma => kernel_rfl) (by as_aux_lemma => kernel_rfl) (fun _ _ _ h => h) (Or.inl ⟨by rfl, ?_⟩) (by assumption) ?_
            rotate_left
            · intro w hSw
              try dsimp only at hSw
              go_simp
              try with_reducible rfl
            try simp only [Act.put, List.getElem_toArray, List.getElem_cons_succ, List.getElem_cons_zero, List.setIfInBounds_toArray, List.set_cons_zero, List.set_cons_succ]
            refine wpAnyH_ready (rs := [14]) (by as_aux_lemma => kernel_rfl) (by simp) ?_
            refine AllReadyH.cons rfl (fun K hK => ?_) AllReadyH.nil
            go_simp
            refine (HF.out _ (HL.out.trans (Below.mono hh1.2.2.2.2.2.2.2 HL.out.size))).mono ?_
            rintro e w8 ⟨rfl, hb8⟩
            refine hK.out _ _ (KA _ (Below.trans hh1.2.2.2.2.2.2.2 (Below.mono hb8 (hh1.2.2.2.2.2.2.2).size))) (fun hh2 => ?_)
            clear hK K
            try simp only [Act.put, List.getElem_toArray, List.getElem_cons_succ, List.getElem_cons_zero, List.setIfInBounds_toArray, List.set_cons_zero, List.set_cons_succ]
            refine wpAnyH_take (i := 15) (v := ?_) rfl (by as_aux_lemma => kernel_rfl) (by as_aux_lemma => kernel_rfl) (by as_aux_lemma => kernel_rfl) (fun _ _ _ h => h) (Or.inl ⟨by rfl, ?_⟩) (by assumption) ?_
            rotate_left
            · intro w hSw
              try dsimp only at hSw
              go_simp
              try with_reducible rfl
            try simp only [Act.put, List.getElem_toArray, List.getElem_cons_succ, List.getElem_cons_zero, List.setIfInBounds_toArray, List.set_cons_zero, List.set_cons_succ]
            refine wpAnyH_take (i := 16) (v := ?_) rfl (by as_aux_lemma => kernel_rfl) (by as_aux_lemma => kernel_rfl) (by as_aux_lemma => kernel_rfl) (fun _ _ _ h => h) (Or.inl ⟨by rfl, ?_⟩) (by assumption) ?_
            rotate_left
            · intro w hSw
              try dsimp only at hSw
              go_simp
              try with_reducible rfl
            try simp only [Act.put, List.getElem_toArray, List.getElem_cons_succ, List.getElem_cons_zero, List.setIfInBounds_toArray, List.set_cons_zero, List.set_cons_succ]
            refine wpAnyH_done (by as_aux_lemma => kernel_rfl) ?_ _
            refine NoPanic.normal ?_
            have HBZ := Lib.hid (hh2.2.2.2.2.2.2.2)
            have L8 := Lib.hid (HL.out.trans (HBZ.out.mono HL.out.size))
            have O8 := Lib.hid (own_below HOW.out HBZ.out)
            clear KA c0 c1 c2 c3 c4 cl d0 d1 dl
            go_wp2_with fail
            go_roundg g'
            case measure => omega
            case rel => exact ⟨k + 1, a1, q, cq, L, by omega, by go_num, rfl, HLL, hn, O8, L8⟩
          · have hput := HPUT.out rfl
            have HPT := Lib.hid hput
            clear hput
            go_wp2_with fail
            have KA : ∀ W' : World, Below wr.heap.size wr W' → (W'.cell? ⟨w.heap.size, 0, none⟩ = some (.int .i64 kind) ∧ W'.cell? ⟨w.heap.size, 1, none⟩ = some (.int .i64 base) ∧ W'.cell? ⟨w.heap.size, 2, none⟩ = some (.int .i64 most) ∧ W'.cell? ⟨w.heap.size, 3, none⟩ = some (.slice ha n hc) ∧ W'.cell? ⟨w.heap.size, 4, none⟩ = some (.slice ra m rc) ∧ W'.cell? ⟨b, o + k * 2, none⟩ = some (.int .i64 s1) ∧ W'.cell? ⟨b, o + k * 2 + 1, none⟩ = some (.int .i64 s2) ∧ Below wr.heap.size wr W') := fun W' hb => ⟨keepK c0 hb, keepK c1 hb, keepK c2 hb, keepK c3 hb, keepK c4 hb, keepK d0 hb, keepK d1 hb, hb⟩
            refine wp_region_noPanic ?_
            refine wp_region_held_drew (S := (fun W' => W'.cell? ⟨w.heap.size, 0, none⟩ = some (.int .i64 kind) ∧ W'.cell? ⟨w.heap.size, 1, none⟩ = some (.int .i64 base) ∧ W'.cell? ⟨w.heap.size, 2, none⟩ = some (.int .i64 most) ∧ W'.cell? ⟨w.heap.size, 3, none⟩ = some (.slice ha n hc) ∧ W'.cell? ⟨w.heap.size, 4, none⟩ = some (.slice ra m rc) ∧ W'.cell? ⟨b, o + k * 2, none⟩ = some (.int .i64 s1) ∧ W'.cell? ⟨b, o + k * 2 + 1, none⟩ = some (.int .i64 s2) ∧ Below wr.heap.size wr W')) (by kernel_rfl) ?_ (fun hh0 => ?_)
            · exact KA _ (Below.refl _ _).drew
            refine wpAnyH_take (i := 0) (v := ?_) rfl (by as_aux_lemma => kernel_rfl) (by as_aux_lemma => kernel_rfl) (by as_aux_lemma => kernel_rfl) (fun _ _ _ h => h) (Or.inl ⟨by rfl, ?_⟩) (by assumption) ?_
            rotate_left
            · intro w hSw
              try dsimp only at hSw
              go_simp
              try with_reducible rfl
            try simp only [Act.put, List.getElem_toArray, List.getElem_cons_succ, List.getElem_cons_zero, List.setIfInBounds_toArray, List.set_cons_zero, List.set_cons_succ]
            refine wpAnyH_take (i := 1) (v := ?_) rfl (by as_aux_lemma => kernel_rfl) (by as_aux_lemma => kernel_rfl) (by as_aux_lemma => kernel_rfl) (fun _ _ _ h => h) (Or.inl ⟨by rfl, ?_⟩) (by assumption) ?_
            rotate_left
            · intro w hSw
              try dsimp only at hSw
              go_simp
              try with_reducible rfl
            try simp only [Act.put, List.getElem_toArray, List.getElem_cons_succ, List.getElem_cons_zero, List.setIfInBounds_toArray, List.set_cons_zero, List.set_cons_succ]
            refine wpAnyH_take (i := 2) (v := ?_) rfl (by as_aux_lemma => kernel_rfl) (by as_aux_lemma => kernel_rfl) (by as_aux_lemma => kernel_rfl) (fun _ _ _ h => h) (Or.inl ⟨by rfl, ?_⟩) (by assumption) ?_
            rotate_left
            · intro w hSw
              try dsimp only at hSw
              go_simp
              try with_reducible rfl
            try simp only [Act.put, List.getElem_toArray, List.getElem_cons_succ, List.getElem_cons_zero, List.setIfInBounds_toArray, List.set_cons_zero, List.set_cons_succ]
            refine wpAnyH_take (i := 3) (v := ?_) rfl (by as_aux_lemma => kernel_rfl) (by as_aux_lemma => kernel_rfl) (by as_aux_lemma => kernel_rfl) (fun _ _ _ h => h) (Or.inl ⟨by rfl, ?_⟩) (by assumption) ?_
            rotate_left
            · intro w hSw
              try dsimp only at hSw
              go_simp
              try with_reducible rfl
            try simp only [Act.put, List.getElem_toArray, List.getElem_cons_succ, List.getElem_cons_zero, List.setIfInBounds_toArray, List.set_cons_zero, List.set_cons_succ]
            refine wpAnyH_take (i := 4) (v := ?_) rfl (by as_aux_lemma => kernel_rfl) (by as_aux_lemma => kernel_rfl) (by as_aux_lemma => kernel_rfl) (fun _ _ _ h => h) (Or.inl ⟨by rfl, ?_⟩) (by assumption) ?_
            rotate_left
            · intro w hSw
              try dsimp only at hSw
              go_simp
              try with_reducible rfl
            try simp only [Act.put, List.getElem_toArray, List.getElem_cons_succ, List.getElem_cons_zero, List.setIfInBounds_toArray, List.set_cons_zero, List.set_cons_succ]
            refine wpAnyH_take (i := 5) (v := ?_) rfl (by as_aux_lemma => kernel_rfl) (by as_aux_lemma => kernel_rfl) (by as_aux_lemma => kernel_rfl) (fun _ _ _ h => h) (Or.inl ⟨by rfl, ?_⟩) (by assumption) ?_
            rotate_left
            · intro w hSw
              try dsimp only at hSw
              go_simp
              try with_reducible rfl
            try simp only [Act.put, List.getElem_toArray, List.getElem_cons_succ, List.getElem_cons_zero, List.setIfInBounds_toArray, List.set_cons_zero, List.set_cons_succ]
            refine wpAnyH_ready (rs := [6]) (by as_aux_lemma => kernel_rfl) (by simp) ?_
            refine AllReadyH.cons rfl (fun K hK => ?_) AllReadyH.nil
            go_simp
            refine (HA.out _ (HL.out.trans (Below.mono hh0.2.2.2.2.2.2.2 HL.out.size))).mono ?_
            rintro e w7 ⟨rfl, hb7⟩
            refine hK.out _ _ (KA _ (Below.trans hh0.2.2.2.2.2.2.2 (Below.mono hb7 (hh0.2.2.2.2.2.2.2).size))) (fun hh1 => ?_)
            clear hK K
            try simp only [Act.put, List.getElem_toArray, List.getElem_cons_succ, List.getElem_cons_zero, List.setIfInBounds_toArray, List.set_cons_zero, List.set_cons_succ]
            refine wpAnyH_take (i := 7) (v := ?_) rfl (by as_aux_lemma => kernel_rfl) (by as_aux_lemma => kernel_rfl) (by as_aux_lemma => kernel_rfl) (fun _ _ _ h => h) (Or.inl ⟨by rfl, ?_⟩) (by assumption) ?_
            rotate_left
            · intro w hSw
              try dsimp only at hSw
              go_simp
              try with_reducible rfl
            try simp only [Act.put, List.getElem_toArray, List.getElem_cons_succ, List.getElem_cons_zero, List.setIfInBounds_toArray, List.set_cons_zero, List.set_cons_succ]
            refine wpAnyH_take (i := 8) (v := ?_) rfl (by as_aux_lemma => kernel_rfl) (by as_aux_lemma => kernel_rfl) (by as_aux_lemma => kernel_rfl) (fun _ _ _ h => h) (Or.inl ⟨by rfl, ?_⟩) (by assumption) ?_
            rotate_left
            · intro w hSw
              try dsimp only at hSw
              go_simp
              try with_reducible rfl
            try simp only [Act.put, List.getElem_toArray, List.getElem_cons_succ, List.getElem_cons_zero, List.setIfInBounds_toArray, List.set_cons_zero, List.set_cons_succ]
            refine wpAnyH_take (i := 9) (v := ?_) rfl (by as_aux_lemma => kernel_rfl) (by as_aux_lemma => kernel_rfl) (by as_aux_lemma => kernel_rfl) (fun _ _ _ h => h) (Or.inl ⟨by rfl, ?_⟩) (by assumption) ?_
            rotate_left
            · intro w hSw
              try dsimp only at hSw
              go_simp
              try with_reducible rfl
            try simp only [Act.put, List.getElem_toArray, List.getElem_cons_succ, List.getElem_cons_zero, List.setIfInBounds_toArray, List.set_cons_zero, List.set_cons_succ]
            refine wpAnyH_take (i := 10) (v := ?_) rfl (by as_aux_lemma => kernel_rfl) (by as_aux_lemma => kernel_rfl) (by as_aux_lemma => kernel_rfl) (fun _ _ _ h => h) (Or.inl ⟨by rfl, ?_⟩) (by assumption) ?_
            rotate_left
            · intro w hSw
              try dsimp only at hSw
              go_simp
              try with_reducible rfl
            try simp only [Act.put, List.getElem_toArray, List.getElem_cons_succ, List.getElem_cons_zero, List.setIfInBounds_toArray, List.set_cons_zero, List.set_cons_succ]
            refine wpAnyH_take (i := 11) (v := ?_) rfl (by as_aux_lemma => kernel_rfl) (by as_aux_lemma => kernel_rfl) (by as_aux_lemma => kernel_rfl) (fun _ _ _ h => h) (Or.inl ⟨by rfl, ?_⟩) (by assumption) ?_
            rotate_left
            · intro w hSw
              try dsimp only at hSw
              go_simp
              try with_reducible rfl
            try simp only [Act.put, List.getElem_toArray, List.getElem_cons_succ, List.getElem_cons_zero, List.setIfInBounds_toArray, List.set_cons_zero, List.set_cons_succ]
            refine wpAnyH_take (i := 12) (v := ?_) rfl (by as_aux_lemma => kernel_rfl) (by as_aux_lemma => kernel_rfl) (by as_aux_lemma => kernel_rfl) (fun _ _ _ h => h) (Or.inl ⟨by rfl, ?_⟩) (by assumption) ?_
            rotate_left
            · intro w hSw
              try dsimp only at hSw
              go_simp
              try with_reducible rfl
            try simp only [Act.put, List.getElem_toArray, List.getElem_cons_succ, List.getElem_cons_zero, List.setIfInBounds_toArray, List.set_cons_zero, List.set_cons_succ]
            refine wpAnyH_take (i := 13) (v := ?_) rfl (by as_aux_lemma => kernel_rfl) (by as_aux_lemma => kernel_rfl) (by as_aux_lemma => kernel_rfl) (fun _ _ _ h => h) (Or.inl ⟨by rfl, ?_⟩) (by assumption) ?_
            rotate_left
            · intro w hSw
              try dsimp only at hSw
              go_simp
              try with_reducible rfl
            try simp only [Act.put, List.getElem_toArray, List.getElem_cons_succ, List.getElem_cons_zero, List.setIfInBounds_toArray, List.set_cons_zero, List.set_cons_succ]
            refine wpAnyH_ready (rs := [14]) (by as_aux_lemma => kernel_rfl) (by simp) ?_
            refine AllReadyH.cons rfl (fun K hK => ?_) AllReadyH.nil
            go_simp
            refine (HF.out _ (HL.out.trans (Below.mono hh1.2.2.2.2.2.2.2 HL.out.size))).mono ?_
            rintro e w8 ⟨rfl, hb8⟩
            refine hK.out _ _ (KA _ (Below.trans hh1.2.2.2.2.2.2.2 (Below.mono hb8 (hh1.2.2.2.2.2.2.2).size))) (fun hh2 => ?_)
            clear hK K
            try simp only [Act.put, List.getElem_toArray, List.getElem_cons_succ, List.getElem_cons_zero, List.setIfInBounds_toArray, List.set_cons_zero, List.set_cons_succ]
            refine wpAnyH_take (i := 15) (v := ?_) rfl (by as_aux_lemma => kernel_rfl) (by as_aux_lemma => kernel_rfl) (by as_aux_lemma => kernel_rfl) (fun _ _ _ h => h) (Or.inl ⟨by rfl, ?_⟩) (by assumption) ?_
            rotate_left
            · intro w hSw
              try dsimp only at hSw
              go_simp
              try with_reducible rfl
            try simp only [Act.put, List.getElem_toArray, List.getElem_cons_succ, List.getElem_cons_zero, List.setIfInBounds_toArray, List.set_cons_zero, List.set_cons_succ]
            refine wpAnyH_take (i := 16) (v := ?_) rfl (by as_aux_lemma => kernel_rfl) (by as_aux_lemma => kernel_rfl) (by as_aux_lemma => kernel_rfl) (fun _ _ _ h => h) (Or.inl ⟨by rfl, ?_⟩) (by assumption) ?_
            rotate_left
            · intro w hSw
              try dsimp only at hSw
              go_simp
              try with_reducible rfl
            try simp only [Act.put, List.getElem_toArray, List.getElem_cons_succ, List.getElem_cons_zero, List.setIfInBounds_toArray, List.set_cons_zero, List.set_cons_succ]
            refine wpAnyH_done (by as_aux_lemma => kernel_rfl) ?_ _
            refine NoPanic.normal ?_
            have HBZ := Lib.hid (hh2.2.2.2.2.2.2.2)
            obtain ⟨w3, hw3⟩ : ∃ x, w8 = x := ⟨_, rfl⟩
            subst hw3
            have L3 := Lib.hid (HL.out.trans (HBZ.out.mono HL.out.size))
            have O3 := Lib.hid (own_below HOW.out HBZ.out)
            clear KA c0 c1 c2 c3 c4 cl d0 d1 dl
            go_wp2
            go_loopg [10] q (fun gh at' w4 => ∃ (j : Nat), gh + j = q ∧ at' = .int .i64 (j : Int) ∧ Hid (∀ i, i < j → lessS (L.getD i default) (s1, s2) = true) ∧ Hid (Below w8.heap.size w8 w4))
            case atStart => exact ⟨0, by omega, rfl, fun i hi => by omega, Below.refl _ _⟩
            case round =>
              rename World => w4
              obtain ⟨j, hj, rfl, HBE, HL4⟩ := hrel
              have L4 := Lib.hid (L3.out.trans (HL4.out.mono L3.out.size))
              have O4 := Lib.hid (own_below O3.out HL4.out)
              have jI9 : (j : Int) ≤ 900 := by omega
              have PA4 := Lib.hid (show PairsAt w4 (.slice a1 q cq) L from pairs_own (by rw [HLL.out]; exact O4.out) (by rw [HLL.out]; omega))
              obtain ⟨d0, d1⟩ := HCS.out w4 L4.out
              have dl := World.block_lt_of_cell? w4 ⟨b, o + k * 2, none⟩ d0
              by_cases hjt : j < q
              · have jI : (j : Int) < (q : Int) := by omega
                have jz : (0 : Int) ≤ (j : Int) := by omega
                have hjL : j < L.length := by rw [HLL.out]; exact hjt
                obtain ⟨b2, o2, rfl, g0, g1⟩ := PA4.out.get hjL
                obtain ⟨t, ht⟩ : ∃ t, L[j] = t := ⟨_, rfl⟩
                have hgd : L.getD j default = t := by rw [← ht]; simp [List.getD_eq_getElem?_getD, hjL]
                rw [ht] at g0 g1
                have htb := HLP.out j hjt
                rw [hgd] at htb
                obtain ⟨X, hX⟩ : ∃ X, lessS t (s1, s2) = X := ⟨_, rfl⟩
                have hle : ∀ V : World, _ := fun V => rLess_any t (s1, s2) V ⟨by omega, by omega, by omega, by omega⟩ ⟨by have := HSB.out; simp only at this ⊢; omega, by have := HSB.out; simp only at this ⊢; omega, by have := HSB.out; simp only at this ⊢; omega, by have := HSB.out; simp only at this ⊢; omega⟩
                rw [hX] at hle
                have HLE := Lib.hid hle
                have HGX : Hid (lessS (L.getD j default) (s1, s2) = X) := by show _ = _; rw [hgd]; exact hX
                have gl := World.block_lt_of_cell? w4 ⟨b2, o2 + j * 2, none⟩ g0
                obtain ⟨t1, t2⟩ := t
                simp only at g0 g1 HLE
                clear hjL ht hgd htb hX hle
                cases X
                · go_wp2_with fail
                  have KA : ∀ W' : World, Below w4.heap.size w4 W' → (W'.cell? ⟨b, o + k * 2, none⟩ = some (.int .i64 s1) ∧ W'.cell? ⟨b, o + k * 2 + 1, none⟩ = some (.int .i64 s2) ∧ W'.cell? ⟨b2, o2 + j * 2, none⟩ = some (.int .i64 t1) ∧ W'.cell? ⟨b2, o2 + j * 2 + 1, none⟩ = some (.int .i64 t2) ∧ Below w4.heap.size w4 W') := fun W' hb => ⟨keepK d0 hb, keepK d1 hb, keepK g0 hb, keepK g1 hb, hb⟩
                  refine wp_region_noPanic ?_
                  refine wp_region_held_drew (S := (fun W' => W'.cell? ⟨b, o + k * 2, none⟩ = some (.int .i64 s1) ∧ W'.cell? ⟨b, o + k * 2 + 1, none⟩ = some (.int .i64 s2) ∧ W'.cell? ⟨b2, o2 + j * 2, none⟩ = some (.int .i64 t1) ∧ W'.cell? ⟨b2, o2 + j * 2 + 1, none⟩ = some (.int .i64 t2) ∧ Below w4.heap.size w4 W')) (by kernel_rfl) ?_ (fun hh0 => ?_)
                  · exact KA _ (Below.refl _ _).drew
                  refine wpAnyH_take (i := 0) (v := ?_) rfl (by as_aux_lemma => kernel_rfl) (by as_aux_lemma => kernel_rfl) (by as_aux_lemma => kernel_rfl) (fun _ _ _ h => h) (Or.inl ⟨by rfl, ?_⟩) (by assumption) ?_
                  rotate_left
                  · intro w hSw
                    try dsimp only at hSw
                    go_simp
                    try with_reducible rfl
                  try simp only [Act.put, List.getElem_toArray, List.getElem_cons_succ, List.getElem_cons_zero, List.setIfInBounds_toArray, List.set_cons_zero, List.set_cons_succ]
                  refine wpAnyH_take (i := 1) (v := ?_) rfl (by as_aux_lemma => kernel_rfl) (by as_aux_lemma => kernel_rfl) (by as_aux_lemma => kernel_rfl) (fun _ _ _ h => h) (Or.inl ⟨by rfl, ?_⟩) (by assumption) ?_
                  rotate_left
                  · intro w hSw
                    try dsimp only at hSw
                    go_simp
                    try with_reducible rfl
                  try simp only [Act.put, List.getElem_toArray, List.getElem_cons_succ, List.getElem_cons_zero, List.setIfInBounds_toArray, List.set_cons_zero, List.set_cons_succ]
                  refine wpAnyH_take (i := 2) (v := ?_) rfl (by as_aux_lemma => kernel_rfl) (by as_aux_lemma => kernel_rfl) (by as_aux_lemma => kernel_rfl) (fun _ _ _ h => h) (Or.inl ⟨by rfl, ?_⟩) (by assumption) ?_
                  rotate_left
                  · intro w hSw
                    try dsimp only at hSw
                    go_simp
                    try with_reducible rfl
                  try simp only [Act.put, List.getElem_toArray, List.getElem_cons_succ, List.getElem_cons_zero, List.setIfInBounds_toArray, List.set_cons_zero, List.set_cons_succ]
                  refine wpAnyH_take (i := 3) (v := ?_) rfl (by as_aux_lemma => kernel_rfl) (by as_aux_lemma => kernel_rfl) (by as_aux_lemma => kernel_rfl) (fun _ _ _ h => h) (Or.inl ⟨by rfl, ?_⟩) (by assumption) ?_
                  rotate_left
                  · intro w hSw
                    try dsimp only at hSw
                    go_simp
                    try with_reducible rfl
                  try simp only [Act.put, List.getElem_toArray, List.getElem_cons_succ, List.getElem_cons_zero, List.setIfInBounds_toArray, List.set_cons_zero, List.set_cons_succ]
                  refine wpAnyH_take (i := 4) (v := ?_) rfl (by as_aux_lemma => kernel_rfl) (by as_aux_lemma => kernel_rfl) (by as_aux_lemma => kernel_rfl) (fun _ _ _ h => h) (Or.inl ⟨by rfl, ?_⟩) (by assumption) ?_
                  rotate_left
                  · intro w hSw
                    try dsimp only at hSw
                    go_simp
                    try with_reducible rfl
                  try simp only [Act.put, List.getElem_toArray, List.getElem_cons_succ, List.getElem_cons_zero, List.setIfInBounds_toArray, List.set_cons_zero, List.set_cons_succ]
                  refine wpAnyH_take (i := 5) (v := ?_) rfl (by as_aux_lemma => kernel_rfl) (by as_aux_lemma => kernel_rfl) (by as_aux_lemma => kernel_rfl) (fun _ _ _ h => h) (Or.inl ⟨by rfl, ?_⟩) (by assumption) ?_
                  rotate_left
                  · intro w hSw
                    try dsimp only at hSw
                    go_simp
                    try with_reducible rfl
                  try simp only [Act.put, List.getElem_toArray, List.getElem_cons_succ, List.getElem_cons_zero, List.setIfInBounds_toArray, List.set_cons_zero, List.set_cons_succ]
                  refine wpAnyH_take (i := 6) (v := ?_) rfl (by as_aux_lemma => kernel_rfl) (by as_aux_lemma => kernel_rfl) (by as_aux_lemma => kernel_rfl) (fun _ _ _ h => h) (Or.inl ⟨by rfl, ?_⟩) (by assumption) ?_
                  rotate_left
                  · intro w hSw
                    try dsimp only at hSw
                    go_simp
                    try with_reducible rfl
                  try simp only [Act.put, List.getElem_toArray, List.getElem_cons_succ, List.getElem_cons_zero, List.setIfInBounds_toArray, List.set_cons_zero, List.set_cons_succ]
                  refine wpAnyH_take (i := 7) (v := ?_) rfl (by as_aux_lemma => kernel_rfl) (by as_aux_lemma => kernel_rfl) (by as_aux_lemma => kernel_rfl) (fun _ _ _ h => h) (Or.inl ⟨by rfl, ?_⟩) (by assumption) ?_
                  rotate_left
                  · intro w hSw
                    try dsimp only at hSw
                    go_simp
                    try with_reducible rfl
                  try simp only [Act.put, List.getElem_toArray, List.getElem_cons_succ, List.getElem_cons_zero, List.setIfInBounds_toArray, List.set_cons_zero, List.set_cons_succ]
                  refine wpAnyH_take (i := 8) (v := ?_) rfl (by as_aux_lemma => kernel_rfl) (by as_aux_lemma => kernel_rfl) (by as_aux_lemma => kernel_rfl) (fun _ _ _ h => h) (Or.inl ⟨by rfl, ?_⟩) (by assumption) ?_
                  rotate_left
                  · intro w hSw
                    try dsimp only at hSw
                    go_simp
                    try with_reducible rfl
                  try simp only [Act.put, List.getElem_toArray, List.getElem_cons_succ, List.getElem_cons_zero, List.setIfInBounds_toArray, List.set_cons_zero, List.set_cons_succ]
                  refine wpAnyH_take (i := 9) (v := ?_) rfl (by as_aux_lemma => kernel_rfl) (by as_aux_lemma => kernel_rfl) (by as_aux_lemma => kernel_rfl) (fun _ _ _ h => h) (Or.inl ⟨by rfl, ?_⟩) (by assumption) ?_
                  rotate_left
                  · intro w hSw
                    try dsimp only at hSw
                    go_simp
                    try with_reducible rfl
                  try simp only [Act.put, List.getElem_toArray, List.getElem_cons_succ, List.getElem_cons_zero, List.setIfInBounds_toArray, List.set_cons_zero, List.set_cons_succ]
                  refine wpAnyH_take (i := 10) (v := ?_) rfl (by as_aux_lemma => kernel_rfl) (by as_aux_lemma => kernel_rfl) (by as_aux_lemma => kernel_rfl) (fun _ _ _ h => h) (Or.inl ⟨by rfl, ?_⟩) (by assumption) ?_
                  rotate_left
                  · intro w hSw
                    try dsimp only at hSw
                    go_simp
                    try with_reducible rfl
                  try simp only [Act.put, List.getElem_toArray, List.getElem_cons_succ, List.getElem_cons_zero, List.setIfInBounds_toArray, List.set_cons_zero, List.set_cons_succ]
                  refine wpAnyH_take (i := 11) (v := ?_) rfl (by as_aux_lemma => kernel_rfl) (by as_aux_lemma => kernel_rfl) (by as_aux_lemma => kernel_rfl) (fun _ _ _ h => h) (Or.inl ⟨by rfl, ?_⟩) (by assumption) ?_
                  rotate_left
                  · intro w hSw
                    try dsimp only at hSw
                    go_simp
                    try with_reducible rfl
                  try simp only [Act.put, List.getElem_toArray, List.getElem_cons_succ, List.getElem_cons_zero, List.setIfInBounds_toArray, List.set_cons_zero, List.set_cons_succ]
                  refine wpAnyH_take (i := 12) (v := ?_) rfl (by as_aux_lemma => kernel_rfl) (by as_aux_lemma => kernel_rfl) (by as_aux_lemma => kernel_rfl) (fun _ _ _ h => h) (Or.inl ⟨by rfl, ?_⟩) (by assumption) ?_
                  rotate_left
                  · intro w hSw
                    try dsimp only at hSw
                    go_simp
                    try with_reducible rfl
                  try simp only [Act.put, List.getElem_toArray, List.getElem_cons_succ, List.getElem_cons_zero, List.setIfInBounds_toArray, List.set_cons_zero, List.set_cons_succ]
                  refine wpAnyH_ready (rs := [13]) (by as_aux_lemma => kernel_rfl) (by simp) ?_
                  refine AllReadyH.cons rfl (fun K hK => ?_) AllReadyH.nil
                  go_simp
                  refine (HLE.out _).mono ?_
                  rintro e w5 ⟨rfl, hb5⟩
                  refine hK.out _ _ (KA _ (Below.trans hh0.2.2.2.2 (Below.mono hb5 (hh0.2.2.2.2).size))) (fun hh1 => ?_)
                  clear hK K
                  try simp only [Act.put, List.getElem_toArray, List.getElem_cons_succ, List.getElem_cons_zero, List.setIfInBounds_toArray, List.set_cons_zero, List.set_cons_succ]
                  refine wpAnyH_take (i := 14) (v := ?_) rfl (by as_aux_lemma => kernel_rfl) (by as_aux_lemma => kernel_rfl) (by as_aux_lemma => kernel_rfl) (fun _ _ _ h => h) (Or.inl ⟨by rfl, ?_⟩) (by assumption) ?_
                  rotate_left
                  · intro w hSw
                    try dsimp only at hSw
                    go_simp
                    try with_reducible rfl
                  try simp only [Act.put, List.getElem_toArray, List.getElem_cons_succ, List.getElem_cons_zero, List.setIfInBounds_toArray, List.set_cons_zero, List.set_cons_succ]
                  refine wpAnyH_done (by as_aux_lemma => kernel_rfl) ?_ _
                  refine NoPanic.normal ?_
                  have HBZ := Lib.hid (hh1.2.2.2.2)
                  have L5 := Lib.hid (L4.out.trans (HBZ.out.mono L4.out.size))
                  have O5 := Lib.hid (own_below O4.out HBZ.out)
                  have hfin := HPT.out j (by rw [HLL.out]; omega) HBE.out (fun _ => HGX.out)
                  have HIY := Lib.hid hfin
                  clear KA d0 d1 g0 g1 dl gl HBZ PA4 hfin
                  obtain ⟨d0, d1⟩ := HCS.out w5 L5.out
                  have PA5 : PairsAt w5 (.slice (some ⟨b2, o2, none⟩ : Option Addr) q cq) L := pairs_own (by rw [HLL.out]; exact O5.out) (by rw [HLL.out]; omega)
                  obtain ⟨hjc, hlo⟩ := pairs_take PA5 j (by rw [HLL.out]; omega)
                  have hhi := pairs_drop PA5 j (by rw [HLL.out]; omega)
                  have hjq : j ≤ q := by omega
                  have e1 : 0 + (L.take j).length = j := by rw [List.length_take, HLL.out]; omega
                  obtain ⟨n2, hn2⟩ : ∃ n2, j + 1 = n2 := ⟨_, rfl⟩
                  have e2 : j + [((s1, s2) : Scl)].length = n2 := hn2
                  obtain ⟨n3, hn3⟩ : ∃ n3, q + 1 = n3 := ⟨_, rfl⟩
                  have e3 : n2 + (L.drop j).length = n3 := by rw [List.length_drop, HLL.out]; omega
                  obtain ⟨HI, hHI⟩ : ∃ x, Value.slice (if cq = j then (some ⟨b2, o2, none⟩ : Option Addr) else ((some ⟨b2, o2, none⟩ : Option Addr)).map (fun x => Addr.add x (j * 2))) (q - j) (cq - j) = x := ⟨_, rfl⟩
                  rw [hHI] at hhi
                  have HLO := Lib.hid hlo
                  have PHI := Lib.hid hhi
                  have E1 := Lib.hid e1
                  have E2 := Lib.hid e2
                  have E3 := Lib.hid e3
                  have EHI := Lib.hid hHI
                  have dl := World.block_lt_of_cell? w5 ⟨b, o + k * 2, none⟩ d0
                  clear PA5 hlo hhi hHI e1 e2 e3
                  go_wp2_with fail
                  have KA : ∀ W' : World, Below w5.heap.size w5 W' → (W'.cell? ⟨b, o + k * 2, none⟩ = some (.int .i64 s1) ∧ W'.cell? ⟨b, o + k * 2 + 1, none⟩ = some (.int .i64 s2) ∧ Below w5.heap.size w5 W') := fun W' hb => ⟨keepK d0 hb, keepK d1 hb, hb⟩
                  refine wp_region_noPanic ?_
                  refine wp_region_held_drew (S := (fun W' => W'.cell? ⟨b, o + k * 2, none⟩ = some (.int .i64 s1) ∧ W'.cell? ⟨b, o + k * 2 + 1, none⟩ = some (.int .i64 s2) ∧ Below w5.heap.size w5 W')) (by kernel_rfl) ?_ (fun hh0 => ?_)
                  · exact KA _ (Below.refl _ _).drew
                  refine wpAnyH_take (i := 1) (v := ?_) rfl (by as_aux_lemma => kernel_rfl) (by as_aux_lemma => kernel_rfl) (by as_aux_lemma => kernel_rfl) (fun _ _ _ h => h) (Or.inl ⟨by rfl, ?_⟩) (by assumption) ?_
                  rotate_left
                  · intro w hSw
                    try dsimp only at hSw
                    go_simp
                    try with_reducible rfl
                  try simp only [Act.put, List.getElem_toArray, List.getElem_cons_succ, List.getElem_cons_zero, List.setIfInBounds_toArray, List.set_cons_zero, List.set_cons_succ]
                  refine wpAnyH_take (i := 2) (v := ?_) rfl (by as_aux_lemma => kernel_rfl) (by as_aux_lemma => kernel_rfl) (by as_aux_lemma => kernel_rfl) (fun _ _ _ h => h) (Or.inl ⟨by rfl, ?_⟩) (by assumption) ?_
                  rotate_left
                  · intro w hSw
                    try dsimp only at hSw
                    go_simp
                    try with_reducible rfl
                  try simp only [Act.put, List.getElem_toArray, List.getElem_cons_succ, List.getElem_cons_zero, List.setIfInBounds_toArray, List.set_cons_zero, List.set_cons_succ]
                  refine wpAnyH_take (i := 3) (v := .slice (some ⟨b2, o2, none⟩ : Option Addr) j cq) rfl (by as_aux_lemma => kernel_rfl) (by as_aux_lemma => kernel_rfl) (by as_aux_lemma => kernel_rfl) (fun _ _ _ h => h) (Or.inl ⟨by rfl, ?_⟩) (by assumption) ?_
                  · exact fun w _ => scs_lo rfl rfl rfl hjc w
                  try simp only [Act.put, List.getElem_toArray, List.getElem_cons_succ, List.getElem_cons_zero, List.setIfInBounds_toArray, List.set_cons_zero, List.set_cons_succ]
                  refine wpAnyH_take (i := 5) (v := ?_) rfl (by as_aux_lemma => kernel_rfl) (by as_aux_lemma => kernel_rfl) (by as_aux_lemma => kernel_rfl) (fun _ _ _ h => h) (Or.inl ⟨by rfl, ?_⟩) (by assumption) ?_
                  rotate_left
                  · intro w hSw
                    try dsimp only at hSw
                    go_simp
                    try with_reducible rfl
                  try simp only [Act.put, List.getElem_toArray, List.getElem_cons_succ, List.getElem_cons_zero, List.setIfInBounds_toArray, List.set_cons_zero, List.set_cons_succ]
                  refine wpAnyH_take (i := 6) (v := ?_) rfl (by as_aux_lemma => kernel_rfl) (by as_aux_lemma => kernel_rfl) (by as_aux_lemma => kernel_rfl) (fun _ _ _ h => h) (Or.inl ⟨by rfl, ?_⟩) (by assumption) ?_
                  rotate_left
                  · intro w hSw
                    try dsimp only at hSw
                    go_simp
                    try with_reducible rfl
                  try simp only [Act.put, List.getElem_toArray, List.getElem_cons_succ, List.getElem_cons_zero, List.setIfInBounds_toArray, List.set_cons_zero, List.set_cons_succ]
                  refine wpAnyH_take (i := 7) (v := ?_) rfl (by as_aux_lemma => kernel_rfl) (by as_aux_lemma => kernel_rfl) (by as_aux_lemma => kernel_rfl) (fun _ _ _ h => h) (Or.inl ⟨by rfl, ?_⟩) (by assumption) ?_
                  rotate_left
                  · intro w hSw
                    try dsimp only at hSw
                    go_simp
                    try with_reducible rfl
                  try simp only [Act.put, List.getElem_toArray, List.getElem_cons_succ, List.getElem_cons_zero, List.setIfInBounds_toArray, List.set_cons_zero, List.set_cons_succ]
                  refine wpAnyH_take (i := 8) (v := ?_) rfl (by as_aux_lemma => kernel_rfl) (by as_aux_lemma => kernel_rfl) (by as_aux_lemma => kernel_rfl) (fun _ _ _ h => h) (Or.inl ⟨by rfl, ?_⟩) (by assumption) ?_
                  rotate_left
                  · intro w hSw
                    try dsimp only at hSw
                    go_simp
                    try with_reducible rfl
                  try simp only [Act.put, List.getElem_toArray, List.getElem_cons_succ, List.getElem_cons_zero, List.setIfInBounds_toArray, List.set_cons_zero, List.set_cons_succ]
                  refine wpAnyH_take (i := 11) (v := ?_) rfl (by as_aux_lemma => kernel_rfl) (by as_aux_lemma => kernel_rfl) (by as_aux_lemma => kernel_rfl) (fun _ _ _ h => h) (Or.inl ⟨by rfl, ?_⟩) (by assumption) ?_
                  rotate_left
                  · intro w hSw
                    try dsimp only at hSw
                    go_simp
                    try with_reducible rfl
                  try simp only [Act.put, List.getElem_toArray, List.getElem_cons_succ, List.getElem_cons_zero, List.setIfInBounds_toArray, List.set_cons_zero, List.set_cons_succ]
                  refine wpAnyH_take (i := 12) (v := ?_) rfl (by as_aux_lemma => kernel_rfl) (by as_aux_lemma => kernel_rfl) (by as_aux_lemma => kernel_rfl) (fun _ _ _ h => h) (Or.inl ⟨by rfl, ?_⟩) (by assumption) ?_
                  rotate_left
                  · intro w hSw
                    try dsimp only at hSw
                    go_simp
                    try with_reducible rfl
                  try simp only [Act.put, List.getElem_toArray, List.getElem_cons_succ, List.getElem_cons_zero, List.setIfInBounds_toArray, List.set_cons_zero, List.set_cons_succ]
                  refine wpAnyH_take (i := 13) (v := HI) rfl (by as_aux_lemma => kernel_rfl) (by as_aux_lemma => kernel_rfl) (by as_aux_lemma => kernel_rfl) (fun _ _ _ h => h) (Or.inl ⟨by rfl, ?_⟩) (by assumption) ?_
                  · exact fun w _ => by rw [← EHI.out]; exact scs_hi rfl rfl rfl hjq w
                  try simp only [Act.put, List.getElem_toArray, List.getElem_cons_succ, List.getElem_cons_zero, List.setIfInBounds_toArray, List.set_cons_zero, List.set_cons_succ]
                  refine wpAnyH_ready (rs := [0, 9]) (by as_aux_lemma => kernel_rfl) (by simp) ?_
                  refine AllReadyH.cons rfl (fun K hK => ?_) (AllReadyH.cons rfl (fun K hK => ?_) AllReadyH.nil)
                  · skip
                    go_simp
                    obtain ⟨u0, hu0⟩ : ∃ V, (w5.alloc (Obj.cells #[] 27)).drew = V := ⟨_, rfl⟩
                    have hbu : Below w5.heap.size w5 u0 := by rw [← hu0]; exact ((Below.refl _ _).alloc (Nat.le_refl _) _).drew
                    have hzu : u0.heap[w5.heap.size]? = some (.cells #[] 27 (0, 0)) := by rw [← hu0]; exact heap_alloc_new w5 (Obj.cells #[] 27)
                    have HBU0 := Lib.hid hbu
                    have ltu0 := lt_of_block hzu
                    have RO0 : Hid (u0.ownsRow w5.heap.size 27 2 (.slice (some ⟨w5.heap.size, 0, none⟩) 0 0) 0 (scsL [])) := by show World.ownsRow ..; rw [← hu0]; exact own_nil2 w5 27 2 w5.heap.size (Nat.le_refl _)
                    rw [hu0]
                    clear hu0 hbu hzu
                    refine hK.out _ _ ?_ (fun hh1 => ?_)
                    · exact KA _ HBU0.out
                    clear hK K
                    try simp only [Act.put, List.getElem_toArray, List.getElem_cons_succ, List.getElem_cons_zero, List.setIfInBounds_toArray, List.set_cons_zero, List.set_cons_succ]
                    refine wpAnyH_ready (rs := [4, 9]) (by as_aux_lemma => kernel_rfl) (by simp) ?_
                    refine AllReadyH.cons rfl (fun K hK => ?_) (AllReadyH.cons rfl (fun K hK => ?_) AllReadyH.nil)
                    · skip
                      refine step_pairs (by rfl) _ _ (by rfl) w5.heap.size 0 j _ (.slice (some ⟨b2, o2, none⟩ : Option Addr) j cq) [] (L.take j) (L.take j) (by rfl) (by rfl) E1.out (by simp) RO0.out (HLO.out.below HBU0.out) HBU0.out.size (by omega) ?_
                      intro vv4 u4 how4 hgr4
                      obtain ⟨va4, vc4, rfl⟩ := own_slice how4
                      have RO4 := Lib.hid how4
                      have HBU4 : Hid (Below w5.heap.size w5 u4) := HBU0.out.grown hgr4 HBU0.out.size (fun g hg => (RO0.out.lt g hg).1)
                      clear how4 hgr4
                      refine hK.out _ _ ?_ (fun hh2 => ?_)
                      · exact KA _ HBU4.out
                      clear hK K
                      try simp only [Act.put, List.getElem_toArray, List.getElem_cons_succ, List.getElem_cons_zero, List.setIfInBounds_toArray, List.set_cons_zero, List.set_cons_succ]
                      refine wpAnyH_ready (rs := [9]) (by as_aux_lemma => kernel_rfl) (by simp) ?_
                      refine AllReadyH.cons rfl (fun K hK => ?_) AllReadyH.nil
                      go_simp
                      obtain ⟨u9, hu9⟩ : ∃ V, u4.alloc (Obj.cells #[.int .i64 s1, .int .i64 s2] 27) = V := ⟨_, rfl⟩
                      have hbc : Below u4.heap.size u4 u9 := by rw [← hu9]; go_grown
                      have hbu : Below w5.heap.size w5 u9 := HBU4.out.trans (hbc.mono HBU4.out.size)
                      have hzu : u9.heap[u4.heap.size]? = some (.cells #[.int .i64 s1, .int .i64 s2] 27 (0, 0)) := by rw [← hu9]; exact heap_alloc_new u4 (Obj.cells #[.int .i64 s1, .int .i64 s2] 27)
                      have HBU9 := Lib.hid hbu
                      have ltu9 := lt_of_block hzu
                      have RX9 := Lib.hid hzu
                      have RO9 := Lib.hid (own_below RO4.out hbc)
                      rw [hu9]
                      clear hu9 hbu hzu hbc
                      refine hK.out _ _ ?_ (fun hh3 => ?_)
                      · exact KA _ HBU9.out
                      clear hK K
                      try simp only [Act.put, List.getElem_toArray, List.getElem_cons_succ, List.getElem_cons_zero, List.setIfInBounds_toArray, List.set_cons_zero, List.set_cons_succ]
                      refine wpAnyH_ready (rs := [10]) (by as_aux_lemma => kernel_rfl) (by simp) ?_
                      refine AllReadyH.cons rfl (fun K hK => ?_) AllReadyH.nil
                      refine step_pairs (by rfl) _ _ (by rfl) w5.heap.size j n2 _ _ (L.take j) [(s1, s2)] (L.take j ++ [(s1, s2)]) (by rfl) (by rfl) E2.out (by rfl) RO9.out (pairs_one (s := (s1, s2)) RX9.out) HBU9.out.size (by omega) ?_
                      intro vv10 u10 how10 hgr10
                      obtain ⟨va10, vc10, rfl⟩ := own_slice how10
                      have RO10 := Lib.hid how10
                      have HBU10 : Hid (Below w5.heap.size w5 u10) := HBU9.out.grown hgr10 HBU9.out.size (fun g hg => (RO9.out.lt g hg).1)
                      clear how10 hgr10
                      refine hK.out _ _ ?_ (fun hh4 => ?_)
                      · exact KA _ HBU10.out
                      clear hK K
                      try simp only [Act.put, List.getElem_toArray, List.getElem_cons_succ, List.getElem_cons_zero, List.setIfInBounds_toArray, List.set_cons_zero, List.set_cons_succ]
                      refine wpAnyH_ready (rs := [14]) (by as_aux_lemma => kernel_rfl) (by simp) ?_
                      refine AllReadyH.cons rfl (fun K hK => ?_) AllReadyH.nil
                      refine step_pairs (by rfl) _ _ (by rfl) w5.heap.size n2 n3 _ HI (L.take j ++ [(s1, s2)]) (L.drop j) (L.take j ++ [(s1, s2)] ++ L.drop j) (by rfl) (by rfl) E3.out (by rfl) RO10.out (PHI.out.below HBU10.out) HBU10.out.size (by omega) ?_
                      intro vv14 u14 how14 hgr14
                      obtain ⟨va14, vc14, rfl⟩ := own_slice how14
                      have RO14 := Lib.hid how14
                      have HBU14 : Hid (Below w5.heap.size w5 u14) := HBU10.out.grown hgr14 HBU10.out.size (fun g hg => (RO10.out.lt g hg).1)
                      clear how14 hgr14
                      refine hK.out _ _ ?_ (fun hh5 => ?_)
                      · exact KA _ HBU14.out
                      clear hK K
                      try simp only [Act.put, List.getElem_toArray, List.getElem_cons_succ, List.getElem_cons_zero, List.setIfInBounds_toArray, List.set_cons_zero, List.set_cons_succ]
                      refine wpAnyH_ready (rs := [15]) (by as_aux_lemma => kernel_rfl) (by simp) ?_
                      refine AllReadyH.cons rfl (fun K hK => ?_) AllReadyH.nil
                      go_simp
                      refine hK.out _ _ hh5 (fun hh6 => ?_)
                      clear hK K
                      try simp only [Act.put, List.getElem_toArray, List.getElem_cons_succ, List.getElem_cons_zero, List.setIfInBounds_toArray, List.set_cons_zero, List.set_cons_succ]
                      refine wpAnyH_done (by as_aux_lemma => kernel_rfl) ?_ _
                      refine NoPanic.normal ?_
                      have HBZ := Lib.hid (hh6.2.2)
                      have L9 := Lib.hid (L5.out.trans (HBU14.out.mono L5.out.size))
                      have O9 : Hid (u14.ownsRow w2.heap.size 27 2 (.slice va14 n3 vc14) n3 (scsL (L.take j ++ [(s1, s2)] ++ L.drop j))) := own_base RO14.out L5.out.size
                      have N9 : Hid ((L.take j ++ [((s1, s2) : Scl)] ++ L.drop j).length = n3) := by show _ = _; rw [List.length_append, List.length_append, List.length_take, List.length_drop, HLL.out, ← hn3, List.length_singleton]; omega
                      clear KA HBZ
                      go_wp2_with fail
                      go_roundg g'
                      case measure => omega
                      case rel => exact ⟨k + 1, va14, n3, vc14, _, by omega, by go_num, rfl, N9, HIY, O9, L9⟩
                    · skip
                      go_simp
                      obtain ⟨u9, hu9⟩ : ∃ V, u0.alloc (Obj.cells #[.int .i64 s1, .int .i64 s2] 27) = V := ⟨_, rfl⟩
                      have hbc : Below u0.heap.size u0 u9 := by rw [← hu9]; go_grown
                      have hbu : Below w5.heap.size w5 u9 := HBU0.out.trans (hbc.mono HBU0.out.size)
                      have hzu : u9.heap[u0.heap.size]? = some (.cells #[.int .i64 s1, .int .i64 s2] 27 (0, 0)) := by rw [← hu9]; exact heap_alloc_new u0 (Obj.cells #[.int .i64 s1, .int .i64 s2] 27)
                      have HBU9 := Lib.hid hbu
                      have ltu9 := lt_of_block hzu
                      have RX9 := Lib.hid hzu
                      have RO9 := Lib.hid (own_below RO0.out hbc)
                      rw [hu9]
                      clear hu9 hbu hzu hbc
                      refine hK.out _ _ ?_ (fun hh2 => ?_)
                      · exact KA _ HBU9.out
                      clear hK K
                      try simp only [Act.put, List.getElem_toArray, List.getElem_cons_succ, List.getElem_cons_zero, List.setIfInBounds_toArray, List.set_cons_zero, List.set_cons_succ]
                      refine wpAnyH_ready (rs := [4]) (by as_aux_lemma => kernel_rfl) (by simp) ?_
                      refine AllReadyH.cons rfl (fun K hK => ?_) AllReadyH.nil
                      refine step_pairs (by rfl) _ _ (by rfl) w5.heap.size 0 j _ (.slice (some ⟨b2, o2, none⟩ : Option Addr) j cq) [] (L.take j) (L.take j) (by rfl) (by rfl) E1.out (by simp) RO9.out (HLO.out.below HBU9.out) HBU9.out.size (by omega) ?_
                      intro vv4 u4 how4 hgr4
                      obtain ⟨va4, vc4, rfl⟩ := own_slice how4
                      have RO4 := Lib.hid how4
                      have HBU4 : Hid (Below w5.heap.size w5 u4) := HBU9.out.grown hgr4 HBU9.out.size (fun g hg => (RO9.out.lt g hg).1)
                      have RX4 := Lib.hid (block_kept RX9.out hgr4 (by intro e; have e' := Option.some.inj (show some _ = some _ from e); revert e'; show w5.heap.size ≠ u0.heap.size; omega))
                      clear how4 hgr4
                      refine hK.out _ _ ?_ (fun hh3 => ?_)
                      · exact KA _ HBU4.out
                      clear hK K
                      try simp only [Act.put, List.getElem_toArray, List.getElem_cons_succ, List.getElem_cons_zero, List.setIfInBounds_toArray, List.set_cons_zero, List.set_cons_succ]
                      refine wpAnyH_ready (rs := [10]) (by as_aux_lemma => kernel_rfl) (by simp) ?_
                      refine AllReadyH.cons rfl (fun K hK => ?_) AllReadyH.nil
                      refine step_pairs (by rfl) _ _ (by rfl) w5.heap.size j n2 _ _ (L.take j) [(s1, s2)] (L.take j ++ [(s1, s2)]) (by rfl) (by rfl) E2.out (by rfl) RO4.out (pairs_one (s := (s1, s2)) RX4.out) HBU4.out.size (by omega) ?_
                      intro vv10 u10 how10 hgr10
                      obtain ⟨va10, vc10, rfl⟩ := own_slice how10
                      have RO10 := Lib.hid how10
                      have HBU10 : Hid (Below w5.heap.size w5 u10) := HBU4.out.grown hgr10 HBU4.out.size (fun g hg => (RO4.out.lt g hg).1)
                      clear how10 hgr10
                      refine hK.out _ _ ?_ (fun hh4 => ?_)
                      · exact KA _ HBU10.out
                      clear hK K
                      try simp only [Act.put, List.getElem_toArray, List.getElem_cons_succ, List.getElem_cons_zero, List.setIfInBounds_toArray, List.set_cons_zero, List.set_cons_succ]
                      refine wpAnyH_ready (rs := [14]) (by as_aux_lemma => kernel_rfl) (by simp) ?_
                      refine AllReadyH.cons rfl (fun K hK => ?_) AllReadyH.nil
                      refine step_pairs (by rfl) _ _ (by rfl) w5.heap.size n2 n3 _ HI (L.take j ++ [(s1, s2)]) (L.drop j) (L.take j ++ [(s1, s2)] ++ L.drop j) (by rfl) (by rfl) E3.out (by rfl) RO10.out (PHI.out.below HBU10.out) HBU10.out.size (by omega) ?_
                      intro vv14 u14 how14 hgr14
                      obtain ⟨va14, vc14, rfl⟩ := own_slice how14
                      have RO14 := Lib.hid how14
                      have HBU14 : Hid (Below w5.heap.size w5 u14) := HBU10.out.grown hgr14 HBU10.out.size (fun g hg => (RO10.out.lt g hg).1)
                      clear how14 hgr14
                      refine hK.out _ _ ?_ (fun hh5 => ?_)
                      · exact KA _ HBU14.out
                      clear hK K
                      try simp only [Act.put, List.getElem_toArray, List.getElem_cons_succ, List.getElem_cons_zero, List.setIfInBounds_toArray, List.set_cons_zero, List.set_cons_succ]
                      refine wpAnyH_ready (rs := [15]) (by as_aux_lemma => kernel_rfl) (by simp) ?_
                      refine AllReadyH.cons rfl (fun K hK => ?_) AllReadyH.nil
                      go_simp
                      refine hK.out _ _ hh5 (fun hh6 => ?_)
                      clear hK K
                      try simp only [Act.put, List.getElem_toArray, List.getElem_cons_succ, List.getElem_cons_zero, List.setIfInBounds_toArray, List.set_cons_zero, List.set_cons_succ]
                      refine wpAnyH_done (by as_aux_lemma => kernel_rfl) ?_ _
                      refine NoPanic.normal ?_
                      have HBZ := Lib.hid (hh6.2.2)
                      have L9 := Lib.hid (L5.out.trans (HBU14.out.mono L5.out.size))
                      have O9 : Hid (u14.ownsRow w2.heap.size 27 2 (.slice va14 n3 vc14) n3 (scsL (L.take j ++ [(s1, s2)] ++ L.drop j))) := own_base RO14.out L5.out.size
                      have N9 : Hid ((L.take j ++ [((s1, s2) : Scl)] ++ L.drop j).length = n3) := by show _ = _; rw [List.length_append, List.length_append, List.length_take, List.length_drop, HLL.out, ← hn3, List.length_singleton]; omega
                      clear KA HBZ
                      go_wp2_with fail
                      go_roundg g'
                      case measure => omega
                      case rel => exact ⟨k + 1, va14, n3, vc14, _, by omega, by go_num, rfl, N9, HIY, O9, L9⟩
                  · skip
                    go_simp
                    obtain ⟨u9, hu9⟩ : ∃ V, (w5.alloc (Obj.cells #[.int .i64 s1, .int .i64 s2] 27)).drew = V := ⟨_, rfl⟩
                    have hbu : Below w5.heap.size w5 u9 := by rw [← hu9]; exact ((Below.refl _ _).alloc (Nat.le_refl _) _).drew
                    have hzu : u9.heap[w5.heap.size]? = some (.cells #[.int .i64 s1, .int .i64 s2] 27 (0, 0)) := by rw [← hu9]; exact heap_alloc_new w5 (Obj.cells #[.int .i64 s1, .int .i64 s2] 27)
                    have HBU9 := Lib.hid hbu
                    have ltu9 := lt_of_block hzu
                    have RX9 := Lib.hid hzu
                    rw [hu9]
                    clear hu9 hbu hzu
                    refine hK.out _ _ ?_ (fun hh1 => ?_)
                    · exact KA _ HBU9.out
                    clear hK K
                    try simp only [Act.put, List.getElem_toArray, List.getElem_cons_succ, List.getElem_cons_zero, List.setIfInBounds_toArray, List.set_cons_zero, List.set_cons_succ]
                    refine wpAnyH_ready (rs := [0]) (by as_aux_lemma => kernel_rfl) (by simp) ?_
                    refine AllReadyH.cons rfl (fun K hK => ?_) AllReadyH.nil
                    go_simp
                    obtain ⟨u0, hu0⟩ : ∃ V, u9.alloc (Obj.cells #[] 27) = V := ⟨_, rfl⟩
                    have hbc : Below u9.heap.size u9 u0 := by rw [← hu0]; go_grown
                    have hbu : Below w5.heap.size w5 u0 := HBU9.out.trans (hbc.mono HBU9.out.size)
                    have hzu : u0.heap[u9.heap.size]? = some (.cells #[] 27 (0, 0)) := by rw [← hu0]; exact heap_alloc_new u9 (Obj.cells #[] 27)
                    have HBU0 := Lib.hid hbu
                    have ltu0 := lt_of_block hzu
                    have RO0 : Hid (u0.ownsRow w5.heap.size 27 2 (.slice (some ⟨u9.heap.size, 0, none⟩) 0 0) 0 (scsL [])) := by show World.ownsRow ..; rw [← hu0]; exact own_nil2 u9 27 2 w5.heap.size (HBU9.out.size)
                    have RX0 := Lib.hid ((hbc.block _ (lt_of_block RX9.out)).trans RX9.out)
                    rw [hu0]
                    clear hu0 hbu hzu hbc
                    refine hK.out _ _ ?_ (fun hh2 => ?_)
                    · exact KA _ HBU0.out
                    clear hK K
                    try simp only [Act.put, List.getElem_toArray, List.getElem_cons_succ, List.getElem_cons_zero, List.setIfInBounds_toArray, List.set_cons_zero, List.set_cons_succ]
                    refine wpAnyH_ready (rs := [4]) (by as_aux_lemma => kernel_rfl) (by simp) ?_
                    refine AllReadyH.cons rfl (fun K hK => ?_) AllReadyH.nil
                    refine step_pairs (by rfl) _ _ (by rfl) w5.heap.size 0 j _ (.slice (some ⟨b2, o2, none⟩ : Option Addr) j cq) [] (L.take j) (L.take j) (by rfl) (by rfl) E1.out (by simp) RO0.out (HLO.out.below HBU0.out) HBU0.out.size (by omega) ?_
                    intro vv4 u4 how4 hgr4
                    obtain ⟨va4, vc4, rfl⟩ := own_slice how4
                    have RO4 := Lib.hid how4
                    have HBU4 : Hid (Below w5.heap.size w5 u4) := HBU0.out.grown hgr4 HBU0.out.size (fun g hg => (RO0.out.lt g hg).1)
                    have RX4 := Lib.hid (block_kept RX0.out hgr4 (by intro e; have e' := Option.some.inj (show some _ = some _ from e); revert e'; show u9.heap.size ≠ w5.heap.size; omega))
                    clear how4 hgr4
                    refine hK.out _ _ ?_ (fun hh3 => ?_)
                    · exact KA _ HBU4.out
                    clear hK K
                    try simp only [Act.put, List.getElem_toArray, List.getElem_cons_succ, List.getElem_cons_zero, List.setIfInBounds_toArray, List.set_cons_zero, List.set_cons_succ]
                    refine wpAnyH_ready (rs := [10]) (by as_aux_lemma => kernel_rfl) (by simp) ?_
                    refine AllReadyH.cons rfl (fun K hK => ?_) AllReadyH.nil
                    refine step_pairs (by rfl) _ _ (by rfl) w5.heap.size j n2 _ _ (L.take j) [(s1, s2)] (L.take j ++ [(s1, s2)]) (by rfl) (by rfl) E2.out (by rfl) RO4.out (pairs_one (s := (s1, s2)) RX4.out) HBU4.out.size (by omega) ?_
                    intro vv10 u10 how10 hgr10
                    obtain ⟨va10, vc10, rfl⟩ := own_slice how10
                    have RO10 := Lib.hid how10
                    have HBU10 : Hid (Below w5.heap.size w5 u10) := HBU4.out.grown hgr10 HBU4.out.size (fun g hg => (RO4.out.lt g hg).1)
                    clear how10 hgr10
                    refine hK.out _ _ ?_ (fun hh4 => ?_)
                    · exact KA _ HBU10.out
                    clear hK K
                    try simp only [Act.put, List.getElem_toArray, List.getElem_cons_succ, List.getElem_cons_zero, List.setIfInBounds_toArray, List.set_cons_zero, List.set_cons_succ]
                    refine wpAnyH_ready (rs := [14]) (by as_aux_lemma => kernel_rfl) (by simp) ?_
                    refine AllReadyH.cons rfl (fun K hK => ?_) AllReadyH.nil
                    refine step_pairs (by rfl) _ _ (by rfl) w5.heap.size n2 n3 _ HI (L.take j ++ [(s1, s2)]) (L.drop j) (L.take j ++ [(s1, s2)] ++ L.drop j) (by rfl) (by rfl) E3.out (by rfl) RO10.out (PHI.out.below HBU10.out) HBU10.out.size (by omega) ?_
                    intro vv14 u14 how14 hgr14
                    obtain ⟨va14, vc14, rfl⟩ := own_slice how14
                    have RO14 := Lib.hid how14
                    have HBU14 : Hid (Below w5.heap.size w5 u14) := HBU10.out.grown hgr14 HBU10.out.size (fun g hg => (RO10.out.lt g hg).1)
                    clear how14 hgr14
                    refine hK.out _ _ ?_ (fun hh5 => ?_)
                    · exact KA _ HBU14.out
                    clear hK K
                    try simp only [Act.put, List.getElem_toArray, List.getElem_cons_succ, List.getElem_cons_zero, List.setIfInBounds_toArray, List.set_cons_zero, List.set_cons_succ]
                    refine wpAnyH_ready (rs := [15]) (by as_aux_lemma => kernel_rfl) (by simp) ?_
                    refine AllReadyH.cons rfl (fun K hK => ?_) AllReadyH.nil
                    go_simp
                    refine hK.out _ _ hh5 (fun hh6 => ?_)
                    clear hK K
                    try simp only [Act.put, List.getElem_toArray, List.getElem_cons_succ, List.getElem_cons_zero, List.setIfInBounds_toArray, List.set_cons_zero, List.set_cons_succ]
                    refine wpAnyH_done (by as_aux_lemma => kernel_rfl) ?_ _
                    refine NoPanic.normal ?_
                    have HBZ := Lib.hid (hh6.2.2)
                    have L9 := Lib.hid (L5.out.trans (HBU14.out.mono L5.out.size))
                    have O9 : Hid (u14.ownsRow w2.heap.size 27 2 (.slice va14 n3 vc14) n3 (scsL (L.take j ++ [(s1, s2)] ++ L.drop j))) := own_base RO14.out L5.out.size
                    have N9 : Hid ((L.take j ++ [((s1, s2) : Scl)] ++ L.drop j).length = n3) := by show _ = _; rw [List.length_append, List.length_append, List.length_take, List.length_drop, HLL.out, ← hn3, List.length_singleton]; omega
                    clear KA HBZ
                    go_wp2_with fail
                    go_roundg g'
                    case measure => omega
                    case rel => exact ⟨k + 1, va14, n3, vc14, _, by omega, by go_num, rfl, N9, HIY, O9, L9⟩
                · have hbe : ∀ i, i < j + 1 → lessS (L.getD i default) (s1, s2) = true := fun i hi => by
                    by_cases e : i = j
                    · subst e; exact HGX.out
                    · exact HBE.out i (by omega)
                  have HB2 := Lib.hid hbe
                  clear hbe
                  go_wp2_with fail
                  have KA : ∀ W' : World, Below w4.heap.size w4 W' → (W'.cell? ⟨b, o + k * 2, none⟩ = some (.int .i64 s1) ∧ W'.cell? ⟨b, o + k * 2 + 1, none⟩ = some (.int .i64 s2) ∧ W'.cell? ⟨b2, o2 + j * 2, none⟩ = some (.int .i64 t1) ∧ W'.cell? ⟨b2, o2 + j * 2 + 1, none⟩ = some (.int .i64 t2) ∧ Below w4.heap.size w4 W') := fun W' hb => ⟨keepK d0 hb, keepK d1 hb, keepK g0 hb, keepK g1 hb, hb⟩
                  refine wp_region_noPanic ?_
                  refine wp_region_held_drew (S := (fun W' => W'.cell? ⟨b, o + k * 2, none⟩ = some (.int .i64 s1) ∧ W'.cell? ⟨b, o + k * 2 + 1, none⟩ = some (.int .i64 s2) ∧ W'.cell? ⟨b2, o2 + j * 2, none⟩ = some (.int .i64 t1) ∧ W'.cell? ⟨b2, o2 + j * 2 + 1, none⟩ = some (.int .i64 t2) ∧ Below w4.heap.size w4 W')) (by kernel_rfl) ?_ (fun hh0 => ?_)
                  · exact KA _ (Below.refl _ _).drew
                  refine wpAnyH_take (i := 0) (v := ?_) rfl (by as_aux_lemma => kernel_rfl) (by as_aux_lemma => kernel_rfl) (by as_aux_lemma => kernel_rfl) (fun _ _ _ h => h) (Or.inl ⟨by rfl, ?_⟩) (by assumption) ?_
                  rotate_left
                  · intro w hSw
                    try dsimp only at hSw
                    go_simp
                    try with_reducible rfl
                  try simp only [Act.put, List.getElem_toArray, List.getElem_cons_succ, List.getElem_cons_zero, List.setIfInBounds_toArray, List.set_cons_zero, List.set_cons_succ]
                  refine wpAnyH_take (i := 1) (v := ?_) rfl (by as_aux_lemma => kernel_rfl) (by as_aux_lemma => kernel_rfl) (by as_aux_lemma => kernel_rfl) (fun _ _ _ h => h) (Or.inl ⟨by rfl, ?_⟩) (by assumption) ?_
                  rotate_left
                  · intro w hSw
                    try dsimp only at hSw
                    go_simp
                    try with_reducible rfl
                  try simp only [Act.put, List.getElem_toArray, List.getElem_cons_succ, List.getElem_cons_zero, List.setIfInBounds_toArray, List.set_cons_zero, List.set_cons_succ]
                  refine wpAnyH_take (i := 2) (v := ?_) rfl (by as_aux_lemma => kernel_rfl) (by as_aux_lemma => kernel_rfl) (by as_aux_lemma => kernel_rfl) (fun _ _ _ h => h) (Or.inl ⟨by rfl, ?_⟩) (by assumption) ?_
                  rotate_left
                  · intro w hSw
                    try dsimp only at hSw
                    go_simp
                    try with_reducible rfl
                  try simp only [Act.put, List.getElem_toArray, List.getElem_cons_succ, List.getElem_cons_zero, List.setIfInBounds_toArray, List.set_cons_zero, List.set_cons_succ]
                  refine wpAnyH_take (i := 3) (v := ?_) rfl (by as_aux_lemma => kernel_rfl) (by as_aux_lemma => kernel_rfl) (by as_aux_lemma => kernel_rfl) (fun _ _ _ h => h) (Or.inl ⟨by rfl, ?_⟩) (by assumption) ?_
                  rotate_left
                  · intro w hSw
                    try dsimp only at hSw
                    go_simp
                    try with_reducible rfl
                  try simp only [Act.put, List.getElem_toArray, List.getElem_cons_succ, List.getElem_cons_zero, List.setIfInBounds_toArray, List.set_cons_zero, List.set_cons_succ]
                  refine wpAnyH_take (i := 4) (v := ?_) rfl (by as_aux_lemma => kernel_rfl) (by as_aux_lemma => kernel_rfl) (by as_aux_lemma => kernel_rfl) (fun _ _ _ h => h) (Or.inl ⟨by rfl, ?_⟩) (by assumption) ?_
                  rotate_left
                  · intro w hSw
                    try dsimp only at hSw
                    go_simp
                    try with_reducible rfl
                  try simp only [Act.put, List.getElem_toArray, List.getElem_cons_succ, List.getElem_cons_zero, List.setIfInBounds_toArray, List.set_cons_zero, List.set_cons_succ]
                  refine wpAnyH_take (i := 5) (v := ?_) rfl (by as_aux_lemma => kernel_rfl) (by as_aux_lemma => kernel_rfl) (by as_aux_lemma => kernel_rfl) (fun _ _ _ h => h) (Or.inl ⟨by rfl, ?_⟩) (by assumption) ?_
                  rotate_left
                  · intro w hSw
                    try dsimp only at hSw
                    go_simp
                    try with_reducible rfl
                  try simp only [Act.put, List.getElem_toArray, List.getElem_cons_succ, List.getElem_cons_zero, List.setIfInBounds_toArray, List.set_cons_zero, List.set_cons_succ]
                  refine wpAnyH_take (i := 6) (v := ?_) rfl (by as_aux_lemma => kernel_rfl) (by as_aux_lemma => kernel_rfl) (by as_aux_lemma => kernel_rfl) (fun _ _ _ h => h) (Or.inl ⟨by rfl, ?_⟩) (by assumption) ?_
                  rotate_left
                  · intro w hSw
                    try dsimp only at hSw
                    go_simp
                    try with_reducible rfl
                  try simp only [Act.put, List.getElem_toArray, List.getElem_cons_succ, List.getElem_cons_zero, List.setIfInBounds_toArray, List.set_cons_zero, List.set_cons_succ]
                  refine wpAnyH_take (i := 7) (v := ?_) rfl (by as_aux_lemma => kernel_rfl) (by as_aux_lemma => kernel_rfl) (by as_aux_lemma => kernel_rfl) (fun _ _ _ h => h) (Or.inl ⟨by rfl, ?_⟩) (by assumption) ?_
                  rotate_left
                  · intro w hSw
                    try dsimp only at hSw
                    go_simp
                    try with_reducible rfl
                  try simp only [Act.put, List.getElem_toArray, List.getElem_cons_succ, List.getElem_cons_zero, List.setIfInBounds_toArray, List.set_cons_zero, List.set_cons_succ]
                  refine wpAnyH_take (i := 8) (v := ?_) rfl (by as_aux_lemma => kernel_rfl) (by as_aux_lemma => kernel_rfl) (by as_aux_lemma => kernel_rfl) (fun _ _ _ h => h) (Or.inl ⟨by rfl, ?_⟩) (by assumption) ?_
                  rotate_left
                  · intro w hSw
                    try dsimp only at hSw
                    go_simp
                    try with_reducible rfl
                  try simp only [Act.put, List.getElem_toArray, List.getElem_cons_succ, List.getElem_cons_zero, List.setIfInBounds_toArray, List.set_cons_zero, List.set_cons_succ]
                  refine wpAnyH_take (i := 9) (v := ?_) rfl (by as_aux_lemma => kernel_rfl) (by as_aux_lemma => kernel_rfl) (by as_aux_lemma => kernel_rfl) (fun _ _ _ h => h) (Or.inl ⟨by rfl, ?_⟩) (by assumption) ?_
                  rotate_left
                  · intro w hSw
                    try dsimp only at hSw
                    go_simp
                    try with_reducible rfl
                  try simp only [Act.put, List.getElem_toArray, List.getElem_cons_succ, List.getElem_cons_zero, List.setIfInBounds_toArray, List.set_cons_zero, List.set_cons_succ]
                  refine wpAnyH_take (i := 10) (v := ?_) rfl (by as_aux_lemma => kernel_rfl) (by as_aux_lemma => kernel_rfl) (by as_aux_lemma => kernel_rfl) (fun _ _ _ h => h) (Or.inl ⟨by rfl, ?_⟩) (by assumption) ?_
                  rotate_left
                  · intro w hSw
                    try dsimp only at hSw
                    go_simp
                    try with_reducible rfl
                  try simp only [Act.put, List.getElem_toArray, List.getElem_cons_succ, List.getElem_cons_zero, List.setIfInBounds_toArray, List.set_cons_zero, List.set_cons_succ]
                  refine wpAnyH_take (i := 11) (v := ?_) rfl (by as_aux_lemma => kernel_rfl) (by as_aux_lemma => kernel_rfl) (by as_aux_lemma => kernel_rfl) (fun _ _ _ h => h) (Or.inl ⟨by rfl, ?_⟩) (by assumption) ?_
                  rotate_left
                  · intro w hSw
                    try dsimp only at hSw
                    go_simp
                    try with_reducible rfl
                  try simp only [Act.put, List.getElem_toArray, List.getElem_cons_succ, List.getElem_cons_zero, List.setIfInBounds_toArray, List.set_cons_zero, List.set_cons_succ]
                  refine wpAnyH_take (i := 12) (v := ?_) rfl (by as_aux_lemma => kernel_rfl) (by as_aux_lemma => kernel_rfl) (by as_aux_lemma => kernel_rfl) (fun _ _ _ h => h) (Or.inl ⟨by rfl, ?_⟩) (by assumption) ?_
                  rotate_left
                  · intro w hSw
                    try dsimp only at hSw
                    go_simp
                    try with_reducible rfl
                  try simp only [Act.put, List.getElem_toArray, List.getElem_cons_succ, List.getElem_cons_zero, List.setIfInBounds_toArray, List.set_cons_zero, List.set_cons_succ]
                  refine wpAnyH_ready (rs := [13]) (by as_aux_lemma => kernel_rfl) (by simp) ?_
                  refine AllReadyH.cons rfl (fun K hK => ?_) AllReadyH.nil
                  go_simp
                  refine (HLE.out _).mono ?_
                  rintro e w5 ⟨rfl, hb5⟩
                  refine hK.out _ _ (KA _ (Below.trans hh0.2.2.2.2 (Below.mono hb5 (hh0.2.2.2.2).size))) (fun hh1 => ?_)
                  clear hK K
                  try simp only [Act.put, List.getElem_toArray, List.getElem_cons_succ, List.getElem_cons_zero, List.setIfInBounds_toArray, List.set_cons_zero, List.set_cons_succ]
                  refine wpAnyH_take (i := 14) (v := ?_) rfl (by as_aux_lemma => kernel_rfl) (by as_aux_lemma => kernel_rfl) (by as_aux_lemma => kernel_rfl) (fun _ _ _ h => h) (Or.inl ⟨by rfl, ?_⟩) (by assumption) ?_
                  rotate_left
                  · intro w hSw
                    try dsimp only at hSw
                    go_simp
                    try with_reducible rfl
                  try simp only [Act.put, List.getElem_toArray, List.getElem_cons_succ, List.getElem_cons_zero, List.setIfInBounds_toArray, List.set_cons_zero, List.set_cons_succ]
                  refine wpAnyH_done (by as_aux_lemma => kernel_rfl) ?_ _
                  refine NoPanic.normal ?_
                  have HBZ := Lib.hid (hh1.2.2.2.2)
                  have L5 := Lib.hid (HL4.out.trans (HBZ.out.mono HL4.out.size))
                  clear KA d0 d1 g0 g1 dl gl HBZ PA4
                  go_wp2_with fail
                  go_roundg (gk - 1)
                  case measure => omega
                  case rel => exact ⟨j + 1, by omega, by go_num, HB2, L5⟩
              · obtain rfl : j = q := by omega
                have jI : ¬ (j : Int) < (j : Int) := by omega
                have hfin := HPT.out j (by rw [HLL.out]; exact Nat.le_refl _) HBE.out (fun h => by rw [HLL.out] at h; omega)
                have HIY := Lib.hid hfin
                clear hfin PA4
                go_wp2_with fail
                have KA : ∀ W' : World, Below w4.heap.size w4 W' → (W'.cell? ⟨b, o + k * 2, none⟩ = some (.int .i64 s1) ∧ W'.cell? ⟨b, o + k * 2 + 1, none⟩ = some (.int .i64 s2) ∧ Below w4.heap.size w4 W') := fun W' hb => ⟨keepK d0 hb, keepK d1 hb, hb⟩
                refine wp_region_noPanic ?_
                refine wp_region_held_drew (S := (fun W' => W'.cell? ⟨b, o + k * 2, none⟩ = some (.int .i64 s1) ∧ W'.cell? ⟨b, o + k * 2 + 1, none⟩ = some (.int .i64 s2) ∧ Below w4.heap.size w4 W')) (by kernel_rfl) ?_ (fun hh0 => ?_)
                · exact KA _ (Below.refl _ _).drew
                refine wpAnyH_take (i := 0) (v := ?_) rfl (by as_aux_lemma => kernel_rfl) (by as_aux_lemma => kernel_rfl) (by as_aux_lemma => kernel_rfl) (fun _ _ _ h => h) (Or.inl ⟨by rfl, ?_⟩) (by assumption) ?_
                rotate_left
                · intro w hSw
                  try dsimp only at hSw
                  go_simp
                  try with_reducible rfl
                try simp only [Act.put, List.getElem_toArray, List.getElem_cons_succ, List.getElem_cons_zero, List.setIfInBounds_toArray, List.set_cons_zero, List.set_cons_succ]
                refine wpAnyH_take (i := 1) (v := ?_) rfl (by as_aux_lemma => kernel_rfl) (by as_aux_lemma => kernel_rfl) (by as_aux_lemma => kernel_rfl) (fun _ _ _ h => h) (Or.inl ⟨by rfl, ?_⟩) (by assumption) ?_
                rotate_left
                · intro w hSw
                  try dsimp only at hSw
                  go_simp
                  try with_reducible rfl
                try simp only [Act.put, List.getElem_toArray, List.getElem_cons_succ, List.getElem_cons_zero, List.setIfInBounds_toArray, List.set_cons_zero, List.set_cons_succ]
                refine wpAnyH_take (i := 2) (v := ?_) rfl (by as_aux_lemma => kernel_rfl) (by as_aux_lemma => kernel_rfl) (by as_aux_lemma => kernel_rfl) (fun _ _ _ h => h) (Or.inl ⟨by rfl, ?_⟩) (by assumption) ?_
                rotate_left
                · intro w hSw
                  try dsimp only at hSw
                  go_simp
                  try with_reducible rfl
                try simp only [Act.put, List.getElem_toArray, List.getElem_cons_succ, List.getElem_cons_zero, List.setIfInBounds_toArray, List.set_cons_zero, List.set_cons_succ]
                refine wpAnyH_take (i := 3) (v := ?_) rfl (by as_aux_lemma => kernel_rfl) (by as_aux_lemma => kernel_rfl) (by as_aux_lemma => kernel_rfl) (fun _ _ _ h => h) (Or.inl ⟨by rfl, ?_⟩) (by assumption) ?_
                rotate_left
                · intro w hSw
                  try dsimp only at hSw
                  go_simp
                  try with_reducible rfl
                try simp only [Act.put, List.getElem_toArray, List.getElem_cons_succ, List.getElem_cons_zero, List.setIfInBounds_toArray, List.set_cons_zero, List.set_cons_succ]
                refine wpAnyH_take (i := 4) (v := ?_) rfl (by as_aux_lemma => kernel_rfl) (by as_aux_lemma => kernel_rfl) (by as_aux_lemma => kernel_rfl) (fun _ _ _ h => h) (Or.inl ⟨by rfl, ?_⟩) (by assumption) ?_
                rotate_left
                · intro w hSw
                  try dsimp only at hSw
                  go_simp
                  try with_reducible rfl
                try simp only [Act.put, List.getElem_toArray, List.getElem_cons_succ, List.getElem_cons_zero, List.setIfInBounds_toArray, List.set_cons_zero, List.set_cons_succ]
                refine wpAnyH_take (i := 5) (v := undef) rfl (by as_aux_lemma => kernel_rfl) (by as_aux_lemma => kernel_rfl) (by as_aux_lemma => kernel_rfl) (fun _ _ _ h => h) (Or.inr ⟨by rfl, rfl⟩) (by assumption) ?_
                try simp only [Act.put, List.getElem_toArray, List.getElem_cons_succ, List.getElem_cons_zero, List.setIfInBounds_toArray, List.set_cons_zero, List.set_cons_succ]
                refine wpAnyH_take (i := 6) (v := undef) rfl (by as_aux_lemma => kernel_rfl) (by as_aux_lemma => kernel_rfl) (by as_aux_lemma => kernel_rfl) (fun _ _ _ h => h) (Or.inr ⟨by rfl, rfl⟩) (by assumption) ?_
                try simp only [Act.put, List.getElem_toArray, List.getElem_cons_succ, List.getElem_cons_zero, List.setIfInBounds_toArray, List.set_cons_zero, List.set_cons_succ]
                refine wpAnyH_take (i := 7) (v := undef) rfl (by as_aux_lemma => kernel_rfl) (by as_aux_lemma => kernel_rfl) (by as_aux_lemma => kernel_rfl) (fun _ _ _ h => h) (Or.inr ⟨by rfl, rfl⟩) (by assumption) ?_
                try simp only [Act.put, List.getElem_toArray, List.getElem_cons_succ, List.getElem_cons_zero, List.setIfInBounds_toArray, List.set_cons_zero, List.set_cons_succ]
                refine wpAnyH_take (i := 8) (v := undef) rfl (by as_aux_lemma => kernel_rfl) (by as_aux_lemma => kernel_rfl) (by as_aux_lemma => kernel_rfl) (fun _ _ _ h => h) (Or.inr ⟨by rfl, rfl⟩) (by assumption) ?_
                try simp only [Act.put, List.getElem_toArray, List.getElem_cons_succ, List.getElem_cons_zero, List.setIfInBounds_toArray, List.set_cons_zero, List.set_cons_succ]
                refine wpAnyH_take (i := 9) (v := undef) rfl (by as_aux_lemma => kernel_rfl) (by as_aux_lemma => kernel_rfl) (by as_aux_lemma => kernel_rfl) (fun _ _ _ h => h) (Or.inr ⟨by rfl, rfl⟩) (by assumption) ?_
                try simp only [Act.put, List.getElem_toArray, List.getElem_cons_succ, List.getElem_cons_zero, List.setIfInBounds_toArray, List.set_cons_zero, List.set_cons_succ]
                refine wpAnyH_take (i := 10) (v := undef) rfl (by as_aux_lemma => kernel_rfl) (by as_aux_lemma => kernel_rfl) (by as_aux_lemma => kernel_rfl) (fun _ _ _ h => h) (Or.inr ⟨by rfl, rfl⟩) (by assumption) ?_
                try simp only [Act.put, List.getElem_toArray, List.getElem_cons_succ, List.getElem_cons_zero, List.setIfInBounds_toArray, List.set_cons_zero, List.set_cons_succ]
                refine wpAnyH_take (i := 11) (v := undef) rfl (by as_aux_lemma => kernel_rfl) (by as_aux_lemma => kernel_rfl) (by as_aux_lemma => kernel_rfl) (fun _ _ _ h => h) (Or.inr ⟨by rfl, rfl⟩) (by assumption) ?_
                try simp only [Act.put, List.getElem_toArray, List.getElem_cons_succ, List.getElem_cons_zero, List.setIfInBounds_toArray, List.set_cons_zero, List.set_cons_succ]
                refine wpAnyH_take (i := 12) (v := undef) rfl (by as_aux_lemma => kernel_rfl) (by as_aux_lemma => kernel_rfl) (by as_aux_lemma => kernel_rfl) (fun _ _ _ h => h) (Or.inr ⟨by rfl, rfl⟩) (by assumption) ?_
                try simp only [Act.put, List.getElem_toArray, List.getElem_cons_succ, List.getElem_cons_zero, List.setIfInBounds_toArray, List.set_cons_zero, List.set_cons_succ]
                refine wpAnyH_take (i := 13) (v := undef) rfl (by as_aux_lemma => kernel_rfl) (by as_aux_lemma => kernel_rfl) (by as_aux_lemma => kernel_rfl) (fun _ _ _ h => h) (Or.inr ⟨by rfl, rfl⟩) (by assumption) ?_
                try simp only [Act.put, List.getElem_toArray, List.getElem_cons_succ, List.getElem_cons_zero, List.setIfInBounds_toArray, List.set_cons_zero, List.set_cons_succ]
                refine wpAnyH_take (i := 14) (v := ?_) rfl (by as_aux_lemma => kernel_rfl) (by as_aux_lemma => kernel_rfl) (by as_aux_lemma => kernel_rfl) (fun _ _ _ h => h) (Or.inl ⟨by rfl, ?_⟩) (by assumption) ?_
                rotate_left
                · intro w hSw
                  try dsimp only at hSw
                  go_simp
                  try with_reducible rfl
                try simp only [Act.put, List.getElem_toArray, List.getElem_cons_succ, List.getElem_cons_zero, List.setIfInBounds_toArray, List.set_cons_zero, List.set_cons_succ]
                refine wpAnyH_done (by as_aux_lemma => kernel_rfl) ?_ _
                refine NoPanic.normal ?_
                have HBZ := Lib.hid (hh0.2.2)
                obtain ⟨w5, hw5⟩ : ∃ x, w4.drew = x := ⟨_, rfl⟩
                rw [hw5] at HBZ ⊢
                have L5 := Lib.hid (L4.out.trans (HBZ.out.mono L4.out.size))
                have O5 := Lib.hid (own_below O4.out HBZ.out)
                clear KA d0 d1 dl HBZ hw5
                obtain ⟨d0, d1⟩ := HCS.out w5 L5.out
                have PA5 : PairsAt w5 (.slice a1 j cq) L := pairs_own (by rw [HLL.out]; exact O5.out) (by rw [HLL.out]; omega)
                obtain ⟨hjc, hlo⟩ := pairs_take PA5 j (by rw [HLL.out]; omega)
                have hhi := pairs_drop PA5 j (by rw [HLL.out]; omega)
                have hjq : j ≤ j := by omega
                have e1 : 0 + (L.take j).length = j := by rw [List.length_take, HLL.out]; omega
                obtain ⟨n2, hn2⟩ : ∃ n2, j + 1 = n2 := ⟨_, rfl⟩
                have e2 : j + [((s1, s2) : Scl)].length = n2 := hn2
                obtain ⟨n3, hn3⟩ : ∃ n3, j + 1 = n3 := ⟨_, rfl⟩
                have e3 : n2 + (L.drop j).length = n3 := by rw [List.length_drop, HLL.out]; omega
                obtain ⟨HI, hHI⟩ : ∃ x, Value.slice (if cq = j then a1 else (a1).map (fun x => Addr.add x (j * 2))) (j - j) (cq - j) = x := ⟨_, rfl⟩
                rw [hHI] at hhi
                have HLO := Lib.hid hlo
                have PHI := Lib.hid hhi
                have E1 := Lib.hid e1
                have E2 := Lib.hid e2
                have E3 := Lib.hid e3
                have EHI := Lib.hid hHI
                have dl := World.block_lt_of_cell? w5 ⟨b, o + k * 2, none⟩ d0
                clear PA5 hlo hhi hHI e1 e2 e3
                go_wp2_with fail
                have KA : ∀ W' : World, Below w5.heap.size w5 W' → (W'.cell? ⟨b, o + k * 2, none⟩ = some (.int .i64 s1) ∧ W'.cell? ⟨b, o + k * 2 + 1, none⟩ = some (.int .i64 s2) ∧ Below w5.heap.size w5 W') := fun W' hb => ⟨keepK d0 hb, keepK d1 hb, hb⟩
                refine wp_region_noPanic ?_
                refine wp_region_held_drew (S := (fun W' => W'.cell? ⟨b, o + k * 2, none⟩ = some (.int .i64 s1) ∧ W'.cell? ⟨b, o + k * 2 + 1, none⟩ = some (.int .i64 s2) ∧ Below w5.heap.size w5 W')) (by kernel_rfl) ?_ (fun hh0 => ?_)
                · exact KA _ (Below.refl _ _).drew
                refine wpAnyH_take (i := 1) (v := ?_) rfl (by as_aux_lemma => kernel_rfl) (by as_aux_lemma => kernel_rfl) (by as_aux_lemma => kernel_rfl) (fun _ _ _ h => h) (Or.inl ⟨by rfl, ?_⟩) (by assumption) ?_
                rotate_left
                · intro w hSw
                  try dsimp only at hSw
                  go_simp
                  try with_reducible rfl
                try simp only [Act.put, List.getElem_toArray, List.getElem_cons_succ, List.getElem_cons_zero, List.setIfInBounds_toArray, List.set_cons_zero, List.set_cons_succ]
                refine wpAnyH_take (i := 2) (v := ?_) rfl (by as_aux_lemma => kernel_rfl) (by as_aux_lemma => kernel_rfl) (by as_aux_lemma => kernel_rfl) (fun _ _ _ h => h) (Or.inl ⟨by rfl, ?_⟩) (by assumption) ?_
                rotate_left
                · intro w hSw
                  try dsimp only at hSw
                  go_simp
                  try with_reducible rfl
                try simp only [Act.put, List.getElem_toArray, List.getElem_cons_succ, List.getElem_cons_zero, List.setIfInBounds_toArray, List.set_cons_zero, List.set_cons_succ]
                refine wpAnyH_take (i := 3) (v := .slice a1 j cq) rfl (by as_aux_lemma => kernel_rfl) (by as_aux_lemma => kernel_rfl) (by as_aux_lemma => kernel_rfl) (fun _ _ _ h => h) (Or.inl ⟨by rfl, ?_⟩) (by assumption) ?_
                · exact fun w _ => scs_lo rfl rfl rfl hjc w
                try simp only [Act.put, List.getElem_toArray, List.getElem_cons_succ, List.getElem_cons_zero, List.setIfInBounds_toArray, List.set_cons_zero, List.set_cons_succ]
                refine wpAnyH_take (i := 5) (v := ?_) rfl (by as_aux_lemma => kernel_rfl) (by as_aux_lemma => kernel_rfl) (by as_aux_lemma => kernel_rfl) (fun _ _ _ h => h) (Or.inl ⟨by rfl, ?_⟩) (by assumption) ?_
                rotate_left
                · intro w hSw
                  try dsimp only at hSw
                  go_simp
                  try with_reducible rfl
                try simp only [Act.put, List.getElem_toArray, List.getElem_cons_succ, List.getElem_cons_zero, List.setIfInBounds_toArray, List.set_cons_zero, List.set_cons_succ]
                refine wpAnyH_take (i := 6) (v := ?_) rfl (by as_aux_lemma => kernel_rfl) (by as_aux_lemma => kernel_rfl) (by as_aux_lemma => kernel_rfl) (fun _ _ _ h => h) (Or.inl ⟨by rfl, ?_⟩) (by assumption) ?_
                rotate_left
                · intro w hSw
                  try dsimp only at hSw
                  go_simp
                  try with_reducible rfl
                try simp only [Act.put, List.getElem_toArray, List.getElem_cons_succ, List.getElem_cons_zero, List.setIfInBounds_toArray, List.set_cons_zero, List.set_cons_succ]
                refine wpAnyH_take (i := 7) (v := ?_) rfl (by as_aux_lemma => kernel_rfl) (by as_aux_lemma => kernel_rfl) (by as_aux_lemma => kernel_rfl) (fun _ _ _ h => h) (Or.inl ⟨by rfl, ?_⟩) (by assumption) ?_
                rotate_left
                · intro w hSw
                  try dsimp only at hSw
                  go_simp
                  try with_reducible rfl
                try simp only [Act.put, List.getElem_toArray, List.getElem_cons_succ, List.getElem_cons_zero, List.setIfInBounds_toArray, List.set_cons_zero, List.set_cons_succ]
                refine wpAnyH_take (i := 8) (v := ?_) rfl (by as_aux_lemma => kernel_rfl) (by as_aux_lemma => kernel_rfl) (by as_aux_lemma => kernel_rfl) (fun _ _ _ h => h) (Or.inl ⟨by rfl, ?_⟩) (by assumption) ?_
                rotate_left
                · intro w hSw
                  try dsimp only at hSw
                  go_simp
                  try with_reducible rfl
                try simp only [Act.put, List.getElem_toArray, List.getElem_cons_succ, List.getElem_cons_zero, List.setIfInBounds_toArray, List.set_cons_zero, List.set_cons_succ]
                refine wpAnyH_take (i := 11) (v := ?_) rfl (by as_aux_lemma => kernel_rfl) (by as_aux_lemma => kernel_rfl) (by as_aux_lemma => kernel_rfl) (fun _ _ _ h => h) (Or.inl ⟨by rfl, ?_⟩) (by assumption) ?_
                rotate_left
                · intro w hSw
                  try dsimp only at hSw
                  go_simp
                  try with_reducible rfl
                try simp only [Act.put, List.getElem_toArray, List.getElem_cons_succ, List.getElem_cons_zero, List.setIfInBounds_toArray, List.set_cons_zero, List.set_cons_succ]
                refine wpAnyH_take (i := 12) (v := ?_) rfl (by as_aux_lemma => kernel_rfl) (by as_aux_lemma => kernel_rfl) (by as_aux_lemma => kernel_rfl) (fun _ _ _ h => h) (Or.inl ⟨by rfl, ?_⟩) (by assumption) ?_
                rotate_left
                · intro w hSw
                  try dsimp only at hSw
                  go_simp
                  try with_reducible rfl
                try simp only [Act.put, List.getElem_toArray, List.getElem_cons_succ, List.getElem_cons_zero, List.setIfInBounds_toArray, List.set_cons_zero, List.set_cons_succ]
                refine wpAnyH_take (i := 13) (v := HI) rfl (by as_aux_lemma => kernel_rfl) (by as_aux_lemma => kernel_rfl) (by as_aux_lemma => kernel_rfl) (fun _ _ _ h => h) (Or.inl ⟨by rfl, ?_⟩) (by assumption) ?_
                · exact fun w _ => by rw [← EHI.out]; exact scs_hi rfl rfl rfl hjq w
                try simp only [Act.put, List.getElem_toArray, List.getElem_cons_succ, List.getElem_cons_zero, List.setIfInBounds_toArray, List.set_cons_zero, List.set_cons_succ]
                refine wpAnyH_ready (rs := [0, 9]) (by as_aux_lemma => kernel_rfl) (by simp) ?_
                refine AllReadyH.cons rfl (fun K hK => ?_) (AllReadyH.cons rfl (fun K hK => ?_) AllReadyH.nil)
                · skip
                  go_simp
                  obtain ⟨u0, hu0⟩ : ∃ V, (w5.alloc (Obj.cells #[] 27)).drew = V := ⟨_, rfl⟩
                  have hbu : Below w5.heap.size w5 u0 := by rw [← hu0]; exact ((Below.refl _ _).alloc (Nat.le_refl _) _).drew
                  have hzu : u0.heap[w5.heap.size]? = some (.cells #[] 27 (0, 0)) := by rw [← hu0]; exact heap_alloc_new w5 (Obj.cells #[] 27)
                  have HBU0 := Lib.hid hbu
                  have ltu0 := lt_of_block hzu
                  have RO0 : Hid (u0.ownsRow w5.heap.size 27 2 (.slice (some ⟨w5.heap.size, 0, none⟩) 0 0) 0 (scsL [])) := by show World.ownsRow ..; rw [← hu0]; exact own_nil2 w5 27 2 w5.heap.size (Nat.le_refl _)
                  rw [hu0]
                  clear hu0 hbu hzu
                  refine hK.out _ _ ?_ (fun hh1 => ?_)
                  · exact KA _ HBU0.out
                  clear hK K
                  try simp only [Act.put, List.getElem_toArray, List.getElem_cons_succ, List.getElem_cons_zero, List.setIfInBounds_toArray, List.set_cons_zero, List.set_cons_succ]
                  refine wpAnyH_ready (rs := [4, 9]) (by as_aux_lemma => kernel_rfl) (by simp) ?_
                  refine AllReadyH.cons rfl (fun K hK => ?_) (AllReadyH.cons rfl (fun K hK => ?_) AllReadyH.nil)
                  · skip
                    refine step_pairs (by rfl) _ _ (by rfl) w5.heap.size 0 j _ (.slice a1 j cq) [] (L.take j) (L.take j) (by rfl) (by rfl) E1.out (by simp) RO0.out (HLO.out.below HBU0.out) HBU0.out.size (by omega) ?_
                    intro vv4 u4 how4 hgr4
                    obtain ⟨va4, vc4, rfl⟩ := own_slice how4
                    have RO4 := Lib.hid how4
                    have HBU4 : Hid (Below w5.heap.size w5 u4) := HBU0.out.grown hgr4 HBU0.out.size (fun g hg => (RO0.out.lt g hg).1)
                    clear how4 hgr4
                    refine hK.out _ _ ?_ (fun hh2 => ?_)
                    · exact KA _ HBU4.out
                    clear hK K
                    try simp only [Act.put, List.getElem_toArray, List.getElem_cons_succ, List.getElem_cons_zero, List.setIfInBounds_toArray, List.set_cons_zero, List.set_cons_succ]
                    refine wpAnyH_ready (rs := [9]) (by as_aux_lemma => kernel_rfl) (by simp) ?_
                    refine AllReadyH.cons rfl (fun K hK => ?_) AllReadyH.nil
                    go_simp
                    obtain ⟨u9, hu9⟩ : ∃ V, u4.alloc (Obj.cells #[.int .i64 s1, .int .i64 s2] 27) = V := ⟨_, rfl⟩
                    have hbc : Below u4.heap.size u4 u9 := by rw [← hu9]; go_grown
                    have hbu : Below w5.heap.size w5 u9 := HBU4.out.trans (hbc.mono HBU4.out.size)
                    have hzu : u9.heap[u4.heap.size]? = some (.cells #[.int .i64 s1, .int .i64 s2] 27 (0, 0)) := by rw [← hu9]; exact heap_alloc_new u4 (Obj.cells #[.int .i64 s1, .int .i64 s2] 27)
                    have HBU9 := Lib.hid hbu
                    have ltu9 := lt_of_block hzu
                    have RX9 := Lib.hid hzu
                    have RO9 := Lib.hid (own_below RO4.out hbc)
                    rw [hu9]
                    clear hu9 hbu hzu hbc
                    refine hK.out _ _ ?_ (fun hh3 => ?_)
                    · exact KA _ HBU9.out
                    clear hK K
                    try simp only [Act.put, List.getElem_toArray, List.getElem_cons_succ, List.getElem_cons_zero, List.setIfInBounds_toArray, List.set_cons_zero, List.set_cons_succ]
                    refine wpAnyH_ready (rs := [10]) (by as_aux_lemma => kernel_rfl) (by simp) ?_
                    refine AllReadyH.cons rfl (fun K hK => ?_) AllReadyH.nil
                    refine step_pairs (by rfl) _ _ (by rfl) w5.heap.size j n2 _ _ (L.take j) [(s1, s2)] (L.take j ++ [(s1, s2)]) (by rfl) (by rfl) E2.out (by rfl) RO9.out (pairs_one (s := (s1, s2)) RX9.out) HBU9.out.size (by omega) ?_
                    intro vv10 u10 how10 hgr10
                    obtain ⟨va10, vc10, rfl⟩ := own_slice how10
                    have RO10 := Lib.hid how10
                    have HBU10 : Hid (Below w5.heap.size w5 u10) := HBU9.out.grown hgr10 HBU9.out.size (fun g hg => (RO9.out.lt g hg).1)
                    clear how10 hgr10
                    refine hK.out _ _ ?_ (fun hh4 => ?_)
                    · exact KA _ HBU10.out
                    clear hK K
                    try simp only [Act.put, List.getElem_toArray, List.getElem_cons_succ, List.getElem_cons_zero, List.setIfInBounds_toArray, List.set_cons_zero, List.set_cons_succ]
                    refine wpAnyH_ready (rs := [14]) (by as_aux_lemma => kernel_rfl) (by simp) ?_
                    refine AllReadyH.cons rfl (fun K hK => ?_) AllReadyH.nil
                    refine step_pairs (by rfl) _ _ (by rfl) w5.heap.size n2 n3 _ HI (L.take j ++ [(s1, s2)]) (L.drop j) (L.take j ++ [(s1, s2)] ++ L.drop j) (by rfl) (by rfl) E3.out (by rfl) RO10.out (PHI.out.below HBU10.out) HBU10.out.size (by omega) ?_
                    intro vv14 u14 how14 hgr14
                    obtain ⟨va14, vc14, rfl⟩ := own_slice how14
                    have RO14 := Lib.hid how14
                    have HBU14 : Hid (Below w5.heap.size w5 u14) := HBU10.out.grown hgr14 HBU10.out.size (fun g hg => (RO10.out.lt g hg).1)
                    clear how14 hgr14
                    refine hK.out _ _ ?_ (fun hh5 => ?_)
                    · exact KA _ HBU14.out
                    clear hK K
                    try simp only [Act.put, List.getElem_toArray, List.getElem_cons_succ, List.getElem_cons_zero, List.setIfInBounds_toArray, List.set_cons_zero, List.set_cons_succ]
                    refine wpAnyH_ready (rs := [15]) (by as_aux_lemma => kernel_rfl) (by simp) ?_
                    refine AllReadyH.cons rfl (fun K hK => ?_) AllReadyH.nil
                    go_simp
                    refine hK.out _ _ hh5 (fun hh6 => ?_)
                    clear hK K
                    try simp only [Act.put, List.getElem_toArray, List.getElem_cons_succ, List.getElem_cons_zero, List.setIfInBounds_toArray, List.set_cons_zero, List.set_cons_succ]
                    refine wpAnyH_done (by as_aux_lemma => kernel_rfl) ?_ _
                    refine NoPanic.normal ?_
                    have HBZ := Lib.hid (hh6.2.2)
                    have L9 := Lib.hid (L5.out.trans (HBU14.out.mono L5.out.size))
                    have O9 : Hid (u14.ownsRow w2.heap.size 27 2 (.slice va14 n3 vc14) n3 (scsL (L.take j ++ [(s1, s2)] ++ L.drop j))) := own_base RO14.out L5.out.size
                    have N9 : Hid ((L.take j ++ [((s1, s2) : Scl)] ++ L.drop j).length = n3) := by show _ = _; rw [List.length_append, List.length_append, List.length_take, List.length_drop, HLL.out, ← hn3, List.length_singleton]; omega
                    clear KA HBZ
                    go_wp2_with fail
                    go_roundg g'
                    case measure => omega
                    case rel => exact ⟨k + 1, va14, n3, vc14, _, by omega, by go_num, rfl, N9, HIY, O9, L9⟩
                  · skip
                    go_simp
                    obtain ⟨u9, hu9⟩ : ∃ V, u0.alloc (Obj.cells #[.int .i64 s1, .int .i64 s2] 27) = V := ⟨_, rfl⟩
                    have hbc : Below u0.heap.size u0 u9 := by rw [← hu9]; go_grown
                    have hbu : Below w5.heap.size w5 u9 := HBU0.out.trans (hbc.mono HBU0.out.size)
                    have hzu : u9.heap[u0.heap.size]? = some (.cells #[.int .i64 s1, .int .i64 s2] 27 (0, 0)) := by rw [← hu9]; exact heap_alloc_new u0 (Obj.cells #[.int .i64 s1, .int .i64 s2] 27)
                    have HBU9 := Lib.hid hbu
                    have ltu9 := lt_of_block hzu
                    have RX9 := Lib.hid hzu
                    have RO9 := Lib.hid (own_below RO0.out hbc)
                    rw [hu9]
                    clear hu9 hbu hzu hbc
                    refine hK.out _ _ ?_ (fun hh2 => ?_)
                    · exact KA _ HBU9.out
                    clear hK K
                    try simp only [Act.put, List.getElem_toArray, List.getElem_cons_succ, List.getElem_cons_zero, List.setIfInBounds_toArray, List.set_cons_zero, List.set_cons_succ]
                    refine wpAnyH_ready (rs := [4]) (by as_aux_lemma => kernel_rfl) (by simp) ?_
                    refine AllReadyH.cons rfl (fun K hK => ?_) AllReadyH.nil
                    refine step_pairs (by rfl) _ _ (by rfl) w5.heap.size 0 j _ (.slice a1 j cq) [] (L.take j) (L.take j) (by rfl) (by rfl) E1.out (by simp) RO9.out (HLO.out.below HBU9.out) HBU9.out.size (by omega) ?_
                    intro vv4 u4 how4 hgr4
                    obtain ⟨va4, vc4, rfl⟩ := own_slice how4
                    have RO4 := Lib.hid how4
                    have HBU4 : Hid (Below w5.heap.size w5 u4) := HBU9.out.grown hgr4 HBU9.out.size (fun g hg => (RO9.out.lt g hg).1)
                    have RX4 := Lib.hid (block_kept RX9.out hgr4 (by intro e; have e' := Option.some.inj (show some _ = some _ from e); revert e'; show w5.heap.size ≠ u0.heap.size; omega))
                    clear how4 hgr4
                    refine hK.out _ _ ?_ (fun hh3 => ?_)
                    · exact KA _ HBU4.out
                    clear hK K
                    try simp only [Act.put, List.getElem_toArray, List.getElem_cons_succ, List.getElem_cons_zero, List.setIfInBounds_toArray, List.set_cons_zero, List.set_cons_succ]
                    refine wpAnyH_ready (rs := [10]) (by as_aux_lemma => kernel_rfl) (by simp) ?_
                    refine AllReadyH.cons rfl (fun K hK => ?_) AllReadyH.nil
                    refine step_pairs (by rfl) _ _ (by rfl) w5.heap.size j n2 _ _ (L.take j) [(s1, s2)] (L.take j ++ [(s1, s2)]) (by rfl) (by rfl) E2.out (by rfl) RO4.out (pairs_one (s := (s1, s2)) RX4.out) HBU4.out.size (by omega) ?_
                    intro vv10 u10 how10 hgr10
                    obtain ⟨va10, vc10, rfl⟩ := own_slice how10
                    have RO10 := Lib.hid how10
                    have HBU10 : Hid (Below w5.heap.size w5 u10) := HBU4.out.grown hgr10 HBU4.out.size (fun g hg => (RO4.out.lt g hg).1)
                    clear how10 hgr10
                    refine hK.out _ _ ?_ (fun hh4 => ?_)
                    · exact KA _ HBU10.out
                    clear hK K
                    try simp only [Act.put, List.getElem_toArray, List.getElem_cons_succ, List.getElem_cons_zero, List.setIfInBounds_toArray, List.set_cons_zero, List.set_cons_succ]
                    refine wpAnyH_ready (rs := [14]) (by as_aux_lemma => kernel_rfl) (by simp) ?_
                    refine AllReadyH.cons rfl (fun K hK => ?_) AllReadyH.nil
                    refine step_pairs (by rfl) _ _ (by rfl) w5.heap.size n2 n3 _ HI (L.take j ++ [(s1, s2)]) (L.drop j) (L.take j ++ [(s1, s2)] ++ L.drop j) (by rfl) (by rfl) E3.out (by rfl) RO10.out (PHI.out.below HBU10.out) HBU10.out.size (by omega) ?_
                    intro vv14 u14 how14 hgr14
                    obtain ⟨va14, vc14, rfl⟩ := own_slice how14
                    have RO14 := Lib.hid how14
                    have HBU14 : Hid (Below w5.heap.size w5 u14) := HBU10.out.grown hgr14 HBU10.out.size (fun g hg => (RO10.out.lt g hg).1)
                    clear how14 hgr14
                    refine hK.out _ _ ?_ (fun hh5 => ?_)
                    · exact KA _ HBU14.out
                    clear hK K
                    try simp only [Act.put, List.getElem_toArray, List.getElem_cons_succ, List.getElem_cons_zero, List.setIfInBounds_toArray, List.set_cons_zero, List.set_cons_succ]
                    refine wpAnyH_ready (rs := [15]) (by as_aux_lemma => kernel_rfl) (by simp) ?_
                    refine AllReadyH.cons rfl (fun K hK => ?_) AllReadyH.nil
                    go_simp
                    refine hK.out _ _ hh5 (fun hh6 => ?_)
                    clear hK K
                    try simp only [Act.put, List.getElem_toArray, List.getElem_cons_succ, List.getElem_cons_zero, List.setIfInBounds_toArray, List.set_cons_zero, List.set_cons_succ]
                    refine wpAnyH_done (by as_aux_lemma => kernel_rfl) ?_ _
                    refine NoPanic.normal ?_
                    have HBZ := Lib.hid (hh6.2.2)
                    have L9 := Lib.hid (L5.out.trans (HBU14.out.mono L5.out.size))
                    have O9 : Hid (u14.ownsRow w2.heap.size 27 2 (.slice va14 n3 vc14) n3 (scsL (L.take j ++ [(s1, s2)] ++ L.drop j))) := own_base RO14.out L5.out.size
                    have N9 : Hid ((L.take j ++ [((s1, s2) : Scl)] ++ L.drop j).length = n3) := by show _ = _; rw [List.length_append, List.length_append, List.length_take, List.length_drop, HLL.out, ← hn3, List.length_singleton]; omega
                    clear KA HBZ
                    go_wp2_with fail
                    go_roundg g'
                    case measure => omega
                    case rel => exact ⟨k + 1, va14, n3, vc14, _, by omega, by go_num, rfl, N9, HIY, O9, L9⟩
                · skip
                  go_simp
                  obtain ⟨u9, hu9⟩ : ∃ V, (w5.alloc (Obj.cells #[.int .i64 s1, .int .i64 s2] 27)).drew = V := ⟨_, rfl⟩
                  have hbu : Below w5.heap.size w5 u9 := by rw [← hu9]; exact ((Below.refl _ _).alloc (Nat.le_refl _) _).drew
                  have hzu : u9.heap[w5.heap.size]? = some (.cells #[.int .i64 s1, .int .i64 s2] 27 (0, 0)) := by rw [← hu9]; exact heap_alloc_new w5 (Obj.cells #[.int .i64 s1, .int .i64 s2] 27)
                  have HBU9 := Lib.hid hbu
                  have ltu9 := lt_of_block hzu
                  have RX9 := Lib.hid hzu
                  rw [hu9]
                  clear hu9 hbu hzu
                  refine hK.out _ _ ?_ (fun hh1 => ?_)
                  · exact KA _ HBU9.out
                  clear hK K
                  try simp only [Act.put, List.getElem_toArray, List.getElem_cons_succ, List.getElem_cons_zero, List.setIfInBounds_toArray, List.set_cons_zero, List.set_cons_succ]
                  refine wpAnyH_ready (rs := [0]) (by as_aux_lemma => kernel_rfl) (by simp) ?_
                  refine AllReadyH.cons rfl (fun K hK => ?_) AllReadyH.nil
                  go_simp
                  obtain ⟨u0, hu0⟩ : ∃ V, u9.alloc (Obj.cells #[] 27) = V := ⟨_, rfl⟩
                  have hbc : Below u9.heap.size u9 u0 := by rw [← hu0]; go_grown
                  have hbu : Below w5.heap.size w5 u0 := HBU9.out.trans (hbc.mono HBU9.out.size)
                  have hzu : u0.heap[u9.heap.size]? = some (.cells #[] 27 (0, 0)) := by rw [← hu0]; exact heap_alloc_new u9 (Obj.cells #[] 27)
                  have HBU0 := Lib.hid hbu
                  have ltu0 := lt_of_block hzu
                  have RO0 : Hid (u0.ownsRow w5.heap.size 27 2 (.slice (some ⟨u9.heap.size, 0, none⟩) 0 0) 0 (scsL [])) := by show World.ownsRow ..; rw [← hu0]; exact own_nil2 u9 27 2 w5.heap.size (HBU9.out.size)
                  have RX0 := Lib.hid ((hbc.block _ (lt_of_block RX9.out)).trans RX9.out)
                  rw [hu0]
                  clear hu0 hbu hzu hbc
                  refine hK.out _ _ ?_ (fun hh2 => ?_)
                  · exact KA _ HBU0.out
                  clear hK K
                  try simp only [Act.put, List.getElem_toArray, List.getElem_cons_succ, List.getElem_cons_zero, List.setIfInBounds_toArray, List.set_cons_zero, List.set_cons_succ]
                  refine wpAnyH_ready (rs := [4]) (by as_aux_lemma => kernel_rfl) (by simp) ?_
                  refine AllReadyH.cons rfl (fun K hK => ?_) AllReadyH.nil
                  refine step_pairs (by rfl) _ _ (by rfl) w5.heap.size 0 j _ (.slice a1 j cq) [] (L.take j) (L.take j) (by rfl) (by rfl) E1.out (by simp) RO0.out (HLO.out.below HBU0.out) HBU0.out.size (by omega) ?_
                  intro vv4 u4 how4 hgr4
                  obtain ⟨va4, vc4, rfl⟩ := own_slice how4
                  have RO4 := Lib.hid how4
                  have HBU4 : Hid (Below w5.heap.size w5 u4) := HBU0.out.grown hgr4 HBU0.out.size (fun g hg => (RO0.out.lt g hg).1)
                  have RX4 := Lib.hid (block_kept RX0.out hgr4 (by intro e; have e' := Option.some.inj (show some _ = some _ from e); revert e'; show u9.heap.size ≠ w5.heap.size; omega))
                  clear how4 hgr4
                  refine hK.out _ _ ?_ (fun hh3 => ?_)
                  · exact KA _ HBU4.out
                  clear hK K
                  try simp only [Act.put, List.getElem_toArray, List.getElem_cons_succ, List.getElem_cons_zero, List.setIfInBounds_toArray, List.set_cons_zero, List.set_cons_succ]
                  refine wpAnyH_ready (rs := [10]) (by as_aux_lemma => kernel_rfl) (by simp) ?_
                  refine AllReadyH.cons rfl (fun K hK => ?_) AllReadyH.nil
                  refine step_pairs (by rfl) _ _ (by rfl) w5.heap.size j n2 _ _ (L.take j) [(s1, s2)] (L.take j ++ [(s1, s2)]) (by rfl) (by rfl) E2.out (by rfl) RO4.out (pairs_one (s := (s1, s2)) RX4.out) HBU4.out.size (by omega) ?_
                  intro vv10 u10 how10 hgr10
                  obtain ⟨va10, vc10, rfl⟩ := own_slice how10
                  have RO10 := Lib.hid how10
                  have HBU10 : Hid (Below w5.heap.size w5 u10) := HBU4.out.grown hgr10 HBU4.out.size (fun g hg => (RO4.out.lt g hg).1)
                  clear how10 hgr10
                  refine hK.out _ _ ?_ (fun hh4 => ?_)
                  · exact KA _ HBU10.out
                  clear hK K
                  try simp only [Act.put, List.getElem_toArray, List.getElem_cons_succ, List.getElem_cons_zero, List.setIfInBounds_toArray, List.set_cons_zero, List.set_cons_succ]
                  refine wpAnyH_ready (rs := [14]) (by as_aux_lemma => kernel_rfl) (by simp) ?_
                  refine AllReadyH.cons rfl (fun K hK => ?_) AllReadyH.nil
                  refine step_pairs (by rfl) _ _ (by rfl) w5.heap.size n2 n3 _ HI (L.take j ++ [(s1, s2)]) (L.drop j) (L.take j ++ [(s1, s2)] ++ L.drop j) (by rfl) (by rfl) E3.out (by rfl) RO10.out (PHI.out.below HBU10.out) HBU10.out.size (by omega) ?_
                  intro vv14 u14 how14 hgr14
                  obtain ⟨va14, vc14, rfl⟩ := own_slice how14
                  have RO14 := Lib.hid how14
                  have HBU14 : Hid (Below w5.heap.size w5 u14) := HBU10.out.grown hgr14 HBU10.out.size (fun g hg => (RO10.out.lt g hg).1)
                  clear how14 hgr14
                  refine hK.out _ _ ?_ (fun hh5 => ?_)
                  · exact KA _ HBU14.out
                  clear hK K
                  try simp only [Act.put, List.getElem_toArray, List.getElem_cons_succ, List.getElem_cons_zero, List.setIfInBounds_toArray, List.set_cons_zero, List.set_cons_succ]
                  refine wpAnyH_ready (rs := [15]) (by as_aux_lemma => kernel_rfl) (by simp) ?_
                  refine AllReadyH.cons rfl (fun K hK => ?_) AllReadyH.nil
                  go_simp
                  refine hK.out _ _ hh5 (fun hh6 => ?_)
                  clear hK K
                  try simp only [Act.put, List.getElem_toArray, List.getElem_cons_succ, List.getElem_cons_zero, List.setIfInBounds_toArray, List.set_cons_zero, List.set_cons_succ]
                  refine wpAnyH_done (by as_aux_lemma => kernel_rfl) ?_ _
                  refine NoPanic.normal ?_
                  have HBZ := Lib.hid (hh6.2.2)
                  have L9 := Lib.hid (L5.out.trans (HBU14.out.mono L5.out.size))
                  have O9 : Hid (u14.ownsRow w2.heap.size 27 2 (.slice va14 n3 vc14) n3 (scsL (L.take j ++ [(s1, s2)] ++ L.drop j))) := own_base RO14.out L5.out.size
                  have N9 : Hid ((L.take j ++ [((s1, s2) : Scl)] ++ L.drop j).length = n3) := by show _ = _; rw [List.length_append, List.length_append, List.length_take, List.length_drop, HLL.out, ← hn3, List.length_singleton]; omega
                  clear KA HBZ
                  go_wp2_with fail
                  go_roundg g'
                  case measure => omega
                  case rel => exact ⟨k + 1, va14, n3, vc14, _, by omega, by go_num, rfl, N9, HIY, O9, L9⟩
      · obtain rfl : k = N := by omega
        have kI : ¬ (k : Int) < (k : Int) := by omega
        have hL : L = RL := by
          rw [← HRL.out]
          refine ins_all ?_
          rw [HQ.out]
          exact HIN.out
        subst hL
        clear hlt hk
        go_wp2_with fail
        refine bodyPost_ret (results_tmp2 rfl _ _ _) rfl ?_
        exact ⟨_, rfl, pairs_own (by rw [HLL.out]; exact HOW.out) (by rw [HLL.out]; omega), B2.out.trans (HL.out.mono B2.out.size)⟩
  · have tz : (RE != 0) = true := by simp [h0]
    go_wp2_with fail
    refine bodyPost_ret (results_tmp2 rfl _ _ _) rfl ?_
    exact ⟨_, rfl, pairs_nil _, B1.out⟩
end Go.Proofs.Ythflbbjilebhlaa
