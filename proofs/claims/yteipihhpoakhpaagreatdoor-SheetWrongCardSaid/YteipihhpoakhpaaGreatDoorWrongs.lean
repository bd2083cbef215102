/- SheetWrong: the call returns true. Condition: the tables of Go's library are laid. -/
import Derived.Test.YteipihhpoakhpaaGreatDoorProofs
set_option linter.unusedSimpArgs false
set_option linter.unusedVariables false
namespace Go.Proofs.YteipihhpoakhpaaGreatDoor
open Go Go.RowKit Hs Dc

theorem havK_iff (l : List Note) (list : List Int) (inn : Bool) (x : Note) : ∀ k, x ∈ havK l list inn k ↔ ∃ j, j < k ∧ decide ((j : Int) ∈ list) = inn ∧ l[j]? = some x := by
  intro k
  induction k with
  | zero => simp [havK]
  | succ k ih =>
    rw [havK]
    split
    · rename_i h
      rw [List.mem_append, ih]
      constructor
      · rintro (⟨j, h1, h2, h3⟩ | h1)
        · exact ⟨j, by omega, h2, h3⟩
        · exact ⟨k, by omega, h, by simpa using h1⟩
      · rintro ⟨j, h1, h2, h3⟩
        by_cases e : j = k
        · subst e; right; simpa using h3
        · left; exact ⟨j, by omega, h2, h3⟩
    · rename_i h
      rw [ih]
      constructor
      · rintro ⟨j, h1, h2, h3⟩; exact ⟨j, by omega, h2, h3⟩
      · rintro ⟨j, h1, h2, h3⟩
        by_cases e : j = k
        · subst e; exact absurd h2 h
        · exact ⟨j, by omega, h2, h3⟩
theorem havK_nil (l : List Note) : ∀ k, k ≤ l.length → havK l [] false k = l.take k := by
  intro k
  induction k with
  | zero => intro _; rfl
  | succ k ih =>
    intro hk
    rw [havK, if_pos (by simp), ih (by omega), List.take_add_one]
theorem fitB_none (iv : Int) : fitB iv 0 [] = true := by
  rw [fitB_iff]
  refine ⟨fun _ => 0, fun a b ha hb => ?_, fun x hx => by simp [bdsL] at hx⟩
  have := unbFar_ent ⟨a, ha⟩ ⟨b, hb⟩
  simp only at this
  show (0 : Int) - 0 ≤ _
  rw [this]
  split <;> omega
theorem wrong_facts {s : Sheet} (h : ValidS s) : Asc s.notes.length (wrongL s) ∧ fitB s.iv 0 (havK s.notes (wrongL s) false s.notes.length) = true ∧
    ∀ t, Asc s.notes.length t → fitB s.iv 0 (havK s.notes t false s.notes.length) = true → (wrongL s).length ≤ t.length := by
  have e1 : wrongL s = fewS s.notes.length (wrongG s) := by unfold wrongL; rw [errS_zero h, if_pos rfl]
  obtain ⟨s1, s2⟩ := fewS_spec (wrongG s) s.notes.length
  have hnone : havK s.notes ((List.range s.notes.length).map Int.ofNat) false s.notes.length = [] := by
    rw [List.eq_nil_iff_forall_not_mem]
    intro x hx
    rw [havK_iff] at hx
    obtain ⟨j, hj, hd, _⟩ := hx
    rw [decide_eq_false_iff_not] at hd
    exact hd (List.mem_map.2 ⟨j, List.mem_range.2 hj, rfl⟩)
  have hall : wrongG s ((List.range s.notes.length).map Int.ofNat) = true := by
    unfold wrongG
    rw [hnone]
    exact fitB_none _
  have hg := (s2 _ (asc_range _) hall).1
  refine ⟨by rw [e1]; exact s1, ?_, fun t ht hb => ?_⟩
  · rw [← e1] at hg
    exact hg
  · rw [e1]
    exact (s2 t ht hb).2
/-- A list that proves, and one that mends, have a note in common. -/
theorem meet_facts {s : Sheet} {P L : List Int} (hP : fitB s.iv 0 (havK s.notes P true s.notes.length) = false) (hL : fitB s.iv 0 (havK s.notes L false s.notes.length) = true) : ¬ ∀ x, x ∈ P → x ∉ L := by
  intro h
  have := fitB_sub (l' := havK s.notes P true s.notes.length) (fun x hx => by
    rw [havK_iff] at hx ⊢
    obtain ⟨j, hj, hd, he⟩ := hx
    exact ⟨j, hj, by rw [decide_eq_false_iff_not]; exact h _ (by simpa using hd), he⟩) hL
  rw [hP] at this
  cases this

set_option maxRecDepth 100000 in
set_option maxHeartbeats 8000000 in
theorem lwrong_any (s : Sheet) (pv nv : Value) (n : Nat) (w : World) (hS : SheetAt w.heap.size w pv nv s) (hcap : CapOk pv) (hn : n ≤ 65535) (hT : Tabs w) :
    Calls Tryz.prog 11 #[.agg #[.int .i64 s.iv, pv, nv], .int .u16 n] w fun e w' => e = .returned (.bool true) ∧ Below w.heap.size w w' := by
  obtain ⟨iv, pts, notes⟩ := s
  obtain ⟨ln, na, nc, rfl, _⟩ := id hS.notes
  obtain ⟨lp, pa, pc, rfl, _⟩ := id hS.pts
  simp only at hS ln lp ⊢
  have B0 : Below w.heap.size w (w.alloc (Obj.cells #[.int .i64 iv, .slice pa pts.length pc, .slice na notes.length nc] 25)) := by go_grown
  have HA0 := Lib.hid (heap_alloc_new w (Obj.cells #[.int .i64 iv, .slice pa pts.length pc, .slice na notes.length nc] 25))
  have HS0 := Lib.hid (hS.up B0)
  have HT0 := Lib.hid (hT.below B0)
  have HB0 := Lib.hid B0
  clear B0 hS hT
  go_enter Tryz.func11, Tryz.ntmps11
  go_wp2_with fail
  generalize w.alloc (Obj.cells #[.int .i64 iv, .slice pa pts.length pc, .slice na notes.length nc] 25) = w0 at *
  refine (Wrong_any ⟨iv, pts, notes⟩ _ _ w0 HS0.out).mono ?_
  rintro e w1 ⟨vl, rfl, hown, hb⟩
  have HA1 := Lib.hid ((hb.block _ (lt_of_block HA0.out)).trans HA0.out)
  have HS1 := Lib.hid (HS0.out.up hb)
  have HT1 := Lib.hid (HT0.out.below hb)
  have HB1 := Lib.hid (HB0.out.trans (hb.mono HB0.out.size))
  clear hb HA0 HS0 HT0 HB0
  have a0 := cellOf HA1.out 0 _ rfl
  have a1 := cellOf HA1.out 1 _ rfl
  have a2 := cellOf HA1.out 2 _ rfl
  have hvl := valid_any ⟨iv, pts, notes⟩ (.slice pa pts.length pc) (.slice na notes.length nc) w1 HS1.out hcap
  have HVL := Lib.hid hvl
  clear hvl
  by_cases hv : errS ⟨iv, pts, notes⟩ = 0
  · have HV := Lib.hid ((check_valid _).1 hv)
    have tv : (errS ⟨iv, pts, notes⟩ == 0) = true := by simp [hv]
    rw [tv] at HVL
    rw [hv]
    clear tv hv
    have hn12 := HV.out.nn
    simp only at hn12
    obtain ⟨pasc, pgood, pmin⟩ := wrong_facts HV.out
    have hll := asc_len pasc
    simp only at pasc pgood pmin hll
    have HI1 := Lib.hid (intsAt_own hown (by omega))
    have HASC := Lib.hid pasc
    have HGOOD := Lib.hid pgood
    have HMIN := Lib.hid pmin
    clear pasc pgood pmin hown
    obtain ⟨L, hL⟩ : ∃ L, Hid (L = wrongL ⟨iv, pts, notes⟩) := ⟨_, rfl⟩
    rw [← hL.out] at HI1 HASC HGOOD HMIN hll
    obtain ⟨_, la, lc, rfl, _⟩ := id HI1.out
    simp only
    go_wp2_with fail
    refine HVL.out.mono ?_
    rintro e w2 ⟨rfl, hb⟩
    clear HVL
    clear a0 a1 a2
    have HA2 := Lib.hid ((hb.block _ (lt_of_block HA1.out)).trans HA1.out)
    have HS2 := Lib.hid (HS1.out.up hb)
    have HT2 := Lib.hid (HT1.out.below hb)
    have HB2 := Lib.hid (HB1.out.trans (hb.mono HB1.out.size))
    have HI2 := Lib.hid (IntsAt.below HI1.out hb)
    clear hb HA1 HS1 HT1 HB1 HI1
    have a0 := cellOf HA2.out 0 _ rfl
    have a1 := cellOf HA2.out 1 _ rfl
    have a2 := cellOf HA2.out 2 _ rfl
    go_wp2_with fail
    refine (bits_any n hn notes.length hn12 w2).mono ?_
    rintro e w4 ⟨vf, F, rfl, hF, hFa, hb⟩
    clear a0 a1 a2
    have HFA := Lib.hid hFa
    have HIF3 := Lib.hid hF
    obtain ⟨_, fa, fc, rfl, _⟩ := id hF
    clear hF hFa
    have HA3 := Lib.hid ((hb.block _ (lt_of_block HA2.out)).trans HA2.out)
    have HS3 := Lib.hid (HS2.out.up hb)
    have HT3 := Lib.hid (HT2.out.below hb)
    have HB3 := Lib.hid (HB2.out.trans (hb.mono HB2.out.size))
    have HI3 := Lib.hid (IntsAt.below HI2.out hb)
    clear hb HA2 HS2 HT2 HB2 HI2
    have a0 := cellOf HA3.out 0 _ rfl
    have a1 := cellOf HA3.out 1 _ rfl
    have a2 := cellOf HA3.out 2 _ rfl
    go_wp2_with fail
    refine (some_any ⟨iv, pts, notes⟩ (.slice pa pts.length pc) (.slice na notes.length nc) (.slice la L.length lc) L false w4 HS3.out HI3.out hn12).mono ?_
    rintro e w5 ⟨nv5, rfl, hS5, hb⟩
    clear a0 a1 a2
    have HA4 := Lib.hid ((hb.block _ (lt_of_block HA3.out)).trans HA3.out)
    have HS4 := Lib.hid (HS3.out.up hb)
    have HT4 := Lib.hid (HT3.out.below hb)
    have HB4 := Lib.hid (HB3.out.trans (hb.mono HB3.out.size))
    have HI4 := Lib.hid (IntsAt.below HI3.out hb)
    have HIF4 := Lib.hid (IntsAt.below HIF3.out hb)
    clear hb HA3 HS3 HT3 HB3 HI3 HIF3
    have hc := fits_some HV.out L false (.slice pa pts.length pc) nv5 w5 hS5
    simp only [HGOOD.out] at hc
    have HC := Lib.hid hc
    clear hc hS5
    go_wp2_with fail
    refine HC.out.mono ?_
    rintro e w6 ⟨rfl, hb⟩
    clear HC
    have HA5 := Lib.hid ((hb.block _ (lt_of_block HA4.out)).trans HA4.out)
    have HS5 := Lib.hid (HS4.out.up hb)
    have HT5 := Lib.hid (HT4.out.below hb)
    have HB5 := Lib.hid (HB4.out.trans (hb.mono HB4.out.size))
    have HI5 := Lib.hid (IntsAt.below HI4.out hb)
    have HIF5 := Lib.hid (IntsAt.below HIF4.out hb)
    clear hb HA4 HS4 HT4 HB4 HI4 HIF4
    have a0 := cellOf HA5.out 0 _ rfl
    have a1 := cellOf HA5.out 1 _ rfl
    have a2 := cellOf HA5.out 2 _ rfl
    go_wp2_with fail
    refine (some_any ⟨iv, pts, notes⟩ (.slice pa pts.length pc) (.slice na notes.length nc) (.slice fa F.length fc) F false w6 HS5.out HIF5.out hn12).mono ?_
    rintro e w7 ⟨nv7, rfl, hS7, hb⟩
    clear a0 a1 a2
    have HA6 := Lib.hid ((hb.block _ (lt_of_block HA5.out)).trans HA5.out)
    have HS6 := Lib.hid (HS5.out.up hb)
    have HT6 := Lib.hid (HT5.out.below hb)
    have HB6 := Lib.hid (HB5.out.trans (hb.mono HB5.out.size))
    have HI6 := Lib.hid (IntsAt.below HI5.out hb)
    have HIF6 := Lib.hid (IntsAt.below HIF5.out hb)
    clear hb HA5 HS5 HT5 HB5 HI5 HIF5
    go_wp2_with fail
    refine (fits_some HV.out F false (.slice pa pts.length pc) nv7 w7 hS7).mono ?_
    rintro e w8 ⟨rfl, hb⟩
    clear hS7
    have HA7 := Lib.hid ((hb.block _ (lt_of_block HA6.out)).trans HA6.out)
    have HS7 := Lib.hid (HS6.out.up hb)
    have HT7 := Lib.hid (HT6.out.below hb)
    have HB7 := Lib.hid (HB6.out.trans (hb.mono HB6.out.size))
    have HI7 := Lib.hid (IntsAt.below HI6.out hb)
    have HIF7 := Lib.hid (IntsAt.below HIF6.out hb)
    clear hb HA6 HS6 HT6 HB6 HI6 HIF6
    have a0 := cellOf HA7.out 0 _ rfl
    have a1 := cellOf HA7.out 1 _ rfl
    have a2 := cellOf HA7.out 2 _ rfl
    have HSO : Hid (fitB iv 0 (havK notes F false notes.length) = true → L.length ≤ F.length) := fun h => HMIN.out F HFA.out h
    have HNIL : Hid (fitB iv 0 notes = true → L.length = 0) := fun h => by
      have := HMIN.out [] (Asc.nil _) (by rw [havK_nil notes _ (Nat.le_refl _), List.take_length]; exact h)
      simpa using this
    simp only
    generalize fitB iv 0 (havK notes F false notes.length) = so at *
    have hpr := Proof_any ⟨iv, pts, notes⟩ (.slice pa pts.length pc) (.slice na notes.length nc)
    have HPR := Lib.hid hpr
    clear hpr
    cases so
    case' true => have lt : decide (F.length < L.length) = false := by have := HSO.out rfl; simp; omega
    all_goals
      go_wp2_with fail
      refine (asc_any (.slice la L.length lc) L notes.length w8 HI7.out HASC.out (by omega)).mono ?_
      rintro e w9 ⟨rfl, hb⟩
      clear HSO
      try clear lt
      clear a0 a1 a2
      have HA8 := Lib.hid ((hb.block _ (lt_of_block HA7.out)).trans HA7.out)
      have HS8 := Lib.hid (HS7.out.up hb)
      have HT8 := Lib.hid (HT7.out.below hb)
      have HB8 := Lib.hid (HB7.out.trans (hb.mono HB7.out.size))
      have HI8 := Lib.hid (IntsAt.below HI7.out hb)
      have HIF8 := Lib.hid (IntsAt.below HIF7.out hb)
      clear hb HA7 HS7 HT7 HB7 HI7 HIF7
      have a0 := cellOf HA8.out 0 _ rfl
      have a1 := cellOf HA8.out 1 _ rfl
      have a2 := cellOf HA8.out 2 _ rfl
      cases hf : fitB iv 0 notes
      · obtain ⟨_, pe, pasc, pbad, _⟩ := proof_facts HV.out hf
        have hpl := asc_len pasc
        simp only at pe pasc pbad hpl
        have HMEET := Lib.hid (meet_facts (s := ⟨iv, pts, notes⟩) pbad HGOOD.out)
        have HPE := Lib.hid pe
        clear pe pasc pbad hf HNIL
        go_wp2_with fail
        refine (HPR.out w9 HS8.out).mono ?_
        rintro e w10 ⟨vp, rfl, hown, hb⟩
        rw [HPE.out]
        have HP9 := Lib.hid (intsAt_own hown (by omega))
        clear hown HPR a0 a1 a2
        have HA9 := Lib.hid ((hb.block _ (lt_of_block HA8.out)).trans HA8.out)
        have HS9 := Lib.hid (HS8.out.up hb)
        have HT9 := Lib.hid (HT8.out.below hb)
        have HB9 := Lib.hid (HB8.out.trans (hb.mono HB8.out.size))
        have HI9 := Lib.hid (IntsAt.below HI8.out hb)
        have HIF9 := Lib.hid (IntsAt.below HIF8.out hb)
        clear hb HA8 HS8 HT8 HB8 HI8 HIF8
        obtain ⟨P, hP⟩ : ∃ P, Hid (P = proofL ⟨iv, pts, notes⟩) := ⟨_, rfl⟩
        rw [← hP.out] at HP9 HMEET hpl
        obtain ⟨_, qa, qc, rfl, _⟩ := id HP9.out
        go_wp2
        go_loopw [14] (fun i wr => ∃ k : Nat, k ≤ P.length ∧ i = .int .i64 k ∧ Hid ((∀ j (hj : j < P.length), j < k → P[j] ∉ L) ∧ Below w10.heap.size w10 wr)) (fun i _ => P.length - (intOf i).toNat)
        case atStart => exact ⟨0, Nat.zero_le _, rfl, fun j _ hj => by omega, Below.refl _ _⟩
        case round =>
          obtain ⟨k, hk, rfl, HLp⟩ := hrel
          by_cases hlt : k < P.length
          · obtain ⟨_, a', c', e', hcc⟩ := IntsAt.below HP9.out HLp.out.2
            simp only [Value.slice.injEq, true_and] at e'
            obtain ⟨rfl, rfl⟩ := e'
            obtain ⟨bq, oq, rfl, hd⟩ := hcc (by intro e; simp [e] at hlt)
            have hck := hd k hlt
            have hg : P.getD k 0 = P[k] := by simp [hlt]
            rw [hg] at hck
            have HC5 := Lib.hid (has_any P[k] (.slice la L.length lc) L wr (IntsAt.below HI9.out HLp.out.2))
            have HN : Hid (P[k] ∉ L → ∀ j (hj : j < P.length), j < k + 1 → P[j] ∉ L) := fun hne j hj hjk => by
              rcases Nat.lt_or_ge j k with g | g
              · exact HLp.out.1 j hj g
              · obtain rfl : j = k := by omega
                exact hne
            have HTr := Lib.hid (HT9.out.below HLp.out.2)
            have HBr := Lib.hid (HB9.out.trans (HLp.out.2.mono HB9.out.size))
            have HLr := Lib.hid HLp.out.2
            have ml : (k : Int) < (P.length : Int) := by omega
            clear hcc hd hg HLp
            generalize P[k] = z at *
            go_wp2_with fail
            refine HC5.out.mono ?_
            rintro e w' ⟨rfl, rfl⟩
            clear HC5 hck
            by_cases hz : z ∈ L
            · have tz : decide (z ∈ L) = true := by simp [hz]
              rw [tz]
              clear tz hz HN
              go_wp2_with fail
              refine (awake_any _ HTr.out).mono ?_
              rintro e wA ⟨rfl, hb⟩
              have HBA := Lib.hid (HBr.out.trans (hb.mono HBr.out.size))
              clear hb
              go_wp2
              go_ret
              exact ⟨rfl, HBA.out⟩
            · have tz : decide (z ∈ L) = false := by simp [hz]
              rw [tz]
              have HNN := Lib.hid (HN.out hz)
              have HNB : Hid ((∀ j (hj : j < P.length), j < k + 1 → P[j] ∉ L) ∧ Below w10.heap.size w10 wr) := ⟨HNN.out, HLr.out⟩
              clear tz hz HN HNN
              go_wp2
              go_roundw
              case rel => exact ⟨k + 1, by omega, by go_num, HNB⟩
              case measure => simp [intOf]; omega
          · exact absurd (fun x hx => by
              obtain ⟨j, hj, rfl⟩ := List.getElem_of_mem hx
              exact HLp.out.1 j hj (by omega)) HMEET.out
      · have pe : proofE ⟨iv, pts, notes⟩ = 4 := by unfold proofE; rw [errS_zero HV.out, if_pos rfl, hf, if_pos rfl]
        have l0 : ((L.length : Int) == 0) = true := by have := HNIL.out hf; rw [this]; rfl
        have HPE := Lib.hid pe
        clear pe hf HNIL
        go_wp2_with fail
        refine (HPR.out w9 HS8.out).mono ?_
        rintro e w10 ⟨vp, rfl, hown, hb⟩
        rw [HPE.out]
        clear hown HPR a0 a1 a2
        have HA9 := Lib.hid ((hb.block _ (lt_of_block HA8.out)).trans HA8.out)
        have HS9 := Lib.hid (HS8.out.up hb)
        have HT9 := Lib.hid (HT8.out.below hb)
        have HB9 := Lib.hid (HB8.out.trans (hb.mono HB8.out.size))
        have HI9 := Lib.hid (IntsAt.below HI8.out hb)
        have HIF9 := Lib.hid (IntsAt.below HIF8.out hb)
        clear hb HA8 HS8 HT8 HB8 HI8 HIF8
        go_wp2_with fail
        refine (awake_any _ HT9.out).mono ?_
        rintro e wA ⟨rfl, hb⟩
        have HBA := Lib.hid (HB9.out.trans (hb.mono HB9.out.size))
        clear hb
        go_wp2
        go_ret
        exact ⟨rfl, HBA.out⟩
  · have tv : (errS ⟨iv, pts, notes⟩ == 0) = false := by simp [hv]
    rw [tv] at HVL
    have pl : wrongL ⟨iv, pts, notes⟩ = [] := by unfold wrongL; rw [if_neg hv]
    rw [pl] at hown
    obtain ⟨la, lc, rfl⟩ := own_slice hown
    have tn : (errS ⟨iv, pts, notes⟩ != 0) = true := by simp [hv]
    clear pl hown hv tv
    generalize errS ⟨iv, pts, notes⟩ = r at *
    go_wp2_with fail
    refine HVL.out.mono ?_
    rintro e w2 ⟨rfl, hb⟩
    clear HVL
    clear a0 a1 a2
    have HA2 := Lib.hid ((hb.block _ (lt_of_block HA1.out)).trans HA1.out)
    have HS2 := Lib.hid (HS1.out.up hb)
    have HT2 := Lib.hid (HT1.out.below hb)
    have HB2 := Lib.hid (HB1.out.trans (hb.mono HB1.out.size))
    clear hb HA1 HS1 HT1 HB1
    go_wp2_with fail
    refine (awake_any _ HT2.out).mono ?_
    rintro e wA ⟨rfl, hb⟩
    have HBA := Lib.hid (HB2.out.trans (hb.mono HB2.out.size))
    clear hb
    go_wp2
    go_ret
    exact ⟨rfl, HBA.out⟩
end Go.Proofs.YteipihhpoakhpaaGreatDoor
