/- Package edge: the errors of a sheet and of an edge by themselves. -/
import Derived.Test.YtojdocomkhihoaaEm
set_option linter.unusedSimpArgs false
set_option linter.unusedVariables false
namespace Go.Proofs.Ytojdocomkhihoaa
open Go Go.RowKit Ed

theorem same_any (g : Nat) (nm x : ByteArray) (a b p q : Int) (w : World) (hg : w.heap[g]? = some (.cells #[.string x, .int .i64 p, .int .i64 q] 66 (0, 0))) :
    Calls Try.prog 81 #[.agg #[.string nm, .int .i64 a, .int .i64 b], .pointer (some ⟨g, 0, none⟩)] w fun e w' => e = .returned (.bool (nm.toList == x.toList)) ∧ Below w.heap.size w w' := by
  have c0 := cellOf hg 0 _ rfl
  have gl := lt_of_block hg
  go_enter Try.func81, Try.ntmps81
  go_wp2
  go_ret
  exact ⟨rfl, by go_grown⟩
def twiceB (l : List Sht) (x : ByteArray) : Bool := l.any fun b => b.nm.toList == x.toList
theorem twiceB_more (l : List Sht) (x : ByteArray) (k : Nat) (h : k < l.length) (hf : twiceB (l.take k) x = false) (hx : (l[k].nm.toList == x.toList) = false) : twiceB (l.take (k + 1)) x = false := by
  unfold twiceB at *
  rw [List.take_succ_eq_append_getElem h, List.any_append, hf]
  simp [hx]
theorem twiceB_at (l : List Sht) (x : ByteArray) (k : Nat) (h : k < l.length) (hx : (l[k].nm.toList == x.toList) = true) : twiceB l x = true := by
  unfold twiceB
  rw [List.any_eq_true]
  exact ⟨l[k], List.getElem_mem h, hx⟩
set_option maxRecDepth 100000 in
set_option maxHeartbeats 2000000 in
theorem shIndex_any (g : Nat) (v : Value) (l : List Sht) (x : ByteArray) (p q : Int) (w : World) (hv : ShtsAt w v l) (hl : l.length ≤ 5) (hg : w.heap[g]? = some (.cells #[.string x, .int .i64 p, .int .i64 q] 66 (0, 0))) :
    Calls Try.prog 101 #[v, .func (.func 81) #[] #[.pointer (some ⟨g, 0, none⟩)]] w fun e w' => (∃ k : Int, e = .returned (.int .i64 k) ∧ Hid (decide (0 ≤ k) = twiceB l x)) ∧ Below w.heap.size w w' := by
  obtain ⟨_, a, cap, rfl, _⟩ := id hv
  have HV := Lib.hid hv
  have HG := Lib.hid hg
  clear hv hg
  obtain ⟨n, hn⟩ : ∃ n, l.length = n := ⟨_, rfl⟩
  have HN := Lib.hid hn
  rw [hn] at HV hl ⊢
  have nI : (n : Int) ≤ 5 := by omega
  clear hn
  go_enter Try.func101, Try.ntmps101
  go_wp2
  go_loopg [8] n (fun gh i wr => ∃ (k : Nat), gh + k = n ∧ i = .int .i64 (k : Int) ∧ Hid (twiceB (l.take k) x = false) ∧ Hid (Below w.heap.size w wr))
  case atStart => exact ⟨0, by omega, rfl, rfl, Below.refl _ _⟩
  case round =>
    obtain ⟨k, hkn, rfl, HA, HB⟩ := hrel
    by_cases hlt : k < n
    · have kI : (k : Int) < (n : Int) := by omega
      have hk : k < l.length := by rw [HN.out]; exact hlt
      obtain ⟨b, o, rfl, d0, d1, d2⟩ := (HV.out.below HB.out).get hk
      have HM := Lib.hid (twiceB_more l x k hk HA.out)
      have HX := Lib.hid (twiceB_at l x k hk)
      generalize l[k] = s at *
      obtain ⟨nm, wt, most⟩ := s
      simp only at d0 d1 d2 HM HX
      go_wp2_with fail
      refine (same_any g nm x wt most p q wr ((HB.out.block _ (lt_of_block HG.out)).trans HG.out)).mono ?_
      rintro e w2 ⟨rfl, hb⟩
      have HB2 := Lib.hid (HB.out.trans (hb.mono HB.out.size))
      clear hb d0 d1 d2
      cases hyx : nm.toList == x.toList
      · have HQ := Lib.hid (HM.out hyx)
        go_wp2_with fail
        go_roundg (gk - 1)
        case measure => omega
        case rel => exact ⟨k + 1, by omega, by go_num, HQ, HB2⟩
      · have HQ := Lib.hid (HX.out hyx)
        go_wp2_with fail
        go_ret
        exact ⟨⟨k, rfl, by rw [HQ.out]; show decide _ = true; simp⟩, HB2.out⟩
    · have e : l.take k = l := List.take_of_length_le (by have := HN.out; omega)
      rw [e] at HA
      have kI : ¬ (k : Int) < (n : Int) := by omega
      clear hlt e hkn
      go_wp2_with fail
      go_ret
      exact ⟨⟨-1, rfl, by rw [HA.out]; show decide _ = false; simp⟩, HB.out⟩
set_option maxRecDepth 100000 in
set_option maxHeartbeats 2000000 in
theorem shContains_any (g : Nat) (v : Value) (l : List Sht) (x : ByteArray) (p q : Int) (w : World) (hv : ShtsAt w v l) (hl : l.length ≤ 5) (hg : w.heap[g]? = some (.cells #[.string x, .int .i64 p, .int .i64 q] 66 (0, 0))) :
    Calls Try.prog 80 #[v, .func (.func 81) #[] #[.pointer (some ⟨g, 0, none⟩)]] w fun e w' => e = .returned (.bool (twiceB l x)) ∧ Below w.heap.size w w' := by
  have HI := Lib.hid (shIndex_any g v l x p q w hv hl hg)
  obtain ⟨_, a, cap, rfl, _⟩ := id hv
  clear hv hg
  go_enter Try.func80, Try.ntmps80
  go_wp2_with fail
  refine HI.out.mono ?_
  rintro e w2 ⟨⟨k, rfl, HK⟩, hb⟩
  have HB := Lib.hid hb
  clear hb
  go_wp2_with fail
  go_ret
  exact ⟨by rw [← HK.out]; rfl, HB.out⟩
set_option maxRecDepth 100000 in
set_option maxHeartbeats 4000000 in
theorem sheetFault_any (s : Sht) (v : Value) (l : List Sht) (w : World) (hv : ShtsAt w v l) (hl : l.length ≤ 5) (hs : s.nm.size ≤ 140737488351232) :
    Calls Try.prog 49 #[.agg #[.string s.nm, .int .i64 s.wt, .int .i64 s.most], v] w fun e w' => e = .returned (.int .i64 (shErr l s)) ∧ Below w.heap.size w w' := by
  obtain ⟨nm, wt, most⟩ := s
  simp only at hs ⊢
  obtain ⟨_, a, cap, rfl, _⟩ := id hv
  have hB : Below w.heap.size w (w.alloc (Obj.cells #[.string nm, .int .i64 wt, .int .i64 most] 66)) := by go_grown
  have HB := Lib.hid hB
  have HV := Lib.hid (hv.below hB)
  have HG := Lib.hid (heap_alloc_new w (Obj.cells #[.string nm, .int .i64 wt, .int .i64 most] 66))
  have HE : Hid (shErr l ⟨nm, wt, most⟩ = if Sht.nameB nm.data.toList = false then 6 else if twiceB l nm = true then 5 else if inB 0 20 wt = false ∨ inB 0 6 most = false then 7 else 0) := rfl
  clear hv hB
  go_enter Try.func49, Try.ntmps49
  go_wp2_with fail
  generalize w.alloc (Obj.cells #[.string nm, .int .i64 wt, .int .i64 most] 66) = w0 at *
  refine (Sht.name_any nm w0 hs).mono ?_
  rintro e w1 ⟨rfl, hb⟩
  have HB1 := Lib.hid (HB.out.trans (hb.mono HB.out.size))
  have HV1 := Lib.hid (HV.out.below hb)
  have HG1 := Lib.hid ((hb.block _ (lt_of_block HG.out)).trans HG.out)
  clear hb HB HV HG
  cases hn : Sht.nameB nm.data.toList
  · rw [hn, if_pos rfl] at HE
    clear hn
    go_wp2_with fail
    go_ret
    exact ⟨by rw [HE.out]; rfl, HB1.out⟩
  · rw [hn, if_neg (by simp)] at HE
    clear hn
    go_wp2_with fail
    refine (shContains_any _ _ l nm wt most w1 HV1.out hl HG1.out).mono ?_
    rintro e w2 ⟨rfl, hb⟩
    have HB2 := Lib.hid (HB1.out.trans (hb.mono HB1.out.size))
    have HG2 := Lib.hid ((hb.block _ (lt_of_block HG1.out)).trans HG1.out)
    clear hb HB1 HV1 HG1
    cases ht : twiceB l nm
    · rw [ht, if_neg (by simp)] at HE
      clear ht
      have g1 := cellOf HG2.out 1 _ rfl
      have g2 := cellOf HG2.out 2 _ rfl
      have gl := lt_of_block HG2.out
      have h1 := within_1 0 20 wt w2 w2.heap.size 3 rfl
      obtain ⟨B1, hB1⟩ : ∃ B, okIn 0 20 wt = B := ⟨_, rfl⟩
      have e1 : inB 0 20 wt = B1 := hB1
      rw [hB1] at h1
      rw [e1] at HE
      have HC1 := Lib.hid h1
      clear h1 hB1 e1
      go_wp2_with fail
      refine HC1.out.mono ?_
      rintro e w3 ⟨rfl, rfl⟩
      clear HC1
      cases B1
      · rw [if_pos (Or.inl rfl)] at HE
        go_wp2_with fail
        go_ret
        exact ⟨by rw [HE.out]; rfl, HB2.out.trans (by go_grown)⟩
      · have h2 := within_1 0 6 most (w2.alloc (Obj.cells #[.int .i64 wt] 3)) (w2.heap.size + 1) 3 (by simp)
        obtain ⟨B2, hB2⟩ : ∃ B, okIn 0 6 most = B := ⟨_, rfl⟩
        have e2 : inB 0 6 most = B2 := hB2
        rw [hB2] at h2
        rw [e2] at HE
        have HC2 := Lib.hid h2
        clear h2 hB2 e2
        go_wp2_with fail
        refine HC2.out.mono ?_
        rintro e w3 ⟨rfl, rfl⟩
        clear HC2
        cases B2
        · rw [if_pos (Or.inr rfl)] at HE
          go_wp2_with fail
          go_ret
          exact ⟨by rw [HE.out]; rfl, HB2.out.trans (by go_grown)⟩
        · rw [if_neg (by simp)] at HE
          go_wp2_with fail
          go_ret
          exact ⟨by rw [HE.out]; rfl, HB2.out.trans (by go_grown)⟩
    · rw [ht, if_pos rfl] at HE
      clear ht
      go_wp2_with fail
      go_ret
      exact ⟨by rw [HE.out]; rfl, HB2.out⟩
end Go.Proofs.Ytojdocomkhihoaa
