/- Notes that say what is true of some heights: the sheet of Told is valid, these heights keep to its notes, and what is answered of it follows. No program is walked here. -/
import Derived.Test.YtpmnnomeaaaenaaGreatDoorTurn
import Derived.Test.YtpmnnomeaaaenaaGreatDoorFacts
set_option linter.unusedSimpArgs false
set_option linter.unusedVariables false
namespace Go.Proofs.YtpmnnomeaaaenaaGreatDoor
open Go Go.RowKit Hs Dc Fct

/-- A note as it is told of two heights. -/
def toldX (iv ha hb less more : Int) (x : Note) : Note :=
  if x.k = 1 then { x with lo := max 0 (ha - less), hi := min 9000 (ha + more) }
  else if x.k = 2 then { x with lo := ha / iv, hi := ha / iv + 1 }
  else if x.k = 4 then { x with lo := max (-9000) (ha - hb - less), hi := min 9000 (ha - hb + more) }
  else x
def lessS (off : List Nat) (i : Nat) : Int := ((turnS off (2 * i) % 50 : Nat) : Int)
def moreS (off : List Nat) (i : Nat) : Int := ((turnS off (2 * i + 1) % 50 : Nat) : Int)
def hAt (h : List Int) (z : Int) : Int := h.getD z.toNat 0
def toldN (iv : Int) (h : List Int) (off : List Nat) (i : Nat) (x : Note) : Note := toldX iv (hAt h x.a) (hAt h x.b) (lessS off i) (moreS off i) x
/-- Whether it is told at all. -/
def toldB (iv : Int) (pts : List ByteArray) (h : List Int) (off : List Nat) (i : Nat) (x : Note) : Bool :=
  !(decide (x.k = 3) && !(hAt h x.a == hAt h x.b)) && (errS ⟨iv, pts, [toldN iv h off i x]⟩ == 0)
/-- The notes that are told, of the first k. -/
def toldL (iv : Int) (pts : List ByteArray) (notes : List Note) (h : List Int) (off : List Nat) : Nat → List Note
  | 0 => []
  | k + 1 => match notes[k]? with
    | none => toldL iv pts notes h off k
    | some x => if toldB iv pts h off k x then toldL iv pts notes h off k ++ [toldN iv h off k x] else toldL iv pts notes h off k
theorem toldL_le (iv : Int) (pts : List ByteArray) (notes : List Note) (h : List Int) (off : List Nat) : ∀ k, (toldL iv pts notes h off k).length ≤ k := by
  intro k
  induction k with
  | zero => exact Nat.le_refl _
  | succ k ih =>
    rw [toldL]
    split
    · omega
    · split
      · rw [List.length_append, List.length_singleton]; omega
      · omega
theorem toldL_mem (iv : Int) (pts : List ByteArray) (notes : List Note) (h : List Int) (off : List Nat) (z : Note) : ∀ k, z ∈ toldL iv pts notes h off k → ∃ i x, i < notes.length ∧ x ∈ notes ∧ toldB iv pts h off i x = true ∧ z = toldN iv h off i x := by
  intro k
  induction k with
  | zero => intro hz; cases hz
  | succ k ih =>
    intro hz
    rw [toldL] at hz
    split at hz
    · exact ih hz
    · rename_i x hx
      split at hz
      · rename_i hb
        rcases List.mem_append.1 hz with h1 | h1
        · exact ih h1
        · obtain ⟨hk, _⟩ := List.getElem?_eq_some_iff.1 hx
          exact ⟨k, x, hk, List.mem_of_getElem? hx, hb, List.mem_singleton.1 h1⟩
      · exact ih hz
theorem told_err {iv : Int} {pts : List ByteArray} {x : Note} (h : errS ⟨iv, pts, [x]⟩ = 0) : noteErr iv pts.length x = 0 :=
  ((check_valid ⟨iv, pts, [x]⟩).1 h).err0 x (by simp)
theorem err_parts {iv np : Int} {x : Note} (h : noteErr iv np x = 0) :
    kindB x = true ∧ withinB 0 (np - 1) [x.a, x.b] = true ∧ ¬ (over x = x.a ∨ over x = 8 ∧ x.b ≠ 0) ∧ withinB (endLo x) (endHi iv x) [x.lo, x.hi] = true ∧ ¬ (x.hi < x.lo ∨ x.k = 2 ∧ x.lo = x.hi) := by
  unfold noteErr at h
  split at h
  · cases h
  split at h
  · cases h
  split at h
  · cases h
  split at h
  · cases h
  split at h
  · cases h
  rename_i h1 h2 h3 h4 h5
  exact ⟨by simpa using h1, by simpa using h2, h3, by simpa using h4, h5⟩

theorem told_valid {s : Sheet} (hv : ValidS s) (h : List Int) (off : List Nat) : ValidS ⟨s.iv, s.pts, toldL s.iv s.pts s.notes h off s.notes.length⟩ := by
  refine hv.with_ _ (Nat.le_trans (toldL_le _ _ _ _ _ _) hv.nn) fun z hz => ?_
  obtain ⟨i, x, _, _, hb, rfl⟩ := toldL_mem _ _ _ _ _ z _ hz
  unfold toldB at hb
  rw [Bool.and_eq_true] at hb
  exact told_err (by simpa using hb.2)

def hF (h : List Int) (n : Nat) : Int := h.getD n 0
def HtsOk (h : List Int) : Prop := h.length ≤ 8 ∧ ∀ z, z ∈ h → 0 ≤ z ∧ z ≤ 9000
theorem HtsOk.bd {h : List Int} (ok : HtsOk h) (n : Nat) : 0 ≤ hF h n ∧ hF h n ≤ 9000 := by
  unfold hF
  by_cases hn : n < h.length
  · rw [List.getD_eq_getElem?_getD, List.getElem?_eq_getElem hn]
    exact ok.2 _ (List.getElem_mem hn)
  · rw [List.getD_eq_getElem?_getD, List.getElem?_eq_none (by omega)]
    simp
theorem HtsOk.ground {h : List Int} (ok : HtsOk h) : hF h 8 = 0 := by
  unfold hF
  rw [List.getD_eq_getElem?_getD, List.getElem?_eq_none ok.1]
  rfl
theorem hF_fin9 (h : List Int) (z : Int) (h0 : 0 ≤ z) (h8 : z ≤ 8) : hF h (fin9 z) = hAt h z := by
  have : ((fin9 z : Nat) : Int) = z := fin9_val z h0 h8
  unfold hF hAt
  rw [show ((fin9 z : Fin 9) : Nat) = z.toNat by omega]
theorem less_bd (off : List Nat) (i : Nat) : 0 ≤ lessS off i ∧ lessS off i ≤ 49 := by unfold lessS; omega
theorem more_bd (off : List Nat) (i : Nat) : 0 ≤ moreS off i ∧ moreS off i ≤ 49 := by unfold moreS; omega
theorem ediv_bd (x iv : Int) (h : 1 ≤ iv) : x / iv * iv ≤ x ∧ x < (x / iv + 1) * iv := by
  have h1 := Int.emod_nonneg x (show iv ≠ 0 by omega)
  have h2 := Int.emod_lt_of_pos x (show 0 < iv by omega)
  have h3 := Int.mul_ediv_add_emod x iv
  rw [Int.mul_comm] at h3
  rw [Int.add_mul]
  omega
theorem told_keeps {s : Sheet} (hv : ValidS s) {h : List Int} (ok : HtsOk h) (off : List Nat) {i : Nat} {x : Note} (hx : x ∈ s.notes) (hb : toldB s.iv s.pts h off i x = true) : NoteM s.iv 0 (toldN s.iv h off i x) (hF h) := by
  unfold toldB at hb
  rw [Bool.and_eq_true] at hb
  have he : noteErr s.iv s.pts.length (toldN s.iv h off i x) = 0 := told_err (by simpa using hb.2)
  have hkeep := hb.1
  have ok2 := noteOk_of _ _ _ hv.iv1 (by have := hv.np8; omega) he
  have hx0 := hv.ok x hx
  have ha := hF_fin9 h x.a hx0.a0 (by have := hx0.a8; omega)
  have hbb := hF_fin9 h x.b hx0.b0 (by have := hx0.b8; omega)
  have h8 := ok.ground
  have b1 := ok.bd (fin9 x.a)
  have b2 := ok.bd (fin9 x.b)
  obtain ⟨l1, l2⟩ := less_bd off i
  obtain ⟨m1, m2⟩ := more_bd off i
  have d := ediv_bd (hAt h x.a) s.iv hv.iv1
  have e8 : ((fin9 8) : Nat) = 8 := rfl
  have hl0 := ok2.l0
  have hh9 := ok2.h9
  have hle := ok2.le
  clear hb
  rw [NoteM_iff]
  unfold toldN at *
  generalize lessS off i = less at *
  generalize moreS off i = more at *
  unfold toldX at *
  rcases hx0.kind with e | e | e | e
  · simp only [e, if_true, over, hiOf, loOf, true_or, show ¬ ((1 : Int) = 2) by decide, if_false, e8, h8, ha] at *
    rw [cl_id _ (by omega) (by omega), cl_id _ (by omega) (by omega)]
    omega
  · simp only [e, if_true, over, hiOf, loOf, or_true, show ¬ ((2 : Int) = 1) by decide, if_false, e8, h8, ha] at *
    rw [cl_id _ (by omega) (by omega), cl_id _ (by omega) (by omega)]
    omega
  · have HQ : noteErr s.iv s.pts.length x = 0 → x.lo = 0 ∧ x.hi = 0 := fun he => by
      have h4 := (err_parts he).2.2.2.1
      have q1 : endLo x = 0 := by simp [endLo, e]
      have q2 : endHi s.iv x = 0 := by simp [endHi, e]
      rw [q1, q2] at h4
      simp [withinB] at h4
      omega
    simp only [e, show ¬ ((3 : Int) = 1) by decide, show ¬ ((3 : Int) = 2) by decide, show ¬ ((3 : Int) = 4) by decide, if_false, over, hiOf, loOf, or_self, ha, hbb] at *
    have hq : hAt h x.a = hAt h x.b := by simpa using hkeep
    have hx' := HQ he
    rw [cl_id _ (by omega) (by omega), cl_id _ (by omega) (by omega)]
    omega
  · simp only [e, if_true, show ¬ ((4 : Int) = 1) by decide, show ¬ ((4 : Int) = 2) by decide, if_false, over, hiOf, loOf, or_self, ha, hbb] at *
    rw [cl_id _ (by omega) (by omega), cl_id _ (by omega) (by omega)]
    omega
theorem told_sol {h : List Int} (ok : HtsOk h) : Sol 9 (ent unbFar) (hF h) := by
  intro a b ha hb
  have u := unbFar_ent ⟨a, ha⟩ ⟨b, hb⟩
  simp only at u
  rw [u]
  have b1 := ok.bd a
  have b2 := ok.bd b
  have g := ok.ground
  split
  · omega
  · rename_i hc
    by_cases e : a = b
    · subst e; omega
    · have : a = 8 := by
        rcases Nat.lt_or_ge a 8 with h1 | h1
        · exact absurd ⟨e, by omega⟩ hc
        · omega
      subst this; omega
/-- The sheet that Told returns. -/
def toldS (s : Sheet) (h : List Int) (off : List Nat) : Sheet := ⟨s.iv, s.pts, toldL s.iv s.pts s.notes h off s.notes.length⟩
theorem told_tr {s : Sheet} (hv : ValidS s) {h : List Int} (ok : HtsOk h) (off : List Nat) : TrB (bdsL s.iv 0 (toldS s h off).notes) (hF h) := by
  rw [TrB_notes]
  refine ⟨told_sol ok, fun z hz => ?_⟩
  obtain ⟨i, x, _, hx, hb, rfl⟩ := toldL_mem _ _ _ _ _ z _ hz
  exact told_keeps hv ok off hx hb

/-- What is answered of a sheet to whose notes some heights keep. -/
structure TruthS (t : Sheet) (h : List Int) : Prop where
  valid : ValidS t
  fit : fitB t.iv 0 t.notes = true
  lo : ∀ a, a < 8 → -(ent (measM t) 8 a) ≤ hF h a
  hi : ∀ a, a < 8 → hF h a ≤ ent (measM t) a 8
  d1 : ∀ a b, a < 9 → b < 9 → hF h a - hF h b ≤ ent (measM t) a b
  wrong : wrongL t = []
  wid : ∀ r, WidIs t r → r = 0
theorem truth_of {t : Sheet} (hv : ValidS t) {h : List Int} (ok : HtsOk h) (ht : TrB (bdsL t.iv 0 t.notes) (hF h)) : TruthS t h := by
  have hf : fitB t.iv 0 t.notes = true := (fitB_iff _ _ _).2 ⟨_, ht⟩
  have hM := (meas_fit hv hf).1
  have hd : ∀ a b, a < 9 → b < 9 → hF h a - hF h b ≤ ent (measM t) a b := fun a b ha hb => by
    rw [hM]
    exact (farM_most t.iv 0 t.notes hf ha hb).1 _ ht
  have h8 := ok.ground
  refine ⟨hv, hf, fun a ha => ?_, fun a ha => ?_, hd, ?_, fun r hr => ?_⟩
  · have := hd 8 a (by omega) (by omega)
    omega
  · have := hd a 8 (by omega) (by omega)
    omega
  · obtain ⟨_, _, h3⟩ := wrong_facts hv
    have := h3 [] (Asc.nil _) (by rw [havK_nil _ _ (Nat.le_refl _), List.take_length]; exact hf)
    exact List.length_eq_zero_iff.1 (by simpa using this)
  · obtain ⟨_, h2, _⟩ := hr
    rcases Nat.eq_zero_or_pos r with e | e
    · exact e
    · have := h2 0 e
      rw [show (((0 : Nat) : Int)) = 0 from rfl, hf] at this
      cases this
theorem TruthS.top {t : Sheet} {h : List Int} (T : TruthS t h) {p : Nat} (hp : p < t.pts.length) (hb : ∀ q, q < t.pts.length → hF h q ≤ hF h p) : (p : Int) ∈ highS t := by
  have hn := T.valid.np8
  unfold highS
  rw [if_pos (meas_fit T.valid T.fit).2]
  unfold topsK
  refine List.mem_map.2 ⟨p, List.mem_filter.2 ⟨List.mem_range.2 hp, ?_⟩, rfl⟩
  unfold topB
  rw [List.all_eq_true]
  intro b hbm
  have hbn := List.mem_range.1 hbm
  have := T.d1 p b (by omega) (by omega)
  have h2 := hb b hbn
  unfold ent at this
  exact decide_eq_true (by omega)
theorem TruthS.apart {t : Sheet} {h : List Int} (T : TruthS t h) {a b : Nat} (ha : a < t.pts.length) (hb : b < t.pts.length) :
    ∃ lo hi o, apartS t a b = ((lo, hi), o, 0) ∧ lo ≤ hF h a - hF h b ∧ hF h a - hF h b ≤ hi ∧ (o = 2 → 0 < hF h a - hF h b) ∧ (o = 1 → hF h a - hF h b < 0) ∧ (o = 3 → hF h a - hF h b = 0) ∧ 0 ≤ o ∧ o ≤ 3 := by
  have hn := T.valid.np8
  have d1 := T.d1 a b (by omega) (by omega)
  have d2 := T.d1 b a (by omega) (by omega)
  unfold ent at d1 d2
  refine ⟨-((measM t)[b * 9 + a]?.getD 0), (measM t)[a * 9 + b]?.getD 0, orderV (-((measM t)[b * 9 + a]?.getD 0)) ((measM t)[a * 9 + b]?.getD 0), ?_, ?_, ?_, ?_⟩
  · unfold apartS
    rw [if_neg (by rw [errS_zero T.valid]; simp), if_neg (by simp; omega), if_neg (by rw [(meas_fit T.valid T.fit).2]; simp)]
    simp
  · omega
  · omega
  · have d3 : -(hF h a - hF h b) ≤ (measM t)[b * 9 + a]?.getD 0 := by omega
    clear d2
    generalize hF h a - hF h b = d at *
    generalize (measM t)[b * 9 + a]?.getD 0 = u at *
    generalize (measM t)[a * 9 + b]?.getD 0 = v at *
    unfold orderV
    split
    · omega
    · split
      · omega
      · split <;> omega
end Go.Proofs.YtpmnnomeaaaenaaGreatDoor
