/- Sheets with the same truths are told the same: what fits, apart and what is measured depend on the set of truths alone. -/
import Derived.Test.YtpmnnomeaaaenaaGreatDoorWid
import Derived.Test.YtpmnnomeaaaenaaGreatDoorHigh
import Derived.Test.YtpmnnomeaaaenaaGreatDoorHts
set_option linter.unusedSimpArgs false
set_option linter.unusedVariables false
namespace Go.Proofs.YtpmnnomeaaaenaaGreatDoor
open Go Go.RowKit Hs Dc

theorem list_ext_ent {p q : List Int} (hp : p.length = 81) (hq : q.length = 81) (h : ∀ a b, a < 9 → b < 9 → ent p a b = ent q a b) : p = q := by
  apply List.ext_getElem (hp.trans hq.symm)
  intro i h1 h2
  have := h (i / 9) (i % 9) (by omega) (Nat.mod_lt _ (by omega))
  unfold ent at this
  rw [show i / 9 * 9 + i % 9 = i by omega, List.getElem?_eq_getElem h1, List.getElem?_eq_getElem h2] at this
  simpa using this

theorem fitB_iff (iv wd : Int) (l : List Note) : fitB iv wd l = true ↔ ∃ h, TrB (bdsL iv wd l) h := by
  unfold fitB
  rw [tightB_iff _ (start_apL _)]
  simp only [sol_apL]

/-- The entries of farM are the most that one height can be above another. -/
theorem farM_most (iv wd : Int) (l : List Note) (hf : fitB iv wd l = true) {a b : Nat} (ha : a < 9) (hb : b < 9) : IsMost (TrB (bdsL iv wd l)) a b (ent (farM iv wd l) a b) := by
  obtain ⟨hc, hs⟩ := tightR_closed (apL (bdsL iv wd l)) (start_apL _) hf
  have := hc.most ha hb
  rw [show Sol 9 (ent (tightR (apL (bdsL iv wd l)))) = TrB (bdsL iv wd l) from funext fun x => propext ((hs x).symm.trans (sol_apL _ x))] at this
  exact this
theorem farM_length (iv wd : Int) (l : List Note) : (farM iv wd l).length = 81 := tightR_length _ (start_apL _)

theorem fitB_ext {iv wd iv' wd' : Int} {l l' : List Note} (h : ∀ x, TrB (bdsL iv wd l) x ↔ TrB (bdsL iv' wd' l') x) : fitB iv wd l = fitB iv' wd' l' := by
  rw [Bool.eq_iff_iff, fitB_iff, fitB_iff]
  simp only [h]
theorem farM_ext {iv wd iv' wd' : Int} {l l' : List Note} (h : ∀ x, TrB (bdsL iv wd l) x ↔ TrB (bdsL iv' wd' l') x) : farM iv wd l = farM iv' wd' l' := by
  cases hf : fitB iv wd l
  · have hf' := (fitB_ext h).symm.trans hf
    unfold farM
    rw [tightR_no _ hf, tightR_no _ hf']
  · have hf' := (fitB_ext h).symm.trans hf
    refine list_ext_ent (farM_length _ _ _) (farM_length _ _ _) fun a b ha hb => ?_
    have h1 := farM_most iv wd l hf ha hb
    have h2 := farM_most iv' wd' l' hf' ha hb
    rw [← show TrB (bdsL iv wd l) = TrB (bdsL iv' wd' l') from funext fun x => propext (h x)] at h2
    exact h1.unique h2

/-- A note is kept by these heights. -/
def NoteM (iv wd : Int) (n : Note) (h : Nat → Int) : Prop := ∀ x, x ∈ bds iv wd n → h x.1.val - h x.2.1.val ≤ cl x.2.2
theorem TrB_notes (iv wd : Int) (l : List Note) (h : Nat → Int) : TrB (bdsL iv wd l) h ↔ Sol 9 (ent unbFar) h ∧ ∀ n, n ∈ l → NoteM iv wd n h := by
  unfold TrB bdsL NoteM
  simp only [List.mem_flatMap]
  exact ⟨fun ⟨a, b⟩ => ⟨a, fun n hn x hx => b x ⟨n, hn, hx⟩⟩, fun ⟨a, b⟩ => ⟨a, fun x ⟨n, hn, hx⟩ => b n hn x hx⟩⟩
/-- ... said in numbers. -/
theorem NoteM_iff (iv wd : Int) (n : Note) (h : Nat → Int) : NoteM iv wd n h ↔ h (fin9 n.a) - h (fin9 (over n)) ≤ cl (hiOf iv n + wd) ∧ h (fin9 (over n)) - h (fin9 n.a) ≤ cl (wd - loOf iv n) := by
  unfold NoteM bds
  simp

/-- A slope that is said the other way round. -/
def flip (n : Note) : Note := { n with a := n.b, b := n.a, lo := -n.hi, hi := -n.lo }
theorem NoteM_flip (iv wd : Int) (n : Note) (hk : n.k = 4) (h : Nat → Int) : NoteM iv wd (flip n) h ↔ NoteM iv wd n h := by
  rw [NoteM_iff, NoteM_iff]
  unfold flip over loOf hiOf
  simp only [hk]
  simp only [show ¬ ((4 : Int) = 1 ∨ (4 : Int) = 2) by decide, show ¬ ((4 : Int) = 2) by decide, if_false]
  rw [show -n.lo + wd = wd - n.lo by omega, show wd - -n.hi = n.hi + wd by omega]
  exact And.comm

/-- The number by which notes have to be wider is one alone. -/
theorem WidIs.unique {s t : Sheet} (h : ∀ wd : Nat, fitB s.iv wd s.notes = fitB t.iv wd t.notes) {r r' : Nat} (a : WidIs s r) (b : WidIs t r') : r = r' := by
  obtain ⟨a1, a2, a3⟩ := a
  obtain ⟨b1, b2, b3⟩ := b
  rcases Nat.lt_trichotomy r r' with hl | he | hg
  · have := a3 (by omega)
    rw [h, b2 r hl] at this
    cases this
  · exact he
  · have := b3 (by omega)
    rw [← h, a2 r' hg] at this
    cases this

/-! ### A further note -/
theorem TrB_snoc (iv wd : Int) (l : List Note) (x : Note) (h : Nat → Int) : TrB (bdsL iv wd (l ++ [x])) h ↔ TrB (bdsL iv wd l) h ∧ NoteM iv wd x h := by
  rw [TrB_notes, TrB_notes]
  simp only [List.mem_append, List.mem_singleton]
  exact ⟨fun ⟨a, b⟩ => ⟨⟨a, fun n hn => b n (.inl hn)⟩, b x (.inr rfl)⟩, fun ⟨⟨a, b⟩, c⟩ => ⟨a, fun n hn => hn.elim (b n) (fun e => e ▸ c)⟩⟩
theorem TrB_sub {iv wd : Int} {l l' : List Note} (h : ∀ x, x ∈ l' → x ∈ l) {y : Nat → Int} (ht : TrB (bdsL iv wd l) y) : TrB (bdsL iv wd l') y := by
  rw [TrB_notes] at ht ⊢
  exact ⟨ht.1, fun n hn => ht.2 n (h n hn)⟩
/-- Fewer notes fit the more. -/
theorem fitB_sub {iv wd : Int} {l l' : List Note} (h : ∀ x, x ∈ l' → x ∈ l) (hf : fitB iv wd l = true) : fitB iv wd l' = true := by
  rw [fitB_iff] at hf ⊢
  obtain ⟨y, hy⟩ := hf
  exact ⟨y, TrB_sub h hy⟩
theorem farM_closed (iv wd : Int) (l : List Note) (hf : fitB iv wd l = true) : Closed 9 (ent (farM iv wd l)) ∧ ∀ x, TrB (bdsL iv wd l) x ↔ Sol 9 (ent (farM iv wd l)) x := by
  obtain ⟨hc, hs⟩ := tightR_closed (apL (bdsL iv wd l)) (start_apL _) hf
  exact ⟨hc, fun x => (sol_apL _ x).symm.trans (hs x)⟩
theorem farM_le (iv wd : Int) (l : List Note) (hf : fitB iv wd l = true) {a b : Nat} (ha : a < 9) (hb : b < 9) : ent (farM iv wd l) a b ≤ ent unbFar a b := by
  obtain ⟨_, x, hx, e⟩ := farM_most iv wd l hf ha hb
  have := hx.1 a b ha hb
  omega
theorem farM_mono {iv wd : Int} {l l' : List Note} (h : ∀ x, x ∈ l → x ∈ l') (hf : fitB iv wd l' = true) {a b : Nat} (ha : a < 9) (hb : b < 9) : ent (farM iv wd l') a b ≤ ent (farM iv wd l) a b := by
  obtain ⟨_, x, hx, e⟩ := farM_most iv wd l' hf ha hb
  have := (farM_most iv wd l (fitB_sub h hf) ha hb).1 x (TrB_sub h hx)
  omega
theorem fit_snoc (iv wd : Int) (l : List Note) (x : Note) (hf : fitB iv wd l = true) {a b : Nat} (ha : a < 9) (hb : b < 9) (k : Int) (hx : ∀ h, NoteM iv wd x h ↔ h a - h b = k) :
    fitB iv wd (l ++ [x]) = (decide (-(ent (farM iv wd l) b a) ≤ k) && decide (k ≤ ent (farM iv wd l) a b)) := by
  obtain ⟨hc, hs⟩ := farM_closed iv wd l hf
  rw [Bool.eq_iff_iff, fitB_iff]
  simp only [TrB_snoc, hs, hx, Bool.and_eq_true, decide_eq_true_eq]
  exact hc.reach ha hb k
theorem fin9_nat (a : Nat) (h : a < 9) : ((fin9 (a : Int)) : Nat) = a := by
  have : ((fin9 (a : Int)) : Nat) = (a : Int).toNat % 9 := rfl
  omega
theorem NoteM_spot (iv : Int) (a : Nat) (ha : a < 8) (n : Int) (h1 : -20000 ≤ n) (h2 : n ≤ 20000) (h : Nat → Int) : NoteM iv 0 ⟨1, a, 0, n, n⟩ h ↔ h a - h 8 = n := by
  have e8 : ((fin9 8) : Nat) = 8 := rfl
  have e1 : over ⟨1, a, 0, n, n⟩ = 8 := by simp [over]
  have e2 : hiOf iv ⟨1, a, 0, n, n⟩ = n := by simp [hiOf]
  have e3 : loOf iv ⟨1, a, 0, n, n⟩ = n := by simp [loOf]
  rw [NoteM_iff, e1, e2, e3]
  simp only [fin9_nat a (by omega), e8]
  rw [cl_id _ (by omega) (by omega), cl_id _ (by omega) (by omega)]
  omega
theorem NoteM_slope (iv : Int) (a b : Nat) (ha : a < 8) (hb : b < 8) (n : Int) (h1 : -20000 ≤ n) (h2 : n ≤ 20000) (h : Nat → Int) : NoteM iv 0 ⟨4, a, b, n, n⟩ h ↔ h a - h b = n := by
  have e1 : over ⟨4, a, b, n, n⟩ = b := by simp [over]
  have e2 : hiOf iv ⟨4, a, b, n, n⟩ = n := by simp [hiOf]
  have e3 : loOf iv ⟨4, a, b, n, n⟩ = n := by simp [loOf]
  rw [NoteM_iff, e1, e2, e3]
  simp only [fin9_nat a (by omega), fin9_nat b (by omega)]
  rw [cl_id _ (by omega) (by omega), cl_id _ (by omega) (by omega)]
  omega

/-! ### Valid sheets with other notes -/
theorem ValidS.err0 {s : Sheet} (h : ValidS s) : ∀ x, x ∈ s.notes → noteErr s.iv s.pts.length x = 0 := by
  intro x hx
  obtain ⟨k, hk, rfl⟩ := List.getElem_of_mem hx
  have := h.errs k hk
  unfold ntErr at this
  rwa [List.getElem?_eq_getElem hk] at this
theorem ValidS.with_ {s : Sheet} (h : ValidS s) (l : List Note) (hl : l.length ≤ 12) (hx : ∀ x, x ∈ l → noteErr s.iv s.pts.length x = 0) : ValidS ⟨s.iv, s.pts, l⟩ :=
  ⟨h.iv1, h.iv2, h.np1, h.np8, hl, h.names, fun k hk => by
    unfold ntErr
    rw [List.getElem?_eq_getElem hk]
    exact hx _ (List.getElem_mem hk)⟩
theorem errS_zero {s : Sheet} (h : ValidS s) : errS s = 0 := (check_valid s).2 h
theorem spot_ok (iv np : Int) (a : Nat) (n : Int) (ha : (a : Int) < np) (hp : np ≤ 8) (h1 : 0 ≤ n) (h2 : n ≤ 9000) : noteErr iv np ⟨1, a, 0, n, n⟩ = 0 := by
  refine ne_0 _ _ _ rfl ?_ ?_ ?_ ?_
  · simp [withinB]; omega
  · simp [over]; omega
  · simp [withinB, endLo, endHi]; omega
  · simp
theorem slope_ok (iv np : Int) (a b : Nat) (n : Int) (ha : (a : Int) < np) (hb : (b : Int) < np) (hp : np ≤ 8) (hab : a ≠ b) (h1 : -9000 ≤ n) (h2 : n ≤ 9000) : noteErr iv np ⟨4, a, b, n, n⟩ = 0 := by
  refine ne_0 _ _ _ rfl ?_ ?_ ?_ ?_
  · simp [withinB]; omega
  · simp [over]; omega
  · simp [withinB, endLo, endHi]; omega
  · simp
theorem fitsS_of {s : Sheet} (h : ValidS s) : fitsS s = fitB s.iv 0 s.notes := by unfold fitsS; rw [if_pos (errS_zero h)]
theorem meas_fit {s : Sheet} (h : ValidS s) (hf : fitB s.iv 0 s.notes = true) : measM s = farM s.iv 0 s.notes ∧ measE s = 0 := by
  unfold measM measE
  rw [errS_zero h, if_pos rfl, if_pos rfl, if_pos hf, if_pos hf]
  exact ⟨rfl, rfl⟩
theorem meas_no {s : Sheet} (h : ValidS s) (hf : fitB s.iv 0 s.notes = false) : measE s = 9 := by
  unfold measE
  rw [errS_zero h, if_pos rfl, hf]
  rfl
/-- Between which numbers the heights are that are told. -/
theorem farM_ends (iv : Int) (l : List Note) (hf : fitB iv 0 l = true) {a : Nat} (ha : a < 8) : 0 ≤ -(ent (farM iv 0 l) 8 a) ∧ -(ent (farM iv 0 l) 8 a) ≤ ent (farM iv 0 l) a 8 ∧ ent (farM iv 0 l) a 8 ≤ 9000 := by
  obtain ⟨hc, _⟩ := farM_closed iv 0 l hf
  have h1 := farM_le iv 0 l hf (a := 8) (b := a) (by omega) (by omega)
  have h2 := farM_le iv 0 l hf (a := a) (b := 8) (by omega) (by omega)
  have h3 := hc.tri 8 8 a (by omega) (by omega) (by omega)
  have h4 := hc.diag 8 (by omega)
  have u1 := unbFar_ent ⟨8, by omega⟩ ⟨a, by omega⟩
  have u2 := unbFar_ent ⟨a, by omega⟩ ⟨8, by omega⟩
  simp only at u1 u2
  rw [u1] at h1
  rw [u2] at h2
  rw [if_neg (by omega)] at h1
  split at h2 <;> omega
theorem farM_apart (iv : Int) (l : List Note) (hf : fitB iv 0 l = true) {a b : Nat} (ha : a < 8) (hb : b < 8) : -9000 ≤ -(ent (farM iv 0 l) b a) ∧ -(ent (farM iv 0 l) b a) ≤ ent (farM iv 0 l) a b ∧ ent (farM iv 0 l) a b ≤ 9000 := by
  obtain ⟨hc, _⟩ := farM_closed iv 0 l hf
  have h1 := farM_le iv 0 l hf (a := b) (b := a) (by omega) (by omega)
  have h2 := farM_le iv 0 l hf (a := a) (b := b) (by omega) (by omega)
  have h3 := hc.tri a a b (by omega) (by omega) (by omega)
  have h4 := hc.diag a (by omega)
  have u1 := unbFar_ent ⟨b, by omega⟩ ⟨a, by omega⟩
  have u2 := unbFar_ent ⟨a, by omega⟩ ⟨b, by omega⟩
  simp only at u1 u2
  rw [u1] at h1
  rw [u2] at h2
  split at h1 <;> split at h2 <;> omega
end Go.Proofs.YtpmnnomeaaaenaaGreatDoor
