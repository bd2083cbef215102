/- Truths of a sheet, and what apart and fits of package sheet say of them. -/
import Derived.Test.YtacmaddjpaebfaaGreatDoorApart
set_option linter.unusedSimpArgs false
set_option linter.unusedVariables false
namespace Go.Proofs.YtacmaddjpaebfaaGreatDoor
open Go Go.RowKit Hs Dc

/-- Heights that keep to all bounds; number 8 is the ground. -/
def TrB (l : List Bd3) (h : Nat → Int) : Prop := Sol 9 (ent unbFar) h ∧ ∀ x, x ∈ l → h x.1.val - h x.2.1.val ≤ cl x.2.2
theorem unbFar_ent : ∀ a : Fin 9, ∀ b : Fin 9, ent unbFar a.val b.val = if a.val ≠ b.val ∧ a.val ≠ 8 then 9000 else 0 := by decide +kernel

theorem sol_apB (q : List Int) (hq : q.length = 81) (x : Bd3) (h : Nat → Int) : Sol 9 (ent (apB q x)) h ↔ Sol 9 (ent q) h ∧ h x.1.val - h x.2.1.val ≤ cl x.2.2 := by
  have key : ∀ i j, i < 9 → j < 9 → ent (apB q x) i j = if i = x.1.val ∧ j = x.2.1.val then (if cl x.2.2 < ent q x.1.val x.2.1.val then cl x.2.2 else ent q x.1.val x.2.1.val) else ent q i j :=
    fun i j hi hj => ent_set q hq _ _ i j _ x.1.isLt x.2.1.isLt hi hj
  constructor
  · intro hs
    refine ⟨fun a b ha hb => ?_, ?_⟩
    · have := hs a b ha hb
      rw [key a b ha hb] at this
      split at this
      · rename_i e
        rw [e.1, e.2] at this ⊢
        split at this <;> omega
      · exact this
    · have := hs _ _ x.1.isLt x.2.1.isLt
      rw [key _ _ x.1.isLt x.2.1.isLt, if_pos ⟨rfl, rfl⟩] at this
      split at this <;> omega
  · rintro ⟨hs, hx⟩ a b ha hb
    have := hs a b ha hb
    rw [key a b ha hb]
    split
    · rename_i e
      rw [e.1, e.2] at this ⊢
      split <;> omega
    · exact this
theorem sol_apL (l : List Bd3) (h : Nat → Int) : Sol 9 (ent (apL l)) h ↔ TrB l h := by
  unfold apL TrB
  suffices hh : ∀ q : List Int, q.length = 81 → (Sol 9 (ent (l.foldl apB q)) h ↔ Sol 9 (ent q) h ∧ ∀ x, x ∈ l → h x.1.val - h x.2.1.val ≤ cl x.2.2) from hh _ unbFar_length
  induction l with
  | nil => intro q _; simp
  | cons x l ih =>
    intro q hq
    rw [List.foldl_cons, ih _ (by rw [apB_length, hq]), sol_apB q hq]
    simp only [List.mem_cons, forall_eq_or_imp]
    exact ⟨fun ⟨⟨a, b⟩, c⟩ => ⟨a, b, c⟩, fun ⟨a, b, c⟩ => ⟨⟨a, b⟩, c⟩⟩

theorem start_unb : Start unbFar := by
  refine ⟨unbFar_length, fun a b ha hb => ?_, fun a b ha hb => ?_, fun a ha => ?_⟩
  · have := unbFar_ent ⟨a, ha⟩ ⟨b, hb⟩
    simp only at this
    rw [this]; split <;> omega
  · have := unbFar_ent ⟨a, ha⟩ ⟨b, hb⟩
    simp only at this
    rw [this]; split <;> omega
  · have := unbFar_ent ⟨a, ha⟩ ⟨a, ha⟩
    simp only at this
    rw [this]; split <;> omega
theorem start_apB (q : List Int) (hs : Start q) (x : Bd3) : Start (apB q x) := by
  have key : ∀ i j, i < 9 → j < 9 → ent (apB q x) i j = if i = x.1.val ∧ j = x.2.1.val then (if cl x.2.2 < ent q x.1.val x.2.1.val then cl x.2.2 else ent q x.1.val x.2.1.val) else ent q i j :=
    fun i j hi hj => ent_set q hs.len _ _ i j _ x.1.isLt x.2.1.isLt hi hj
  have c1 := cl_lo x.2.2
  refine ⟨by rw [apB_length, hs.len], fun a b ha hb => ?_, fun a b ha hb => ?_, fun a ha => ?_⟩
  · have := hs.lo a b ha hb
    rw [key a b ha hb]
    split
    · rename_i e; rw [e.1, e.2] at this; split <;> omega
    · exact this
  · have := hs.hi a b ha hb
    rw [key a b ha hb]
    split
    · rename_i e; rw [e.1, e.2] at this; split <;> omega
    · exact this
  · have := hs.diag a ha
    rw [key a a ha ha]
    split
    · rename_i e
      have e2 : ent q x.1.val x.2.1.val = ent q a a := by rw [← e.1, ← e.2]
      split <;> omega
    · exact this
theorem start_apL (l : List Bd3) : Start (apL l) := by
  unfold apL
  suffices hh : ∀ q : List Int, Start q → Start (l.foldl apB q) from hh _ start_unb
  induction l with
  | nil => intro q hq; exact hq
  | cons x l ih => intro q hq; exact ih _ (start_apB q hq x)

def StopsAt (m : List Int) (N : Nat) : Prop := (∀ k, k < N → negDiag (itM m (k + 1)) 9 = false ∧ itM m (k + 1) ≠ itM m k) ∧ (negDiag (itM m (N + 1)) 9 = true ∨ itM m (N + 1) = itM m N)
open Classical in
noncomputable def stopN (m : List Int) : Nat := if h : ∃ N, StopsAt m N then Classical.choose h else 0
theorem stopN_spec (m : List Int) (hs : Start m) : StopsAt m (stopN m) := by
  have h : ∃ N, StopsAt m N := stops m hs
  unfold stopN
  rw [dif_pos h]
  exact Classical.choose_spec h
/-- What tight hands back. -/
noncomputable def tightB (m : List Int) : Bool := !negDiag (itM m (stopN m + 1)) 9
noncomputable def tightR (m : List Int) : List Int := if negDiag (itM m (stopN m + 1)) 9 then z81 else itM m (stopN m)
theorem tightR_length (m : List Int) (hs : Start m) : (tightR m).length = 81 := by
  unfold tightR
  split
  · rfl
  · exact it_len m hs _
theorem tight_of (m : List Int) (hs : Start m) (w : World) : Calls Tryz.prog 118 #[.agg (cs m)] w fun e w' => e = .returned (.tuple #[.agg (cs (tightR m)), .bool (tightB m)]) ∧ Below w.heap.size w w' := by
  obtain ⟨h1, h2⟩ := stopN_spec m hs
  exact tight_any m (stopN m) w hs.len (it_bd m hs _ h1) h1 h2
theorem tightB_iff (m : List Int) (hs : Start m) : tightB m = true ↔ ∃ h, Sol 9 (ent m) h := by
  obtain ⟨h1, h2⟩ := stopN_spec m hs
  obtain ⟨m1, m2⟩ := tight_means m hs (stopN m) h1 h2
  unfold tightB
  cases hn : negDiag (itM m (stopN m + 1)) 9
  · obtain ⟨hc, hsol⟩ := m2 hn
    exact ⟨fun _ => ⟨_, (hsol _).2 (hc.col (c := 8) (by omega))⟩, fun _ => rfl⟩
  · exact ⟨(fun h => by cases h), (fun ⟨h, hS⟩ => absurd hS (m1 hn h))⟩
theorem tightR_closed (m : List Int) (hs : Start m) (h : tightB m = true) : Closed 9 (ent (tightR m)) ∧ ∀ x, Sol 9 (ent m) x ↔ Sol 9 (ent (tightR m)) x := by
  obtain ⟨h1, h2⟩ := stopN_spec m hs
  obtain ⟨_, m2⟩ := tight_means m hs (stopN m) h1 h2
  unfold tightB at h
  have hn : negDiag (itM m (stopN m + 1)) 9 = false := by simpa using h
  unfold tightR
  rw [hn, if_neg (by decide)]
  exact m2 hn
theorem tightR_no (m : List Int) (h : tightB m = false) : tightR m = z81 := by
  unfold tightB at h
  unfold tightR
  rw [if_pos (by simpa using h)]

/-- What apart and fits say of notes that are wider by some decimetres. -/
noncomputable def fitB (iv wd : Int) (l : List Note) : Bool := tightB (apL (bdsL iv wd l))
noncomputable def farM (iv wd : Int) (l : List Note) : List Int := tightR (apL (bdsL iv wd l))

theorem apart_any (iv wd : Int) (pa : Option Addr) (pn pc : Nat) (qv : Value) (notes : List Note) (w : World) (hwd : 0 ≤ wd ∧ wd ≤ 9000) (hiv : 1 ≤ iv ∧ iv ≤ 1000) (hok : ∀ x, x ∈ notes → NoteOk iv x) (hN : NotesAt w.heap.size w qv notes) :
    Calls Tryz.prog 98 #[.agg #[.int .i64 iv, .slice pa pn pc, qv, .int .i64 wd]] w fun e w' => e = .returned (.tuple #[.agg (cs (farM iv wd notes)), .bool (fitB iv wd notes)]) ∧ Below w.heap.size w w' := by
  obtain ⟨_, qa, qc, rfl, _⟩ := id hN
  have hs := start_apL (bdsL iv wd notes)
  exact apart_in iv wd pa qa pn pc qc notes w hwd hiv hok hN _ _ (fun w1 => tight_of _ hs w1) (tightR_length _ hs)

set_option maxRecDepth 100000 in
set_option maxHeartbeats 1000000 in
theorem fits_any (iv wd : Int) (pa qa : Option Addr) (pn pc qc : Nat) (notes : List Note) (w : World) (hwd : 0 ≤ wd ∧ wd ≤ 9000) (hiv : 1 ≤ iv ∧ iv ≤ 1000) (hok : ∀ x, x ∈ notes → NoteOk iv x) (hN : NotesAt w.heap.size w (.slice qa notes.length qc) notes) :
    Calls Tryz.prog 66 #[lookedV iv (.slice pa pn pc) (.slice qa notes.length qc) wd] w fun e w' => e = .returned (.bool (fitB iv wd notes)) ∧ Below w.heap.size w w' := by
  have hz := (zero_of_info zeroInfo).1
  have HOK := Lib.hid hok
  have HN := Lib.hid hN
  have hl := Lib.hid (tightR_length _ (start_apL (bdsL iv wd notes)))
  clear hok hN
  go_enter Tryz.func66, Tryz.ntmps66
  go_wp2_with fail
  have B0 : Below w.heap.size w (w.alloc (Obj.cells #[.int .i64 iv, .slice pa pn pc, .slice qa notes.length qc, .int .i64 wd] 80)) := (Below.refl _ _).alloc (Nat.le_refl _) _
  have N0 : NotesAt (w.alloc (Obj.cells #[.int .i64 iv, .slice pa pn pc, .slice qa notes.length qc, .int .i64 wd] 80)).heap.size (w.alloc (Obj.cells #[.int .i64 iv, .slice pa pn pc, .slice qa notes.length qc, .int .i64 wd] 80)) (.slice qa notes.length qc) notes := (HN.out.below B0).mono B0.size
  refine (apart_any iv wd pa pn pc _ notes _ hwd hiv HOK.out N0).mono ?_
  rintro e w1 ⟨rfl, hb1⟩
  obtain ⟨R, hR, HE⟩ : ∃ R, Hid (R.length = 81) ∧ Hid (R = farM iv wd notes) := ⟨_, hl, rfl⟩
  rw [← HE.out]
  have hB1 := B0.trans (hb1.mono B0.size)
  have n1 : FarBlk (w1.alloc (Obj.cells (cs z81) 99)) w1.heap.size z81 := FarBlk.new w1 z81
  have hsz := hB1.size
  clear N0 hb1 B0
  go_wp2_with (refine far_store rfl (.tmp 3) (.tmp 8) rfl w1.heap.size rfl R z81 rfl n1 hR.out rfl rfl ?_)
  go_ret
  exact ⟨rfl, below_setRow (hB1.alloc hsz _) hsz _⟩
end Go.Proofs.YtacmaddjpaebfaaGreatDoor
