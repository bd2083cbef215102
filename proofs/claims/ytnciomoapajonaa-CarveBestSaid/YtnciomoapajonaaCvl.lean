/- Package carve: look, the errors of surfaces and passes, what a point is filled and carved by. -/
import Derived.Test.YtnciomoapajonaaCvc
set_option linter.unusedSimpArgs false
set_option linter.unusedVariables false
namespace Go.Proofs.Ytnciomoapajonaa
open Go Go.RowKit Cv

theorem ret_int {k : IntKind} {a b : Int} (h : a = b) : Ending.returned (.int k a) = .returned (.int k b) := by rw [h]
theorem look_result {fn : Func} {p q : Tmp} (h : fn.results = #[.cell p 76, .tmp q]) (tmps : Array Value) (w : World) (g : Nat) (x y v : Value)
    (hp : tmps.getD p undef = .pointer (some ⟨g, 0, none⟩)) (hg : w.heap[g]? = some (.cells #[x, y] 76 (0, 0))) (hq : tmps.getD q undef = v) :
    (results fn tmps).run Try.prog w = .ok (.tuple #[.agg #[x, y], v]) w := by
  have c0 : w.cell? ⟨g, 0, none⟩ = some x := cellOf hg 0 _ rfl
  have c1 : w.cell? ⟨g, 1, none⟩ = some y := cellOf hg 1 _ rfl
  have hp' : tmps[p]?.getD undef = .pointer (some ⟨g, 0, none⟩) := by simpa using hp
  have hq' : tmps[q]?.getD undef = v := by simpa using hq
  simp only [results, h]
  simp [Sem.run_bind, Result.andThen, hp', hq', asAddr, go_sem, c0, c1]
theorem two_set {V : World} {g : Nat} {z0 z1 x y : Value} {T : TypeId} (h : V.heap[g]? = some (.cells #[z0, z1] T (0, 0))) :
    ((V.setCell ⟨g, 0, none⟩ x).setCell ⟨g, 1, none⟩ y).heap[g]? = some (.cells #[x, y] T (0, 0)) :=
  heap_setCell_same _ g 1 _ _ y (heap_setCell_same V g 0 _ _ x h)
theorem two_below {w V : World} {B g : Nat} {x y : Value} (h : Below B w V) (hg : B ≤ g) : Below B w ((V.setCell ⟨g, 0, none⟩ x).setCell ⟨g, 1, none⟩ y) :=
  (h.setCell (p := ⟨g, 0, none⟩) hg x).setCell (p := ⟨g, 1, none⟩) hg y

/-- A row and its error, or nothing and its error. -/
def LookP (r : Row) (pv : Value) (w : World) (e : Ending) (w' : World) : Prop :=
  e = .returned (.tuple #[if errR r = 0 then .agg #[.int .i64 r.st, pv] else .agg #[.int .i64 0, .slice none 0 0], .int .i64 (errR r)]) ∧ Below w.heap.size w w'
set_option maxRecDepth 100000 in
set_option maxHeartbeats 2000000 in
theorem look_any (r : Row) (pv : Value) (w : World) (hP : PtsAt w pv r.pts) : Calls Try.prog 55 #[.agg #[.int .i64 r.st, pv]] w (LookP r pv w) := by
  obtain ⟨st, pts⟩ := r
  simp only at hP ⊢
  obtain ⟨lp, pa, pc, rfl, _, _⟩ := id hP
  have hB : Below w.heap.size w ((w.alloc (Obj.cells #[.int .i64 st, .slice pa pts.length pc] 24)).alloc (Obj.cells #[.int .i64 0, .slice none 0 0] 76)) := by go_grown
  have HCK := Lib.hid (check_any ⟨st, pts⟩ (.slice pa pts.length pc) _ (hP.below hB))
  have HB := Lib.hid hB
  have HA := Lib.hid (heap_alloc2_old w (Obj.cells #[.int .i64 st, .slice pa pts.length pc] 24) (Obj.cells #[.int .i64 0, .slice none 0 0] 76))
  have HR := Lib.hid (heap_alloc2_new w (Obj.cells #[.int .i64 st, .slice pa pts.length pc] 24) (Obj.cells #[.int .i64 0, .slice none 0 0] 76))
  obtain ⟨z, HZ⟩ : ∃ z, Hid (errR ⟨st, pts⟩ = z) := ⟨_, rfl⟩
  have HZ2 : Hid ((checkR ⟨st, pts⟩).2.2 = z) := HZ.out
  rw [HZ2.out] at HCK
  clear hP hB
  go_enter Try.func55, Try.ntmps55
  go_wp2_with fail
  generalize (w.alloc (Obj.cells #[.int .i64 st, .slice pa pts.length pc] 24)).alloc (Obj.cells #[.int .i64 0, .slice none 0 0] 76) = w0 at *
  refine HCK.out.mono ?_
  rintro e w1 ⟨rfl, hb⟩
  have HA1 := Lib.hid ((hb.block _ (lt_of_block HA.out)).trans HA.out)
  have HR1 := Lib.hid ((hb.block _ (lt_of_block HR.out)).trans HR.out)
  have HB1 := Lib.hid (HB.out.trans (hb.mono HB.out.size))
  clear hb HCK HA HR HB
  have a0 := cellOf HA1.out 0 _ rfl
  have a1 := cellOf HA1.out 1 _ rfl
  have r0 := cellOf HR1.out 0 _ rfl
  have r1 := cellOf HR1.out 1 _ rfl
  have g0 := frozen_of_row _ _ 0 _ _ HR1.out
  have g1 := frozen_of_row _ _ 1 _ _ HR1.out
  by_cases hz : z = 0
  · subst hz
    go_wp2_with fail
    refine bodyPost_ret (look_result rfl _ _ (w.heap.size + 1) _ _ _ rfl (two_set HR1.out) rfl) rfl ⟨?_, two_below HB1.out (by simp)⟩
    rw [HZ.out, if_pos rfl]
    rfl
  · have tz : (z != 0) = true := by simp [hz]
    have HN := Lib.hid hz
    clear hz
    go_wp2_with fail
    refine bodyPost_ret (look_result rfl _ _ (w.heap.size + 1) _ _ _ rfl (two_set HR1.out) rfl) rfl ⟨?_, two_below HB1.out (by simp)⟩
    rw [HZ.out, if_neg HN.out]
    rfl

theorem begun_any (a b : Int) (w : World) (ha : 0 ≤ a) (ha2 : a ≤ 9000000) (hb : 0 ≤ b) (hb2 : b ≤ 9000000) :
    Calls Try.prog 80 #[.int .i64 a, .int .i64 b] w fun e w' => e = .returned (.int .i64 (max 0 (b - a))) ∧ w = w' := by
  go_enter Try.func80, Try.ntmps80
  go_wp2
  all_goals (go_ret; exact ⟨ret_int (by omega), rfl⟩)

set_option maxRecDepth 100000 in
set_option maxHeartbeats 1000000 in
theorem filled_any (st : Int) (pv : Value) (l : List Pt) (k : Nat) (h : Int) (w : World) (hP : PtsAt w pv l) (hk : k < l.length) (h0 : 0 ≤ h) (h9 : h ≤ 9000) (hb : ∀ p, p ∈ l → PtOk p) :
    Calls Try.prog 64 #[.agg #[.int .i64 st, pv], .int .i64 k, .int .i64 h] w fun e w' => e = .returned (.int .i64 (max 0 (h - l[k].bd))) ∧ Below w.heap.size w w' := by
  obtain ⟨lp, pa, pc, rfl, _, _⟩ := id hP
  obtain ⟨b, o, rfl, c0, _, _⟩ := hP.get hk
  have hbl : b < w.heap.size := World.block_lt_of_cell? w ⟨b, o + k * 3, none⟩ c0
  have ok := hb l[k] (List.getElem_mem _)
  have b0 := ok.b0
  have b9 := ok.b9
  have kI : (k : Int) < (l.length : Int) := by omega
  have lpI : (l.length : Int) ≤ 4611686018427387904 := by omega
  clear hP hb ok
  generalize l[k].bd = d at *
  go_enter Try.func64, Try.ntmps64
  go_wp2
  all_goals (go_ret; exact ⟨ret_int (by omega), by go_grown⟩)
set_option maxRecDepth 100000 in
set_option maxHeartbeats 1000000 in
theorem carved_any (st : Int) (pv : Value) (l : List Pt) (k : Nat) (h : Int) (w : World) (hP : PtsAt w pv l) (hk : k < l.length) (h0 : 0 ≤ h) (h9 : h ≤ 9000) (hb : ∀ p, p ∈ l → PtOk p) :
    Calls Try.prog 79 #[.agg #[.int .i64 st, pv], .int .i64 k, .int .i64 h] w fun e w' => e = .returned (.int .i64 (max 0 (l[k].bd - h))) ∧ Below w.heap.size w w' := by
  obtain ⟨lp, pa, pc, rfl, _, _⟩ := id hP
  obtain ⟨b, o, rfl, c0, _, _⟩ := hP.get hk
  have hbl : b < w.heap.size := World.block_lt_of_cell? w ⟨b, o + k * 3, none⟩ c0
  have ok := hb l[k] (List.getElem_mem _)
  have b0 := ok.b0
  have b9 := ok.b9
  have kI : (k : Int) < (l.length : Int) := by omega
  have lpI : (l.length : Int) ≤ 4611686018427387904 := by omega
  clear hP hb ok
  generalize l[k].bd = d at *
  go_enter Try.func79, Try.ntmps79
  go_wp2
  all_goals (go_ret; exact ⟨ret_int (by omega), by go_grown⟩)
/-- The error of a surface of so many points. -/
def surfE (s : List Int) (n : Nat) : Int := if s.length ≠ n then 3 else if allIn 0 9000 s = false then 7 else 0
set_option maxRecDepth 100000 in
set_option maxHeartbeats 1000000 in
theorem surfaceFault_any (sv : Value) (s : List Int) (n : Nat) (w : World) (hS : IntsAt w sv s) (hn : n ≤ 4611686018427387904) :
    Calls Try.prog 77 #[sv, .int .i64 n] w fun e w' => e = .returned (.int .i64 (surfE s n)) ∧ w = w' := by
  obtain ⟨ls, sa, sc, rfl, _, _⟩ := id hS
  have HS := Lib.hid hS
  clear hS
  by_cases hl : s.length = n
  · have tl : ((s.length : Int) != (n : Int)) = false := by simp [hl]
    obtain ⟨B, HB⟩ : ∃ B, Hid (allIn 0 9000 s = B) := ⟨_, rfl⟩
    have HF : Hid (surfE s n = if B = false then 7 else 0) := by show _ = _; unfold surfE; rw [if_neg (by simp [hl]), HB.out]
    clear hl
    go_enter Try.func77, Try.ntmps77
    go_wp2_with fail
    refine (within_any 0 9000 _ s w HS.out).mono ?_
    rintro e w' ⟨rfl, rfl⟩
    rw [HB.out]
    cases B
    · go_wp2
      go_ret
      exact ⟨by rw [HF.out]; rfl, rfl⟩
    · go_wp2
      go_ret
      exact ⟨by rw [HF.out]; rfl, rfl⟩
  · have tl : ((s.length : Int) != (n : Int)) = true := by simp; omega
    have HF : Hid (surfE s n = 3) := by show _ = _; unfold surfE; rw [if_pos hl]
    clear hl
    go_enter Try.func77, Try.ntmps77
    go_wp2
    go_ret
    exact ⟨by rw [HF.out]; rfl, rfl⟩
/-- The error of a pass over so many points. -/
def passE (n : Nat) (p : Int × Int) : Int := if (okIn 0 (n - 1) p.1 && okIn 0 (n - 1) p.2) = false then 4 else if p.2 < p.1 then 2 else 0
set_option maxRecDepth 100000 in
set_option maxHeartbeats 1000000 in
theorem passFault_any (f t : Int) (n : Nat) (w : World) (hn : n ≤ 4611686018427387904) :
    Calls Try.prog 68 #[.agg #[.int .i64 f, .int .i64 t], .int .i64 n] w fun e w' => e = .returned (.int .i64 (passE n (f, t))) ∧ Below w.heap.size w w' := by
  have nI : (n : Int) ≤ 4611686018427387904 := by omega
  obtain ⟨B, HB⟩ : ∃ B, Hid ((okIn 0 ((n : Int) - 1) f && okIn 0 ((n : Int) - 1) t) = B) := ⟨_, rfl⟩
  cases B
  · have HF : Hid (passE n (f, t) = 4) := by show _ = _; unfold passE; rw [if_pos HB.out]
    go_enter Try.func68, Try.ntmps68
    go_wp2_with fail
    refine (within_2 _ _ _ _ _ _ _ (by simp)).mono ?_
    rintro e w' ⟨rfl, rfl⟩
    rw [HB.out]
    go_wp2
    go_ret
    exact ⟨by rw [HF.out]; rfl, by go_grown⟩
  · by_cases hft : t < f
    · have HF : Hid (passE n (f, t) = 2) := by show _ = _; unfold passE; rw [if_neg (by simp [HB.out]), if_pos hft]
      go_enter Try.func68, Try.ntmps68
      go_wp2_with fail
      refine (within_2 _ _ _ _ _ _ _ (by simp)).mono ?_
      rintro e w' ⟨rfl, rfl⟩
      rw [HB.out]
      go_wp2
      go_ret
      exact ⟨by rw [HF.out]; rfl, by go_grown⟩
    · have HF : Hid (passE n (f, t) = 0) := by show _ = _; unfold passE; rw [if_neg (by simp [HB.out]), if_neg hft]
      have hft' : f ≤ t := by omega
      clear hft
      go_enter Try.func68, Try.ntmps68
      go_wp2_with fail
      refine (within_2 _ _ _ _ _ _ _ (by simp)).mono ?_
      rintro e w' ⟨rfl, rfl⟩
      rw [HB.out]
      go_wp2
      go_ret
      exact ⟨by rw [HF.out]; rfl, by go_grown⟩
end Go.Proofs.Ytnciomoapajonaa
