/- Package carve: Best. -/
import Derived.Test.YtnciomoapajonaaCxd
import Derived.BigQuiet
set_option linter.unusedSimpArgs false
set_option linter.unusedVariables false
namespace Go.Proofs.Ytnciomoapajonaa
open Go Go.RowKit Go.Shelf Cv

/-- What Best answers. -/
def bestR (r : Row) (q : Bool) : List Int × Int × Int × Int :=
  if boundE r = 0 then (surfL r.st q (bndR r) none, (wayK r q 0 none).2.1, (wayK r q 0 none).2.2, 0) else ([], 0, 0, boundE r)
theorem surfL_length (st : Int) (q : Bool) : ∀ (l : List Bnd) (f : From), (surfL st q l f).length = l.length := by
  intro l
  induction l with
  | nil => intro f; rfl
  | cons b l ih => intro f; simp [surfL, ih]
theorem results_tmp4 {fn : Func} {t u v x : Tmp} (h : fn.results = #[.tmp t, .tmp u, .tmp v, .tmp x]) (tmps : Array Value) (P : Program) (w : World) :
    (results fn tmps).run P w = .ok (.tuple #[tmps.getD t undef, tmps.getD u undef, tmps.getD v undef, tmps.getD x undef]) w := by
  simp [results, h, Sem.run_bind, Result.andThen, go_sem]
set_option maxRecDepth 100000 in
set_option maxHeartbeats 4000000 in
theorem Best_any (r : Row) (q : Bool) (pv : Value) (w : World) (hP : PtsAt w pv r.pts) :
    Calls Try.prog 36 #[.agg #[.int .i64 r.st, pv], .bool q] w fun e w' => ∃ v, e = .returned (.tuple #[v, .int .i64 (bestR r q).2.1, .int .i64 (bestR r q).2.2.1, .int .i64 (bestR r q).2.2.2]) ∧
      w'.ownsRow w.heap.size 3 1 v (bestR r q).1.length ((bestR r q).1.map (Value.int .i64)) ∧ Below w.heap.size w w' := by
  obtain ⟨lp, pa, pc, rfl, _, _⟩ := id hP
  have hB : Below w.heap.size w (w.alloc (Obj.cells #[.int .i64 r.st, .slice pa r.pts.length pc] 24)) := by go_grown
  have HP := Lib.hid (hP.below hB)
  have HB := Lib.hid hB
  clear hP hB
  go_enter Try.func36, Try.ntmps36
  go_wp2_with fail
  generalize w.alloc (Obj.cells #[.int .i64 r.st, .slice pa r.pts.length pc] 24) = w0 at *
  refine (bound_any r (.slice pa r.pts.length pc) w0 HP.out).mono ?_
  rintro e w1 ⟨h | h, hb⟩
  · obtain ⟨h0, g, cap, rfl, hown⟩ := h
    have HB1 := Lib.hid (HB.out.trans (hb.mono HB.out.size))
    have HBR : Hid (bestR r q = (surfL r.st q (bndR r) none, (wayK r q 0 none).2.1, (wayK r q 0 none).2.2, 0)) := by show _ = _; unfold bestR; rw [if_pos h0]
    have HV := Lib.hid ((check_valid r).1 (boundE_ok h0).1)
    have HC := Lib.hid (boundE_ok h0).2
    have HPB := Lib.hid (passAt_own (l := bandsR r) (by rw [bandsR_length]; exact hown) (by rw [bandsR_length]; have := HV.out.n10; omega) : PassAt w1 (.slice (some ⟨g, 0, none⟩) (bandsR r).length cap) (bandsR r))
    rw [bandsR_length] at HPB
    clear hown h0
    have HP1 := Lib.hid (HP.out.below hb)
    clear hb HP HB
    have HP2 := Lib.hid (HP1.out.below ((Below.refl _ w1).alloc (Nat.le_refl _) (Obj.cells #[.int .i64 r.st, .slice pa r.pts.length pc, .slice (some ⟨g, 0, none⟩) r.pts.length cap] 78)))
    have HPB2 := Lib.hid (HPB.out.below ((Below.refl _ w1).alloc (Nat.le_refl _) (Obj.cells #[.int .i64 r.st, .slice pa r.pts.length pc, .slice (some ⟨g, 0, none⟩) r.pts.length cap] 78)))
    have HB2 := Lib.hid (HB1.out.alloc HB1.out.size (Obj.cells #[.int .i64 r.st, .slice pa r.pts.length pc, .slice (some ⟨g, 0, none⟩) r.pts.length cap] 78))
    have HX2 := Lib.hid (heap_alloc_new w1 (Obj.cells #[.int .i64 r.st, .slice pa r.pts.length pc, .slice (some ⟨g, 0, none⟩) r.pts.length cap] 78))
    clear HP1 HPB HB1
    cases q
    · go_wp2_with fail
      generalize w1.alloc (Obj.cells #[.int .i64 r.st, .slice pa r.pts.length pc, .slice (some ⟨g, 0, none⟩) r.pts.length cap] 78) = V at *
      have hrk : rkV false = .func (.func 70) #[.agg #[.int .i64 0, .int .i64 1]] #[] := rfl
      have HBS := Lib.hid (best_any r HV.out HC.out false pa pc g cap V HP2.out HPB2.out)
      rw [hrk] at HBS
      clear hrk
      refine HBS.out.mono ?_
      rintro e w3 ⟨v, rfl, hown, hb⟩
      have HB3 := Lib.hid (HB2.out.trans (hb.mono HB2.out.size))
      have HO3 := Lib.hid (own_base hown HB2.out.size)
      clear hb hown HBS
      generalize (wayK r false 0 none).2.1 = wp at *
      generalize (wayK r false 0 none).2.2 = wm at *
      go_wp2_with fail
      go_quiet (fail)
      have HO4 := Lib.hid (HO3.out.alloc (Obj.cells #[.int .i64 wp, .int .i64 wm] 104))
      have HB4 := Lib.hid (HB3.out.alloc HB3.out.size (Obj.cells #[.int .i64 wp, .int .i64 wm] 104))
      go_wp2_with fail
      refine bodyPost_ret (results_tmp4 rfl _ _ _) rfl ?_
      rw [HBR.out]
      refine ⟨v, rfl, ?_, HB4.out.trans ⟨rfl, rfl, rfl, Nat.le_refl _, fun _ _ => rfl⟩⟩
      show World.ownsRow _ _ _ _ _ (surfL r.st false (bndR r) none).length _
      rw [surfL_length, bndR_length]
      exact HO4.out
    · go_wp2_with fail
      generalize w1.alloc (Obj.cells #[.int .i64 r.st, .slice pa r.pts.length pc, .slice (some ⟨g, 0, none⟩) r.pts.length cap] 78) = V at *
      have hrk : rkV true = .func (.func 70) #[.agg #[.int .i64 1, .int .i64 0]] #[] := rfl
      have HBS := Lib.hid (best_any r HV.out HC.out true pa pc g cap V HP2.out HPB2.out)
      rw [hrk] at HBS
      clear hrk
      refine HBS.out.mono ?_
      rintro e w3 ⟨v, rfl, hown, hb⟩
      have HB3 := Lib.hid (HB2.out.trans (hb.mono HB2.out.size))
      have HO3 := Lib.hid (own_base hown HB2.out.size)
      clear hb hown HBS
      generalize (wayK r true 0 none).2.1 = wp at *
      generalize (wayK r true 0 none).2.2 = wm at *
      go_wp2_with fail
      go_quiet (fail)
      have HO4 := Lib.hid (HO3.out.alloc (Obj.cells #[.int .i64 wp, .int .i64 wm] 104))
      have HB4 := Lib.hid (HB3.out.alloc HB3.out.size (Obj.cells #[.int .i64 wp, .int .i64 wm] 104))
      go_wp2_with fail
      refine bodyPost_ret (results_tmp4 rfl _ _ _) rfl ?_
      rw [HBR.out]
      refine ⟨v, rfl, ?_, HB4.out.trans ⟨rfl, rfl, rfl, Nat.le_refl _, fun _ _ => rfl⟩⟩
      show World.ownsRow _ _ _ _ _ (surfL r.st true (bndR r) none).length _
      rw [surfL_length, bndR_length]
      exact HO4.out
  · obtain ⟨h0, rfl⟩ := h
    have HB1 := Lib.hid (HB.out.trans (hb.mono HB.out.size))
    have HBR : Hid (bestR r q = ([], 0, 0, boundE r)) := by show _ = _; unfold bestR; rw [if_neg h0]
    generalize boundE r = er at *
    have tz : (er != 0) = true := by simp [h0]
    clear hb h0 HP HB
    go_wp2_with fail
    refine bodyPost_ret (results_tmp4 rfl _ _ _) rfl ?_
    rw [HBR.out]
    exact ⟨_, rfl, World.ownsRow_nil .., HB1.out.alloc HB1.out.size _⟩
end Go.Proofs.Ytnciomoapajonaa
