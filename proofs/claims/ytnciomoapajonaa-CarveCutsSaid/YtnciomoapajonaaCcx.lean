/- CarveCuts: the call returns true, whatever its arguments and the memory in which it begins; its arguments read as they did. -/
import Derived.Test.YtnciomoapajonaaCar
import Derived.Test.YtnciomoapajonaaCvw
import Derived.Test.YtnciomoapajonaaRgc
import Derived.Test.YtnciomoapajonaaCvx
import Derived.BigQuiet
import Derived.Deep.DeepCutAuto
import Derived.Test.YtnciomoapajonaaCwh
import Derived.Test.YtnciomoapajonaaCxg
import Derived.Test.YtnciomoapajonaaRows
import Derived.ProofKit
import Derived.JoinedOf
import Derived.JoinedAt
set_option linter.unusedSimpArgs false
set_option linter.unusedVariables false
namespace Go.Proofs.Ytnciomoapajonaa
open Go Go.RowKit Cv Go.ChangeShapes Go.WideShapes Go.Deep Go.Joins

theorem bytesInt : Try.prog.bytesOf 3 = 8 := by kernel_rfl
theorem cellsPass : Try.prog.cellsOf 90 = 2 := by kernel_rfl
theorem bytesPass : Try.prog.bytesOf 90 = 16 := by kernel_rfl
section
variable {H : Type} {enc : TypeId × Value → H} {W : World} {sp : Nat → Bool} {base : Nat} {v : Value} {d : DataW H} {p : List MemPlace}
set_option maxRecDepth 100000 in
theorem open_ints (hok : Value.okWide Try.prog W .any base 36 v) (h : DataW.Trod enc Try.prog W 0 sp true 36 v d p) (hw : ∀ x ∈ d.weights Try.prog 36, x ≤ reachBytes) :
    ∃ l : List Int, IntsAt W v l := by
  obtain ⟨a0, len0, cap0, rfl⟩ := okWide_slice Try.underlying36 hok
  obtain ⟨fuel, hf⟩ := h
  have hf' : DataW.trod enc Try.prog W 0 sp true fuel 36 [.slice a0 len0 cap0] = some (d, p) := hf
  rcases open_slice1 Try.underlying36 cellsInt hf' with ⟨hcs, _⟩ | ⟨a, len, cap, m, n', V, D, Pl, hcs, _, hl, hm, hmm, hx, hel⟩
  · simp only [List.cons.injEq, Value.slice.injEq, and_true] at hcs
    obtain ⟨rfl, rfl, rfl⟩ := hcs
    exact ⟨[], by simp, none, 0, rfl, Nat.le_refl _, fun h => absurd rfl h⟩
  · simp only [List.cons.injEq, Value.slice.injEq, and_true] at hcs
    obtain ⟨rfl, rfl, rfl⟩ := hcs
    have hlm : len0 ≤ m := by rw [hmm]; split <;> omega
    have hd : d = .slice ((List.range len0).map D) ((List.range (m - len0)).map fun j => D (len0 + j)) := congrArg Prod.fst hx
    have hb : len0 * 8 ≤ reachBytes := by
      have := hw ((((List.range len0).map D).length + ((List.range (m - len0)).map fun j => D (len0 + j)).length) * 8) (by rw [hd]; simp [DataW.weights, Try.underlying36, bytesInt])
      simp only [List.length_map, List.length_range] at this
      omega
    have hr : reachBytes = 140737488351232 := rfl
    obtain ⟨f, hfl⟩ := choose_lt (α := Int) (n := len0) (p := fun i x => W.cell? (a.add i) = some (.int .i64 x)) (fun i hi => by
      obtain ⟨h1, h2⟩ := hel i (by omega)
      obtain ⟨k, e, _, w⟩ := DataW.trod_int Try.underlying3 h2
      simp only [List.cons.injEq, and_true] at e
      exact ⟨k, by rw [h1, e]⟩)
    refine ⟨(List.range len0).map f, by simp; omega, some a, cap0, by simp, by simpa using hl, fun hne => ?_⟩
    have h0 : 0 < len0 := by
      rcases Nat.eq_zero_or_pos len0 with h | h
      · subst h; exact absurd rfl hne
      · exact h
    obtain ⟨b, o, spot⟩ := a
    have hspot : spot = none := by simpa [Addr.add] using World.cell?_spot (hfl 0 h0)
    subst hspot
    refine ⟨b, o, rfl, fun k hk => ?_⟩
    have hk' : k < len0 := by simpa using hk
    have hc := hfl k hk'
    rw [add_plain] at hc
    simpa using hc
set_option maxRecDepth 100000 in
theorem open_pass1 {n : Nat} {cs : List Value} {y : DataW H × List MemPlace} (h : DataW.trod enc Try.prog W 0 sp true n 90 cs = some y) : ∃ x : Int × Int, cs = [.int .i64 x.1, .int .i64 x.2] := by
  obtain ⟨xs, m, _, hx, hl, hlen, hf⟩ := DataW.trod_struct Try.underlying90 h
  rw [cellsPass] at hl
  match cs, hl with
  | [c0, c1], _ =>
    match xs, hlen with
    | [y0, y1], _ =>
      have h0 : DataW.trod enc Try.prog W 0 sp true m 3 (([c0, c1].drop 0).take (Try.prog.cellsOf 3)) = [y0, y1][0]? := hf 0 _ rfl
      have h1 : DataW.trod enc Try.prog W 0 sp true m 3 (([c0, c1].drop 1).take (Try.prog.cellsOf 3)) = [y0, y1][1]? := hf 1 _ rfl
      rw [cellsInt] at h0 h1
      obtain ⟨k0, e0, _⟩ := DataW.trod_int Try.underlying3 (h0.trans (by rfl : [y0, y1][0]? = some y0))
      obtain ⟨k1, e1, _⟩ := DataW.trod_int Try.underlying3 (h1.trans (by rfl : [y0, y1][1]? = some y1))
      simp at e0 e1
      exact ⟨(k0, k1), by simp [e0, e1]⟩
set_option maxRecDepth 100000 in
theorem open_passes (hok : Value.okWide Try.prog W .any base 37 v) (h : DataW.Trod enc Try.prog W 0 sp true 37 v d p) (hw : ∀ x ∈ d.weights Try.prog 37, x ≤ reachBytes) :
    ∃ l : List (Int × Int), PassAt W v l := by
  obtain ⟨a0, len0, cap0, rfl⟩ := okWide_slice Try.underlying37 hok
  obtain ⟨fuel, hf⟩ := h
  have hf' : DataW.trod enc Try.prog W 0 sp true fuel 37 [.slice a0 len0 cap0] = some (d, p) := hf
  rcases open_slice Try.underlying37 hf' with ⟨hcs, _⟩ | ⟨a, len, cap, m, n', D, Pl, hcs, _, hl, hm, hmm, hx, hel⟩
  · simp only [List.cons.injEq, Value.slice.injEq, and_true] at hcs
    obtain ⟨rfl, rfl, rfl⟩ := hcs
    exact ⟨[], by simp, none, 0, rfl, Nat.le_refl _, fun h => absurd rfl h⟩
  · simp only [List.cons.injEq, Value.slice.injEq, and_true] at hcs
    obtain ⟨rfl, rfl, rfl⟩ := hcs
    have hlm : len0 ≤ m := by rw [hmm]; split <;> omega
    have hd : d = .slice ((List.range len0).map D) ((List.range (m - len0)).map fun j => D (len0 + j)) := congrArg Prod.fst hx
    have hb : len0 * 16 ≤ reachBytes := by
      have := hw ((((List.range len0).map D).length + ((List.range (m - len0)).map fun j => D (len0 + j)).length) * 16) (by rw [hd]; simp [DataW.weights, Try.underlying37, bytesPass])
      simp only [List.length_map, List.length_range] at this
      omega
    have hr : reachBytes = 140737488351232 := rfl
    obtain ⟨f, hfl⟩ := choose_lt (α := Int × Int) (n := len0) (p := fun i x => ∃ cs', W.cells? 0 (a.add (i * 2)) 2 = some cs' ∧ cs' = [.int .i64 x.1, .int .i64 x.2]) (fun i hi => by
      obtain ⟨cs', h1, h2⟩ := hel i (by omega)
      rw [cellsPass] at h1
      obtain ⟨x, hx⟩ := open_pass1 h2
      exact ⟨x, cs', h1, hx⟩)
    refine ⟨(List.range len0).map f, by simp; omega, some a, cap0, by simp, by simpa using hl, fun hne => ?_⟩
    have h0 : 0 < len0 := by
      rcases Nat.eq_zero_or_pos len0 with h | h
      · subst h; exact absurd rfl hne
      · exact h
    have hc : ∀ i, i < len0 → ∀ j, j < 2 → W.cell? ((a.add (i * 2)).add j) = [Value.int .i64 (f i).1, .int .i64 (f i).2][j]? := fun i hi j hj => by
      obtain ⟨cs', h1, rfl⟩ := hfl i hi
      exact (World.cells?_some h1).2.2 j hj
    obtain ⟨b, o, spot⟩ := a
    have hspot : spot = none := by
      have := hc 0 h0 0 (by omega)
      simpa [Addr.add] using World.cell?_spot this
    subst hspot
    refine ⟨b, o, rfl, fun k hk => ?_⟩
    have hk' : k < len0 := by simpa using hk
    have c0 := hc k hk' 0 (by omega)
    have c1 := hc k hk' 1 (by omega)
    rw [add_plain, add_plain] at c0 c1
    simp only [List.getElem_map, List.getElem_range]
    exact ⟨c0, c1⟩
end
end Go.Proofs.Ytnciomoapajonaa
namespace Go.Proofs.Ytnciomoapajonaa
open Go Go.RowKit Cv

set_option maxRecDepth 100000 in
set_option maxHeartbeats 4000000 in
theorem rwhy_any (r : Row) (pv sv : Value) (s : List Int) (w : World) (hP : PtsAt w pv r.pts) (hS : IntsAt w sv s) :
    Calls Try.prog 27 #[.agg #[.int .i64 r.st, pv], sv] w fun e w' => e = .returned (.tuple #[.int .i64 (whyR r s).1, .int .i64 (whyR r s).2.1, .int .i64 (whyR r s).2.2]) ∧ Below w.heap.size w w' := by
  obtain ⟨st, pts⟩ := r
  simp only at hP ⊢
  obtain ⟨lp, pa, pc, rfl, _, _⟩ := id hP
  obtain ⟨ls, sa, sc, rfl, _, _⟩ := id hS
  have hB : Below w.heap.size w (w.alloc (Obj.cells #[.int .i64 st, .slice pa pts.length pc] 24)) := by go_grown
  have HB := Lib.hid hB
  have HP := Lib.hid (hP.below hB)
  have HS := Lib.hid (hS.below hB)
  have HA := Lib.hid (heap_alloc_new w (Obj.cells #[.int .i64 st, .slice pa pts.length pc] 24))
  clear hP hS hB
  obtain ⟨z, HZ⟩ : ∃ z, Hid (surfR ⟨st, pts⟩ s = z) := ⟨_, rfl⟩
  go_enter Try.func27, Try.ntmps27
  go_wp2_with fail
  generalize w.alloc (Obj.cells #[.int .i64 st, .slice pa pts.length pc] 24) = w0 at *
  have hcall := surface_any ⟨st, pts⟩ _ _ s w0 HP.out HS.out
  rw [HZ.out] at hcall
  refine hcall.mono ?_
  clear hcall
  rintro e w1 ⟨rfl, hb⟩
  have HB1 := Lib.hid (HB.out.trans (hb.mono HB.out.size))
  have HP1 := Lib.hid (HP.out.below hb)
  have HS1 := Lib.hid (HS.out.below hb)
  have HA1 := Lib.hid ((hb.block _ (lt_of_block HA.out)).trans HA.out)
  clear hb HB HP HS HA
  have ra := cellOf HA1.out 0 _ rfl
  have rb := cellOf HA1.out 1 _ rfl
  have rl := lt_of_block HA1.out
  by_cases hz : z = 0
  · subst hz
    obtain ⟨hv, hl, hs9⟩ := surfR_ok HZ.out
    have HV := Lib.hid hv
    have HL := Lib.hid hl
    have HS9 := Lib.hid hs9
    clear hv hl hs9
    go_wp2_with fail
    have HF : Hid (whyR ⟨st, pts⟩ s = ((firstW (whyAt st pts s) 0 s.length).1, (firstW (whyAt st pts s) 0 s.length).2, 0)) := by show _ = _; unfold whyR; rw [if_pos HZ.out]
    obtain ⟨q, HQ⟩ : ∃ q, Hid (firstW (whyAt st pts s) 0 s.length = q) := ⟨_, rfl⟩
    rw [HQ.out] at HF
    have hcall := first_any ⟨st, pts⟩ _ _ s w1 HP1.out HS1.out HV.out HL.out HS9.out
    simp only at hcall
    rw [HQ.out] at hcall
    refine hcall.mono ?_
    clear hcall
    rintro e w2 ⟨rfl, hb⟩
    have HB2 := Lib.hid (HB1.out.trans (hb.mono HB1.out.size))
    clear hb ra rb rl
    go_wp2
    go_ret3
    exact ⟨by rw [HF.out]; rfl, HB2.out⟩
  · have HF : Hid (whyR ⟨st, pts⟩ s = (0, 0, z)) := by show _ = _; unfold whyR; rw [if_neg (by rw [HZ.out]; exact hz), HZ.out]
    have tz : (z != 0) = true := by simp [hz]
    clear ra rb rl
    go_wp2
    go_ret3
    exact ⟨by rw [HF.out]; rfl, HB1.out⟩

set_option maxRecDepth 100000 in
set_option maxHeartbeats 4000000 in
theorem rplaster_any (r : Row) (pv sv : Value) (s : List Int) (w : World) (hP : PtsAt w pv r.pts) (hS : IntsAt w sv s) :
    Calls Try.prog 29 #[.agg #[.int .i64 r.st, pv], sv] w fun e w' => e = .returned (.tuple #[.int .i64 (plasterR r s).1, .int .i64 (plasterR r s).2]) ∧ Below w.heap.size w w' := by
  obtain ⟨st, pts⟩ := r
  simp only at hP ⊢
  obtain ⟨lp, pa, pc, rfl, _, _⟩ := id hP
  obtain ⟨ls, sa, sc, rfl, _, _⟩ := id hS
  have hB : Below w.heap.size w (w.alloc (Obj.cells #[.int .i64 st, .slice pa pts.length pc] 24)) := by go_grown
  have HB := Lib.hid hB
  have HP := Lib.hid (hP.below hB)
  have HS := Lib.hid (hS.below hB)
  have HA := Lib.hid (heap_alloc_new w (Obj.cells #[.int .i64 st, .slice pa pts.length pc] 24))
  clear hP hS hB
  obtain ⟨z, HZ⟩ : ∃ z, Hid (surfR ⟨st, pts⟩ s = z) := ⟨_, rfl⟩
  go_enter Try.func29, Try.ntmps29
  go_wp2_with fail
  generalize w.alloc (Obj.cells #[.int .i64 st, .slice pa pts.length pc] 24) = w0 at *
  have hcall := surface_any ⟨st, pts⟩ _ _ s w0 HP.out HS.out
  rw [HZ.out] at hcall
  refine hcall.mono ?_
  clear hcall
  rintro e w1 ⟨rfl, hb⟩
  have HB1 := Lib.hid (HB.out.trans (hb.mono HB.out.size))
  have HP1 := Lib.hid (HP.out.below hb)
  have HS1 := Lib.hid (HS.out.below hb)
  have HA1 := Lib.hid ((hb.block _ (lt_of_block HA.out)).trans HA.out)
  clear hb HB HP HS HA
  have ra := cellOf HA1.out 0 _ rfl
  have rb := cellOf HA1.out 1 _ rfl
  have rl := lt_of_block HA1.out
  by_cases hz : z = 0
  · subst hz
    obtain ⟨hv, hl, hs9⟩ := surfR_ok HZ.out
    have HV := Lib.hid hv
    have HL := Lib.hid hl
    have HS9 := Lib.hid hs9
    clear hv hl hs9
    go_wp2_with fail
    have HF : Hid (plasterR ⟨st, pts⟩ s = (fillsN pts s pts.length, 0)) := by
      show _ = _
      have hl : s.length = pts.length := HL.out
      unfold plasterR
      rw [if_pos HZ.out, hl]
    obtain ⟨q, HQ⟩ : ∃ q, Hid (fillsN pts s pts.length = q) := ⟨_, rfl⟩
    rw [HQ.out] at HF
    have hcall := rfills_any ⟨st, pts⟩ _ _ s w1 HP1.out HS1.out HV.out HL.out HS9.out
    simp only at hcall
    rw [HQ.out] at hcall
    refine hcall.mono ?_
    clear hcall
    rintro e w2 ⟨rfl, hb⟩
    have HB2 := Lib.hid (HB1.out.trans (hb.mono HB1.out.size))
    clear hb ra rb rl
    go_wp2
    go_ret2
    exact ⟨by rw [HF.out]; rfl, HB2.out⟩
  · have HF : Hid (plasterR ⟨st, pts⟩ s = (0, z)) := by show _ = _; unfold plasterR; rw [if_neg (by rw [HZ.out]; exact hz), HZ.out]
    have tz : (z != 0) = true := by simp [hz]
    clear ra rb rl
    go_wp2
    go_ret2
    exact ⟨by rw [HF.out]; rfl, HB1.out⟩
end Go.Proofs.Ytnciomoapajonaa
namespace Go.Proofs.Ytnciomoapajonaa
open Go Go.RowKit Go.Shelf Cv

def LoweredP (n : Nat) (ps : List (Int × Int)) (w : World) (e : Ending) (w' : World) : Prop := ∃ v, e = .returned v ∧ w'.ownsRow w.heap.size 3 1 v n (((List.range n).map fun (a : Nat) => cntN ps a ps.length).map (Value.int .i64)) ∧ Below w.heap.size w w'
set_option maxRecDepth 100000 in
set_option maxHeartbeats 4000000 in
theorem rlowered_any (r : Row) (pv qv : Value) (ps : List (Int × Int)) (w : World) (hP : PtsAt w pv r.pts) (hQ : PassAt w qv ps) (h10 : r.pts.length ≤ 10) (h60 : ps.length ≤ 60) (hps : ∀ p, p ∈ ps → 0 ≤ p.1 ∧ p.1 ≤ p.2 ∧ p.2 ≤ (r.pts.length : Int) - 1) :
    Calls Try.prog 69 #[.agg #[.int .i64 r.st, pv], qv] w (LoweredP r.pts.length ps w) := by
  obtain ⟨i0, hi⟩ := info_of_underlying Try.underlying3
  have HI : Hid (i0.zero = some (.int .i64 0) ∧ i0.size = 1 ∧ i0.bytes = 8) := by
    have h := intInfo
    rw [hi] at h
    simp at h
    exact h
  obtain ⟨st, pts⟩ := r
  simp only at hP h10 hps ⊢
  obtain ⟨lp, pa, pc, rfl, _, _⟩ := id hP
  obtain ⟨lq, qa, qc, rfl, _, _⟩ := id hQ
  have h60I : (ps.length : Int) ≤ 60 := by omega
  have l10 : (pts.length : Int) ≤ 10 := by omega
  have hB : Below w.heap.size w (w.alloc (Obj.cells #[.int .i64 st, .slice pa pts.length pc] 24)) := by go_grown
  have HB := Lib.hid hB
  have HQ := Lib.hid (hQ.below hB)
  have HA := Lib.hid (heap_alloc_new w (Obj.cells #[.int .i64 st, .slice pa pts.length pc] 24))
  have HW0 : Hid (Below w.heap.size w (w.alloc (Obj.cells #[.int .i64 st, .slice pa pts.length pc] 24)) ∧ (w.alloc (Obj.cells #[.int .i64 st, .slice pa pts.length pc] 24)).heap.size = w.heap.size + 1) := ⟨hB, by simp⟩
  have HPS := Lib.hid hps
  clear hP hQ hB hps
  go_enter Try.func69, Try.ntmps69
  go_wp2_with (at_make; refine wpList_make_full _ rfl _ _ 36 rfl (w.heap.size + 1) 3 i0 (.int .i64 0) 1 Try.underlying36 hi HI.out.1 HI.out.2.1 .i64 .i64 _ _ pts.length rfl rfl rfl rfl ?c1 ?c2 (Nat.le_of_eq HW0.out.2.symm) ?_)
  case c1 => rw [HI.out.2.2]; omega
  case c2 => unfold maxLen; omega
  intro w3 hown0 hgr
  have HB0 : Hid (Below (w.heap.size + 1) (w.alloc (Obj.cells #[.int .i64 st, .slice pa pts.length pc] 24)) w3) := (Below.refl (w.heap.size + 1) _).grown hgr (Nat.le_of_eq HW0.out.2.symm) (by simp)
  have HL0 : Hid (LowTo ps (madeCells #[Value.int IntKind.i64 0] pts.length).toList 0) := by
    intro a ha
    rw [made_int] at ha ⊢
    rw [List.length_replicate] at ha
    rw [List.getElem?_replicate, if_pos ha]
    rfl
  generalize (madeCells #[Value.int IntKind.i64 0] pts.length).toList = cur0 at hown0 HL0
  generalize w.alloc (Obj.cells #[.int .i64 st, .slice pa pts.length pc] 24) = w0 at *
  clear hgr HI
  go_wp2
  go_loopg [6] ps.length (fun g i wr => ∃ (k : Nat) (cur : List Value), g + k = ps.length ∧ i = .int .i64 k ∧ wr.ownsRow (w.heap.size + 1) 3 1 (.slice (some ⟨w.heap.size + 1, 0, none⟩) pts.length pts.length) pts.length cur ∧ Hid (LowTo ps cur k) ∧ Hid (Below (w.heap.size + 1) w0 wr))
  case atStart => exact ⟨0, cur0, rfl, rfl, hown0, HL0, HB0⟩
  case round =>
    clear hown0 HL0 HB0
    obtain ⟨k, cur, hk, rfl, hown, HL, HR⟩ := hrel
    by_cases hlt : k < ps.length
    · have kI : (k : Int) < (ps.length : Int) := by omega
      have k60 : k ≤ 60 := by omega
      obtain ⟨bq, oq, rfl, c0, c1⟩ := HQ.out.get hlt
      have hq0 : bq < w0.heap.size := World.block_lt_of_cell? w0 ⟨bq, oq + k * 2, none⟩ c0
      have hqD : bq < w.heap.size + 1 := by have := HW0.out.2; omega
      have c0w := (HR.out.cell (p := ⟨bq, oq + k * 2, none⟩) hqD).trans c0
      have HD : Hid (ps.getD k (0, 0) = ps[k]) := by show _ = _; simp [List.getD_eq_getElem?_getD, hlt]
      have hpk := HPS.out ps[k] (List.getElem_mem hlt)
      obtain ⟨fr, HFR⟩ : ∃ x : Int, Hid (ps[k].1 = x) := ⟨ps[k].1, rfl⟩
      obtain ⟨tt, HTT⟩ : ∃ x : Int, Hid (ps[k].2 = x) := ⟨ps[k].2, rfl⟩
      have HD2 : Hid (ps.getD k (0, 0) = (fr, tt)) := by show _ = _; rw [HD.out, ← HFR.out, ← HTT.out]
      rw [HFR.out] at c0w hpk
      rw [HTT.out] at c1 hpk
      clear HD HFR HTT c0
      obtain ⟨g', rfl⟩ : ∃ g', gk = g' + 1 := ⟨gk - 1, by omega⟩
      obtain ⟨n, rfl⟩ : ∃ n : Nat, fr = n := ⟨fr.toNat, by omega⟩
      obtain ⟨m, rfl⟩ : ∃ m : Nat, tt = (n : Int) + m := ⟨(tt - n).toNat, by omega⟩
      obtain ⟨wo, hwo⟩ : ∃ wo, wo = wr := ⟨_, rfl⟩
      subst hwo
      go_wp2_with fail
      have hm : n + m < pts.length := by omega
      clear hpk c0w
      go_loopg [7] (m + 1) (fun g v wr => ∃ (i : Nat) (cur : List Value), g + i = n + m + 1 ∧ n ≤ i ∧ v = .int .i64 i ∧ wr.ownsRow (w.heap.size + 1) 3 1 (.slice (some ⟨w.heap.size + 1, 0, none⟩) pts.length pts.length) pts.length cur ∧ Hid (LowIn ps n cur k (i - n)) ∧ Hid (Below (w.heap.size + 1) w0 wr))
      case atStart => exact ⟨n, cur, by omega, Nat.le_refl _, rfl, hown, by rw [Nat.sub_self]; exact HL.out.start n, HR⟩
      case round =>
        obtain ⟨i, cur2, hi2, hni, rfl, hownI, HLI, HRI⟩ := hrel
        have x1 := (HRI.out.cell (p := ⟨bq, oq + k * 2 + 1, none⟩) hqD).trans c1
        by_cases hlt2 : i < n + m + 1
        · have iI : (i : Int) ≤ (n : Int) + m := by omega
          have iP : (i : Int) < (pts.length : Int) := by omega
          have i10 : i ≤ 10 := by omega
          have hl2 := hownI.1
          have d0 : wr.cell? ⟨w.heap.size + 1, i * 1, none⟩ = some (.int .i64 (cntN ps i k)) := (hownI.cellAt (i * 1) (by omega)).trans ((congrArg (fun q => cur2[q]?) (Nat.mul_one i)).trans (HLI.out.at_ (by omega) hni))
          have f0 := hownI.frozenAt (i * 1)
          have hcb := cntN_bd ps i k
          obtain ⟨x, HXC⟩ : ∃ x, Hid (cntN ps i k = x) := ⟨_, rfl⟩
          rw [HXC.out] at d0 hcb
          have s1 := hownI.stored (i * 1) (.int .i64 (x + 1))
          have HO := Lib.hid s1.1
          have HB3 : Hid (Below (w.heap.size + 1) w0 (wr.setCell ⟨w.heap.size + 1, i * 1, none⟩ (.int .i64 (x + 1)))) := HRI.out.setCell (p := ⟨w.heap.size + 1, i * 1, none⟩) (Nat.le_refl _) _
          have HL3 := Lib.hid (HLI.out.next (by omega) hni HXC.out)
          simp only [Nat.mul_one] at d0 f0 HO HB3
          have x0' : 0 ≤ x := hcb.1
          have x60 : x ≤ 60 := by omega
          clear s1 hownI hcb
          go_wp2
          go_roundg (gk - 1)
          case measure => omega
          case rel => exact ⟨i + 1, _, by omega, by omega, by go_num, HO.out, HL3, HB3⟩
        · obtain rfl : i = n + m + 1 := by omega
          have HLD : Hid (LowTo ps cur2 (k + 1)) := HLI.out.done (by rw [HD2.out]) (by rw [HD2.out]; simp; omega)
          clear hlt2 hi2 HLI
          have iI : ¬ ((n : Int) + m + 1 ≤ (n : Int) + m) := by omega
          go_wp2
          go_roundg g'
          case measure => omega
          case rel => exact ⟨k + 1, cur2, by omega, by go_num, hownI, HLD, HRI⟩
    · obtain rfl : k = ps.length := by omega
      have hl := hown.1
      have e : cur.length = pts.length := by omega
      have hfin := HL.out.all
      rw [e] at hfin
      have HO : Hid (wr.ownsRow w.heap.size 3 1 (.slice (some ⟨w.heap.size + 1, 0, none⟩) pts.length pts.length) pts.length (((List.range pts.length).map fun (a : Nat) => cntN ps a ps.length).map (Value.int .i64))) := by
        show World.ownsRow _ _ _ _ _ _ _
        rw [← hfin]
        exact own_base hown (by omega)
      have HBB : Hid (Below w.heap.size w wr) := HW0.out.1.trans (HR.out.mono (by omega))
      clear hlt hk hown hl e hfin
      go_wp2
      go_ret
      exact ⟨_, rfl, HO.out, HBB.out⟩
end Go.Proofs.Ytnciomoapajonaa
namespace Go.Proofs.Ytnciomoapajonaa
open Go Go.RowKit Go.Shelf Cv

theorem passE_no {n : Nat} {f t : Int} (h : okIn 0 ((n : Int) - 1) f = false ∨ okIn 0 ((n : Int) - 1) t = false) : passE n (f, t) = 4 := by
  unfold passE
  rw [if_pos (by rcases h with h | h <;> simp [h])]
theorem passE_yes {n : Nat} {f t : Int} (h1 : okIn 0 ((n : Int) - 1) f = true) (h2 : okIn 0 ((n : Int) - 1) t = true) : passE n (f, t) = if t < f then 2 else 0 := by
  unfold passE
  rw [if_neg (by simp [h1, h2])]
theorem firstW_at (f : Nat → Int) : ∀ (n k : Nat), k < n → (∀ j, j < k → f j = 0) → ∀ y, f k = y → y ≠ 0 → (firstW f 0 n).2 = y := by
  have key : ∀ (k a g : Nat), k < a + g → a ≤ k → (∀ j, j < k → f j = 0) → ∀ y, f k = y → y ≠ 0 → (firstW f a g).2 = y := by
    intro k a g
    induction g generalizing a with
    | zero => intro h1 h2; omega
    | succ g ih =>
      intro h1 h2 hz y hy h0
      rw [firstW]
      by_cases e : a = k
      · subst e
        rw [if_neg (by rw [hy]; exact h0)]
        exact hy
      · rw [if_pos (hz a (by omega))]
        exact ih (a + 1) (by omega) (by omega) hz y hy h0
  intro n k hk
  exact key k 0 n (by omega) (Nat.zero_le _)
set_option maxRecDepth 100000 in
set_option maxHeartbeats 8000000 in
theorem rcarved_any (r : Row) (pv qv : Value) (ps : List (Int × Int)) (w : World) (hP : PtsAt w pv r.pts) (hQ : PassAt w qv ps) :
    Calls Try.prog 34 #[.agg #[.int .i64 r.st, pv], qv] w (CarvedP w (carvedR r ps)) := by
  obtain ⟨st, pts⟩ := r
  simp only at hP ⊢
  obtain ⟨lp, pa, pc, rfl, _, _⟩ := id hP
  obtain ⟨lq, qa, qc, rfl, _, _⟩ := id hQ
  have lqI : (ps.length : Int) ≤ 4611686018427387904 := by omega
  have lpI : (pts.length : Int) ≤ 4611686018427387904 := by omega
  have hB : Below w.heap.size w (w.alloc (Obj.cells #[.int .i64 st, .slice pa pts.length pc] 24)) := by go_grown
  have HB := Lib.hid hB
  have HP := Lib.hid (hP.below hB)
  have HQ := Lib.hid (hQ.below hB)
  have HA := Lib.hid (heap_alloc_new w (Obj.cells #[.int .i64 st, .slice pa pts.length pc] 24))
  clear hP hQ hB
  go_enter Try.func34, Try.ntmps34
  go_wp2_with fail
  generalize w.alloc (Obj.cells #[.int .i64 st, .slice pa pts.length pc] 24) = w0 at *
  refine (rcheck_any ⟨st, pts⟩ (.slice pa pts.length pc) w0 HP.out).mono ?_
  rintro e w1 ⟨rfl, hb⟩
  have HB1 := Lib.hid (HB.out.trans (hb.mono HB.out.size))
  have HP1 := Lib.hid (HP.out.below hb)
  have HQ1 := Lib.hid (HQ.out.below hb)
  have HA1 := Lib.hid ((hb.block _ (lt_of_block HA.out)).trans HA.out)
  obtain ⟨z, HE⟩ : ∃ z, Hid ((checkR ⟨st, pts⟩).2.2 = z) := ⟨_, rfl⟩
  have HER : Hid (errR ⟨st, pts⟩ = z) := HE.out
  rw [HE.out]
  generalize (checkR ⟨st, pts⟩).1 = y1 at *
  generalize (checkR ⟨st, pts⟩).2.1 = y2 at *
  clear hb HB HP HQ HA HE
  have ra := cellOf HA1.out 0 _ rfl
  have rb := cellOf HA1.out 1 _ rfl
  have rl := lt_of_block HA1.out
  by_cases hz : z = 0
  · subst hz
    by_cases h6 : 60 < ps.length
    · have HF : Hid (carvedR ⟨st, pts⟩ ps = ([], 3)) := by show _ = _; unfold carvedR; rw [if_neg (by simp [HER.out]), if_pos h6]
      have h6I : (60 : Int) < (ps.length : Int) := by omega
      clear h6
      go_wp2_with fail
      clear ra rb rl
      go_loopg [8, 9] 1 (fun g v i wr => v = .int .i64 3 ∧ i = .int .i64 0 ∧ Hid (w1 = wr))
      case atStart => exact ⟨rfl, rfl, rfl⟩
      case round =>
        obtain ⟨rfl, rfl, HWR⟩ := hrel
        obtain rfl := HWR.out
        by_cases hlt : (0 : Int) < (ps.length : Int)
        · go_wp2
          go_ret2
          exact carvedP_no HF.out HB1.out
        · omega
    · have h6I : (ps.length : Int) ≤ 60 := by omega
      have HV := Lib.hid ((check_valid ⟨st, pts⟩).1 HER.out)
      have h10 : pts.length ≤ 10 := HV.out.n10
      have l10 : (pts.length : Int) ≤ 10 := by omega
      have l1 : (1 : Int) ≤ (pts.length : Int) := by have : 1 ≤ pts.length := HV.out.n1; omega
      obtain ⟨f, HFF⟩ : ∃ f, Hid ((fun k => passE pts.length (ps.getD k (0, 0))) = f) := ⟨_, rfl⟩
      have HF : Hid (carvedR ⟨st, pts⟩ ps = if (firstW f 0 ps.length).2 ≠ 0 then ([], (firstW f 0 ps.length).2) else ((List.range pts.length).map fun a => cntN ps (a : Nat) ps.length, 0)) := by
        show _ = _
        unfold carvedR passErr
        rw [if_neg (by simp [HER.out]), if_neg h6, HFF.out]
      have hp60 : ps.length ≤ 60 := by omega
      clear h6
      go_wp2_with fail
      clear ra rb rl
      go_loopg [8, 9] ps.length (fun g v i wr => ∃ (k : Nat) (ev : Int), g + k = ps.length ∧ i = .int .i64 k ∧ v = .int .i64 ev ∧ Hid (ev = 0 → ∀ j, j < k → f j = 0) ∧ Hid (ev ≠ 0 → carvedR ⟨st, pts⟩ ps = ([], ev)) ∧ Hid (Below w1.heap.size w1 wr))
      case atStart => exact ⟨0, 0, rfl, rfl, rfl, fun _ j hj => absurd hj (Nat.not_lt_zero _), fun h => absurd rfl h, Below.refl _ _⟩
      case round =>
        obtain ⟨k, ev, hk, rfl, rfl, HZ, HC, HR⟩ := hrel
        have HBw := Lib.hid (HB1.out.trans (HR.out.mono HB1.out.size))
        have HAr := Lib.hid ((HR.out.block _ (lt_of_block HA1.out)).trans HA1.out)
        have ra := cellOf HAr.out 0 _ rfl
        have rb := cellOf HAr.out 1 _ rfl
        have rl := lt_of_block HAr.out
        by_cases he : ev = 0
        · subst he
          by_cases hlt : k < ps.length
          · have kI : (k : Int) < (ps.length : Int) := by omega
            obtain ⟨bq, oq, rfl, c0, c1⟩ := (HQ1.out.below HR.out).get hlt
            have HD : Hid (f k = passE pts.length (ps[k].1, ps[k].2)) := by show _ = _; rw [← HFF.out]; simp [List.getD_eq_getElem?_getD, hlt]
            generalize ps[k] = p at *
            obtain ⟨fr, tt⟩ := p
            simp only at c0 c1 HD
            have HN : Hid (f k = 0 → ∀ j, j < k + 1 → f j = 0) := fun h j hj => by
              by_cases e : j = k
              · rw [e]; exact h
              · exact HZ.out rfl j (by omega)
            have HX : Hid (∀ y, f k = y → y ≠ 0 → carvedR ⟨st, pts⟩ ps = ([], y)) := fun y hy h0 => by
              have hw : (firstW f 0 ps.length).2 = y := firstW_at f ps.length k hlt (HZ.out rfl) y hy h0
              rw [HF.out, hw, if_pos h0]
            obtain ⟨B1, HB1'⟩ : ∃ B, Hid (okIn 0 ((pts.length : Int) - 1) fr = B) := ⟨_, rfl⟩
            obtain ⟨B2, HB2'⟩ : ∃ B, Hid (okIn 0 ((pts.length : Int) - 1) tt = B) := ⟨_, rfl⟩
            have HC1 : Hid (∀ n, Calls Try.prog 51 #[.int .i64 fr, .int .i64 0, .int .i64 ((pts.length : Int) - 1)] (wr.drewN n) fun e w'' => e = .returned (.bool B1) ∧ ∃ m, w'' = wr.drewN m) := fun n => (rin_any fr 0 ((pts.length : Int) - 1) (wr.drewN n)).mono fun e w' ⟨h1, h2⟩ => ⟨by rw [h1, HB1'.out], n, h2.symm⟩
            have HC2 : Hid (∀ n, Calls Try.prog 51 #[.int .i64 tt, .int .i64 0, .int .i64 ((pts.length : Int) - 1)] (wr.drewN n) fun e w'' => e = .returned (.bool B2) ∧ ∃ m, w'' = wr.drewN m) := fun n => (rin_any tt 0 ((pts.length : Int) - 1) (wr.drewN n)).mono fun e w' ⟨h1, h2⟩ => ⟨by rw [h1, HB2'.out], n, h2.symm⟩
            have HRN : Hid (∀ n, Below w1.heap.size w1 (wr.drewN n)) := fun n => HR.out.trans (Below.mono (B := wr.heap.size) (w' := wr.drewN n) ⟨rfl, rfl, rfl, Nat.le_refl _, fun _ _ => rfl⟩ HR.out.size)
            clear HC HZ
            cases B1
            · have HY := Lib.hid (HX.out 4 (by rw [HD.out]; exact passE_no (.inl HB1'.out)) (by decide))
              clear HX HN
              go_wp2_with fail
              go_quiet ((go_at_call 51; exact HC1.out _))
              go_wp2
              go_roundg (gk - 1)
              case measure => omega
              case rel => exact ⟨k + 1, 4, by omega, by go_num, rfl, fun h => by (cases h), fun _ => HY.out, HRN.out _⟩
            · cases B2
              · have HY := Lib.hid (HX.out 4 (by rw [HD.out]; exact passE_no (.inr HB2'.out)) (by decide))
                clear HX HN
                go_wp2_with fail
                go_quiet ((first | (go_at_call_of 51 fr; exact HC1.out _) | (go_at_call 51; exact HC2.out _)))
                go_wp2
                go_roundg (gk - 1)
                case measure => omega
                case rel => exact ⟨k + 1, 4, by omega, by go_num, rfl, fun h => by (cases h), fun _ => HY.out, HRN.out _⟩
              · have hp := passE_yes HB1'.out HB2'.out
                by_cases hft : tt < fr
                · have HY := Lib.hid (HX.out 2 (by rw [HD.out, hp, if_pos hft]) (by decide))
                  clear HX HN hp
                  go_wp2_with fail
                  go_quiet ((first | (go_at_call_of 51 fr; exact HC1.out _) | (go_at_call 51; exact HC2.out _)))
                  go_wp2_with fail
                  go_quiet (fail)
                  go_wp2
                  go_roundg (gk - 1)
                  case measure => omega
                  case rel => exact ⟨k + 1, 2, by omega, by go_num, rfl, fun h => by (cases h), fun _ => HY.out, HRN.out _⟩
                · have HY := Lib.hid (HN.out (by rw [HD.out, hp, if_neg hft]))
                  have hft' : fr ≤ tt := by omega
                  clear HX HN hp
                  go_wp2_with fail
                  go_quiet ((first | (go_at_call_of 51 fr; exact HC1.out _) | (go_at_call 51; exact HC2.out _)))
                  go_wp2_with fail
                  go_quiet (fail)
                  go_wp2
                  go_roundg (gk - 1)
                  case measure => omega
                  case rel => exact ⟨k + 1, 0, by omega, by go_num, rfl, fun _ => HY.out, fun h => absurd rfl h, HRN.out _⟩
          · obtain rfl : k = ps.length := by omega
            have hall := HZ.out rfl
            have HFN : Hid (carvedR ⟨st, pts⟩ ps = ((List.range pts.length).map fun a => cntN ps (a : Nat) ps.length, 0)) := by
              show _ = _
              rw [HF.out, if_neg (by rw [(firstW_zero f ps.length 0).2 (fun j _ hj => hall j (by omega))]; simp)]
            have hps : ∀ p, p ∈ ps → 0 ≤ p.1 ∧ p.1 ≤ p.2 ∧ p.2 ≤ (pts.length : Int) - 1 := fun p hp => by
              obtain ⟨i, hi, rfl⟩ := List.mem_iff_getElem.1 hp
              have h := hall i hi
              rw [← HFF.out] at h
              simp only [List.getD_eq_getElem?_getD, List.getElem?_eq_getElem hi, Option.getD_some] at h
              unfold passE okIn at h
              split at h
              · cases h
              · split at h
                · cases h
                · rename_i h1 h2
                  simp at h1
                  omega
            have HPS := Lib.hid hps
            clear hps hall HZ HC hlt hk
            go_wp2_with fail
            refine (rlowered_any ⟨st, pts⟩ _ _ ps wr (HP1.out.below HR.out) (HQ1.out.below HR.out) h10 hp60 HPS.out).mono ?_
            rintro e w2 ⟨v, rfl, hown, hb⟩
            have HBB := Lib.hid (HBw.out.trans (hb.mono HBw.out.size))
            have HO := Lib.hid (own_base hown HBw.out.size)
            clear hb hown ra rb rl
            go_wp2
            go_ret2
            refine ⟨v, by rw [HFN.out]; rfl, ?_, HBB.out⟩
            rw [HFN.out]
            show World.ownsRow _ _ _ _ _ ((List.range pts.length).map fun (a : Nat) => cntN ps a ps.length).length _
            rw [List.length_map, List.length_range]
            exact HO.out
        · have te : (ev == 0) = false := by simp [he]
          have te2 : (ev != 0) = true := by simp [he]
          have HCE := Lib.hid (HC.out he)
          clear HC HZ
          by_cases hlt : (k : Int) < (ps.length : Int)
          · go_wp2
            go_ret2
            exact carvedP_no HCE.out HBw.out
          · go_wp2
            go_ret2
            exact carvedP_no HCE.out HBw.out
  · have tz : (z == 0) = false := by simp [hz]
    have tz2 : (z != 0) = true := by simp [hz]
    have HF : Hid (carvedR ⟨st, pts⟩ ps = ([], z)) := by show _ = _; unfold carvedR; rw [if_pos (by rw [HER.out]; exact hz), HER.out]
    go_wp2_with fail
    clear ra rb rl
    go_loopg [8, 9] 1 (fun g v i wr => v = .int .i64 z ∧ i = .int .i64 0 ∧ Hid (w1 = wr))
    case atStart => exact ⟨rfl, rfl, rfl⟩
    case round =>
      obtain ⟨rfl, rfl, HWR⟩ := hrel
      obtain rfl := HWR.out
      by_cases hlt : (0 : Int) < (ps.length : Int)
      · go_wp2
        go_ret2
        exact carvedP_no HF.out HB1.out
      · go_wp2
        go_ret2
        exact carvedP_no HF.out HB1.out
end Go.Proofs.Ytnciomoapajonaa
namespace Go.Proofs.Ytnciomoapajonaa
open Go Go.RowKit Go.Shelf Cv

/-- Whether the point ahead of one is deeper than a level. -/
def deepB (d : List Int) (L : Int) (i : Nat) : Bool := decide (0 < i) && decide (L < d.getD (i - 1) 0)
theorem lvl_low {d : List Int} {L : Int} {i : Nat} (h : i < d.length) (hx : d[i] ≤ L) (b : Bool) : lvlR L b i (d.drop i) = lvlR L (deepB d L (i + 1)) (i + 1) (d.drop (i + 1)) := by
  have e : deepB d L (i + 1) = false := by simp [deepB, List.getD_eq_getElem?_getD, h]; omega
  rw [e, List.drop_eq_getElem_cons h, lvlR, if_pos hx]
theorem lvl_on {d : List Int} {L : Int} {i : Nat} (h : i < d.length) (hx : L < d[i]) : lvlR L true i (d.drop i) = lvlR L (deepB d L (i + 1)) (i + 1) (d.drop (i + 1)) := by
  have e : deepB d L (i + 1) = true := by simp [deepB, List.getD_eq_getElem?_getD, h]; omega
  rw [e, List.drop_eq_getElem_cons h, lvlR, if_neg (by omega), if_pos rfl]
theorem lvl_new {d : List Int} {L : Int} {i : Nat} (h : i < d.length) (hx : L < d[i]) : lvlR L false i (d.drop i) = ((i : Int), (i : Int) + (runL L (d.drop (i + 1)) : Int)) :: lvlR L (deepB d L (i + 1)) (i + 1) (d.drop (i + 1)) := by
  have e : deepB d L (i + 1) = true := by simp [deepB, List.getD_eq_getElem?_getD, h]; omega
  rw [e, List.drop_eq_getElem_cons h, lvlR, if_neg (by omega)]
  rfl
theorem run_on {d : List Int} {L : Int} {i : Nat} (h : i < d.length) (hx : L < d[i]) : runL L (d.drop i) = runL L (d.drop (i + 1)) + 1 := by
  rw [List.drop_eq_getElem_cons h, runL, if_neg (by omega)]
theorem run_off {d : List Int} {L : Int} {i : Nat} (h : ∀ q : i < d.length, d[i] ≤ L) : runL L (d.drop i) = 0 := by
  rcases Nat.lt_or_ge i d.length with q | q
  · rw [List.drop_eq_getElem_cons q, runL, if_pos (h q)]
  · rw [List.drop_eq_nil_of_le q, runL]
theorem lvl_start (d : List Int) (L : Nat) : passOut d L ++ lvlR (L : Int) (deepB d L 0) 0 (d.drop 0) = passOut d (L + 1) := by
  rw [show passOut d (L + 1) = passIn d (L : Int) (passOut d L) d.length from rfl, passIn_lvl]
  rfl
theorem lvl_end (d : List Int) (L : Int) (b : Bool) (i : Nat) (h : d.length ≤ i) : lvlR L b i (d.drop i) = [] := by
  rw [List.drop_eq_nil_of_le h, lvlR]
/-- Where all passes are there, the level is the greatest depth. -/
theorem passOut_mono (d : List Int) (M : Nat) : (passOut d M).length ≤ (passOut d (M + 1)).length := by
  rw [show passOut d (M + 1) = passIn d (M : Int) (passOut d M) d.length from rfl, passIn_lvl, List.length_append]
  omega
theorem passOut_le (d : List Int) (M : Nat) : ∀ j, (passOut d M).length ≤ (passOut d (M + j)).length := by
  intro j
  induction j with
  | zero => exact Nat.le_refl _
  | succ j ih => exact Nat.le_trans ih (passOut_mono d (M + j))
theorem passOut_top (d : List Int) (M : Nat) (hM : ∀ x, x ∈ d → 0 ≤ x ∧ x ≤ M) (hx : M = 0 ∨ ∃ x, x ∈ d ∧ x = M) (L : Nat) (hL : L ≤ M) : ((passOut d L).length : Int) < manyL 0 d ↔ L < M := by
  have hm := passOut_many d M hM
  constructor
  · intro h
    rcases Nat.lt_or_ge L M with q | q
    · exact q
    · obtain rfl : L = M := by omega
      omega
  · intro h
    obtain ⟨K, rfl⟩ : ∃ K, M = K + 1 := ⟨M - 1, by omega⟩
    rcases hx with hx | ⟨x, hx, hxe⟩
    · omega
    · have := passOut_lt d K ⟨x, hx, by omega⟩
      have := passOut_le d L (K - L)
      rw [show L + (K - L) = K by omega] at this
      omega
theorem cells2_new (W : World) (t : TypeId) (x y : Value) : ∀ j u, [x, y][j]? = some u → (W.alloc (Obj.cells #[x, y] t)).cell? ((⟨W.heap.size, 0, none⟩ : Addr).add j) = some u := by
  intro j u hj
  match j, hj with
  | 0, hj => simp at hj; subst hj; exact cellOf (heap_alloc_new W (Obj.cells #[x, y] t)) 0 _ rfl
  | 1, hj => simp at hj; subst hj; exact cellOf (heap_alloc_new W (Obj.cells #[x, y] t)) 1 _ rfl
  | j + 2, hj => simp at hj
theorem ones2 (x y : Int) : ∀ u ∈ [Value.int .i64 x, Value.int .i64 y], u.oneCell' = true := by
  intro u hu
  simp at hu
  rcases hu with rfl | rfl <;> rfl
theorem rpassInfo : (Try.prog.info? 90).map (fun i => (i.zero, i.size, i.bytes)) = some (some (.agg #[.int .i64 0, .int .i64 0]), 2, 16) := by kernel_rfl
set_option maxRecDepth 100000 in
set_option maxHeartbeats 8000000 in
theorem rpasses_any (r : Row) (pv sv : Value) (s : List Int) (w : World) (hP : PtsAt w pv r.pts) (hS : IntsAt w sv s) :
    Calls Try.prog 31 #[.agg #[.int .i64 r.st, pv], sv] w fun e w' => ∃ v, e = .returned (.tuple #[v, .int .i64 (passesR r s).2]) ∧ w'.ownsRow w.heap.size 90 2 v (passesR r s).1.length (passC (passesR r s).1) ∧ Below w.heap.size w w' := by
  obtain ⟨i0, hi0⟩ := info_of_underlying Try.underlying90
  have HI : Hid (i0.zero = some (.agg #[.int .i64 0, .int .i64 0]) ∧ i0.size = 2 ∧ i0.bytes = 16) := by
    have h := rpassInfo
    rw [hi0] at h
    simp at h
    exact h
  obtain ⟨st, pts⟩ := r
  simp only at hP ⊢
  obtain ⟨lp, pa, pc, rfl, _, _⟩ := id hP
  obtain ⟨ls, sa, sc, rfl, _, _⟩ := id hS
  have hB : Below w.heap.size w (w.alloc (Obj.cells #[.int .i64 st, .slice pa pts.length pc] 24)) := by go_grown
  have HB := Lib.hid hB
  have HP := Lib.hid (hP.below hB)
  have HS := Lib.hid (hS.below hB)
  have HA := Lib.hid (heap_alloc_new w (Obj.cells #[.int .i64 st, .slice pa pts.length pc] 24))
  clear hP hS hB
  obtain ⟨z, HZ⟩ : ∃ z, Hid (surfR ⟨st, pts⟩ s = z) := ⟨_, rfl⟩
  go_enter Try.func31, Try.ntmps31
  go_wp2_with fail
  generalize w.alloc (Obj.cells #[.int .i64 st, .slice pa pts.length pc] 24) = w0 at *
  have hcall := surface_any ⟨st, pts⟩ _ _ s w0 HP.out HS.out
  rw [HZ.out] at hcall
  refine hcall.mono ?_
  clear hcall
  rintro e w1 ⟨rfl, hb⟩
  have HB1 := Lib.hid (HB.out.trans (hb.mono HB.out.size))
  have HP1 := Lib.hid (HP.out.below hb)
  have HS1 := Lib.hid (HS.out.below hb)
  have HA1 := Lib.hid ((hb.block _ (lt_of_block HA.out)).trans HA.out)
  clear hb HB HP HS HA
  have ra := cellOf HA1.out 0 _ rfl
  have rb := cellOf HA1.out 1 _ rfl
  have rl := lt_of_block HA1.out
  by_cases hz : z = 0
  · subst hz
    obtain ⟨hv, hl, hs9⟩ := surfR_ok HZ.out
    have HV := Lib.hid hv
    have HL := Lib.hid hl
    have HS9 := Lib.hid hs9
    clear hv hl hs9
    go_wp2_with fail
    have h10 : pts.length ≤ 10 := HV.out.n10
    have hll : s.length = pts.length := HL.out
    refine (rdepths_any ⟨st, pts⟩ _ _ s w1 HP1.out HS1.out HV.out HL.out HS9.out).mono ?_
    rintro e w2 ⟨dv, rfl, hd, hb⟩
    have HB2 := Lib.hid (HB1.out.trans (hb.mono HB1.out.size))
    have HDB := Lib.hid (deepN_bd pts s HV.out.ok HS9.out pts.length (Nat.le_refl _) (by omega))
    have HDL := Lib.hid (deepN_length pts s pts.length)
    have HPR : Hid (passesR ⟨st, pts⟩ s = if 60 < manyL 0 (deepN pts s pts.length) then ([], 9) else (passL (deepN pts s pts.length), 0)) := by show _ = _; unfold passesR; rw [if_pos HZ.out, hll]
    simp only at hd
    generalize deepN pts s pts.length = D at *
    have HD := Lib.hid hd
    obtain ⟨ld, da, dc, rfl, _, _⟩ := id hd
    obtain ⟨n, hn⟩ : ∃ n, D.length = n := ⟨_, rfl⟩
    have hn10 : n ≤ 10 := by have := HDL.out; omega
    have hn1 : 1 ≤ n := by have := HDL.out; have : 1 ≤ pts.length := HV.out.n1; omega
    rw [hn] at HD ⊢
    have HN := Lib.hid hn
    have nI : (n : Int) ≤ 10 := by omega
    obtain ⟨mn, HMN⟩ : ∃ mn, Hid (manyL 0 D = mn) := ⟨_, rfl⟩
    have HM : Hid (∀ W', Below w2.heap.size w2 W' → Calls Try.prog 44 #[.slice da n dc] W' fun e w' => e = .returned (.int .i64 mn) ∧ W' = w') := fun W' hb => by
      have h := rmany_any (.slice da n dc) D W' (HD.out.below hb) (by rw [HN.out]; exact hn10) HDB.out
      rw [HMN.out] at h
      exact h
    rw [HMN.out] at HPR
    clear hb hd hn hll ra rb rl HP1 HS1 HA1 HS9 HL HV
    go_wp2_with fail
    refine (HM.out _ (Below.refl _ _)).mono ?_
    rintro e w' ⟨rfl, rfl⟩
    by_cases h60 : 60 < mn
    · have HF : Hid (passesR ⟨st, pts⟩ s = ([], 9)) := by show _ = _; rw [HPR.out, if_pos h60]
      go_wp2_with fail
      go_ret2
      exact ⟨_, by rw [HF.out]; rfl, by rw [HF.out]; exact World.ownsRow_nil _ _ _ _, HB2.out⟩
    · have HF : Hid (passesR ⟨st, pts⟩ s = (passL D, 0)) := by show _ = _; rw [HPR.out, if_neg h60]
      have hmx := maxOf_mem D (by rw [HN.out]; omega)
      have hm0 := HDB.out _ hmx.1
      obtain ⟨M, HMM⟩ : ∃ M : Nat, Hid (Lib.maxOf D = (M : Int)) := ⟨(Lib.maxOf D).toNat, by show _ = _; omega⟩
      have HTOP : Hid (∀ L, L ≤ M → (((passOut D L).length : Int) < mn ↔ L < M)) := fun L hL => by
        rw [← HMN.out]
        exact passOut_top D M (fun x hx => ⟨(HDB.out x hx).1, by rw [← HMM.out]; exact hmx.2 x hx⟩) (.inr ⟨_, hmx.1, HMM.out⟩) L hL
      have HPL : Hid (passL D = passOut D M) := by show _ = _; unfold passL; rw [HMM.out]; rfl
      have hM9 : M ≤ 9000 := by have := HMM.out; omega
      have m60 : mn ≤ 60 := by omega
      clear hmx hm0 h60 HPR
      go_wp2_with fail
      go_loopg [8, 9] M (fun g v u wr => ∃ (L : Nat) (oa : Option Addr) (oc nn : Nat), g + L = M ∧ u = .int .i64 ((L : Int) + 1) ∧ v = .slice oa nn oc ∧ Hid (nn = (passOut D L).length) ∧ wr.ownsRow w2.heap.size 90 2 (.slice oa nn oc) nn (passC (passOut D L)) ∧ Hid (Below w2.heap.size w2 wr))
      case atStart => exact ⟨0, none, 0, 0, by omega, by go_num, rfl, rfl, World.ownsRow_nil _ _ _ _, Below.refl _ _⟩
      case round =>
        obtain ⟨L, oa, oc, nn, hL, rfl, rfl, hnn, hown, HR⟩ := hrel
        have htop := HTOP.out L (by omega)
        rw [← hnn.out] at htop
        go_wp2_with fail
        refine (HM.out _ HR.out).mono ?_
        rintro e w' ⟨rfl, rfl⟩
        by_cases hlt : L < M
        · have nlt : (nn : Int) < mn := htop.2 hlt
          obtain ⟨gk', rfl⟩ : ∃ g', gk = g' + 1 := ⟨gk - 1, by omega⟩
          obtain ⟨wo, hwo⟩ : ∃ wo, wo = wr := ⟨_, rfl⟩
          subst hwo
          have L9 : (L : Int) ≤ 9000 := by omega
          go_wp2_with fail
          clear htop nlt
          go_loopg [8, 10] n (fun g v i wr => ∃ (k : Nat) (acc : List (Int × Int)) (oa : Option Addr) (oc nn : Nat), g + k = n ∧ i = .int .i64 k ∧ v = .slice oa nn oc ∧ Hid (nn = acc.length) ∧ Hid (acc ++ lvlR (L : Int) (deepB D L k) k (D.drop k) = passOut D (L + 1)) ∧ wr.ownsRow w2.heap.size 90 2 (.slice oa nn oc) nn (passC acc) ∧ Hid (Below w2.heap.size w2 wr))
          case atStart => exact ⟨0, passOut D L, oa, oc, nn, by omega, rfl, rfl, hnn, lvl_start D L, hown, HR⟩
          case round =>
            clear hown hnn HR
            obtain ⟨k, acc, oa, oc, nn, hk, rfl, rfl, hnn, HA, hown, HR⟩ := hrel
            by_cases hkn : k < n
            · have kI : (k : Int) < (n : Int) := by omega
              have hkD : k < D.length := by rw [HN.out]; exact hkn
              obtain ⟨b, o, rfl, d0⟩ := (HD.out.below HR.out).get hkD
              have hxb := HDB.out D[k] (List.getElem_mem hkD)
              obtain ⟨x, HX⟩ : ∃ x, Hid (D[k] = x) := ⟨D[k], rfl⟩
              rw [HX.out] at d0 hxb
              obtain ⟨x0, x9⟩ := hxb
              by_cases hxl : x < (L : Int) + 1
              · have HA2 : Hid (acc ++ lvlR (L : Int) (deepB D L (k + 1)) (k + 1) (D.drop (k + 1)) = passOut D (L + 1)) := by
                  show _ = _
                  rw [← lvl_low hkD (by rw [HX.out]; omega) (deepB D L k)]
                  exact HA.out
                have q1 : decide (x < (L : Int) + 1) = true := by simp [hxl]
                clear HA
                go_wp2
                go_roundg (gk - 1)
                case measure => omega
                case rel => exact ⟨k + 1, acc, _, oc, nn, by omega, by go_num, rfl, hnn, HA2, hown, HR⟩
              · have q1 : decide (x < (L : Int) + 1) = false := by simp; omega
                have hnnb : Hid (nn ≤ 100000) := by
                  have h := congrArg List.length HA.out
                  rw [List.length_append] at h
                  have h2 := passOut_length D (L + 1)
                  have h3 : (L + 1) * D.length ≤ 9001 * 10 := Nat.mul_le_mul (by omega) (by rw [HN.out]; exact hn10)
                  have := hnn.out
                  show _ ≤ _
                  omega
                cases k with
                | zero =>
                  have HDP : deepB D L 0 = false := rfl
                  simp only [Nat.add_zero] at d0
                  have HB2' : Hid (deepB D L 0 = false) := HDP
                  have HAN : Hid (acc ++ [(((0 : Nat) : Int), ((0 : Nat) : Int) + (runL (L : Int) (D.drop (0 + 1)) : Int))] ++ lvlR (L : Int) (deepB D L (0 + 1)) (0 + 1) (D.drop (0 + 1)) = passOut D (L + 1)) := by
                    show _ = _
                    have h := HA.out
                    rw [HB2'.out, lvl_new hkD (by rw [HX.out]; omega)] at h
                    rw [← h]
                    simp
                  clear HA
                  obtain ⟨gm, rfl⟩ : ∃ gm, gk = gm + 1 := ⟨gk - 1, by omega⟩
                  obtain ⟨wm, hwm⟩ : ∃ wm, wm = wr := ⟨_, rfl⟩
                  subst hwm
                  go_wp2_with fail
                  go_loopg [11] n (fun g v wr => ∃ t : Nat, g + t = n ∧ v = .int .i64 t ∧ 0 ≤ t ∧ t < n ∧ Hid ((t : Int) + (runL (L : Int) (D.drop (t + 1)) : Int) = ((0 : Nat) : Int) + (runL (L : Int) (D.drop (0 + 1)) : Int)) ∧ Hid (wm = wr))
                  case atStart => exact ⟨0, by omega, by go_num, Nat.le_refl _, by omega, rfl, rfl⟩
                  case round =>
                    obtain ⟨t, hgt, rfl, hkt, htn, HT, HWM⟩ := hrel
                    obtain rfl := HWM.out
                    have tI : (t : Int) + 1 ≤ (n : Int) := by omega
                    have t9 : (t : Int) ≤ 9 := by omega
                    by_cases hend : t + 1 < n ∧ (L : Int) < D.getD (t + 1) 0
                    · obtain ⟨ht1, hz⟩ := hend
                      have htD : t + 1 < D.length := by rw [HN.out]; exact ht1
                      have hzz : D.getD (t + 1) 0 = D[t + 1] := by simp [List.getD_eq_getElem?_getD, htD]
                      rw [hzz] at hz
                      obtain ⟨b', o', e, dt⟩ := (HD.out.below HR.out).get htD
                      simp only [Option.some.injEq, Addr.mk.injEq, and_true] at e
                      obtain ⟨rfl, rfl⟩ := e
                      have HT2 : Hid (((t + 1 : Nat) : Int) + (runL (L : Int) (D.drop (t + 1 + 1)) : Int) = ((0 : Nat) : Int) + (runL (L : Int) (D.drop (0 + 1)) : Int)) := by
                        show _ = _
                        have h := HT.out
                        rw [run_on htD hz] at h
                        omega
                      have hzb := HDB.out D[t + 1] (List.getElem_mem htD)
                      generalize D[t + 1] = zt at *
                      have tI2 : (t : Int) + 1 < (n : Int) := by omega
                      have q3 : decide ((L : Int) + 1 ≤ zt) = true := by simp; omega
                      clear hzz HT
                      go_wp2
                      go_roundg (gk - 1)
                      case measure => omega
                      case rel => exact ⟨t + 1, by omega, by go_num, by omega, by omega, HT2.out, rfl⟩
                    · have HRZ : Hid ((t : Int) = ((0 : Nat) : Int) + (runL (L : Int) (D.drop (0 + 1)) : Int)) := by
                        show _ = _
                        have h := HT.out
                        rw [run_off (i := t + 1) (fun q => by
                          have : ¬ (L : Int) < D.getD (t + 1) 0 := fun h => hend ⟨by rw [← HN.out]; exact q, h⟩
                          rw [List.getD_eq_getElem?_getD, List.getElem?_eq_getElem q] at this
                          simp only [Option.getD_some] at this
                          omega)] at h
                        omega
                      have hownA := Lib.hid (hown.alloc (Obj.cells #[.int .i64 0, .int .i64 t] 90))
                      have HBA : Hid (Below w2.heap.size w2 (wm.alloc (Obj.cells #[.int .i64 0, .int .i64 t] 90))) := HR.out.alloc HR.out.size _
                      have hdec : (¬ t + 1 < n) ∨ (∃ zt : Int, t + 1 < n ∧ wm.cell? ⟨b, o + (t + 1), none⟩ = some (.int .i64 zt) ∧ 0 ≤ zt ∧ zt < (L : Int) + 1) := by
                        by_cases ht1 : t + 1 < n
                        · have htD : t + 1 < D.length := by rw [HN.out]; exact ht1
                          obtain ⟨b', o', e, dt⟩ := (HD.out.below HR.out).get htD
                          simp only [Option.some.injEq, Addr.mk.injEq, and_true] at e
                          obtain ⟨rfl, rfl⟩ := e
                          refine .inr ⟨_, ht1, dt, (HDB.out _ (List.getElem_mem htD)).1, ?_⟩
                          have : ¬ (L : Int) < D.getD (t + 1) 0 := fun h => hend ⟨ht1, h⟩
                          rw [List.getD_eq_getElem?_getD, List.getElem?_eq_getElem htD] at this
                          simp only [Option.getD_some] at this
                          omega
                        · exact .inl ht1
                      clear hend HT
                      rcases hdec with ht1 | ⟨zt, ht1, dt, zt0, ztL⟩
                      · have tI2 : ¬ ((t : Int) + 1 < (n : Int)) := by omega
                        go_wp2_with (at_builtin; refine wpList_append_own _ rfl _ _ 37 rfl w2.heap.size 90 i0 (.agg #[.int .i64 0, .int .i64 0]) 2 16 Try.underlying37 hi0 HI.out.1 HI.out.2.1 HI.out.2.2 rfl (by decide) _ _ _ rfl hownA.out ⟨wm.heap.size, 0, none⟩ 1 1 [.int .i64 0, .int .i64 t] rfl rfl (cells2_new wm _ _ _) (ones2 _ _) ?pa3 ?pa4 ?pa5 ?_)
                        case pa3 => have := hnnb.out; unfold maxLen; omega
                        case pa4 => have := hnnb.out; omega
                        case pa5 => have := HBA.out.size; simpa using this
                        · intro v' w3 hown3 hgrow _
                          have hB3 : Hid (Below w2.heap.size w2 w3) := HBA.out.grown hgrow HBA.out.size (fun g hg => (hownA.out.lt g hg).1)
                          obtain ⟨sa', sc', rfl⟩ := own_slice hown3
                          have HAN2 : Hid ((acc ++ [(((0 : Nat) : Int), (t : Int))]) ++ lvlR (L : Int) (deepB D L (0 + 1)) (0 + 1) (D.drop (0 + 1)) = passOut D (L + 1)) := by show _ = _; rw [HRZ.out]; exact HAN.out
                          have HNN2 : Hid (nn + 1 = (acc ++ [(((0 : Nat) : Int), (t : Int))]).length) := by show _ = _; rw [List.length_append, ← hnn.out]; rfl
                          have HO3 : Hid (w3.ownsRow w2.heap.size 90 2 (.slice sa' (nn + 1) sc') (nn + 1) (passC (acc ++ [(((0 : Nat) : Int), (t : Int))]))) := by show World.ownsRow _ _ _ _ _ _ _; rw [passC_append]; exact hown3
                          clear hgrow hownA hown3
                          go_wp2
                          go_roundg gm
                          case measure => omega
                          case rel => exact ⟨0 + 1, _, sa', sc', nn + 1, by omega, by go_num, rfl, HNN2.out, HAN2.out, HO3.out, hB3⟩
                      · have tI2 : (t : Int) + 1 < (n : Int) := by omega
                        have q3 : decide ((L : Int) + 1 ≤ zt) = false := by simp; omega
                        go_wp2_with (at_builtin; refine wpList_append_own _ rfl _ _ 37 rfl w2.heap.size 90 i0 (.agg #[.int .i64 0, .int .i64 0]) 2 16 Try.underlying37 hi0 HI.out.1 HI.out.2.1 HI.out.2.2 rfl (by decide) _ _ _ rfl hownA.out ⟨wm.heap.size, 0, none⟩ 1 1 [.int .i64 0, .int .i64 t] rfl rfl (cells2_new wm _ _ _) (ones2 _ _) ?pa3 ?pa4 ?pa5 ?_)
                        case pa3 => have := hnnb.out; unfold maxLen; omega
                        case pa4 => have := hnnb.out; omega
                        case pa5 => have := HBA.out.size; simpa using this
                        · intro v' w3 hown3 hgrow _
                          have hB3 : Hid (Below w2.heap.size w2 w3) := HBA.out.grown hgrow HBA.out.size (fun g hg => (hownA.out.lt g hg).1)
                          obtain ⟨sa', sc', rfl⟩ := own_slice hown3
                          have HAN2 : Hid ((acc ++ [(((0 : Nat) : Int), (t : Int))]) ++ lvlR (L : Int) (deepB D L (0 + 1)) (0 + 1) (D.drop (0 + 1)) = passOut D (L + 1)) := by show _ = _; rw [HRZ.out]; exact HAN.out
                          have HNN2 : Hid (nn + 1 = (acc ++ [(((0 : Nat) : Int), (t : Int))]).length) := by show _ = _; rw [List.length_append, ← hnn.out]; rfl
                          have HO3 : Hid (w3.ownsRow w2.heap.size 90 2 (.slice sa' (nn + 1) sc') (nn + 1) (passC (acc ++ [(((0 : Nat) : Int), (t : Int))]))) := by show World.ownsRow _ _ _ _ _ _ _; rw [passC_append]; exact hown3
                          clear hgrow hownA hown3
                          go_wp2
                          go_roundg gm
                          case measure => omega
                          case rel => exact ⟨0 + 1, _, sa', sc', nn + 1, by omega, by go_num, rfl, HNN2.out, HAN2.out, HO3.out, hB3⟩
                | succ k =>
                  have hkD1 : k < D.length := by omega
                  obtain ⟨b', o', e, d1⟩ := (HD.out.below HR.out).get hkD1
                  simp only [Option.some.injEq, Addr.mk.injEq, and_true] at e
                  obtain ⟨rfl, rfl⟩ := e
                  have hyb := HDB.out D[k] (List.getElem_mem hkD1)
                  have hde : deepB D L (k + 1) = decide ((L : Int) < D[k]) := by simp [deepB, List.getD_eq_getElem?_getD, hkD1]
                  have kI0 : (k : Int) + 1 < (n : Int) := by omega
                  have kp : (0 : Int) < (k : Int) + 1 := by omega
                  have k9 : (k : Int) ≤ 9 := by omega
                  by_cases hyl : (L : Int) < D[k]
                  · have HA2 : Hid (acc ++ lvlR (L : Int) (deepB D L (k + 1 + 1)) (k + 1 + 1) (D.drop (k + 1 + 1)) = passOut D (L + 1)) := by
                      show _ = _
                      have h := HA.out
                      rw [hde, decide_eq_true hyl, lvl_on hkD (by rw [HX.out]; omega)] at h
                      exact h
                    generalize D[k] = y at *
                    have q2 : decide ((L : Int) + 1 ≤ y) = true := by simp; omega
                    clear HA hde
                    go_wp2
                    go_roundg (gk - 1)
                    case measure => omega
                    case rel => exact ⟨k + 1 + 1, acc, _, oc, nn, by omega, by go_num, rfl, hnn, HA2, hown, HR⟩
                  · have HDP : deepB D L (k + 1) = false := by rw [hde, decide_eq_false hyl]
                    generalize D[k] = y at *
                    have q2 : decide ((L : Int) + 1 ≤ y) = false := by simp; omega
                    clear hde
                    have HB2' : Hid (deepB D L (k + 1) = false) := HDP
                    have HAN : Hid (acc ++ [((((k + 1) : Nat) : Int), (((k + 1) : Nat) : Int) + (runL (L : Int) (D.drop ((k + 1) + 1)) : Int))] ++ lvlR (L : Int) (deepB D L ((k + 1) + 1)) ((k + 1) + 1) (D.drop ((k + 1) + 1)) = passOut D (L + 1)) := by
                      show _ = _
                      have h := HA.out
                      rw [HB2'.out, lvl_new hkD (by rw [HX.out]; omega)] at h
                      rw [← h]
                      simp
                    clear HA
                    obtain ⟨gm, rfl⟩ : ∃ gm, gk = gm + 1 := ⟨gk - 1, by omega⟩
                    obtain ⟨wm, hwm⟩ : ∃ wm, wm = wr := ⟨_, rfl⟩
                    subst hwm
                    go_wp2_with fail
                    go_loopg [11] n (fun g v wr => ∃ t : Nat, g + t = n + (k + 1) ∧ v = .int .i64 t ∧ (k + 1) ≤ t ∧ t < n ∧ Hid ((t : Int) + (runL (L : Int) (D.drop (t + 1)) : Int) = (((k + 1) : Nat) : Int) + (runL (L : Int) (D.drop ((k + 1) + 1)) : Int)) ∧ Hid (wm = wr))
                    case atStart => exact ⟨(k + 1), by omega, by go_num, Nat.le_refl _, by omega, rfl, rfl⟩
                    case round =>
                      obtain ⟨t, hgt, rfl, hkt, htn, HT, HWM⟩ := hrel
                      obtain rfl := HWM.out
                      have tI : (t : Int) + 1 ≤ (n : Int) := by omega
                      have t9 : (t : Int) ≤ 9 := by omega
                      by_cases hend : t + 1 < n ∧ (L : Int) < D.getD (t + 1) 0
                      · obtain ⟨ht1, hz⟩ := hend
                        have htD : t + 1 < D.length := by rw [HN.out]; exact ht1
                        have hzz : D.getD (t + 1) 0 = D[t + 1] := by simp [List.getD_eq_getElem?_getD, htD]
                        rw [hzz] at hz
                        obtain ⟨b', o', e, dt⟩ := (HD.out.below HR.out).get htD
                        simp only [Option.some.injEq, Addr.mk.injEq, and_true] at e
                        obtain ⟨rfl, rfl⟩ := e
                        have HT2 : Hid (((t + 1 : Nat) : Int) + (runL (L : Int) (D.drop (t + 1 + 1)) : Int) = (((k + 1) : Nat) : Int) + (runL (L : Int) (D.drop ((k + 1) + 1)) : Int)) := by
                          show _ = _
                          have h := HT.out
                          rw [run_on htD hz] at h
                          omega
                        have hzb := HDB.out D[t + 1] (List.getElem_mem htD)
                        generalize D[t + 1] = zt at *
                        have tI2 : (t : Int) + 1 < (n : Int) := by omega
                        have q3 : decide ((L : Int) + 1 ≤ zt) = true := by simp; omega
                        clear hzz HT
                        go_wp2
                        go_roundg (gk - 1)
                        case measure => omega
                        case rel => exact ⟨t + 1, by omega, by go_num, by omega, by omega, HT2.out, rfl⟩
                      · have HRZ : Hid ((t : Int) = (((k + 1) : Nat) : Int) + (runL (L : Int) (D.drop ((k + 1) + 1)) : Int)) := by
                          show _ = _
                          have h := HT.out
                          rw [run_off (i := t + 1) (fun q => by
                            have : ¬ (L : Int) < D.getD (t + 1) 0 := fun h => hend ⟨by rw [← HN.out]; exact q, h⟩
                            rw [List.getD_eq_getElem?_getD, List.getElem?_eq_getElem q] at this
                            simp only [Option.getD_some] at this
                            omega)] at h
                          omega
                        have hownA := Lib.hid (hown.alloc (Obj.cells #[.int .i64 ((k : Int) + 1), .int .i64 t] 90))
                        have HBA : Hid (Below w2.heap.size w2 (wm.alloc (Obj.cells #[.int .i64 ((k : Int) + 1), .int .i64 t] 90))) := HR.out.alloc HR.out.size _
                        have hdec : (¬ t + 1 < n) ∨ (∃ zt : Int, t + 1 < n ∧ wm.cell? ⟨b, o + (t + 1), none⟩ = some (.int .i64 zt) ∧ 0 ≤ zt ∧ zt < (L : Int) + 1) := by
                          by_cases ht1 : t + 1 < n
                          · have htD : t + 1 < D.length := by rw [HN.out]; exact ht1
                            obtain ⟨b', o', e, dt⟩ := (HD.out.below HR.out).get htD
                            simp only [Option.some.injEq, Addr.mk.injEq, and_true] at e
                            obtain ⟨rfl, rfl⟩ := e
                            refine .inr ⟨_, ht1, dt, (HDB.out _ (List.getElem_mem htD)).1, ?_⟩
                            have : ¬ (L : Int) < D.getD (t + 1) 0 := fun h => hend ⟨ht1, h⟩
                            rw [List.getD_eq_getElem?_getD, List.getElem?_eq_getElem htD] at this
                            simp only [Option.getD_some] at this
                            omega
                          · exact .inl ht1
                        clear hend HT
                        rcases hdec with ht1 | ⟨zt, ht1, dt, zt0, ztL⟩
                        · have tI2 : ¬ ((t : Int) + 1 < (n : Int)) := by omega
                          go_wp2_with (at_builtin; refine wpList_append_own _ rfl _ _ 37 rfl w2.heap.size 90 i0 (.agg #[.int .i64 0, .int .i64 0]) 2 16 Try.underlying37 hi0 HI.out.1 HI.out.2.1 HI.out.2.2 rfl (by decide) _ _ _ rfl hownA.out ⟨wm.heap.size, 0, none⟩ 1 1 [.int .i64 ((k : Int) + 1), .int .i64 t] rfl rfl (cells2_new wm _ _ _) (ones2 _ _) ?pa3 ?pa4 ?pa5 ?_)
                          case pa3 => have := hnnb.out; unfold maxLen; omega
                          case pa4 => have := hnnb.out; omega
                          case pa5 => have := HBA.out.size; simpa using this
                          · intro v' w3 hown3 hgrow _
                            have hB3 : Hid (Below w2.heap.size w2 w3) := HBA.out.grown hgrow HBA.out.size (fun g hg => (hownA.out.lt g hg).1)
                            obtain ⟨sa', sc', rfl⟩ := own_slice hown3
                            have HAN2 : Hid ((acc ++ [((((k + 1) : Nat) : Int), (t : Int))]) ++ lvlR (L : Int) (deepB D L ((k + 1) + 1)) ((k + 1) + 1) (D.drop ((k + 1) + 1)) = passOut D (L + 1)) := by show _ = _; rw [HRZ.out]; exact HAN.out
                            have HNN2 : Hid (nn + 1 = (acc ++ [((((k + 1) : Nat) : Int), (t : Int))]).length) := by show _ = _; rw [List.length_append, ← hnn.out]; rfl
                            have HO3 : Hid (w3.ownsRow w2.heap.size 90 2 (.slice sa' (nn + 1) sc') (nn + 1) (passC (acc ++ [((((k + 1) : Nat) : Int), (t : Int))]))) := by show World.ownsRow _ _ _ _ _ _ _; rw [passC_append]; exact hown3
                            clear hgrow hownA hown3
                            go_wp2
                            go_roundg gm
                            case measure => omega
                            case rel => exact ⟨(k + 1) + 1, _, sa', sc', nn + 1, by omega, by go_num, rfl, HNN2.out, HAN2.out, HO3.out, hB3⟩
                        · have tI2 : (t : Int) + 1 < (n : Int) := by omega
                          have q3 : decide ((L : Int) + 1 ≤ zt) = false := by simp; omega
                          go_wp2_with (at_builtin; refine wpList_append_own _ rfl _ _ 37 rfl w2.heap.size 90 i0 (.agg #[.int .i64 0, .int .i64 0]) 2 16 Try.underlying37 hi0 HI.out.1 HI.out.2.1 HI.out.2.2 rfl (by decide) _ _ _ rfl hownA.out ⟨wm.heap.size, 0, none⟩ 1 1 [.int .i64 ((k : Int) + 1), .int .i64 t] rfl rfl (cells2_new wm _ _ _) (ones2 _ _) ?pa3 ?pa4 ?pa5 ?_)
                          case pa3 => have := hnnb.out; unfold maxLen; omega
                          case pa4 => have := hnnb.out; omega
                          case pa5 => have := HBA.out.size; simpa using this
                          · intro v' w3 hown3 hgrow _
                            have hB3 : Hid (Below w2.heap.size w2 w3) := HBA.out.grown hgrow HBA.out.size (fun g hg => (hownA.out.lt g hg).1)
                            obtain ⟨sa', sc', rfl⟩ := own_slice hown3
                            have HAN2 : Hid ((acc ++ [((((k + 1) : Nat) : Int), (t : Int))]) ++ lvlR (L : Int) (deepB D L ((k + 1) + 1)) ((k + 1) + 1) (D.drop ((k + 1) + 1)) = passOut D (L + 1)) := by show _ = _; rw [HRZ.out]; exact HAN.out
                            have HNN2 : Hid (nn + 1 = (acc ++ [((((k + 1) : Nat) : Int), (t : Int))]).length) := by show _ = _; rw [List.length_append, ← hnn.out]; rfl
                            have HO3 : Hid (w3.ownsRow w2.heap.size 90 2 (.slice sa' (nn + 1) sc') (nn + 1) (passC (acc ++ [((((k + 1) : Nat) : Int), (t : Int))]))) := by show World.ownsRow _ _ _ _ _ _ _; rw [passC_append]; exact hown3
                            clear hgrow hownA hown3
                            go_wp2
                            go_roundg gm
                            case measure => omega
                            case rel => exact ⟨(k + 1) + 1, _, sa', sc', nn + 1, by omega, by go_num, rfl, HNN2.out, HAN2.out, HO3.out, hB3⟩
            · obtain rfl : k = n := by omega
              have HE : Hid (acc = passOut D (L + 1)) := by
                show _ = _
                have := HA.out
                rw [lvl_end D L _ _ (by rw [HN.out]; exact Nat.le_refl _), List.append_nil] at this
                exact this
              clear hkn hk HA
              go_wp2
              go_roundg gk'
              case measure => omega
              case rel => exact ⟨L + 1, oa, oc, nn, by omega, by go_num, rfl, by rw [← HE.out]; exact hnn, by rw [← HE.out]; exact hown, HR⟩
        · have nge : ¬ (nn : Int) < mn := fun h => hlt (htop.1 h)
          have HE : Hid (passL D = passOut D L) := by show _ = _; rw [HPL.out, show L = M by omega]
          have HO := Lib.hid (own_base hown HB2.out.size)
          have HBB := Lib.hid (HB2.out.trans (HR.out.mono HB2.out.size))
          clear hown htop hlt HTOP HPL
          go_wp2
          go_ret2
          refine ⟨_, by rw [HF.out]; rfl, ?_, HBB.out⟩
          rw [HF.out]
          show World.ownsRow _ _ _ _ _ (passL D).length (passC (passL D))
          rw [HE.out, ← hnn.out]
          exact HO.out
  · have HF : Hid (passesR ⟨st, pts⟩ s = ([], z)) := by show _ = _; unfold passesR; rw [if_neg (by rw [HZ.out]; exact hz), HZ.out]
    have tz : (z != 0) = true := by simp [hz]
    clear ra rb rl
    go_wp2
    go_ret2
    exact ⟨_, by rw [HF.out]; rfl, by rw [HF.out]; exact World.ownsRow_nil _ _ _ _, HB1.out⟩
end Go.Proofs.Ytnciomoapajonaa
namespace Go.Proofs.Ytnciomoapajonaa
open Go Go.RowKit Go.Shelf Cv

theorem passesR_len (r : Row) (s : List Int) : (passesR r s).1.length ≤ 60 := by
  unfold passesR
  split
  · rename_i hz
    split
    · simp
    · rename_i h
      obtain ⟨hV, hl, hs9⟩ := surfR_ok hz
      have hd := deepN_bd r.pts s hV.ok hs9 s.length (by omega) (Nat.le_refl _)
      have hdl := deepN_length r.pts s s.length
      have h1 := hV.n1
      have hm := maxOf_mem (deepN r.pts s s.length) (by omega)
      have := passOut_many (deepN r.pts s s.length) (Lib.maxOf (deepN r.pts s s.length)).toNat (fun x hx => ⟨(hd x hx).1, by have := hm.2 x hx; omega⟩)
      show (passL _).length ≤ 60
      unfold passL
      omega
  · simp
theorem carvedR_len (r : Row) (ps : List (Int × Int)) : (carvedR r ps).1.length ≤ 10 := by
  unfold carvedR
  split
  · simp
  · rename_i h
    have := ((check_valid _).1 (by omega : errR r = 0)).n10
    split
    · simp
    · split
      · simp
      · simp; exact this
set_option maxRecDepth 100000 in
set_option maxHeartbeats 16000000 in
theorem lcuts_any (r : Row) (pv sv : Value) (s : List Int) (qv : Value) (ps : List (Int × Int)) (w : World) (hP : PtsAt w pv r.pts) (hS : IntsAt w sv s) (hQ : PassAt w qv ps) :
    Calls Try.prog 4 #[.agg #[.int .i64 r.st, pv], sv, qv] w fun e w' => e = .returned (.bool true) ∧ Below w.heap.size w w' := by
  obtain ⟨st, pts⟩ := r
  simp only at hP ⊢
  obtain ⟨lp, pa, pc, rfl, _, _⟩ := id hP
  obtain ⟨_, ia, ic, rfl, _, _⟩ := id hS
  obtain ⟨_, qa, qc, rfl, _, _⟩ := id hQ
  have HP := Lib.hid hP
  have HS := Lib.hid hS
  have HQ := Lib.hid hQ
  clear hP hS hQ
  obtain ⟨c1, HK1⟩ : ∃ c, Hid ((whyR ⟨st, pts⟩ s).1 = c) := ⟨_, rfl⟩
  obtain ⟨c2, HK2⟩ : ∃ c, Hid ((whyR ⟨st, pts⟩ s).2.1 = c) := ⟨_, rfl⟩
  obtain ⟨c3, HK3⟩ : ∃ c, Hid ((whyR ⟨st, pts⟩ s).2.2 = c) := ⟨_, rfl⟩
  obtain ⟨m1, HM1⟩ : ∃ c, Hid ((plasterR ⟨st, pts⟩ s).1 = c) := ⟨_, rfl⟩
  obtain ⟨m2, HM2⟩ : ∃ c, Hid ((plasterR ⟨st, pts⟩ s).2 = c) := ⟨_, rfl⟩
  have hl := passesR_len ⟨st, pts⟩ s
  have hc := carvedR_len ⟨st, pts⟩ ps
  obtain ⟨ql, HL⟩ : ∃ c, Hid ((passesR ⟨st, pts⟩ s).1 = c) := ⟨_, rfl⟩
  obtain ⟨qe, HE⟩ : ∃ c, Hid ((passesR ⟨st, pts⟩ s).2 = c) := ⟨_, rfl⟩
  obtain ⟨cl, HC1⟩ : ∃ c, Hid ((carvedR ⟨st, pts⟩ ps).1 = c) := ⟨_, rfl⟩
  obtain ⟨ce, HC2⟩ : ∃ c, Hid ((carvedR ⟨st, pts⟩ ps).2 = c) := ⟨_, rfl⟩
  rw [HL.out] at hl
  rw [HC1.out] at hc
  have HB := Lib.hid (Below.refl w.heap.size w)
  go_enter Try.func4, Try.ntmps4
  go_wp2_with fail
  have hb := (Below.refl w.heap.size w).alloc (Nat.le_refl _) (Obj.cells #[.int .i64 st, .slice pa pts.length pc] 24)
  have HR := Lib.hid (heap_alloc_new w (Obj.cells #[.int .i64 st, .slice pa pts.length pc] 24))
  have hz1 : (w.alloc (Obj.cells #[.int .i64 st, .slice pa pts.length pc] 24)).heap.size = w.heap.size + 1 := by simp
  have HB' := Lib.hid (HB.out.trans (hb.mono HB.out.size))
  have HP' := Lib.hid (HP.out.below hb)
  have HS' := Lib.hid (HS.out.below hb)
  have HQ' := Lib.hid (HQ.out.below hb)
  clear HB
  have HB := HB'
  clear HB'
  clear HP
  have HP := HP'
  clear HP'
  clear HS
  have HS := HS'
  clear HS'
  clear HQ
  have HQ := HQ'
  clear HQ'
  clear hb
  generalize w.alloc (Obj.cells #[.int .i64 st, .slice pa pts.length pc] 24) = w1 at *
  have hcall := Why_any ⟨st, pts⟩ _ _ s w1 HP.out HS.out
  rw [HK1.out, HK2.out, HK3.out] at hcall
  refine hcall.mono ?_
  clear hcall
  rintro e w2 ⟨rfl, hb⟩
  have HB' := Lib.hid (HB.out.trans (hb.mono HB.out.size))
  have HP' := Lib.hid (HP.out.below hb)
  have HS' := Lib.hid (HS.out.below hb)
  have HQ' := Lib.hid (HQ.out.below hb)
  have HR' := Lib.hid ((hb.block _ (lt_of_block HR.out)).trans HR.out)
  clear HB
  have HB := HB'
  clear HB'
  clear HP
  have HP := HP'
  clear HP'
  clear HS
  have HS := HS'
  clear HS'
  clear HQ
  have HQ := HQ'
  clear HQ'
  clear HR
  have HR := HR'
  clear HR'
  clear hb
  have ra := cellOf HR.out 0 _ rfl
  have rb := cellOf HR.out 1 _ rfl
  have rl := lt_of_block HR.out
  go_wp2_with fail
  clear ra rb rl
  have hcall := rwhy_any ⟨st, pts⟩ _ _ s w2 HP.out HS.out
  rw [HK1.out, HK2.out, HK3.out] at hcall
  refine hcall.mono ?_
  clear hcall
  rintro e w3 ⟨rfl, hb⟩
  have HB' := Lib.hid (HB.out.trans (hb.mono HB.out.size))
  have HP' := Lib.hid (HP.out.below hb)
  have HS' := Lib.hid (HS.out.below hb)
  have HQ' := Lib.hid (HQ.out.below hb)
  have HR' := Lib.hid ((hb.block _ (lt_of_block HR.out)).trans HR.out)
  clear HB
  have HB := HB'
  clear HB'
  clear HP
  have HP := HP'
  clear HP'
  clear HS
  have HS := HS'
  clear HS'
  clear HQ
  have HQ := HQ'
  clear HQ'
  clear HR
  have HR := HR'
  clear HR'
  clear hb
  have ra := cellOf HR.out 0 _ rfl
  have rb := cellOf HR.out 1 _ rfl
  have rl := lt_of_block HR.out
  go_wp2_with fail
  clear ra rb rl
  have hcall := plaster_any ⟨st, pts⟩ _ _ s w3 HP.out HS.out
  rw [HM1.out, HM2.out] at hcall
  refine hcall.mono ?_
  clear hcall
  rintro e w4 ⟨rfl, hb⟩
  have HB' := Lib.hid (HB.out.trans (hb.mono HB.out.size))
  have HP' := Lib.hid (HP.out.below hb)
  have HS' := Lib.hid (HS.out.below hb)
  have HQ' := Lib.hid (HQ.out.below hb)
  have HR' := Lib.hid ((hb.block _ (lt_of_block HR.out)).trans HR.out)
  clear HB
  have HB := HB'
  clear HB'
  clear HP
  have HP := HP'
  clear HP'
  clear HS
  have HS := HS'
  clear HS'
  clear HQ
  have HQ := HQ'
  clear HQ'
  clear HR
  have HR := HR'
  clear HR'
  clear hb
  have ra := cellOf HR.out 0 _ rfl
  have rb := cellOf HR.out 1 _ rfl
  have rl := lt_of_block HR.out
  go_wp2_with fail
  clear ra rb rl
  have hcall := rplaster_any ⟨st, pts⟩ _ _ s w4 HP.out HS.out
  rw [HM1.out, HM2.out] at hcall
  refine hcall.mono ?_
  clear hcall
  rintro e w5 ⟨rfl, hb⟩
  have HB' := Lib.hid (HB.out.trans (hb.mono HB.out.size))
  have HP' := Lib.hid (HP.out.below hb)
  have HS' := Lib.hid (HS.out.below hb)
  have HQ' := Lib.hid (HQ.out.below hb)
  have HR' := Lib.hid ((hb.block _ (lt_of_block HR.out)).trans HR.out)
  clear HB
  have HB := HB'
  clear HB'
  clear HP
  have HP := HP'
  clear HP'
  clear HS
  have HS := HS'
  clear HS'
  clear HQ
  have HQ := HQ'
  clear HQ'
  clear HR
  have HR := HR'
  clear HR'
  clear hb
  have ra := cellOf HR.out 0 _ rfl
  have rb := cellOf HR.out 1 _ rfl
  have rl := lt_of_block HR.out
  go_wp2_with fail
  clear ra rb rl
  have hcall := passes_any ⟨st, pts⟩ _ _ s w5 HP.out HS.out
  rw [HL.out, HE.out] at hcall
  refine hcall.mono ?_
  clear hcall
  rintro e w6 ⟨v1, rfl, hown, hb⟩
  have HB' := Lib.hid (HB.out.trans (hb.mono HB.out.size))
  have HP' := Lib.hid (HP.out.below hb)
  have HS' := Lib.hid (HS.out.below hb)
  have HQ' := Lib.hid (HQ.out.below hb)
  have HR' := Lib.hid ((hb.block _ (lt_of_block HR.out)).trans HR.out)
  clear HB
  have HB := HB'
  clear HB'
  clear HP
  have HP := HP'
  clear HP'
  clear HS
  have HS := HS'
  clear HS'
  clear HQ
  have HQ := HQ'
  clear HQ'
  clear HR
  have HR := HR'
  clear HR'
  clear hb
  have hpa := passAt_own hown (by omega)
  obtain ⟨xa1, xc1, rfl⟩ := own_slice hown
  have HX := Lib.hid hpa
  clear hown hpa
  have ra := cellOf HR.out 0 _ rfl
  have rb := cellOf HR.out 1 _ rfl
  have rl := lt_of_block HR.out
  go_wp2_with fail
  clear ra rb rl
  have hcall := rpasses_any ⟨st, pts⟩ _ _ s w6 HP.out HS.out
  rw [HL.out, HE.out] at hcall
  refine hcall.mono ?_
  clear hcall
  rintro e w7 ⟨v2, rfl, hown, hb⟩
  have HB' := Lib.hid (HB.out.trans (hb.mono HB.out.size))
  have HP' := Lib.hid (HP.out.below hb)
  have HS' := Lib.hid (HS.out.below hb)
  have HQ' := Lib.hid (HQ.out.below hb)
  have HR' := Lib.hid ((hb.block _ (lt_of_block HR.out)).trans HR.out)
  have HX' := Lib.hid (HX.out.below hb)
  clear HB
  have HB := HB'
  clear HB'
  clear HP
  have HP := HP'
  clear HP'
  clear HS
  have HS := HS'
  clear HS'
  clear HQ
  have HQ := HQ'
  clear HQ'
  clear HR
  have HR := HR'
  clear HR'
  clear HX
  have HX := HX'
  clear HX'
  clear hb
  have hpa := passAt_own hown (by omega)
  obtain ⟨xa2, xc2, rfl⟩ := own_slice hown
  have HY := Lib.hid hpa
  clear hown hpa
  go_wp2_with fail
  have hcall := same_eq _ _ ql _ HX.out HY.out
  refine hcall.mono ?_
  clear hcall
  rintro e w8 ⟨rfl, hb⟩
  have HB' := Lib.hid (HB.out.trans (hb.mono HB.out.size))
  have HP' := Lib.hid (HP.out.below hb)
  have HS' := Lib.hid (HS.out.below hb)
  have HQ' := Lib.hid (HQ.out.below hb)
  have HR' := Lib.hid ((hb.block _ (lt_of_block HR.out)).trans HR.out)
  have HX' := Lib.hid (HX.out.below hb)
  have HY' := Lib.hid (HY.out.below hb)
  clear HB
  have HB := HB'
  clear HB'
  clear HP
  have HP := HP'
  clear HP'
  clear HS
  have HS := HS'
  clear HS'
  clear HQ
  have HQ := HQ'
  clear HQ'
  clear HR
  have HR := HR'
  clear HR'
  clear HX
  have HX := HX'
  clear HX'
  clear HY
  have HY := HY'
  clear HY'
  clear hb
  clear HX HY
  have ra := cellOf HR.out 0 _ rfl
  have rb := cellOf HR.out 1 _ rfl
  have rl := lt_of_block HR.out
  go_wp2_with fail
  clear ra rb rl
  have hcall := Carved_any ⟨st, pts⟩ _ _ ps w8 HP.out HQ.out
  unfold CarvedP at hcall
  rw [HC1.out, HC2.out] at hcall
  refine hcall.mono ?_
  clear hcall
  rintro e w9 ⟨v3, rfl, hown, hb⟩
  have HB' := Lib.hid (HB.out.trans (hb.mono HB.out.size))
  have HP' := Lib.hid (HP.out.below hb)
  have HS' := Lib.hid (HS.out.below hb)
  have HQ' := Lib.hid (HQ.out.below hb)
  have HR' := Lib.hid ((hb.block _ (lt_of_block HR.out)).trans HR.out)
  clear HB
  have HB := HB'
  clear HB'
  clear HP
  have HP := HP'
  clear HP'
  clear HS
  have HS := HS'
  clear HS'
  clear HQ
  have HQ := HQ'
  clear HQ'
  clear HR
  have HR := HR'
  clear HR'
  clear hb
  have hpa := intsAt_own hown (by omega)
  obtain ⟨xa3, xc3, rfl⟩ := own_slice hown
  have HX := Lib.hid hpa
  clear hown hpa
  have ra := cellOf HR.out 0 _ rfl
  have rb := cellOf HR.out 1 _ rfl
  have rl := lt_of_block HR.out
  go_wp2_with fail
  clear ra rb rl
  have hcall := rcarved_any ⟨st, pts⟩ _ _ ps w9 HP.out HQ.out
  unfold CarvedP at hcall
  rw [HC1.out, HC2.out] at hcall
  refine hcall.mono ?_
  clear hcall
  rintro e w10 ⟨v4, rfl, hown, hb⟩
  have HB' := Lib.hid (HB.out.trans (hb.mono HB.out.size))
  have HP' := Lib.hid (HP.out.below hb)
  have HS' := Lib.hid (HS.out.below hb)
  have HQ' := Lib.hid (HQ.out.below hb)
  have HR' := Lib.hid ((hb.block _ (lt_of_block HR.out)).trans HR.out)
  have HX' := Lib.hid (HX.out.below hb)
  clear HB
  have HB := HB'
  clear HB'
  clear HP
  have HP := HP'
  clear HP'
  clear HS
  have HS := HS'
  clear HS'
  clear HQ
  have HQ := HQ'
  clear HQ'
  clear HR
  have HR := HR'
  clear HR'
  clear HX
  have HX := HX'
  clear HX'
  clear hb
  have hpa := intsAt_own hown (by omega)
  obtain ⟨xa4, xc4, rfl⟩ := own_slice hown
  have HY := Lib.hid hpa
  clear hown hpa
  go_wp2_with fail
  have hcall := ints_eq _ _ cl _ HX.out HY.out
  refine hcall.mono ?_
  clear hcall
  rintro e w11 ⟨rfl, hb⟩
  have HB' := Lib.hid (HB.out.trans (hb.mono HB.out.size))
  have HP' := Lib.hid (HP.out.below hb)
  have HS' := Lib.hid (HS.out.below hb)
  have HQ' := Lib.hid (HQ.out.below hb)
  have HR' := Lib.hid ((hb.block _ (lt_of_block HR.out)).trans HR.out)
  have HX' := Lib.hid (HX.out.below hb)
  have HY' := Lib.hid (HY.out.below hb)
  clear HB
  have HB := HB'
  clear HB'
  clear HP
  have HP := HP'
  clear HP'
  clear HS
  have HS := HS'
  clear HS'
  clear HQ
  have HQ := HQ'
  clear HQ'
  clear HR
  have HR := HR'
  clear HR'
  clear HX
  have HX := HX'
  clear HX'
  clear HY
  have HY := HY'
  clear HY'
  clear hb
  clear HX HY
  go_wp2_with fail
  have hcall := awake_any w11
  refine hcall.mono ?_
  clear hcall
  rintro e w12 ⟨rfl, hb⟩
  have HB' := Lib.hid (HB.out.trans (hb.mono HB.out.size))
  have HP' := Lib.hid (HP.out.below hb)
  have HS' := Lib.hid (HS.out.below hb)
  have HQ' := Lib.hid (HQ.out.below hb)
  have HR' := Lib.hid ((hb.block _ (lt_of_block HR.out)).trans HR.out)
  clear HB
  have HB := HB'
  clear HB'
  clear HP
  have HP := HP'
  clear HP'
  clear HS
  have HS := HS'
  clear HS'
  clear HQ
  have HQ := HQ'
  clear HQ'
  clear HR
  have HR := HR'
  clear HR'
  clear hb
  go_wp2
  go_ret
  exact ⟨rfl, HB.out⟩
end Go.Proofs.Ytnciomoapajonaa
namespace Go.Proofs.Ytnciomoapajonaa
namespace ClaimCarveCuts
open Go.ChangeShapes Go.WideShapes Go.ChangeAt Go.RowKit

theorem own : ownKnob Try.prog.godebug = none := by kernel_rfl
theorem laidOutP : laidOutB Try.prog = true := by kernel_rfl

set_option maxRecDepth 100000 in
theorem contract (H : Type) (enc : TypeId × Value → H) (W : World) (base : Nat) (args : Array Value) (ds gs : List (DataW H)) (before : List MemPlace)
    (hval : ∀ (j : Nat) t v, Try.f4.params[j]? = some t → args[j]? = some v → Value.okWide Try.prog W .any base t v)
    (hW : DataW.Whole enc Try.prog Try.f4.params.toList Rows.carveCutsSpec.vars false W args.toList ds gs before)
    (hsz : (DataW.weightsEach Try.prog (Try.f4.params.toList ++ Rows.carveCutsSpec.plain.varTypes Try.prog) (ds ++ gs)).all (· ≤ reachBytes) = true) :
    Calls Try.prog 4 args W fun e W' => ∃ v, e = .returned v ∧ Rows.carveCutsSpec.post enc Try.prog Try.f4 false true false false W args v W' := by
  have hW' := hW
  obtain ⟨p, q, hA0, hV, rfl, hfz, hnd⟩ := hW
  have hA : DataW.TrodAll enc Try.prog W 0 (fun _ => true) true Try.f4.params.toList args.toList ds p := hA0
  rw [Try.params4] at hA hval hsz
  obtain ⟨v0, vs0, d0, ds0, p0, q0, hargs, rfl, rfl, h0, r0⟩ := trodAll_cons hA
  obtain ⟨v1, vs1, d1, ds1, p1, q1, rfl, rfl, rfl, h1, r1⟩ := trodAll_cons r0
  obtain ⟨v2, vs2, d2, ds2, p2, q2, rfl, rfl, rfl, h2, r2⟩ := trodAll_cons r1
  obtain ⟨rfl, rfl, rfl⟩ := trodAll_nil r2
  obtain rfl : args = #[v0, v1, v2] := by cases args; simp_all
  obtain ⟨rfl, rfl⟩ := trodVars_none hV
  have w0 : ∀ x ∈ d0.weights Try.prog 24, x ≤ reachBytes := fun x hx => of_decide_eq_true (List.all_eq_true.1 hsz _ (DataW.weights_mem_each (j := 0) (t := 24) (d := d0) rfl rfl x hx))
  obtain ⟨r, pv, rfl, hP, hs0, hs9⟩ := open_row (hval 0 24 v0 rfl rfl) h0 w0
  have w1 : ∀ x ∈ d1.weights Try.prog 36, x ≤ reachBytes := fun x hx => of_decide_eq_true (List.all_eq_true.1 hsz _ (DataW.weights_mem_each (j := 1) (t := 36) (d := d1) rfl rfl x hx))
  have w2 : ∀ x ∈ d2.weights Try.prog 37, x ≤ reachBytes := fun x hx => of_decide_eq_true (List.all_eq_true.1 hsz _ (DataW.weights_mem_each (j := 2) (t := 37) (d := d2) rfl rfl x hx))
  obtain ⟨l1, hU1⟩ := open_ints (hval 1 36 v1 rfl rfl) h1 w1
  obtain ⟨l2, hU2⟩ := open_passes (hval 2 37 v2 rfl rfl) h2 w2
  clear hA0
  refine (lcuts_any r pv v1 l1 v2 l2 W hP hU1 hU2).mono fun e W' ⟨he, hb⟩ => ?_
  subst he
  exact ⟨_, rfl, post_law laidOutP (by rw [Try.params4]; intro t ht; simp at ht; rcases ht with rfl | rfl | rfl <;> exact ⟨by kernel_rfl, of_decide_eq_true (by kernel_rfl)⟩) rfl rfl Try.underlying4 rfl hW' hb⟩

set_option maxRecDepth 100000 in
theorem lifted (os : Os) (started : os.Started) (H : Type) (enc : TypeId × Value → H) :
    ReturnsInHanded {} Try.checked os 4 .any (Rows.carveCutsSpec.pre6 enc Try.prog Try.f4 Rows.carveCutsRow.domain false) (Rows.carveCutsSpec.post enc Try.prog Try.f4 false true false false) := by
  refine returnsInHanded_of_change_sized (C := Try.checked) own started (by kernel_rfl) Try.func4
    (ChangeSpec.witness6 (enc := enc) (C := Try.checked) false ⟨#[], #[.agg #[.int .i64 0, .slice none 0 0], .slice none 0 0, .slice none 0 0], []⟩ 8 (by kernel_rfl) (by kernel_rfl) (by kernel_rfl) (by kernel_rfl)) ?_
  intro W base args ds gs before hval hW _ hsz _
  exact contract H enc W base args ds gs before hval hW hsz

theorem over : Rows.CarveCutsSaid :=
  OpenClaim.holds_of_wide 4 Try.f4 rfl rfl rfl rfl rfl rfl rfl ⟨rfl, rfl, rfl, rfl, rfl⟩ rfl rfl rfl rfl rfl (by kernel_rfl) Try.func4 (by kernel_rfl)
    (of_decide_eq_true (by kernel_rfl)) (by unfold Func.isWrapper; first | (rw [if_pos (by decide +kernel)]; kernel_rfl) | (rw [if_neg (by decide +kernel)]; exact ⟨rfl, rfl⟩))
    (fun os started H enc _ => lifted os started H enc)
end ClaimCarveCuts

theorem carveCuts_holds : Rows.CarveCutsSaid := ClaimCarveCuts.over
end Go.Proofs.Ytnciomoapajonaa
