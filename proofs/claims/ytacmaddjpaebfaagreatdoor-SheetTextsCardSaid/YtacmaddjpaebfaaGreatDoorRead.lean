/- Read of package sheet, at the text of a sheet. -/
import Derived.Test.YtacmaddjpaebfaaGreatDoorRs
import Derived.Test.YtacmaddjpaebfaaGreatDoorWrite
import Derived.Lib.SplitLaws
import Derived.Defers
import Derived.Recover
set_option linter.unusedSimpArgs false
set_option linter.unusedVariables false
namespace Go.Proofs.YtacmaddjpaebfaaGreatDoor
open Go Go.RowKit Hs

/-- The pieces of a string between bytes. -/
def pieces (c : UInt8) (l : ByteArray) : List ByteArray := Lib.splitB (bs [c]) 0 (Lib.countB l (bs [c])) l
theorem extract_size_le (s : ByteArray) (a b : Nat) : (s.extract a b).size ≤ s.size := by
  rw [ByteArray.size_extract]; omega
theorem splitB_size (sep : ByteArray) : ∀ (k : Nat) (s x : ByteArray), x ∈ Lib.splitB sep 0 k s → x.size ≤ s.size
  | 0, s, x, h => by
    simp [Lib.splitB] at h; subst h; omega
  | k + 1, s, x, h => by
    unfold Lib.splitB at h
    split at h
    · simp at h; subst h; omega
    · rw [List.mem_cons] at h
      rcases h with rfl | h
      · exact extract_size_le _ _ _
      · have := splitB_size sep k _ x h
        have := extract_size_le s ((Lib.indexB s sep).toNat + sep.size) s.size
        omega
theorem pieces_size (c : UInt8) (l x : ByteArray) (h : x ∈ pieces c l) : x.size ≤ l.size := splitB_size _ _ _ _ h
theorem pieces_length (c : UInt8) (l : ByteArray) : (pieces c l).length = Lib.countB l (bs [c]) + 1 := Lib.splitB_all (bs [c]) (by show 1 ≤ 1; omega) 0 _ l rfl
theorem pieces_le (c : UInt8) (l : ByteArray) : (pieces c l).length ≤ l.size + 1 := by
  rw [pieces_length]
  have := Lib.countB_le (bs [c]) (by show 1 ≤ 1; omega) l.size l (Nat.le_refl _)
  omega

theorem split_any (c : UInt8) (l : ByteArray) (w : World) (hl : l.size ≤ 2000) (hT : Tabs w) :
    Calls Tryz.prog 87 #[.string l, .string ⟨#[c]⟩] w fun e w' => e = .returned (.slice (some ⟨w.heap.size, 0, none⟩) (pieces c l).length (pieces c l).length) ∧ w' = w.alloc (.cells ((pieces c l).map Value.string).toArray 9) := by
  obtain ⟨m, hm⟩ := hT.max
  rw [pieces_length]
  exact Tryz.strings_Split l (bs [c]) m w (by omega) hm (by show 1 ≤ 1; omega)

/-- All lines. -/
def rdAll : Rd → List ByteArray → Option Rd
  | r, [] => some r
  | r, l :: ls => match rdLine r (pieces 32 l) with
    | some r' => rdAll r' ls
    | none => none
theorem rdNote_len {r r' : Rd} {k : Int} {ws : List ByteArray} (h : rdNote r k ws = some r') : r'.pts.length ≤ r.pts.length + 1 ∧ r'.notes.length ≤ r.notes.length + 1 := by
  unfold rdNote at h
  repeat' split at h
  all_goals first
    | (cases h; done)
    | (simp only [Option.some.injEq] at h; subst h; simp)
theorem rdLine_len {r r' : Rd} {ws : List ByteArray} (h : rdLine r ws = some r') : r'.pts.length ≤ r.pts.length + 1 ∧ r'.notes.length ≤ r.notes.length + 1 := by
  unfold rdLine at h
  repeat' split at h
  all_goals first
    | (cases h; done)
    | exact rdNote_len h
    | (simp only [Option.some.injEq] at h; subst h; simp)

/-- The sheet that was read. -/
def Rd.sheet (r : Rd) : Sheet := ⟨r.iv, r.pts, r.notes⟩
/-- The lines of a text. -/
def linesOf (t : ByteArray) : List ByteArray := pieces 10 (bs (Lib.trimSuffix t.data.toList [10]))
/-- A text is read as a sheet. -/
structure ReadsTo (t : ByteArray) (r : Rd) : Prop where
  size : t.size ≤ 1500
  lines : rdAll ⟨0, [], []⟩ (linesOf t) = some r
  ok : errS r.sheet = 0
  back : writeS r.sheet = t.data.toList

theorem Kb.below {B1 Br Bm n : Nat} {a b : World} (h : Kb B1 Br Bm a b) (h1 : n ≤ B1) (h2 : n ≤ Br) (h3 : n ≤ Bm) : Below n a b := ⟨h.os, h.tape, h.output, h.size, fun k hk => h.block k (by omega) (by omega) (by omega)⟩
theorem strsAt_own {w : World} {base : Nat} {v : Value} {l : List ByteArray} (h : w.ownsRow base 9 1 v l.length (l.map Value.string)) (hl : l.length ≤ 4611686018427387904) : StrsAt w.heap.size w v l := by
  refine ⟨hl, ?_⟩
  rcases h.2 with ⟨rfl, hn⟩ | ⟨g, cap, cur, rfl, hb, hg, r⟩
  · exact ⟨none, 0, by rw [hn], fun hne => absurd (List.eq_nil_of_length_eq_zero hn) hne⟩
  · refine ⟨some ⟨g, 0, none⟩, cap, rfl, fun _ => ⟨g, 0, rfl, lt_of_block hg, fun k hk => ?_⟩⟩
    have := h.cellAt k (by omega)
    rw [Nat.zero_add, this, List.getElem?_map, List.getElem?_eq_getElem hk]
    rfl

theorem catch_idle (p q : Value) (w : World) :
    CallsD Tryz.prog 86 #[p, q] .returning w fun e u' w' => e = .returned (.tuple #[]) ∧ u' = .returning ∧ w' = w := by
  refine callsD_of_wpS Tryz.func86 rfl fun c₀ cs hu => ?_
  apply wpS_seq
  apply wpS_region
  simp [wpOpsS, go_sem, recoverD, hu, Tryz.ntmps86, Exit.thenS]
  refine wpS_cond (t := false) (by simp [Act.eval, Array.replicate]) ?_
  simp only [Bool.false_eq_true, if_false]
  refine wpS_of_wp (wp_skip ?_)
  cases c₀
  simp_all [bodyPostS, results, Tryz.results86]

/-- A sheet and an error that lie in cells, as what is returned. -/
theorem read_result {fn : Func} {p q : Tmp} (h : fn.results = #[.cell p 25, .cell q 26]) (tmps : Array Value) (w : World) (g k : Nat) (x y z : Value) (u : Int)
    (hp : tmps.getD p undef = .pointer (some ⟨g, 0, none⟩)) (hg : w.heap[g]? = some (.cells #[x, y, z] 25 (0, 0)))
    (hq : tmps.getD q undef = .pointer (some ⟨k, 0, none⟩)) (hk : w.heap[k]? = some (.cells #[.int .i64 u] 26 (0, 0))) :
    (results fn tmps).run Tryz.prog w = .ok (.tuple #[.agg #[x, y, z], .int .i64 u]) w := by
  have hc : w.cell? ⟨k, 0, none⟩ = some (.int .i64 u) := cellOf hk 0 _ rfl
  have c0 : w.cell? ⟨g, 0, none⟩ = some x := cellOf hg 0 _ rfl
  have c1 : w.cell? ⟨g, 1, none⟩ = some y := cellOf hg 1 _ rfl
  have c2 : w.cell? ⟨g, 2, none⟩ = some z := cellOf hg 2 _ rfl
  have hp' : tmps[p]?.getD undef = .pointer (some ⟨g, 0, none⟩) := by simpa using hp
  have hq' : tmps[q]?.getD undef = .pointer (some ⟨k, 0, none⟩) := by simpa using hq
  simp only [results, h]
  simp [Sem.run_bind, Result.andThen, hp', hq', asAddr, go_sem, hc, c0, c1, c2]

set_option maxRecDepth 100000 in
set_option maxHeartbeats 4000000 in
theorem Read_any (t : ByteArray) (r : Rd) (w : World) (hR : ReadsTo t r) (hT : Tabs w) :
    Calls Tryz.prog 38 #[.string t] w fun e w' => ∃ pv nv, e = .returned (.tuple #[.agg #[.int .i64 r.iv, pv, nv], .int .i64 0]) ∧
      w'.ownsRow w.heap.size 9 1 pv r.pts.length (r.pts.map Value.string) ∧ w'.ownsRow w.heap.size 67 5 nv r.notes.length (notesC r.notes) ∧ Below w.heap.size w w' := by
  have hmf : ∀ (fn : Fn) (first cap : Array Value) (w : World), (Instr.makeFunc fn first cap).run Tryz.prog w = .ok (.func fn first cap) w := fun _ _ _ _ => rfl
  have hmm := @run_makeMap Tryz.prog
  have hsz := hR.size
  have d1500 : decide ((1500 : Int) < (t.size : Int)) = false := by simp; omega
  have HR := Lib.hid hR
  have HT := Lib.hid hT
  clear hR hT
  go_enter_defers Tryz.func38, Tryz.ntmps38
  go_wp2_with fail
  obtain ⟨W0, HW0⟩ : ∃ W0, W0 = (((w.alloc (Obj.cells #[.int .i64 0, .slice none 0 0, .slice none 0 0] 25)).alloc (Obj.cells #[.int .i64 0] 26)).alloc (Obj.map #[] 0)).alloc (Obj.cells #[.int .i64 0, .slice none 0 0, .slice none 0 0, .map (some (w.heap.size + 1 + 1)), .slice none 0 0] 119) := ⟨_, rfl⟩
  rw [← HW0]
  have hs0 : W0.heap.size = w.heap.size + 1 + 1 + 1 + 1 := by rw [HW0]; simp
  have hB0 : Below w.heap.size w W0 := by rw [HW0]; go_grown
  have hS0 : W0.heap[w.heap.size]? = some (.cells #[.int .i64 0, .slice none 0 0, .slice none 0 0] 25 (0, 0)) := by
    rw [HW0]
    exact (Below.heap_alloc _ _ _ (by simp; omega)).trans ((Below.heap_alloc _ _ _ (by simp; omega)).trans ((Below.heap_alloc _ _ _ (by simp)).trans (heap_alloc_new _ _)))
  have hE0 : W0.heap[w.heap.size + 1]? = some (.cells #[.int .i64 0] 26 (0, 0)) := by
    rw [HW0]
    exact (Below.heap_alloc _ _ _ (by simp)).trans ((Below.heap_alloc _ _ _ (by simp)).trans (heap_alloc2_new _ _ _))
  have hM0 : IdxAt W0 (w.heap.size + 1 + 1) [] := by
    rw [HW0]
    have h := IdxAt.made ((w.alloc (Obj.cells #[.int .i64 0, .slice none 0 0, .slice none 0 0] 25)).alloc (Obj.cells #[.int .i64 0] 26))
    have e : ((w.alloc (Obj.cells #[.int .i64 0, .slice none 0 0, .slice none 0 0] 25)).alloc (Obj.cells #[.int .i64 0] 26)).heap.size = w.heap.size + 1 + 1 := by simp
    rw [e] at h
    exact h.kept (World.grownBy_alloc _ _ none) (by simp)
  have hR0 : W0.heap[w.heap.size + 1 + 1 + 1]? = some (.cells #[.int .i64 0, .slice none 0 0, .slice none 0 0, .map (some (w.heap.size + 1 + 1)), .slice none 0 0] 119 (0, 0)) := by
    rw [HW0]
    have h := heap_alloc_new (((w.alloc (Obj.cells #[.int .i64 0, .slice none 0 0, .slice none 0 0] 25)).alloc (Obj.cells #[.int .i64 0] 26)).alloc (Obj.map #[] 0)) (Obj.cells #[.int .i64 0, .slice none 0 0, .slice none 0 0, .map (some (w.heap.size + 1 + 1)), .slice none 0 0] 119)
    simpa using h
  clear HW0 hmm
  refine (Tryz.strings_TrimSuffix t ⟨#[10]⟩ W0 (by omega)).mono ?_
  rintro e w' ⟨rfl, rfl⟩
  obtain ⟨T, HT1⟩ : ∃ T, Hid (T = bs (Lib.trimSuffix t.data.toList [10])) := ⟨_, rfl⟩
  have hTs : T.size ≤ 1500 := by
    rw [HT1.out, bs_size]
    have := Lib.trimSuffix_le t.data.toList [10]
    have e : t.data.toList.length = t.size := by simp
    omega
  have hsp := split_any 10 T w' (by omega) (HT.out.below hB0)
  have HSP := Lib.hid hsp
  have HTT : Hid ((⟨(Lib.trimSuffix t.data.toList (⟨#[10]⟩ : ByteArray).data.toList).toArray⟩ : ByteArray) = T) := HT1.out.symm
  rw [HTT.out]
  clear hsp
  go_wp2_with fail
  refine HSP.out.mono ?_
  rintro e w1' ⟨rfl, rfl⟩
  have HRL : Hid (rdAll ⟨0, [], []⟩ (pieces 10 T) = some r) := by have h := HR.out.lines; unfold linesOf at h; rw [← HT1.out] at h; exact h
  have hLle := pieces_le 10 T
  have hLsz : Hid (∀ x, x ∈ pieces 10 T → x.size ≤ 1500) := fun x hx => Nat.le_trans (pieces_size 10 T x hx) hTs
  generalize pieces 10 T = L at *
  have hLn1 := heap_alloc_new w' (Obj.cells (L.map Value.string).toArray 9)
  have hB1' : Below w'.heap.size w' (w'.alloc (Obj.cells (L.map Value.string).toArray 9)) := by go_grown
  have hs1 : (w'.alloc (Obj.cells (L.map Value.string).toArray 9)).heap.size = w'.heap.size + 1 := by simp
  generalize w'.alloc (Obj.cells (L.map Value.string).toArray 9) = w1 at *
  have hB1 := hB0.trans (hB1'.mono hB0.size)
  have hS1 := (hB1'.block _ (lt_of_block hS0)).trans hS0
  have hE1 := (hB1'.block _ (lt_of_block hE0)).trans hE0
  have hst1 : RdB w.heap.size w1.heap.size (w.heap.size + 1 + 1 + 1) (w.heap.size + 1 + 1) ⟨0, [], []⟩ w1 :=
    ⟨⟨none, 0, none, 0, _, (hB1'.block _ (lt_of_block hR0)).trans hR0, World.ownsRow_nil _ _ _ _, World.ownsRow_nil _ _ _ _⟩, hM0.kept (below_grownBy hB1') (by simp), by omega, by omega, by omega, by omega, by omega, Nat.le_refl _, by simp⟩
  have HS1 := Lib.hid hS1
  have HE1 := Lib.hid hE1
  have HLN := Lib.hid hLn1
  have HST := Lib.hid hst1
  have HB1 := Lib.hid hB1
  have hLI : (L.length : Int) ≤ 1501 := by omega
  clear hS1 hE1 hLn1 hst1 hB1 hB1' hS0 hE0 hM0 hR0 hB0 HTT HSP
  go_wp2_with fail
  go_loopw [20] (fun i wr => ∃ (k : Nat) (rk : Rd), k ≤ L.length ∧ i = .int .i64 k ∧ Hid (RdB w.heap.size w1.heap.size (w.heap.size + 1 + 1 + 1) (w.heap.size + 1 + 1) rk wr ∧ Kb w1.heap.size (w.heap.size + 1 + 1 + 1) (w.heap.size + 1 + 1) w1 wr ∧ rdAll rk (L.drop k) = some r ∧ rk.pts.length ≤ k ∧ rk.notes.length ≤ k)) (fun i _ => L.length - (intOf i).toNat)
  case atStart => exact ⟨0, ⟨0, [], []⟩, Nat.zero_le _, rfl, HST.out, Kb.refl _, HRL.out, by simp, by simp⟩
  case round =>
    obtain ⟨k, rk, hk, rfl, HH⟩ := hrel
    obtain ⟨q1, q2, q3, q4, q5⟩ := HH.out
    have kI : (k : Int) ≤ 1501 := by omega
    have hBw : Below w.heap.size w wr := HB1.out.trans (q2.below (by omega) (by omega) (by omega))
    have hwr := q2.size
    by_cases hlt : k < L.length
    · have hln : wr.heap[w'.heap.size]? = _ := (q2.block w'.heap.size (by omega) (by omega) (by omega)).trans HLN.out
      have e0 : wr.cell? ⟨w'.heap.size, k, none⟩ = some (.string L[k]) := cellOf hln k _ (by simp [hlt])
      rw [hs0] at e0
      rw [List.drop_eq_getElem_cons hlt] at q3
      have hsl := hLsz.out L[k] (List.getElem_mem hlt)
      generalize L[k] = l at *
      obtain ⟨rk1, hr1, hr2⟩ : ∃ rk1, rdLine rk (pieces 32 l) = some rk1 ∧ rdAll rk1 (L.drop (k + 1)) = some r := by
        unfold rdAll at q3
        split at q3
        · rename_i rk1 e; exact ⟨rk1, e, q3⟩
        · cases q3
      have hsp2 := split_any 32 l wr (by omega) (HT.out.below hBw)
      have HSP2 := Lib.hid hsp2
      have HQ1 := Lib.hid q1
      have HQ2 := Lib.hid q2
      have HR1 := Lib.hid hr1
      have HR2 := Lib.hid hr2
      have HBW := Lib.hid hBw
      clear hsp2 q1 q2 q3 hr1 hr2 HH hln hBw
      go_wp2_with fail
      refine HSP2.out.mono ?_
      rintro e w2' ⟨rfl, rfl⟩
      have hple := pieces_le 32 l
      have hpsz : ∀ x, x ∈ pieces 32 l → x.size ≤ 2000 := fun x hx => Nat.le_trans (pieces_size 32 l x hx) (by omega)
      have HPSZ := Lib.hid hpsz
      generalize pieces 32 l = ws at *
      have hn2 := heap_alloc_new wr (Obj.cells (ws.map Value.string).toArray 9)
      have hb2 : Below wr.heap.size wr (wr.alloc (Obj.cells (ws.map Value.string).toArray 9)) := by go_grown
      have hs2 : (wr.alloc (Obj.cells (ws.map Value.string).toArray 9)).heap.size = wr.heap.size + 1 := by simp
      generalize wr.alloc (Obj.cells (ws.map Value.string).toArray 9) = w2 at *
      have st2 := HQ1.out.below hb2
      obtain ⟨pa, pc, na, nc, wv, g1, _, _⟩ := st2.row
      have c4 := cellOf g1 4 _ rfl
      have f4 := frozen_of_row _ _ 4 _ _ g1
      have st3 := st2.setWords (ws' := ws) (some ⟨wr.heap.size, 0, none⟩) ws.length ws.length rfl ⟨Nat.le_refl _, by omega, fun _ => ⟨wr.heap.size, 0, rfl, by omega, by omega, fun j x hj => cellOf hn2 (0 + j) _ (by rw [Nat.zero_add]; simp [hj])⟩⟩
      have hrl := rline_any _ _ _ _ _ rk rk1 ws _ st3 HR1.out hpsz (by omega) (by omega)
      have HRLN := Lib.hid hrl
      have HB3 : Hid (Kb w1.heap.size (w.heap.size + 1 + 1 + 1) (w.heap.size + 1 + 1) w1 (w2.setCell ⟨w.heap.size + 1 + 1 + 1, 4, none⟩ (.slice (some ⟨wr.heap.size, 0, none⟩) ws.length ws.length))) := (HQ2.out.trans (Kb.of_below hb2 (by omega))).setCell (.inr (.inl rfl)) _
      clear hn2 hb2 st2 st3 g1 hrl hpsz e0
      go_wp2_with fail
      refine HRLN.out.mono ?_
      rintro e w4 ⟨rfl, st4, k4⟩
      have hlen := rdLine_len HR1.out
      have HF : Hid (RdB w.heap.size w1.heap.size (w.heap.size + 1 + 1 + 1) (w.heap.size + 1 + 1) rk1 w4 ∧ Kb w1.heap.size (w.heap.size + 1 + 1 + 1) (w.heap.size + 1 + 1) w1 w4 ∧ rdAll rk1 (L.drop (k + 1)) = some r ∧ rk1.pts.length ≤ k + 1 ∧ rk1.notes.length ≤ k + 1) :=
        ⟨st4, HB3.out.trans k4, HR2.out, by omega, by omega⟩
      clear st4 k4 c4 f4 hlen
      go_wp2_with fail
      go_roundw
      case rel => exact ⟨k + 1, rk1, by omega, by go_num, HF.out⟩
      case measure => simp [intOf]; omega
    · obtain rfl : k = L.length := by omega
      have hrr : rk = r := by
        rw [List.drop_of_length_le (Nat.le_refl _)] at q3
        unfold rdAll at q3
        simpa using q3
      subst hrr
      have hv := (check_valid rk.sheet).1 HR.out.ok
      obtain ⟨pa, pc, na, nc, wv, g1, g2, g3⟩ := q1.row
      have c0 := cellOf g1 0 _ rfl
      have c1 := cellOf g1 1 _ rfl
      have c2 := cellOf g1 2 _ rfl
      have hsm := q1.small
      have hszs : ∀ x, x ∈ rk.pts → x.size ≤ 140737488351232 := by
        intro x hx
        have := hv.name16 x hx
        have e : x.data.toList.length = x.size := by simp
        omega
      have hSA : SheetAt wr.heap.size wr (.slice pa rk.pts.length pc) (.slice na rk.notes.length nc) rk.sheet :=
        ⟨strsAt_own g2 (by show rk.pts.length ≤ _; omega), notesAt_own g3 (by show rk.notes.length ≤ _; omega), hszs⟩
      have hwrt := Write_any rk.sheet _ _ wr hSA (HT.out.below hBw)
      have hback : bs (writeS rk.sheet) = t := by rw [HR.out.back]; exact bs_of t
      rw [hback, HR.out.ok] at hwrt
      have HWR := Lib.hid hwrt
      have hS5 := (q2.block _ (lt_of_block HS1.out) (by omega) (by omega)).trans HS1.out
      have hE5 := (q2.block _ (lt_of_block HE1.out) (by omega) (by omega)).trans HE1.out
      have HS5 := Lib.hid hS5
      have HE5 := Lib.hid hE5
      have G1 := Lib.hid g1
      have G2 := Lib.hid g2
      have G3 := Lib.hid g3
      have HBW := Lib.hid hBw
      have hN1 : w.heap.size < wr.heap.size := lt_of_block hS5
      have hN2 : w.heap.size + 1 < wr.heap.size := lt_of_block hE5
      clear hSA hwrt hS5 hE5 g1 g2 g3 q1 q2 q3 HH hback hBw hv
      go_wp2_with fail
      refine HWR.out.mono ?_
      rintro e w5 ⟨rfl, hb5⟩
      have hR6 := (hb5.block _ (lt_of_block G1.out)).trans G1.out
      have hS6 := (hb5.block _ hN1).trans HS5.out
      have hE6 := (hb5.block _ hN2).trans HE5.out
      have x0 := cellOf hR6 0 _ rfl
      have x1 := cellOf hR6 1 _ rfl
      have x2 := cellOf hR6 2 _ rfl
      have y0 := cellOf hS6 0 _ rfl
      have y1 := cellOf hS6 1 _ rfl
      have y2 := cellOf hS6 2 _ rfl
      have yf0 := frozen_of_row _ w.heap.size 0 _ _ hS6
      have yf1 := frozen_of_row _ w.heap.size 1 _ _ hS6
      have yf2 := frozen_of_row _ w.heap.size 2 _ _ hS6
      have z0 := cellOf hE6 0 _ rfl
      have zf0 := frozen_of_row _ (w.heap.size + 1) 0 _ _ hE6
      have HB5 := Lib.hid hb5
      have HS6 := Lib.hid hS6
      have HE6 := Lib.hid hE6
      clear hb5 hR6 hS6 hE6 c0 c1 c2
      go_wp2_with fail
      have s1 := heap_setCell_same _ w.heap.size 2 _ _ (.slice na rk.notes.length nc) (heap_setCell_same _ w.heap.size 1 _ _ (.slice pa rk.pts.length pc) (heap_setCell_same _ w.heap.size 0 _ _ (.int .i64 rk.iv) HS6.out))
      have s2 := (heap_setCell_other (((w5.setCell ⟨w.heap.size, 0, none⟩ (.int .i64 rk.iv)).setCell ⟨w.heap.size, 1, none⟩ (.slice pa rk.pts.length pc)).setCell ⟨w.heap.size, 2, none⟩ (.slice na rk.notes.length nc)) ⟨w.heap.size + 1, 0, none⟩ w.heap.size (.int .i64 0) (by simp)).trans s1
      have s3 := heap_setCell_same _ (w.heap.size + 1) 0 _ _ (.int .i64 0) ((heap_setCell_other ((w5.setCell ⟨w.heap.size, 0, none⟩ (.int .i64 rk.iv)).setCell ⟨w.heap.size, 1, none⟩ (.slice pa rk.pts.length pc)) ⟨w.heap.size, 2, none⟩ (w.heap.size + 1) (.slice na rk.notes.length nc) (by simp)).trans ((heap_setCell_other (w5.setCell ⟨w.heap.size, 0, none⟩ (.int .i64 rk.iv)) ⟨w.heap.size, 1, none⟩ (w.heap.size + 1) (.slice pa rk.pts.length pc) (by simp)).trans ((heap_setCell_other w5 ⟨w.heap.size, 0, none⟩ (w.heap.size + 1) (.int .i64 rk.iv) (by simp)).trans HE6.out)))
      refine leaves_cons (f := 86) (args := #[.pointer (some ⟨w.heap.size, 0, none⟩), .pointer (some ⟨w.heap.size + 1, 0, none⟩)]) (by simp) (by simp [go_sem]) ?_
      refine (catch_idle _ _ _).mono ?_
      rintro e u' w'' ⟨rfl, rfl, rfl⟩
      exact ⟨_, read_result rfl _ _ w.heap.size (w.heap.size + 1) _ _ _ _ rfl s2 rfl s3, _, _, rfl, own_base (own_other (own_other (own_other (own_other (own_below G2.out HB5.out) _ (by simp; omega) _) _ (by simp; omega) _) _ (by simp; omega) _) _ (by simp; omega) _) (by omega), own_base (own_other (own_other (own_other (own_other (own_below G3.out HB5.out) _ (by simp; omega) _) _ (by simp; omega) _) _ (by simp; omega) _) _ (by simp; omega) _) (by omega), ((((HBW.out.trans (HB5.out.mono (by omega))).setCell (Nat.le_refl _) _).setCell (Nat.le_refl _) _).setCell (Nat.le_refl _) _).setCell (Nat.le_succ _) _⟩
end Go.Proofs.YtacmaddjpaebfaaGreatDoor
