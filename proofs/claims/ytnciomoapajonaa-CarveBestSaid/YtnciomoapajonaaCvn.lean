/- Package carve: why a surface is not good at the first point. -/
import Derived.Test.YtnciomoapajonaaCvm
set_option linter.unusedSimpArgs false
set_option linter.unusedVariables false
namespace Go.Proofs.Ytnciomoapajonaa
open Go Go.RowKit Cv
theorem allIn_one (lo hi x : Int) : allIn lo hi [x] = okIn lo hi x := by simp [allIn]
/-- Why a height is not good at the first point, and at one behind another one. -/
def whyV0 (p : Pt) (x : Int) : Int := if x < p.lo then 1 else if p.hi < x then 2 else 0
def whyV (st : Int) (p : Pt) (x y : Int) : Int := if x < p.lo then 1 else if p.hi < x then 2 else if okIn (-st) st (x - y) = false then 3 else 0

set_option maxRecDepth 100000 in
set_option maxHeartbeats 4000000 in
theorem why_zero (st : Int) (pv sv : Value) (l : List Pt) (s : List Int) (w : World) (hP : PtsAt w pv l) (hS : IntsAt w sv s) (ha : 0 < l.length) (hb : 0 < s.length) (hsr : ∀ x, x ∈ s → 0 ≤ x ∧ x ≤ 9000) :
    Calls Try.prog 61 #[.agg #[.int .i64 st, pv], sv, .int .i64 0] w fun e w' => e = .returned (.int .i64 (whyV0 l[0] s[0])) ∧ Below w.heap.size w w' := by
  obtain ⟨lp, pa, pc, rfl, _, _⟩ := id hP
  obtain ⟨ls, sa, sc, rfl, _, _⟩ := id hS
  obtain ⟨bl, o, rfl, c0, c1, c2⟩ := hP.get ha
  obtain ⟨bs, os, rfl, d0⟩ := hS.get hb
  have hbl : bl < w.heap.size := World.block_lt_of_cell? w ⟨bl, o + (0) * 3, none⟩ c0
  have hbs : bs < w.heap.size := World.block_lt_of_cell? w ⟨bs, os + (0), none⟩ d0
  obtain ⟨z0, z9⟩ := hsr s[0] (List.getElem_mem _)
  have aI : (0 : Int) < (l.length : Int) := by omega
  have bI : (0 : Int) < (s.length : Int) := by omega
  simp only [Nat.zero_mul, Nat.add_zero] at c0 c1 c2 d0
  have lpI : (l.length : Int) ≤ 4611686018427387904 := by omega
  have lsI : (s.length : Int) ≤ 4611686018427387904 := by omega
  clear hP hS hsr
  generalize l[0] = p at *
  generalize s[0] = x at *
  obtain ⟨pb, plo, phi⟩ := p
  simp only at c0 c1 c2 ⊢
  have hB : Below w.heap.size w (w.alloc (Obj.cells #[.int .i64 st, .slice (some ⟨bl, o, none⟩) l.length pc] 76)) := by go_grown
  have hA := heap_alloc_new w (Obj.cells #[.int .i64 st, .slice (some ⟨bl, o, none⟩) l.length pc] 76)
  have hbl2 : bl < (w.alloc (Obj.cells #[.int .i64 st, .slice (some ⟨bl, o, none⟩) l.length pc] 76)).heap.size := Nat.lt_of_lt_of_le hbl hB.size
  have hbs2 : bs < (w.alloc (Obj.cells #[.int .i64 st, .slice (some ⟨bl, o, none⟩) l.length pc] 76)).heap.size := Nat.lt_of_lt_of_le hbs hB.size
  have c0 := (hB.cell (p := ⟨bl, o, none⟩) hbl).trans c0
  have c1 := (hB.cell (p := ⟨bl, o + 1, none⟩) hbl).trans c1
  have c2 := (hB.cell (p := ⟨bl, o + 2, none⟩) hbl).trans c2
  have d0 := (hB.cell (p := ⟨bs, os, none⟩) hbs).trans d0
  go_enter Try.func61, Try.ntmps61
  go_upto_region 1 with fail
  have HB := Lib.hid hB
  clear hB
  generalize w.alloc (Obj.cells #[.int .i64 st, .slice (some ⟨bl, o, none⟩) l.length pc] 76) = w0 at *
  have a0 := cellOf hA 0 _ rfl
  have a1 := cellOf hA 1 _ rfl
  have hAlt := lt_of_block hA
  clear hA
  go_region
  have HX := Lib.hid (heap_alloc_new w0 (Obj.cells #[.int .i64 pb, .int .i64 plo, .int .i64 phi] 58))
  have HB1 : Hid (Below w.heap.size w (w0.alloc (Obj.cells #[.int .i64 pb, .int .i64 plo, .int .i64 phi] 58)).drew) := HB.out.trans (by go_grown)
  have HA1 : Hid ((w0.alloc (Obj.cells #[.int .i64 pb, .int .i64 plo, .int .i64 phi] 58)).drew.heap[w0.heap.size]? = _) := HX.out
  have b0 : Below w0.heap.size w0 (w0.alloc (Obj.cells #[.int .i64 pb, .int .i64 plo, .int .i64 phi] 58)).drew := by go_grown
  have a0 := (b0.cell (p := ⟨w.heap.size, 0, none⟩) hAlt).trans a0
  have d0 := (b0.cell (p := ⟨bs, os, none⟩) hbs2).trans d0
  clear c0 c1 c2 HX b0 a1 hbl2 hbs2 hAlt
  have hps : w0.heap.size < (w0.alloc (Obj.cells #[.int .i64 pb, .int .i64 plo, .int .i64 phi] 58)).drew.heap.size := by simp
  go_step
  generalize (w0.alloc (Obj.cells #[.int .i64 pb, .int .i64 plo, .int .i64 phi] 58)).drew = w1 at *
  generalize w0.heap.size = bp at *
  have p1 := cellOf HA1.out 1 _ rfl
  have p2 := cellOf HA1.out 2 _ rfl
  by_cases h1 : x < plo
  · have HF : Hid ((whyV0 ⟨pb, plo, phi⟩ x) = 1) := by show _ = _; unfold whyV0; rw [if_pos h1]
    go_wp2_with fail
    go_ret
    exact ⟨by rw [HF.out]; rfl, HB1.out⟩
  · have h1' : plo ≤ x := by omega
    by_cases h2 : phi < x
    · have HF : Hid ((whyV0 ⟨pb, plo, phi⟩ x) = 2) := by show _ = _; unfold whyV0; rw [if_neg h1, if_pos h2]
      clear h1
      go_wp2_with fail
      go_ret
      exact ⟨by rw [HF.out]; rfl, HB1.out⟩
    · have h2' : x ≤ phi := by omega
      have HN := Lib.hid (And.intro h1 h2)
      clear h1 h2
      have HF : Hid ((whyV0 ⟨pb, plo, phi⟩ x) = 0) := by show _ = _; unfold whyV0; rw [if_neg HN.out.1, if_neg HN.out.2]
      go_wp2_with fail
      go_quiet (fail)
      go_wp2_with fail
      go_ret
      exact ⟨by rw [HF.out]; rfl, HB1.out.trans (Below.mono (B := w1.heap.size) ⟨rfl, rfl, rfl, Nat.le_refl _, fun _ _ => rfl⟩ HB1.out.size)⟩

end Go.Proofs.Ytnciomoapajonaa
