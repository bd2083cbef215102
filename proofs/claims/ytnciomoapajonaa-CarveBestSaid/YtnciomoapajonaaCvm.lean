/- Package carve: by how much two points differ; why a surface is not good at a point. -/
import Derived.Test.YtnciomoapajonaaCvl
import Derived.RegionTactic
import Derived.Deep.CutRange
import Derived.Deep.RegionHeld3
import Derived.ChangeAlike
import Derived.Deep.QuietTactic
import Derived.BigQuiet
import Derived.StillTailTactics
set_option linter.unusedSimpArgs false
set_option linter.unusedVariables false
namespace Go.Proofs.Ytnciomoapajonaa
open Go Go.RowKit Cv

set_option maxRecDepth 100000 in
set_option maxHeartbeats 2000000 in
theorem apart_any (st : Int) (pv : Value) (l : List Pt) (a b : Nat) (w : World) (hP : PtsAt w pv l) (ha : a < l.length) (hb : b < l.length) (hok : ∀ p, p ∈ l → PtOk p) :
    Calls Try.prog 57 #[.agg #[.int .i64 st, pv], .int .i64 a, .int .i64 b] w fun e w' => e = .returned (.int .i64 (max 0 (max (l[a].lo - l[b].hi) (l[b].lo - l[a].hi)))) ∧ Below w.heap.size w w' := by
  obtain ⟨lp, pa, pc, rfl, _, _⟩ := id hP
  obtain ⟨bl, o, rfl, c0, c1, c2⟩ := hP.get ha
  obtain ⟨bl', o', e, d0, d1, d2⟩ := hP.get hb
  simp only [Option.some.injEq, Addr.mk.injEq, and_true] at e
  obtain ⟨rfl, rfl⟩ := e
  have hbl : bl < w.heap.size := World.block_lt_of_cell? w ⟨bl, o + a * 3, none⟩ c0
  have oka := hok l[a] (List.getElem_mem _)
  have okb := hok l[b] (List.getElem_mem _)
  have x1 := oka.l0
  have x2 := oka.l9
  have x3 := oka.h0
  have x4 := oka.h9
  have y1 := okb.l0
  have y2 := okb.l9
  have y3 := okb.h0
  have y4 := okb.h9
  have aI : (a : Int) < (l.length : Int) := by omega
  have bI : (b : Int) < (l.length : Int) := by omega
  have lpI : (l.length : Int) ≤ 4611686018427387904 := by omega
  clear hP hok oka okb
  generalize l[a] = p at *
  generalize l[b] = q at *
  obtain ⟨pb, plo, phi⟩ := p
  obtain ⟨qb, qlo, qhi⟩ := q
  simp only at c0 c1 c2 d0 d1 d2 x1 x2 x3 x4 y1 y2 y3 y4 ⊢
  have hB : Below w.heap.size w (w.alloc (Obj.cells #[.int .i64 st, .slice (some ⟨bl, o, none⟩) l.length pc] 76)) := by go_grown
  have hA := heap_alloc_new w (Obj.cells #[.int .i64 st, .slice (some ⟨bl, o, none⟩) l.length pc] 76)
  have hbl2 : bl < (w.alloc (Obj.cells #[.int .i64 st, .slice (some ⟨bl, o, none⟩) l.length pc] 76)).heap.size := Nat.lt_of_lt_of_le hbl hB.size
  have c0 := (hB.cell (p := ⟨bl, o + a * 3, none⟩) hbl).trans c0
  have c1 := (hB.cell (p := ⟨bl, o + a * 3 + 1, none⟩) hbl).trans c1
  have c2 := (hB.cell (p := ⟨bl, o + a * 3 + 2, none⟩) hbl).trans c2
  have d0 := (hB.cell (p := ⟨bl, o + b * 3, none⟩) hbl).trans d0
  have d1 := (hB.cell (p := ⟨bl, o + b * 3 + 1, none⟩) hbl).trans d1
  have d2 := (hB.cell (p := ⟨bl, o + b * 3 + 2, none⟩) hbl).trans d2
  go_enter Try.func57, Try.ntmps57
  go_upto_region 1 with fail
  have HB := Lib.hid hB
  clear hB
  generalize w.alloc (Obj.cells #[.int .i64 st, .slice (some ⟨bl, o, none⟩) l.length pc] 76) = w0 at *
  have a0 := cellOf hA 0 _ rfl
  have a1 := cellOf hA 1 _ rfl
  have hAlt := lt_of_block hA
  clear hA
  go_region
  all_goals
    go_wp2
  all_goals
    go_ret
    exact ⟨ret_int (by omega), HB.out.trans (by go_grown)⟩
end Go.Proofs.Ytnciomoapajonaa
