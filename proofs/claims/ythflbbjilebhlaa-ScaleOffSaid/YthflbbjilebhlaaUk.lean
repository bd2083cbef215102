/- Package scale: cases that are looked at, and models, in memory. -/
import Derived.Test.YthflbbjilebhlaaUj
import Derived.Deep.WholeRow
import Derived.Laws.Tables
import Derived.Great.BuildSlice
import Derived.Laws.CopyOwn
set_option linter.unusedSimpArgs false
set_option linter.unusedVariables false
namespace Go.Proofs.Ythflbbjilebhlaa
open Go Go.RowKit Sc

/-- The cells of a case that is looked at. -/
def lkC (kind base most : Int) (hv rv : Value) (rk : Int) (rf : Value) : Array Value := #[.int .i64 kind, .int .i64 base, .int .i64 most, hv, rv, .int .i64 rk, rf]
/-- The cells of a model: those of the case, the scale, and the cuts. -/
def pf (kind base most : Int) (hv rv : Value) (rk : Int) (rf : Value) (u d : Int) : List Value := [.int .i64 kind, .int .i64 base, .int .i64 most, hv, rv, .int .i64 rk, rf, .int .i64 u, .int .i64 d]
def mdC (p : List Value) (cs : List Int) : Array Value := (p ++ cs.map (Value.int .i64)).toArray
def z8 : List Int := List.replicate 8 0
def pf0 : List Value := pf 0 0 0 (.slice none 0 0) (.slice none 0 0) 0 .nilFunc 0 0
def lk0 : Array Value := lkC 0 0 0 (.slice none 0 0) (.slice none 0 0) 0 .nilFunc
theorem md_size (p : List Value) (cs : List Int) : (mdC p cs).size = p.length + cs.length := by simp [mdC]
theorem md_p (p : List Value) (cs : List Int) (i : Nat) (v : Value) (h : p[i]? = some v) : (mdC p cs)[i]? = some v := by
  have hi := (List.getElem?_eq_some_iff.1 h).1
  simp only [mdC, List.getElem?_toArray]
  rw [List.getElem?_append_left hi, h]
theorem md_c (p : List Value) (cs : List Int) (hp : p.length = 9) (i : Nat) (h : i < cs.length) : (mdC p cs)[9 + i]? = some (.int .i64 (cs.getD i 0)) := by
  simp only [mdC, List.getElem?_toArray]
  rw [List.getElem?_append_right (by omega), hp, show 9 + i - 9 = i by omega]
  simp [List.getD_eq_getElem?_getD, h]
theorem md_set (p : List Value) (cs : List Int) (hp : p.length = 9) (i : Nat) (x : Int) : (mdC p cs).setIfInBounds (9 + i) (.int .i64 x) = mdC p (cs.set i x) := by
  apply Array.ext'
  simp only [mdC, Array.toList_setIfInBounds, List.map_set]
  rw [List.set_append_right _ _ (by omega), hp, show 9 + i - 9 = i by omega]
theorem md_one (p : List Value) (cs : List Int) (hp : p.all (·.oneCell') = true) : (mdC p cs).all (·.oneCell') = true := by
  rw [Array.all_eq_true_iff_forall_mem]
  intro x hx
  simp only [mdC, List.mem_toArray, List.mem_append, List.mem_map] at hx
  rcases hx with h | ⟨y, _, rfl⟩
  · exact List.all_eq_true.1 hp x h
  · rfl
def MdBlk (w : World) (b : Nat) (p : List Value) (cs : List Int) : Prop := w.heap[b]? = some (.cells (mdC p cs) 99 (0, 0))
theorem MdBlk.lt {w : World} {b : Nat} {p : List Value} {cs : List Int} (h : MdBlk w b p cs) : b < w.heap.size := lt_of_block h
theorem MdBlk.below {w w' : World} {b n : Nat} {p : List Value} {cs : List Int} (h : MdBlk w b p cs) (hb : Below n w w') (hn : b < n) : MdBlk w' b p cs := (hb.block b hn).trans h
theorem MdBlk.cp {w : World} {b : Nat} {p : List Value} {cs : List Int} (h : MdBlk w b p cs) (i : Nat) (v : Value) (hv : p[i]? = some v) : w.cell? ⟨b, i, none⟩ = some v := cellOf h i _ (md_p _ _ _ _ hv)
theorem MdBlk.cw {w : World} {b : Nat} {p : List Value} {cs : List Int} (h : MdBlk w b p cs) (hp : p.length = 9) (i : Nat) (hi : i < cs.length) : w.cell? ⟨b, 9 + i, none⟩ = some (.int .i64 (cs.getD i 0)) := cellOf h (9 + i) _ (md_c _ _ hp i hi)
theorem MdBlk.set {w : World} {b : Nat} {p : List Value} {cs : List Int} (h : MdBlk w b p cs) (hp : p.length = 9) (i : Nat) (x : Int) : MdBlk (w.setCell ⟨b, 9 + i, none⟩ (.int .i64 x)) b p (cs.set i x) := by
  unfold MdBlk
  rw [heap_setCell_same w b (9 + i) _ _ _ h, md_set _ _ hp]
theorem MdBlk.put {w : World} {b : Nat} {p : List Value} {cs : List Int} (h : MdBlk w b p cs) (p' : List Value) (cs' : List Int) : MdBlk (w.setRow b (mdC p' cs')) b p' cs' := setRow_heap w b _ _ _ _ h
theorem mdSize : (Try.prog.info? 99).map (·.size) = some 17 := by kernel_rfl
theorem mdZero : (Try.prog.info? 99).map (fun i => (i.zero, i.size)) = some (some (.agg (mdC pf0 z8)), 17) := by kernel_rfl
theorem mdBuilt (kind base most : Int) (a b : Option Addr) (n m c d : Nat) (rk : Int) (F : Nat) (u v : Int) :
    Try.prog.built 99 [(0, .agg (lkC kind base most (.slice a n c) (.slice b m d) rk (.func (.func F) #[] #[]))), (1, .agg #[.int .i64 u, .int .i64 v])] = some (mdC (pf kind base most (.slice a n c) (.slice b m d) rk (.func (.func F) #[] #[]) u v) z8) := by kernel_rfl
theorem mdBuilt0 : Try.prog.built 99 [] = some (mdC pf0 z8) := by kernel_rfl
theorem md_load {ops : Array Oper} {rest : List Oper} {o : Oper} {a : Act} {w : World} {Q : Exit → Act → World → Prop} (hgd : o.guard = none) (x : Operand) (ho : o.op = .load 99 x)
    (g : Nat) (hx : a.eval x = .pointer (some ⟨g, 0, none⟩)) (p : List Value) (cs : List Int) (hF : MdBlk w g p cs) (hp : p.length = 9) (hm : cs.length = 8)
    (h : wpList Try.prog ops Q rest (a.put o.dst (.agg (mdC p cs))) w) : wpList Try.prog ops Q (o :: rest) a w :=
  wpList_load_row hgd 99 x ho g hx 99 (mdC p cs) (0, 0) _ hF Try.underlying99 rfl (by rw [mdSize, md_size, hp, hm]) h
theorem md_store {ops : Array Oper} {rest : List Oper} {o : Oper} {a : Act} {w : World} {Q : Exit → Act → World → Prop} (hgd : o.guard = none) (x y : Operand) (ho : o.op = .store 99 x y)
    (g : Nat) (hx : a.eval x = .pointer (some ⟨g, 0, none⟩)) (p : List Value) (cs : List Int) (p' : List Value) (cs' : List Int) (hy : a.eval y = .agg (mdC p cs)) (hF : MdBlk w g p' cs') (hp : p.length = 9) (hm : cs.length = 8) (hp' : p'.length = 9) (hm' : cs'.length = 8) (h1 : p.all (·.oneCell') = true) (hd : o.dst = none)
    (h : wpList Try.prog ops Q rest a (w.setRow g (mdC p cs))) : wpList Try.prog ops Q (o :: rest) a w :=
  wpList_store_row hgd 99 x y ho g (mdC p cs) hx hy 99 (mdC p' cs') hF (by rw [mdSize, md_size, hp, hm]) (by rw [md_size, md_size, hp, hm, hp', hm']) (md_one p cs h1) (by rw [hd]; exact h)
theorem md_result {fn : Func} {q : Tmp} (h : fn.results = #[.cell q 99]) (tmps : Array Value) (w : World) (g : Nat) (p : List Value) (cs : List Int)
    (hp : tmps.getD q undef = .pointer (some ⟨g, 0, none⟩)) (hF : MdBlk w g p cs) (hl : p.length = 9) (hm : cs.length = 8) : (results fn tmps).run Try.prog w = .ok (.agg (mdC p cs)) w :=
  results_cell_row h tmps w g 99 (mdC p cs) (0, 0) _ hp hF Try.underlying99 rfl (by rw [mdSize, md_size, hl, hm])
theorem md_result2 {fn : Func} {q u : Tmp} (h : fn.results = #[.cell q 99, .tmp u]) (tmps : Array Value) (w : World) (g : Nat) (p : List Value) (cs : List Int)
    (hp : tmps.getD q undef = .pointer (some ⟨g, 0, none⟩)) (hF : MdBlk w g p cs) (hl : p.length = 9) (hm : cs.length = 8) : (results fn tmps).run Try.prog w = .ok (.tuple #[.agg (mdC p cs), tmps.getD u undef]) w := by
  rw [results_cell_tmp h, hp]
  have := run_loadVar_row (P := Try.prog) w g 99 99 (mdC p cs) (0, 0) _ hF Try.underlying99 rfl (by rw [mdSize, md_size, hl, hm])
  simp [asAddr, this, Result.andThen]
/-- The cuts of the first so many points; 0 where there is no point. -/
def cutTo (c : Cse) (s : Scl) (k : Nat) : List Int := (List.range 8).map fun i => if i < k then cutH c s (c.hs.getD i 0) else 0
def cut8 (c : Cse) (s : Scl) : List Int := cutTo c s c.hs.length
theorem cutTo_length (c : Cse) (s : Scl) (k : Nat) : (cutTo c s k).length = 8 := by simp [cutTo]
theorem cutTo_zero (c : Cse) (s : Scl) : cutTo c s 0 = z8 := by
  apply List.ext_getElem?
  intro j
  rcases Nat.lt_or_ge j 8 with hj | hj
  · simp only [cutTo, z8, List.getElem?_map, List.getElem?_range hj, Option.map_some, Nat.not_lt_zero, if_false]
    rw [List.getElem?_replicate, if_pos hj]
  · rw [List.getElem?_eq_none (by rw [cutTo_length]; exact hj), List.getElem?_eq_none (by simp [z8]; exact hj)]
theorem cutTo_succ (c : Cse) (s : Scl) (k : Nat) (h8 : k < 8) : (cutTo c s k).set k (cutH c s (c.hs.getD k 0)) = cutTo c s (k + 1) := by
  apply List.ext_getElem?
  intro j
  rcases Nat.lt_or_ge j 8 with hj | hj
  · rw [List.getElem?_set]
    by_cases e1 : k = j
    · subst e1
      rw [if_pos rfl, if_pos (by rw [cutTo_length]; omega)]
      simp [cutTo, hj]
    · rw [if_neg e1]
      simp only [cutTo, List.getElem?_map, List.getElem?_range hj, Option.map_some, Option.some.injEq]
      by_cases q : j < k
      · rw [if_pos q, if_pos (by omega)]
      · rw [if_neg q, if_neg (by omega)]
  · rw [List.getElem?_eq_none (by rw [List.length_set, cutTo_length]; exact hj), List.getElem?_eq_none (by rw [cutTo_length]; exact hj)]
theorem cut8_get (c : Cse) (s : Scl) (i : Nat) (h : i < c.hs.length) (h8 : c.hs.length ≤ 8) : (cut8 c s).getD i 0 = (cutsC c s).getD i 0 := by
  unfold cut8 cutTo cutsC
  simp [List.getD_eq_getElem?_getD, show i < 8 by omega, h]
theorem cut8_zero (c : Cse) (s : Scl) (i : Nat) (h : c.hs.length ≤ i) : (cut8 c s).getD i 0 = 0 := by
  unfold cut8 cutTo
  rcases Nat.lt_or_ge i 8 with hi | hi
  · simp [List.getD_eq_getElem?_getD, hi]; omega
  · simp [List.getD_eq_getElem?_getD, hi]
theorem cutsC_bd {c : Cse} (hv : Valid c) (s : Scl) (hs : 1 ≤ s.1 ∧ s.1 ≤ 30 ∧ 1 ≤ s.2) (i : Nat) : 0 ≤ (cutsC c s).getD i 0 ∧ (cutsC c s).getD i 0 ≤ 270000 := by
  unfold cutsC
  rcases Nat.lt_or_ge i c.hs.length with hi | hi
  · have := cutH_bd c s (c.hs.getD i 0) (hv.hs i hi) hv.b0 hs
    simp only [List.getD_eq_getElem?_getD, List.getElem?_map, List.getElem?_eq_getElem hi, Option.map_some, Option.getD_some] at this ⊢
    exact this
  · simp [List.getD_eq_getElem?_getD, hi]
/-- Of a case, as it is looked at. -/
def lkV (c : Cse) (hv rv : Value) : Array Value := lkC c.kind c.base c.most hv rv c.kind (.func (.func (rnF c.kind)) #[] #[])
def mdP (c : Cse) (hv rv : Value) (s : Scl) : List Value := pf c.kind c.base c.most hv rv c.kind (.func (.func (rnF c.kind)) #[] #[]) s.1 s.2
end Go.Proofs.Ythflbbjilebhlaa
