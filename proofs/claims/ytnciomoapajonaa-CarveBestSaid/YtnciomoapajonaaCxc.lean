/- Package carve: ways. -/
import Derived.Test.YtnciomoapajonaaCxb
import Derived.Maps.OwnSet
import Derived.Laws.EntriesVeiled
set_option linter.unusedSimpArgs false
set_option linter.unusedVariables false
namespace Go.Proofs.Ytnciomoapajonaa
open Go Go.RowKit Go.Shelf Cv

theorem way_in (r : Row) (hv : Valid r) (hc : crossB r = false) (q : Bool) (k : Nat) (f : From) (hf : FromOk r k f) (hk : k < r.pts.length) : lowF r k ≤ (wayK r q k f).1 ∧ (wayK r q k f).1 ≤ highF r k := by
  have hok : ∀ b, b ∈ (bndR r).drop k → PtOk b.1 := by
    intro b hb
    obtain ⟨i, hi, rfl⟩ := List.mem_map.1 (List.mem_of_mem_drop hb)
    have := List.mem_range.1 hi
    simp only [List.getD_eq_getElem?_getD, this, List.getElem?_eq_getElem, Option.getD_some]
    exact hv.ok _ (List.getElem_mem _)
  have hl : ((bndR r).drop k).length ≤ 10 := by rw [List.length_drop, bndR_length]; have := hv.n10; omega
  have hfine := fine_at r hv.s0 hc (r.pts.length - k) k f (by omega) hf
  have h := wayL_is r.st q ((bndR r).drop k) f hok hl (deepF_nonneg f) hfine (good_from r hv hc k f hf (by omega))
  obtain ⟨g1, _, _⟩ := refL_some _ _ _ _ _ h
  have hkl : k < (bndR r).length := by rw [bndR_length]; exact hk
  have e : (bndR r).drop k = (r.pts.getD k default, lowF r k, highF r k) :: (bndR r).drop (k + 1) := by
    rw [List.drop_eq_getElem_cons hkl, bndR_get r k hkl]
  have hw : (wayK r q k f).1 = (wayL r.st q ((bndR r).drop k) f).1 := rfl
  rw [hw]
  rw [e] at g1 hfine ⊢
  obtain ⟨k1, k2, k3, k4⟩ := g1
  exact (hfine.2.2.1 _ k1 k2 k3).2 ⟨_, k4⟩
theorem surf_step (r : Row) (q : Bool) (k : Nat) (f : From) (hk : k < r.pts.length) : surfL r.st q ((bndR r).drop k) f = (wayK r q k f).1 :: surfL r.st q ((bndR r).drop (k + 1)) (some (r.pts.getD k default, (wayK r q k f).1)) := by
  have hkl : k < (bndR r).length := by rw [bndR_length]; exact hk
  unfold wayK
  rw [List.drop_eq_getElem_cons hkl, bndR_get r k hkl]
  rfl
theorem al5 (w : World) (A B C D E : Obj) : ∃ W, ((((w.alloc A).alloc B).alloc C).alloc D).alloc E = W ∧ W.heap[w.heap.size]? = some A ∧ W.heap[w.heap.size + 1]? = some B ∧ W.heap[w.heap.size + 2]? = some C ∧ W.heap[w.heap.size + 3]? = some D ∧ W.heap[w.heap.size + 4]? = some E ∧ Below w.heap.size w W := by
  obtain ⟨V, hV, h1, h2, h3, hb, hs⟩ := al3 w A B C
  obtain ⟨U, hU, k1, k2, kb, _⟩ := al2 V D E
  rw [hV]
  refine ⟨U, hU, (kb.block _ (lt_of_block h1)).trans h1, (kb.block _ (lt_of_block h2)).trans h2, (kb.block _ (lt_of_block h3)).trans h3, ?_, ?_, hb.trans (kb.mono hb.size)⟩
  · rw [hs] at k1; exact k1
  · rw [hs] at k2; exact k2
set_option maxRecDepth 100000 in
set_option maxHeartbeats 2000000 in
theorem ways_any (r : Row) (q : Bool) (pa : Option Addr) (pc gb cap : Nat) (w : World) (hP : PtsAt w (.slice pa r.pts.length pc) r.pts) (hB : PassAt w (.slice (some ⟨gb, 0, none⟩) r.pts.length cap) (bandsR r)) :
    Calls Try.prog 83 #[.agg #[.int .i64 r.st, .slice pa r.pts.length pc, .slice (some ⟨gb, 0, none⟩) r.pts.length cap], rkV q] w fun e w' => e = .returned (.func (.func 89) #[] #[.pointer (some ⟨w.heap.size + 3, 0, none⟩), .pointer (some ⟨w.heap.size, 0, none⟩), .pointer (some ⟨w.heap.size + 4, 0, none⟩), .pointer (some ⟨w.heap.size + 1, 0, none⟩)]) ∧
      WSt r q (.slice pa r.pts.length pc) gb cap (w.heap.size + 2) (w.heap.size + 3) w.heap.size (w.heap.size + 4) (w.heap.size + 1) w' ∧ Below w.heap.size w w' := by
  have hmm := @run_makeMap Try.prog
  have HP := Lib.hid hP
  have HB := Lib.hid hB
  clear hP hB
  unfold rkV
  go_enter Try.func83, Try.ntmps83
  go_wp2_with fail
  go_ret
  obtain ⟨V, hV, h1, h2, h3, h4, h5, hb⟩ := al5 w (Obj.cells #[.int .i64 r.st, .slice pa r.pts.length pc, .slice (some ⟨gb, 0, none⟩) r.pts.length cap] 78) (Obj.cells #[rkV q] 101) (Obj.map #[] 0) (Obj.cells #[.map (some (w.heap.size + 2))] 128) (Obj.cells #[.func (.func 89) #[] #[.pointer (some ⟨w.heap.size + 3, 0, none⟩), .pointer (some ⟨w.heap.size, 0, none⟩), .pointer (some ⟨w.heap.size + 4, 0, none⟩), .pointer (some ⟨w.heap.size + 1, 0, none⟩)]] 120)
  refine ⟨rfl, ?_⟩
  show WSt r q (.slice pa r.pts.length pc) gb cap (w.heap.size + 2) (w.heap.size + 3) w.heap.size (w.heap.size + 4) (w.heap.size + 1) (((((w.alloc (Obj.cells #[.int .i64 r.st, .slice pa r.pts.length pc, .slice (some ⟨gb, 0, none⟩) r.pts.length cap] 78)).alloc (Obj.cells #[rkV q] 101)).alloc (Obj.map #[] 0)).alloc (Obj.cells #[.map (some (w.heap.size + 2))] 128)).alloc (Obj.cells #[.func (.func 89) #[] #[.pointer (some ⟨w.heap.size + 3, 0, none⟩), .pointer (some ⟨w.heap.size, 0, none⟩), .pointer (some ⟨w.heap.size + 4, 0, none⟩), .pointer (some ⟨w.heap.size + 1, 0, none⟩)]] 120)) ∧ Below w.heap.size w (((((w.alloc (Obj.cells #[.int .i64 r.st, .slice pa r.pts.length pc, .slice (some ⟨gb, 0, none⟩) r.pts.length cap] 78)).alloc (Obj.cells #[rkV q] 101)).alloc (Obj.map #[] 0)).alloc (Obj.cells #[.map (some (w.heap.size + 2))] 128)).alloc (Obj.cells #[.func (.func 89) #[] #[.pointer (some ⟨w.heap.size + 3, 0, none⟩), .pointer (some ⟨w.heap.size, 0, none⟩), .pointer (some ⟨w.heap.size + 4, 0, none⟩), .pointer (some ⟨w.heap.size + 1, 0, none⟩)]] 120))
  rw [hV]
  exact ⟨⟨h4, h1, h5, h2, HP.out.below hb, HB.out.below hb, ⟨#[], 0, h3, fun e he => by simp at he⟩⟩, hb⟩
end Go.Proofs.Ytnciomoapajonaa
