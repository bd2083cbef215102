/- Package carve: the best way from a place: what is at hand. -/
import Derived.Test.YtnciomoapajonaaCwp
import Derived.Test.YtnciomoapajonaaLasti
set_option linter.unusedSimpArgs false
set_option linter.unusedVariables false
namespace Go.Proofs.Ytnciomoapajonaa
open Go Go.RowKit Go.Shelf Cv

theorem cell_bm {r : Row} {q : Bool} {mb : Nat} {w w' : World} (h : Bm mb w w') (hm : MapSt r q mb w) {b i : Nat} {v : Value} (hc : w.cell? ⟨b, i, none⟩ = some v) : w'.cell? ⟨b, i, none⟩ = some v := by
  have hlt := World.block_lt_of_cell? w _ hc
  have hne : b ≠ mb := by
    rintro rfl
    obtain ⟨es, c, h1, _⟩ := hm
    unfold World.cell? at hc
    simp only [h1] at hc
    cases hc
  unfold World.cell? at hc ⊢
  rw [h.block b hlt hne]
  exact hc
theorem PtsAt.bm {r : Row} {q : Bool} {mb : Nat} {w w' : World} {v : Value} {l : List Pt} (h : PtsAt w v l) (hb : Bm mb w w') (hm : MapSt r q mb w) : PtsAt w' v l := by
  obtain ⟨h1, a, cap, rfl, hc, h2⟩ := h
  refine ⟨h1, a, cap, rfl, hc, fun hne => ?_⟩
  obtain ⟨b, o, rfl, hk⟩ := h2 hne
  exact ⟨b, o, rfl, fun k h => ⟨cell_bm hb hm (hk k h).1, cell_bm hb hm (hk k h).2.1, cell_bm hb hm (hk k h).2.2⟩⟩
theorem PassAt.bm {r : Row} {q : Bool} {mb : Nat} {w w' : World} {v : Value} {l : List (Int × Int)} (h : PassAt w v l) (hb : Bm mb w w') (hm : MapSt r q mb w) : PassAt w' v l := by
  obtain ⟨h1, a, cap, rfl, hc, h2⟩ := h
  refine ⟨h1, a, cap, rfl, hc, fun hne => ?_⟩
  obtain ⟨b, o, rfl, hk⟩ := h2 hne
  exact ⟨b, o, rfl, fun k h => ⟨cell_bm hb hm (hk k h).1, cell_bm hb hm (hk k h).2⟩⟩
theorem blk_bm {r : Row} {q : Bool} {mb b : Nat} {w w' : World} {C : Array Value} {t : TypeId} {fr : Nat × Nat} (h : Bm mb w w') (hm : MapSt r q mb w) (hc : w.heap[b]? = some (.cells C t fr)) : w'.heap[b]? = some (.cells C t fr) := by
  refine h.cells hc ?_
  rintro rfl
  obtain ⟨es, c, h1, _⟩ := hm
  rw [h1] at hc
  cases hc
/-- What the closure has captured. -/
structure WSt (r : Row) (q : Bool) (pv : Value) (gb cap mb kb bb fb rb : Nat) (w : World) : Prop where
  ck : w.heap[kb]? = some (.cells #[.map (some mb)] 128 (0, 0))
  cb : w.heap[bb]? = some (.cells #[.int .i64 r.st, pv, .slice (some ⟨gb, 0, none⟩) r.pts.length cap] 78 (0, 0))
  cf : w.heap[fb]? = some (.cells #[.func (.func 89) #[] #[.pointer (some ⟨kb, 0, none⟩), .pointer (some ⟨bb, 0, none⟩), .pointer (some ⟨fb, 0, none⟩), .pointer (some ⟨rb, 0, none⟩)]] 120 (0, 0))
  cr : w.heap[rb]? = some (.cells #[rkV q] 101 (0, 0))
  pts : PtsAt w pv r.pts
  bands : PassAt w (.slice (some ⟨gb, 0, none⟩) r.pts.length cap) (bandsR r)
  map : MapSt r q mb w
theorem WSt.keep {r : Row} {q : Bool} {pv : Value} {gb cap mb kb bb fb rb : Nat} {w w' : World} (h : WSt r q pv gb cap mb kb bb fb rb w) (hb : Bm mb w w') (hm : MapSt r q mb w') : WSt r q pv gb cap mb kb bb fb rb w' :=
  ⟨blk_bm hb h.map h.ck, blk_bm hb h.map h.cb, blk_bm hb h.map h.cf, blk_bm hb h.map h.cr, h.pts.bm hb h.map, h.bands.bm hb h.map, hm⟩
theorem WSt.below {r : Row} {q : Bool} {pv : Value} {gb cap mb kb bb fb rb : Nat} {w w' : World} (h : WSt r q pv gb cap mb kb bb fb rb w) (hb : Below w.heap.size w w') : WSt r q pv gb cap mb kb bb fb rb w' :=
  h.keep (Bm.of_below hb) (h.map.below hb)
theorem step_z (r : Row) (hv : Valid r) (pv bv : Value) (k : Nat) (z g h : Int) (f : From) (w : World) (hP : PtsAt w pv r.pts) (hk : k < r.pts.length) (hz : z + 1 = k) (hf : FromZ r k g f) (h0 : 0 ≤ h) (h9 : h ≤ 9000) :
    Calls Try.prog 92 #[.agg #[.int .i64 r.st, pv, bv], .agg #[.int .i64 z, .int .i64 g], .int .i64 h] w fun e w' => e = .returned (.agg #[.int .i64 (stepN f (r.pts.getD k default) h).1, .int .i64 (stepN f (r.pts.getD k default) h).2]) ∧ Below w.heap.size w w' := by
  have e : r.pts.getD k default = r.pts[k] := by simp [List.getD_eq_getElem?_getD, hk]
  rw [e]
  obtain ⟨hg, ho, hh⟩ := hf
  cases k with
  | zero =>
    obtain rfl : z = -1 := by omega
    obtain rfl : f = none := ho
    exact step_ahead r.st pv bv r.pts g h w hP hk h0 h9 hv.ok
  | succ i =>
    obtain ⟨g', rfl, _, _⟩ := ho
    obtain rfl : g' = g := hh _ _ rfl
    obtain rfl : z = (i : Int) := by omega
    have e2 : r.pts.getD i default = r.pts[i]'(by omega) := by simp [List.getD_eq_getElem?_getD, show i < r.pts.length by omega]
    rw [e2]
    exact step_at r.st pv bv r.pts i (i + 1) g' h w hP rfl (by omega) hk hg.1 hg.2 h0 h9 hv.ok
theorem stepN_bd (f : From) (p : Pt) (h : Int) (h0 : 0 ≤ h) (h9 : h ≤ 9000) (hp : PtOk p) : 0 ≤ (stepN f p h).1 ∧ (stepN f p h).1 ≤ 9000 ∧ 0 ≤ (stepN f p h).2 ∧ (stepN f p h).2 ≤ 9000 := by
  have a := hp.b0
  have b := hp.b9
  have c := deepF_nonneg f
  unfold stepN
  simp only
  omega
/-- The best one of some heights. -/
def accL (r : Row) (q : Bool) (k : Nat) (f : From) (hs : List Int) : Int × Nd := hs.foldl (fun a h => bet q a (h, addN (stepN f (r.pts.getD k default) h) (wayK r q (k + 1) (some (r.pts.getD k default, h))).2)) bigW
theorem accL_snoc (r : Row) (q : Bool) (k : Nat) (f : From) (hs : List Int) (h : Int) : accL r q k f (hs ++ [h]) = bet q (accL r q k f hs) (h, addN (stepN f (r.pts.getD k default) h) (wayK r q (k + 1) (some (r.pts.getD k default, h))).2) := by simp [accL]
end Go.Proofs.Ytnciomoapajonaa
