/- Cases of edges in memory. -/
import Derived.Test.YtojdocomkhihoaaEd
import Derived.Test.YtojdocomkhihoaaEg
set_option linter.unusedSimpArgs false
set_option linter.unusedVariables false
namespace Go.Proofs.Ytojdocomkhihoaa
open Go Go.RowKit Ed

/-- A value reads as a list of pairs (points of an edge, spans). -/
def PairsAt (w : World) (v : Value) (l : List (Int × Int)) : Prop :=
  l.length ≤ 4611686018427387904 ∧ ∃ a cap, v = .slice a l.length cap ∧ l.length ≤ cap ∧ (l ≠ [] → ∃ b o, a = some ⟨b, o, none⟩ ∧ ∀ k (h : k < l.length), w.cell? ⟨b, o + k * 2, none⟩ = some (.int .i64 l[k].1) ∧ w.cell? ⟨b, o + k * 2 + 1, none⟩ = some (.int .i64 l[k].2))
theorem PairsAt.below {w w' : World} {v : Value} {l : List (Int × Int)} (h : PairsAt w v l) (hb : Below w.heap.size w w') : PairsAt w' v l := by
  obtain ⟨h1, a, cap, rfl, hc, h2⟩ := h
  refine ⟨h1, a, cap, rfl, hc, fun hne => ?_⟩
  obtain ⟨b, o, rfl, hk⟩ := h2 hne
  refine ⟨b, o, rfl, fun k h => ?_⟩
  obtain ⟨c0, c1⟩ := hk k h
  have lt := World.block_lt_of_cell? w ⟨b, o + k * 2, none⟩ c0
  exact ⟨(hb.cell (p := ⟨b, o + k * 2, none⟩) lt).trans c0, (hb.cell (p := ⟨b, o + k * 2 + 1, none⟩) lt).trans c1⟩
theorem PairsAt.get {w : World} {a : Option Addr} {n cap : Nat} {l : List (Int × Int)} (h : PairsAt w (.slice a n cap) l) {k : Nat} (hk : k < l.length) :
    ∃ b o, a = some ⟨b, o, none⟩ ∧ w.cell? ⟨b, o + k * 2, none⟩ = some (.int .i64 l[k].1) ∧ w.cell? ⟨b, o + k * 2 + 1, none⟩ = some (.int .i64 l[k].2) := by
  obtain ⟨_, a', cap', e, _, h2⟩ := h
  simp only [Value.slice.injEq] at e
  obtain ⟨rfl, _, _⟩ := e
  obtain ⟨b, o, rfl, hc⟩ := h2 (by rintro rfl; simp at hk)
  exact ⟨b, o, rfl, hc k hk⟩
/-- A value reads as a list of sheets. -/
def ShtsAt (w : World) (v : Value) (l : List Sht) : Prop :=
  l.length ≤ 4611686018427387904 ∧ ∃ a cap, v = .slice a l.length cap ∧ l.length ≤ cap ∧ (∀ s, s ∈ l → s.nm.size ≤ 140737488351232) ∧ (l ≠ [] → ∃ b o, a = some ⟨b, o, none⟩ ∧ ∀ k (h : k < l.length),
    w.cell? ⟨b, o + k * 3, none⟩ = some (.string l[k].nm) ∧ w.cell? ⟨b, o + k * 3 + 1, none⟩ = some (.int .i64 l[k].wt) ∧ w.cell? ⟨b, o + k * 3 + 2, none⟩ = some (.int .i64 l[k].most))
theorem ShtsAt.below {w w' : World} {v : Value} {l : List Sht} (h : ShtsAt w v l) (hb : Below w.heap.size w w') : ShtsAt w' v l := by
  obtain ⟨h1, a, cap, rfl, hc, hs, h2⟩ := h
  refine ⟨h1, a, cap, rfl, hc, hs, fun hne => ?_⟩
  obtain ⟨b, o, rfl, hk⟩ := h2 hne
  refine ⟨b, o, rfl, fun k h => ?_⟩
  obtain ⟨c0, c1, c2⟩ := hk k h
  have lt := World.block_lt_of_cell? w ⟨b, o + k * 3, none⟩ c0
  exact ⟨(hb.cell (p := ⟨b, o + k * 3, none⟩) lt).trans c0, (hb.cell (p := ⟨b, o + k * 3 + 1, none⟩) lt).trans c1, (hb.cell (p := ⟨b, o + k * 3 + 2, none⟩) lt).trans c2⟩
theorem ShtsAt.get {w : World} {a : Option Addr} {n cap : Nat} {l : List Sht} (h : ShtsAt w (.slice a n cap) l) {k : Nat} (hk : k < l.length) :
    ∃ b o, a = some ⟨b, o, none⟩ ∧ w.cell? ⟨b, o + k * 3, none⟩ = some (.string l[k].nm) ∧ w.cell? ⟨b, o + k * 3 + 1, none⟩ = some (.int .i64 l[k].wt) ∧ w.cell? ⟨b, o + k * 3 + 2, none⟩ = some (.int .i64 l[k].most) := by
  obtain ⟨_, a', cap', e, _, _, h2⟩ := h
  simp only [Value.slice.injEq] at e
  obtain ⟨rfl, _, _⟩ := e
  obtain ⟨b, o, rfl, hc⟩ := h2 (by rintro rfl; simp at hk)
  exact ⟨b, o, rfl, hc k hk⟩
theorem ShtsAt.take {w : World} {sa : Option Addr} {n sc : Nat} {l : List Sht} (h : ShtsAt w (.slice sa n sc) l) (k : Nat) (hk : k ≤ l.length) : ShtsAt w (.slice sa k sc) (l.take k) := by
  obtain ⟨h1, a, cap, e, hc, hs, h2⟩ := h
  simp only [Value.slice.injEq] at e
  obtain ⟨rfl, rfl, rfl⟩ := e
  have hl : (l.take k).length = k := by simp; omega
  refine ⟨by omega, sa, sc, by rw [hl], by omega, fun s hm => hs s (List.mem_of_mem_take hm), fun hne => ?_⟩
  obtain ⟨b, o, rfl, hk'⟩ := h2 (by rintro rfl; simp at hne)
  refine ⟨b, o, rfl, fun j hj => ?_⟩
  rw [hl] at hj
  have := hk' j (by omega)
  simpa [List.getElem_take] using this
/-- A value reads as a list of edges. -/
def EdgsAt (w : World) (v : Value) (l : List Edg) : Prop :=
  l.length ≤ 4611686018427387904 ∧ ∃ a cap, v = .slice a l.length cap ∧ l.length ≤ cap ∧ (l ≠ [] → ∃ b o, a = some ⟨b, o, none⟩ ∧ ∀ k (h : k < l.length),
    w.cell? ⟨b, o + k * 3, none⟩ = some (.int .i64 l[k].a) ∧ w.cell? ⟨b, o + k * 3 + 1, none⟩ = some (.int .i64 l[k].b) ∧ ∃ pv, w.cell? ⟨b, o + k * 3 + 2, none⟩ = some pv ∧ PairsAt w pv l[k].pts)
theorem EdgsAt.below {w w' : World} {v : Value} {l : List Edg} (h : EdgsAt w v l) (hb : Below w.heap.size w w') : EdgsAt w' v l := by
  obtain ⟨h1, a, cap, rfl, hc, h2⟩ := h
  refine ⟨h1, a, cap, rfl, hc, fun hne => ?_⟩
  obtain ⟨b, o, rfl, hk⟩ := h2 hne
  refine ⟨b, o, rfl, fun k h => ?_⟩
  obtain ⟨c0, c1, pv, c2, hp⟩ := hk k h
  have lt := World.block_lt_of_cell? w ⟨b, o + k * 3, none⟩ c0
  exact ⟨(hb.cell (p := ⟨b, o + k * 3, none⟩) lt).trans c0, (hb.cell (p := ⟨b, o + k * 3 + 1, none⟩) lt).trans c1, pv, (hb.cell (p := ⟨b, o + k * 3 + 2, none⟩) lt).trans c2, hp.below hb⟩
theorem EdgsAt.get {w : World} {a : Option Addr} {n cap : Nat} {l : List Edg} (h : EdgsAt w (.slice a n cap) l) {k : Nat} (hk : k < l.length) :
    ∃ b o pa pc, a = some ⟨b, o, none⟩ ∧ w.cell? ⟨b, o + k * 3, none⟩ = some (.int .i64 l[k].a) ∧ w.cell? ⟨b, o + k * 3 + 1, none⟩ = some (.int .i64 l[k].b) ∧ w.cell? ⟨b, o + k * 3 + 2, none⟩ = some (.slice pa l[k].pts.length pc) ∧ PairsAt w (.slice pa l[k].pts.length pc) l[k].pts := by
  obtain ⟨_, a', cap', e, _, h2⟩ := h
  simp only [Value.slice.injEq] at e
  obtain ⟨rfl, _, _⟩ := e
  obtain ⟨b, o, rfl, hc⟩ := h2 (by rintro rfl; simp at hk)
  obtain ⟨c0, c1, pv, c2, hp⟩ := hc k hk
  obtain ⟨q1, pa, pc, rfl, q3⟩ := id hp
  exact ⟨b, o, pa, pc, rfl, c0, c1, c2, hp⟩
end Go.Proofs.Ytojdocomkhihoaa
