/- Package edge: what the points of an edge want. -/
import Derived.Test.YtojdocomkhihoaaEu
set_option linter.unusedSimpArgs false
set_option linter.unusedVariables false
namespace Go.Proofs.Ytojdocomkhihoaa
open Go Go.RowKit Ed

/-- What points want of the difference of changes. -/
def wantStep (tol : Int) (s : Int × Int) (p : Int × Int) : Int × Int := (max s.1 (p.2 - p.1 - tol), min s.2 (p.2 - p.1 + tol))
def wantS (tol : Int) (l : List (Int × Int)) : Int × Int := l.foldl (wantStep tol) (-9000 - tol, 9000 + tol)
theorem wantS_succ (tol : Int) (l : List (Int × Int)) (k : Nat) (h : k < l.length) : wantS tol (l.take (k + 1)) = wantStep tol (wantS tol (l.take k)) l[k] := by
  rw [List.take_succ_eq_append_getElem h]
  unfold wantS
  rw [List.foldl_append]
  rfl
def PtsOk (l : List (Int × Int)) : Prop := ∀ p, p ∈ l → 0 ≤ p.1 ∧ p.1 ≤ 9000 ∧ 0 ≤ p.2 ∧ p.2 ≤ 9000
theorem wantS_bd (tol : Int) (h0 : 0 ≤ tol) (h5 : tol ≤ 50) (l : List (Int × Int)) (hl : PtsOk l) : ∀ k, k ≤ l.length → -9050 ≤ (wantS tol (l.take k)).1 ∧ (wantS tol (l.take k)).1 ≤ 9050 ∧ -9050 ≤ (wantS tol (l.take k)).2 ∧ (wantS tol (l.take k)).2 ≤ 9050 := by
  intro k
  induction k with
  | zero => intro _; simp [wantS]; omega
  | succ k ih =>
    intro hk
    have h1 := ih (by omega)
    have h2 := hl l[k] (List.getElem_mem (by omega))
    rw [wantS_succ tol l k (by omega)]
    unfold wantStep
    simp only
    omega
theorem span_set {w : World} {g : Nat} {z0 z1 x y : Value} {T : TypeId} {o : Obj} (h : w.heap[g]? = some (.cells #[z0, z1] T (0, 0))) : (((w.setCell ⟨g, 0, none⟩ x).setCell ⟨g, 1, none⟩ y).alloc o).heap[g]? = some (.cells #[x, y] T (0, 0)) := by
  have h0 := heap_setCell_same w g 0 _ _ x h
  have h1 := heap_setCell_same _ g 1 _ _ y h0
  exact (Below.heap_alloc _ o _ (lt_of_block h1)).trans h1
theorem span_keep {w : World} {g b : Nat} {x y : Value} {o X : Obj} (h : w.heap[b]? = some X) (hne : b ≠ g) : (((w.setCell ⟨g, 0, none⟩ x).setCell ⟨g, 1, none⟩ y).alloc o).heap[b]? = some X := by
  have h1 := (heap_setCell_other _ (⟨g, 1, none⟩ : Addr) b y (by show b ≠ g; exact hne)).trans ((heap_setCell_other w (⟨g, 0, none⟩ : Addr) b x (by show b ≠ g; exact hne)).trans h)
  exact (Below.heap_alloc _ o _ (lt_of_block h1)).trans h1
theorem span_result {fn : Func} {p : Tmp} (h : fn.results = #[.cell p 31]) (tmps : Array Value) (w : World) (g : Nat) (x y : Value)
    (hp : tmps.getD p undef = .pointer (some ⟨g, 0, none⟩)) (hg : w.heap[g]? = some (.cells #[x, y] 31 (0, 0))) :
    (results fn tmps).run Try.prog w = .ok (.agg #[x, y]) w := by
  have c0 : w.cell? ⟨g, 0, none⟩ = some x := cellOf hg 0 _ rfl
  have c1 : w.cell? ⟨g, 1, none⟩ = some y := cellOf hg 1 _ rfl
  have hp' : tmps[p]?.getD undef = .pointer (some ⟨g, 0, none⟩) := by simpa using hp
  simp only [results, h]
  simp [Sem.run_bind, Result.andThen, hp', asAddr, go_sem, c0, c1]
theorem two_set {V : World} {g : Nat} {z0 z1 x y : Value} {T : TypeId} (h : V.heap[g]? = some (.cells #[z0, z1] T (0, 0))) :
    ((V.setCell ⟨g, 0, none⟩ x).setCell ⟨g, 1, none⟩ y).heap[g]? = some (.cells #[x, y] T (0, 0)) := by
  have h0 := heap_setCell_same V g 0 _ _ x h
  exact heap_setCell_same _ g 1 _ _ y h0
theorem two_below {w V : World} {B g : Nat} {x y : Value} (h : Below B w V) (hg : B ≤ g) : Below B w ((V.setCell ⟨g, 0, none⟩ x).setCell ⟨g, 1, none⟩ y) :=
  (h.setCell (p := ⟨g, 0, none⟩) hg x).setCell (p := ⟨g, 1, none⟩) hg y
set_option maxRecDepth 100000 in
set_option maxHeartbeats 4000000 in
theorem wanted_any (pv : Value) (l : List (Int × Int)) (tol : Int) (w : World) (hp : PairsAt w pv l) (hl : l.length ≤ 4) (hok : PtsOk l) (h0 : 0 ≤ tol) (h5 : tol ≤ 50) :
    Calls Try.prog 104 #[pv, .int .i64 tol] w fun e w' => e = .returned (.agg #[.int .i64 (wantS tol l).1, .int .i64 (wantS tol l).2]) ∧ Below w.heap.size w w' := by
  obtain ⟨lp, pa, pc, rfl, _⟩ := id hp
  obtain ⟨n, hn⟩ : ∃ n, l.length = n := ⟨_, rfl⟩
  rw [hn] at lp hp hl ⊢
  have HN := Lib.hid hn
  have HP := Lib.hid hp
  have HO := Lib.hid hok
  have nI : (n : Int) ≤ 4 := by omega
  obtain ⟨W, hW, q1, q2, hb, hsz⟩ := al2 w (Obj.cells #[.int .i64 0, .int .i64 0] 31) (Obj.cells #[.int .i64 (-9000 - tol), .int .i64 (9000 + tol)] 31)
  have HW := Lib.hid hW
  have HQ1 := Lib.hid q1
  have HQ2 := Lib.hid q2
  have HB := Lib.hid hb
  clear hp hok hn hW q1 q2 hb hsz
  go_enter Try.func104, Try.ntmps104
  go_wp2_with fail
  rw [HW.out]
  clear HW
  go_loopg [16] n (fun g v wr => ∃ k : Nat, g + k = n ∧ v = .int .i64 k ∧ Hid (wr.heap[w.heap.size]? = some (.cells #[.int .i64 0, .int .i64 0] 31 (0, 0))) ∧ Hid (wr.heap[w.heap.size + 1]? = some (.cells #[.int .i64 (wantS tol (l.take k)).1, .int .i64 (wantS tol (l.take k)).2] 31 (0, 0))) ∧ Hid (Below w.heap.size w wr))
  case atStart => exact ⟨0, by omega, rfl, HQ1, HQ2, HB⟩
  case round =>
    obtain ⟨k, hk, rfl, H1, H2, HL⟩ := hrel
    by_cases hkn : k < n
    · have kI : (k : Int) < (n : Int) := by omega
      have hk' : k < l.length := by rw [HN.out]; exact hkn
      obtain ⟨pb, po, rfl, c0, c1⟩ := (HP.out.below HL.out).get hk'
      have hpk := HO.out l[k] (List.getElem_mem hk')
      have hbd := wantS_bd tol h0 h5 l HO.out k (by omega)
      have HS := Lib.hid (wantS_succ tol l k hk')
      generalize wantS tol (l.take k) = s at *
      generalize l[k] = p at *
      obtain ⟨a, b⟩ := p
      obtain ⟨lo, hi⟩ := s
      simp only at c0 c1 hpk hbd H2
      obtain ⟨a0, a9, b0, b9⟩ := hpk
      obtain ⟨x1, x2, x3, x4⟩ := hbd
      have hpb := World.block_lt_of_cell? wr ⟨pb, po + k * 2, none⟩ c0
      have e0 := cellOf H2.out 0 _ rfl
      have e1 := cellOf H2.out 1 _ rfl
      have f0 := frozen_of_row _ _ 0 _ _ H2.out
      have f1 := frozen_of_row _ _ 1 _ _ H2.out
      have el := lt_of_block H2.out
      go_wp2_with fail
      all_goals
        go_roundg (gk - 1)
        case measure => omega
        case rel =>
          refine ⟨k + 1, by omega, by go_num, span_keep H1.out (by omega), ?_, (two_below HL.out (by omega)).alloc (two_below HL.out (by omega)).size _⟩
          show _ = _
          rw [HS.out]
          unfold wantStep
          simp only
          first | rw [show max lo (b - a - tol) = lo by omega] | rw [show max lo (b - a - tol) = b - a - tol by omega]
          first | rw [show min hi (b - a + tol) = hi by omega] | rw [show min hi (b - a + tol) = b - a + tol by omega]
          exact span_set H2.out
    · obtain rfl : k = n := by omega
      have e : l.take k = l := List.take_of_length_le (by rw [HN.out]; exact Nat.le_refl _)
      rw [e] at H2
      have kI : ¬ (k : Int) < (k : Int) := by omega
      have e0 := cellOf H2.out 0 _ rfl
      have e1 := cellOf H2.out 1 _ rfl
      have f0 := frozen_of_row _ _ 0 _ _ H1.out
      have f1 := frozen_of_row _ _ 1 _ _ H1.out
      have g0 := cellOf H1.out 0 _ rfl
      have g1 := cellOf H1.out 1 _ rfl
      have el := lt_of_block H2.out
      have gl := lt_of_block H1.out
      clear hkn hk e
      go_wp2_with fail
      exact bodyPost_ret (span_result rfl _ _ w.heap.size _ _ rfl (two_set H1.out)) rfl ⟨rfl, two_below HL.out (Nat.le_refl _)⟩
end Go.Proofs.Ytojdocomkhihoaa
