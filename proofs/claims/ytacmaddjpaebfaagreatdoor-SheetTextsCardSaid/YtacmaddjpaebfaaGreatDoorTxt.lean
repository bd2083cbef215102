/- Tables that the library's texts read; line of package sheet. -/
import Derived.Test.YtacmaddjpaebfaaGreatDoorMeas
import Derived.Test.YtacmaddjpaebfaaGreatDoorShelf
import Derived.Lib.SmallJoins
import Derived.Laws.Concat
set_option linter.unusedSimpArgs false
set_option linter.unusedVariables false
namespace Go.Proofs.YtacmaddjpaebfaaGreatDoor
open Go Go.RowKit Hs

/-- What the library's variables hold, as far as texts need it. -/
structure Tabs (w : World) : Prop where
  pow : Lib.TabIs Tryz.prog w "internal/strconv.uint64pow10" .u64 Lib.pow10Tab
  max : ∃ m : Int, w.cell? ⟨1, 0, none⟩ = some (.int .i64 m)
theorem gPow : Tryz.prog.globalNamed "internal/strconv.uint64pow10" = some 0 := by kernel_rfl
theorem Tabs.below {w w' : World} (h : Tabs w) (hb : Below w.heap.size w w') : Tabs w' := by
  refine ⟨Go.Joins.tab_stays gPow h.pow hb (Nat.le_refl _), ?_⟩
  obtain ⟨m, hm⟩ := h.max
  exact ⟨m, (hb.cell (World.block_lt_of_cell? w _ hm)).trans hm⟩

/-- The string of a list of bytes. -/
def bs (l : List UInt8) : ByteArray := ⟨l.toArray⟩
theorem bs_list (l : List UInt8) : (bs l).data.toList = l := rfl
theorem bs_of (s : ByteArray) : bs s.data.toList = s := rfl

theorem below_grow (w : World) (q : Nat) (os : Array Obj) : Below w.heap.size w (Go.Sort.grow (w.drewN q) os) :=
  ⟨rfl, rfl, rfl, by simp [Go.Sort.grow], fun i hi => by
    show ((w.drewN q).heap ++ os)[i]? = _
    rw [Array.getElem?_append_left (by show i < w.heap.size; omega)]
    rfl⟩

theorem itoa_any (n : Int) (w : World) (h0 : -9223372036854775808 ≤ n) (h1 : n ≤ 9223372036854775807) (hT : Tabs w) :
    Calls Tryz.prog 83 #[.int .i64 n] w fun e w' => e = .returned (.string (bs (Lib.itoa n))) ∧ Below w.heap.size w w' := by
  refine (Tryz.strconv_Itoa n h0 h1 w hT.pow).mono ?_
  rintro e w' ⟨rfl, k, os, rfl⟩
  exact ⟨rfl, below_grow w k os⟩

/-- A line of words. -/
def lineT (ws : List (List UInt8)) : List UInt8 := Lib.join ws [32] ++ [10]

set_option maxHeartbeats 400000 in
theorem line_any (bk c : Nat) (xs : List ByteArray) (w : World) (hc : ∀ (j : Nat) x, xs[j]? = some x → w.cell? ⟨bk, 0 + j, none⟩ = some (.string x)) (hbk : bk < w.heap.size) (hN : xs.length ≤ 100) (hcap : xs.length ≤ c)
    (hlen : (Lib.join (xs.map (·.data.toList)) [32]).length ≤ 100000) :
    Calls Tryz.prog 82 #[.slice (some ⟨bk, 0, none⟩) xs.length c] w fun e w' => e = .returned (.string (bs (lineT (xs.map (·.data.toList))))) ∧ Below w.heap.size w w' := by
  have hj := Tryz.strings_Join bk 0 c xs (bs [32]) w hc hbk (by omega) hcap (by show (Lib.join (xs.map (·.data.toList)) [32]).length ≤ _; omega)
  have HJ := Lib.hid hj
  clear hj hc
  go_enter Tryz.func82, Tryz.ntmps82
  go_wp2_with fail
  refine HJ.out.mono ?_
  rintro e w1 ⟨rfl, hb⟩
  obtain ⟨S, HS⟩ : ∃ S, Hid (S = ByteArray.mk (Lib.join (xs.map (·.data.toList)) (bs [32]).data.toList).toArray) := ⟨_, rfl⟩
  rw [← HS.out]
  have hz : S.size ≤ 100000 := by rw [HS.out]; exact hlen
  have HE : Hid (S ++ ⟨#[10]⟩ = bs (lineT (xs.map (·.data.toList)))) := by
    show _ = _
    rw [HS.out]
    exact ByteArray.mk_append_mk _ [10]
  go_wp2
  go_ret
  exact ⟨by rw [← HE.out]; rfl, hb⟩
end Go.Proofs.YtacmaddjpaebfaaGreatDoor
