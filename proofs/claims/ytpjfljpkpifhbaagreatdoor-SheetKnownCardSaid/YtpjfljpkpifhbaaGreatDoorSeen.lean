/- Names that were seen: the closure of nameFault in package sheet. -/
import Derived.Test.YtpjfljpkpifhbaaGreatDoorName
import Derived.Test.YtpjfljpkpifhbaaGreatDoorNotes
import Derived.Maps.Own
import Derived.Maps.OwnOps
import Derived.Maps.OwnSet
set_option linter.unusedSimpArgs false
set_option linter.unusedVariables false
namespace Go.Proofs.YtpjfljpkpifhbaaGreatDoor
open Go Go.RowKit Go.Maps Go.WideMaps Hs

/-- Block b is a map of the names of a list. -/
def SeenAt (w : World) (b : Nat) (l : List (List UInt8)) : Prop :=
  ∃ D : DataW Unit, w.ownsMap Tryz.prog 9 (plainElem Tryz.prog 4) b l.length D ∧ IsMap D ∧ ∀ key : List UInt8, D.atKey (.string key) (.lit (.bool false)) = .lit (.bool (decide (key ∈ l)))
theorem SeenAt.lt {w : World} {b : Nat} {l : List (List UInt8)} (h : SeenAt w b l) : b < w.heap.size := by obtain ⟨D, h1, _⟩ := h; exact h1.lt
theorem SeenAt.kept {w w' : World} {b : Nat} {l : List (List UInt8)} (h : SeenAt w b l) {row : Option Nat} (hg : w.grownBy w' row) (hne : some b ≠ row) : SeenAt w' b l := by
  obtain ⟨D, h1, h2, h3⟩ := h
  exact ⟨D, h1.kept hg hne, h2, h3⟩
theorem SeenAt.made (w : World) : SeenAt (w.alloc (.map #[] 0)) w.heap.size [] := by
  refine ⟨.map [], World.ownsMap_made _ _ _ _, ⟨_, rfl⟩, fun key => ?_⟩
  simp [DataW.atKey]
theorem keyB : Keyed Tryz.prog 9 := string_keyed Tryz.underlying9

/-- The error of a name, behind others. -/
def nameErr (seen : List (List UInt8)) (s : List UInt8) : Int := if nameB s = false then 6 else if s ∈ seen then 5 else 0

/-- The names that were seen behind one more. -/
def afterName (seen : List (List UInt8)) (s : List UInt8) : List (List UInt8) := if nameErr seen s = 0 then seen ++ [s] else seen

theorem plainElem_bool_inv {H : Type} {P : Program} {e : TypeId} (he : P.underlying e = some .bool) {v : Value} {z : DataW H × List MemPlace} (h : plainElem P e v = some z) : ∃ b, v = .bool b ∧ z = (.lit (.bool b), []) := by
  unfold plainElem at h
  rw [he] at h
  cases v <;> simp at h
  exact ⟨_, rfl, h.symm⟩

set_option maxRecDepth 100000 in
set_option maxHeartbeats 1000000 in
theorem nameFault1_any (s : ByteArray) (Bm Bv : Nat) (l : List (List UInt8)) (w : World) (hs : s.size ≤ 140737488351232) (hv : w.cell? ⟨Bv, 0, none⟩ = some (.map (some Bm))) (hS : SeenAt w Bm l) (hl : l.length ≤ 1000) :
    Calls Tryz.prog 56 #[.string s, .pointer (some ⟨Bv, 0, none⟩)] w fun e w' => e = .returned (.int .i64 (nameErr l s.data.toList)) ∧ SeenAt w' Bm (afterName l s.data.toList) ∧ w.grownBy w' (some Bm) := by
  have HS := Lib.hid hS
  clear hS
  go_enter Tryz.func56, Tryz.ntmps56
  go_wp2_with fail
  refine (name_any s w hs).mono ?_
  rintro e w1 ⟨rfl, hb⟩
  have hv1 := (hb.cell (p := ⟨Bv, 0, none⟩) (World.block_lt_of_cell? w ⟨Bv, 0, none⟩ hv)).trans hv
  have hg1 := below_grownBy hb
  have HS1 := Lib.hid (HS.out.kept hg1 (by simp))
  have HG1 := Lib.hid hg1
  clear hb hv hg1
  cases hn : nameB s.data.toList
  · have he : nameErr l s.data.toList = 6 := by unfold nameErr; rw [if_pos hn]
    have HE := Lib.hid he
    clear he
    go_wp2
    go_ret
    refine ⟨by rw [HE.out]; rfl, by unfold afterName; rw [HE.out, if_neg (by decide)]; exact HS1.out, ⟨HG1.out.os, HG1.out.tape, HG1.out.output, HG1.out.size, fun k hk _ => HG1.out.block k hk (by simp)⟩⟩
  · obtain ⟨D, o1, o2, o3⟩ := HS1.out
    have hkey : keyOf Tryz.prog 9 (.string s) = some (.string s.data.toList) := keyOf_string_mk Tryz.underlying9 (by unfold maxLen; omega)
    obtain ⟨v, ps, hrun, hvv⟩ := o1.lookup keyB Tryz.underlying100 (Tryz.zeroValue4 w1) (plainElem_bool Tryz.underlying4 false) hkey
    obtain ⟨b, rfl, hb⟩ := plainElem_bool_inv Tryz.underlying4 hvv
    have hb' : b = decide (s.data.toList ∈ l) := by
      have := o3 s.data.toList
      simp only [Prod.mk.injEq] at hb
      rw [hb.1] at this
      simpa using this
    have O1 := Lib.hid o1
    have O3 := Lib.hid o3
    clear hb hvv o3
    cases b
    · have he : nameErr l s.data.toList = 0 := by
        unfold nameErr
        rw [if_neg (by rw [hn]; decide), if_neg (by simpa using hb'.symm)]
      have HE := Lib.hid he
      clear he hb'
      go_wp2_with (at_mapUpdate; refine wpList_mapUpdate_own _ rfl _ _ _ 100 rfl 9 4 keyB Tryz.underlying100 _ Bm l.length D rfl O1.out (by unfold maxLen; omega) _ _ _ rfl rfl hkey _ [] (plainElem_bool Tryz.underlying4 true) ?_; intro w2 hown2 hgrow2)
      go_ret
      refine ⟨by rw [HE.out]; rfl, ?_, ?_⟩
      · unfold afterName
        rw [HE.out, if_pos rfl]
        refine ⟨D.put (.string s.data.toList) (.lit (.bool true)), by simpa using hown2, o2.put _ _, fun key => ?_⟩
        by_cases e : key = s.data.toList
        · subst e
          rw [atKey_put_same o2 (by simp [WideAt.IsKeyLit])]
          simp
        · rw [atKey_put_other (by simpa using e), O3.out key]
          simp [e]
      · exact ⟨hgrow2.os.trans HG1.out.os, hgrow2.tape.trans HG1.out.tape, hgrow2.output.trans HG1.out.output, Nat.le_trans HG1.out.size hgrow2.size, fun k hk hne => (hgrow2.block k (Nat.lt_of_lt_of_le hk HG1.out.size) hne).trans (HG1.out.block k hk (by simp))⟩
    · have he : nameErr l s.data.toList = 5 := by
        unfold nameErr
        rw [if_neg (by rw [hn]; decide), if_pos (by simpa using hb'.symm)]
      have HE := Lib.hid he
      clear he hb'
      go_wp2
      go_ret
      refine ⟨by rw [HE.out]; rfl, by unfold afterName; rw [HE.out, if_neg (by decide)]; exact HS1.out, ⟨HG1.out.os, HG1.out.tape, HG1.out.output, HG1.out.size, fun k hk _ => HG1.out.block k hk (by simp)⟩⟩
end Go.Proofs.YtpjfljpkpifhbaaGreatDoor
