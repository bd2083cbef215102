/- The two errors of numbers out of what the rows list. -/
import Derived.Test.YtacmaddjpaebfaaGreatDoorCbase
import Derived.Test.YtacmaddjpaebfaaGreatDoorRndal
set_option linter.unusedSimpArgs false
set_option linter.unusedVariables false
namespace Go.Proofs.YtacmaddjpaebfaaGreatDoor
open Go.ChangeShapes Go.WideShapes Go.ChangeAt Go.RowKit

theorem gER : Tryz.prog.globalNamed "strconv.ErrRange" = some 5 := by kernel_rfl
theorem gERType : (Tryz.prog.globals[5]?).map (·.type) = some 167 := by kernel_rfl
theorem gES : Tryz.prog.globalNamed "strconv.ErrSyntax" = some 4 := by kernel_rfl
theorem gESType : (Tryz.prog.globals[4]?).map (·.type) = some 167 := by kernel_rfl
theorem cellsErr : Tryz.prog.cellsOf 220 = 1 := by kernel_rfl
theorem cellsString : Tryz.prog.cellsOf 9 = 1 := by kernel_rfl
theorem starErr : "*" ++ "errors.errorString" = "*errors.errorString" := by decide
theorem rowErr (u : TypeId) (h : Tryz.prog.typeName? 3 u = some "*errors.errorString") : u = 218 :=
  typeName_ptr_named (nm := "errors.errorString") (by rw [starErr]; kernel_rfl) (by kernel_rfl) (by decide) u (by rw [starErr]; exact h)

/-- What the row's list gives. -/
theorem errs_of {W : World} (h : laidMetH Tryz.prog Rows.sheetChecksRow.laid W) : Errs W := by
  have h' : laidMet Tryz.prog Rows.sheetChecksRow.laid W := h
  have hr := laidMet.tail (laidMet.tail (laidMet.tail (laidMet.tail h')))
  have hs := laidMet.tail hr
  obtain ⟨a0, s0, hv0, -, -, -⟩ := laid_sentinel hr gER gERType Tryz.underlying167 rowErr Tryz.underlying218 Tryz.underlying220 rfl rfl Tryz.underlying9 cellsErr cellsString
  obtain ⟨a1, s1, hv1, -, -, -⟩ := laid_sentinel hs gES gESType Tryz.underlying167 rowErr Tryz.underlying218 Tryz.underlying220 rfl rfl Tryz.underlying9 cellsErr cellsString
  exact ⟨⟨_, by have h0 := World.var?_cell gER hv0 0; simpa using h0, Or.inr ⟨_, _, rfl⟩⟩, _, by have h0 := World.var?_cell gES hv1 0; simpa using h0, Or.inr ⟨_, _, rfl⟩⟩
end Go.Proofs.YtacmaddjpaebfaaGreatDoor
