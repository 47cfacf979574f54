/- What the rows list of the program's variables gives the walks; the witness's world. -/
import Derived.Test.YtoogfjndkecdfaaDoorFxShow
import Derived.Stop.LaidErr
import Derived.Lay
import Derived.LaidLaws
import Derived.MakeChecks
namespace Go.Proofs.YtoogfjndkecdfaaDoor
open Go.ChangeShapes Go.WideShapes Go.ChangeAt Go.RowKit

abbrev listed : List (String × DataW Unit) := [("math/bits.deBruijn32tab", Rows.laid_math_bits_deBruijn32tab), ("math/bits.deBruijn64tab", Rows.laid_math_bits_deBruijn64tab), ("internal/strconv.uint64pow10", Rows.laid_internal_strconv_uint64pow10), ("unicode/utf8.acceptRanges", Rows.laid_unicode_utf8_acceptRanges), ("strconv.ErrRange", Rows.laid_strconv_ErrRange), ("strconv.ErrSyntax", Rows.laid_strconv_ErrSyntax), ("unicode/utf8.first", Rows.laid_unicode_utf8_first)]

theorem laid_star : "*" ++ "errors.errorString" = "*errors.errorString" := by decide
theorem laid_row (u : TypeId) (h : Tryd.prog.typeName? 3 u = some "*errors.errorString") : u = 106 :=
  typeName_ptr_named (nm := "errors.errorString") (by rw [laid_star]; kernel_rfl) (by kernel_rfl) (by decide) u (by rw [laid_star]; exact h)
theorem laid_cells_es : Tryd.prog.cellsOf 108 = 1 := by kernel_rfl
theorem laid_cells_s : Tryd.prog.cellsOf 9 = 1 := by kernel_rfl
theorem gSyn : Tryd.prog.globalNamed "strconv.ErrSyntax" = some 2 := by kernel_rfl
theorem gRan : Tryd.prog.globalNamed "strconv.ErrRange" = some 3 := by kernel_rfl
theorem gSynT : (Tryd.prog.globals[2]?).map (·.type) = some 46 := by kernel_rfl
theorem gRanT : (Tryd.prog.globals[3]?).map (·.type) = some 46 := by kernel_rfl
theorem pow_data : (Rows.laid_internal_strconv_uint64pow10 : DataW Unit) = Lib.tabData .u64 Lib.pow10Tab := by kernel_rfl

theorem good_of_laid {W : World} (h : laidMet Tryd.prog listed W) : Good W := by
  have h2 := h.tail.tail
  have h5 := h2.tail.tail
  have h6 := h5.tail
  refine Lib.hid ⟨?_, ?_, ?_⟩
  · rw [pow_data] at h2
    exact Lib.tabIs_of_head gPow (by kernel_rfl) Tryd.underlying88 Tryd.underlying70 (by kernel_rfl) (by kernel_rfl) h2
  · obtain ⟨a, s, hv, _, _, _⟩ := laid_sentinel h6 gSyn gSynT Tryd.underlying46 laid_row Tryd.underlying106 Tryd.underlying108 rfl rfl Tryd.underlying9 laid_cells_es laid_cells_s
    exact ⟨_, by simpa using World.var?_cell gSyn hv 0, .inr ⟨_, _, rfl⟩⟩
  · obtain ⟨a, s, hv, _, _, _⟩ := laid_sentinel h5 gRan gRanT Tryd.underlying46 laid_row Tryd.underlying106 Tryd.underlying108 rfl rfl Tryd.underlying9 laid_cells_es laid_cells_s
    exact ⟨_, by simpa using World.var?_cell gRan hv 0, .inr ⟨_, _, rfl⟩⟩

theorem listed_plain (W : World) : laidMetH Tryd.prog listed W = laidMet Tryd.prog listed W := MakeChecks.laidMetH_plain _ _ _ (by kernel_rfl)
theorem wit_met (os : Os) (args : Array Value) : laidMetH Tryd.prog listed ((World.laidAll Tryd.prog os listed).forCall (fun _ _ => 0) ⟨#[], args, []⟩).memory := by
  rw [listed_plain]
  exact laidMet_laidAll _ (by kernel_rfl) (by kernel_rfl)
end Go.Proofs.YtoogfjndkecdfaaDoor
