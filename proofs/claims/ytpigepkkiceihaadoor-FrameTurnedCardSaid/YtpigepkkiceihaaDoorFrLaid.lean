/- What the rows list of the program's variables gives the walks; the witness's world. -/
import Derived.Test.YtpigepkkiceihaaDoorFrCode
import Derived.Lay
import Derived.LaidLaws
import Derived.MakeChecks
namespace Go.Proofs.YtpigepkkiceihaaDoor
open Go.ChangeShapes Go.WideShapes Go.ChangeAt Go.RowKit

abbrev listed : List (String × DataW Unit) := [("hedgerow/frame.turns", Rows.laid_hedgerow_frame_turns)]
theorem tab_data : (Rows.laid_hedgerow_frame_turns : DataW Unit) = Lib.tabData .u32 tab := by kernel_rfl
theorem good_of_laid {W : World} (h : laidMet Tryd.prog listed W) : Good W := by
  refine Lib.hid ?_
  unfold listed at h
  rw [tab_data] at h
  exact Lib.tabIs_of_head gTab (by kernel_rfl) Tryd.underlying52 Tryd.underlying25 (by kernel_rfl) (by kernel_rfl) h
theorem listed_plain (W : World) : laidMetH Tryd.prog listed W = laidMet Tryd.prog listed W := MakeChecks.laidMetH_plain _ _ _ (by kernel_rfl)
theorem wit_met (os : Os) (args : Array Value) : laidMetH Tryd.prog listed ((World.laidAll Tryd.prog os listed).forCall (fun _ _ => 0) ⟨#[], args, []⟩).memory := by
  rw [listed_plain]
  exact laidMet_laidAll _ (by kernel_rfl) (by kernel_rfl)
end Go.Proofs.YtpigepkkiceihaaDoor
