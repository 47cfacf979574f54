/- What the rows list of the program's variables gives the walks; the witness's world; a byte that came in. -/
import Derived.Test.YtpafialojcidnaaGreatDoorWlMem
import Derived.Stop.LaidErr
import Derived.Lay
import Derived.LaidLaws
import Derived.MakeChecks
namespace Go.Proofs.YtpafialojcidnaaGreatDoor
open Go.ChangeShapes Go.WideShapes Go.ChangeAt Go.RowKit

abbrev listed : List (String × DataW Unit) := [("math/bits.deBruijn32tab", Rows.laid_math_bits_deBruijn32tab), ("math/bits.deBruijn64tab", Rows.laid_math_bits_deBruijn64tab), ("internal/strconv.uint64pow10", Rows.laid_internal_strconv_uint64pow10), ("strconv.ErrRange", Rows.laid_strconv_ErrRange), ("strconv.ErrSyntax", Rows.laid_strconv_ErrSyntax), ("hedgerow/frame.turns", Rows.laid_hedgerow_frame_turns)]
theorem pow_data : (Rows.laid_internal_strconv_uint64pow10 : DataW Unit) = Lib.tabData .u64 Lib.pow10Tab := by kernel_rfl
theorem tab_data : (Rows.laid_hedgerow_frame_turns : DataW Unit) = Lib.tabData .u32 tab := by kernel_rfl
theorem good_of_laid {W : World} (h : laidMet Tryz.prog listed W) : Tabs W.heap.size W := by
  have h2 := h.tail.tail
  have h5 := h2.tail.tail.tail
  refine Tabs.start (Lib.hid ?_) ?_
  · rw [tab_data] at h5
    exact Lib.tabIs_of_head gTab (by kernel_rfl) Tryz.underlying145 Tryz.underlying76 (by kernel_rfl) (by kernel_rfl) h5
  · rw [pow_data] at h2
    exact Lib.tabIs_of_head gPow (by kernel_rfl) Tryz.underlying168 Tryz.underlying123 (by kernel_rfl) (by kernel_rfl) h2
theorem listed_plain (W : World) : laidMetH Tryz.prog listed W = laidMet Tryz.prog listed W := MakeChecks.laidMetH_plain _ _ _ (by kernel_rfl)
theorem wit_met (os : Os) (args : Array Value) : laidMetH Tryz.prog listed ((World.laidAll Tryz.prog os listed).forCall (fun _ _ => 0) ⟨#[], args, []⟩).memory := by
  rw [listed_plain]
  exact laidMet_laidAll _ (by kernel_rfl) (by kernel_rfl)

section
variable {H : Type} {enc : TypeId × Value → H} {P : Program} {w : World} {t e : TypeId} {v : Value} {d : DataW H} {ps : List MemPlace} {b0 : Nat}
theorem in_byte (ht : P.underlying t = some (.int .u8)) (hval : Value.okWide P w .any b0 t v) (hd : DataW.Trod enc P w 0 (fun _ => true) true t v d ps) :
    ∃ x : UInt8, v = .int .u8 (x.toNat : Int) ∧ True := by
  obtain ⟨a, rfl, _, _, wx⟩ := open_int ht hval hd
  have hb : 0 ≤ a ∧ a ≤ 255 := by simpa [Lit.wf, IntKind.min, IntKind.max, IntKind.bits, IntKind.signed] using wx
  refine ⟨UInt8.ofNat a.toNat, ?_, trivial⟩
  have : (UInt8.ofNat a.toNat).toNat = a.toNat := by rw [UInt8.toNat_ofNat']; omega
  rw [this, Int.toNat_of_nonneg hb.1]
end
end Go.Proofs.YtpafialojcidnaaGreatDoor
