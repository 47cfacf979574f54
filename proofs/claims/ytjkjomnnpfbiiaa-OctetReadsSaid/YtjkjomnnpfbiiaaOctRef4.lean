/- hedgerowref01.Text and Ints: the bytes of a text, and of numbers one behind the other. -/
import Derived.Test.YtjkjomnnpfbiiaaOctRef3
import Derived.Test.YtjkjomnnpfbiiaaOpen
namespace Go.Proofs.Ytjkjomnnpfbiiaa
open Go.RowKit

/-- '+' of two strings whose bytes are known -/
theorem sum_two (a b : List UInt8) (h : a.length + b.length ≤ 9223372036854775807) : ∀ W : World, (Op.stringOp .add ⟨a.toArray⟩ ⟨b.toArray⟩).run Try.prog W = .ok (.string ⟨(a ++ b).toArray⟩) W := by
  intro W
  rw [run_string_add_sum _ _ _ (by simpa [ByteArray.size] using h), ByteArray.mk_append_mk]

set_option maxHeartbeats 400000 in
theorem rtext_any (s : List UInt8) (w : World) (hs : s.length ≤ 1000000000000) :
    Calls Try.prog 11 #[.string ⟨s.toArray⟩] w fun e w' => e = .returned (.string ⟨(Oct.encT s).toArray⟩) ∧ Below w.heap.size w w' := by
  have hsum := sum_two (Oct.enc s.length) s (by have := Oct.enc_length_le s.length; omega)
  have c := rint_any s.length w (by omega) (by omega)
  have C := Lib.hid c
  clear c
  go_enter Try.func11, Try.ntmps11
  go_wp2_with (go_at_call 26; refine C.out.mono ?_; rintro e w1 ⟨rfl, hb1⟩)
  go_ret
  exact ⟨rfl, hb1⟩

set_option maxHeartbeats 400000 in
theorem rints_any (A : Option Addr) (cap : Nat) (l : List Int) (w : World) (hl : l.length ≤ 140737488355328) (hi : I64 l) (hr : Reads w w.heap.size A (ints l)) :
    Calls Try.prog 13 #[.slice A l.length cap] w fun e w' => e = .returned (.string ⟨(Oct.encs l).toArray⟩) ∧ Below w.heap.size w w' := by
  obtain ⟨B, hB⟩ : ∃ B, B = w.heap.size := ⟨_, rfl⟩
  rw [← hB] at hr ⊢
  have HB := Lib.hid hB
  clear hB
  go_enter Try.func13, Try.ntmps13
  go_wp2
  go_loopw [3, 4] (fun s i wr => ∃ (k : Nat) (acc : List UInt8), k ≤ l.length ∧ i = .int .i64 k ∧ s = .string ⟨acc.toArray⟩ ∧ acc = Oct.encs (l.take k) ∧ Below B w wr) (fun _ i _ => l.length - (intOf i).toNat)
  case atStart => exact ⟨0, [], Nat.zero_le _, rfl, rfl, rfl, Below.refl _ _⟩
  case round =>
    obtain ⟨k, acc, hk, rfl, rfl, hacc, hbw⟩ := hrel
    by_cases hlt : k < l.length
    · obtain ⟨x, hx⟩ : ∃ x, x = l[k] := ⟨_, rfl⟩
      obtain ⟨b, off, rfl, hbB, hc⟩ := hr.at_ (k := k) (by simpa [ints] using hlt)
      have hcw : wr.cell? ⟨b, off + k, none⟩ = some (.int .i64 x) := (hbw.cell (p := ⟨b, off + k, none⟩) hbB).trans (by rw [hc, hx]; simp [ints])
      have hxr := hi x (by rw [hx]; exact List.getElem_mem _)
      have hal : acc.length ≤ 9 * k := by have := Oct.encs_length_le (l.take k); rw [hacc]; simpa [Nat.min_eq_left hk] using this
      have hsum := sum_two acc (Oct.enc x) (by have := Oct.enc_length_le x; omega)
      have HN := Lib.hid (show acc ++ Oct.enc x = Oct.encs (l.take (k + 1)) by rw [hacc, hx, List.take_succ_eq_append_getElem hlt, Oct.encs_snoc])
      clear hacc hx hc
      go_wp2_with (go_at_call 26; refine (rint_any x _ hxr.1 hxr.2).mono ?_; rintro e w1 ⟨rfl, hb1⟩)
      go_roundw
      case rel => exact ⟨k + 1, _, by omega, by go_num, rfl, HN.out, hbw.trans (hb1.mono (by have := hbw.size; have := HB.out; omega))⟩
      case measure => simp [intOf]; omega
    · have hke : k = l.length := by omega
      have HN := Lib.hid (show acc = Oct.encs l by rw [hacc, hke, List.take_length])
      clear hke hacc
      go_wp2
      go_ret
      exact ⟨ret_str (by rw [HN.out]), hbw⟩

end Go.Proofs.Ytjkjomnnpfbiiaa
