/- octet.Reader.Text; the document's own reader (hedgerowref01.Reader). -/
import Derived.Test.YtjkjomnnpfbiiaaOctRdr2
namespace Go.Proofs.Ytjkjomnnpfbiiaa
open Go.RowKit

theorem oInt_len (s : List UInt8) (bad : Bool) : (oInt s bad).s.length ≤ s.length := by
  unfold oInt
  split
  · exact Nat.zero_le _
  · simp
theorem oCount_len (s : List UInt8) (bad : Bool) (most : Int) : (oCount s bad most).s.length ≤ s.length := by
  unfold oCount
  split
  · exact Nat.zero_le _
  · exact oInt_len s bad
theorem oCount_range (s : List UInt8) (bad : Bool) (most : Int) (h : 0 ≤ most) : 0 ≤ (oCount s bad most).n ∧ (oCount s bad most).n ≤ most := by
  unfold oCount
  split
  · exact ⟨Int.le_refl _, h⟩
  · omega

set_option maxHeartbeats 400000 in
theorem rtxt_any (b : Nat) (s : List UInt8) (bad : Bool) (w : World) (hl : s.length ≤ 281474976710656) (h : Rdr 66 b s bad w) :
    Calls Try.prog 18 #[.pointer (some ⟨b, 0, none⟩)] w fun e w' => e = .returned (.string ⟨(oText s bad).t.toArray⟩) ∧ Rdr 66 b (oText s bad).s (oText s bad).bad w' ∧ w.grownBy w' (some b) := by
  have c := count_any b s bad 65536 w (by omega) h
  have hrl := oCount_len s bad 65536
  have hrr := oCount_range s bad 65536 (by omega)
  have ht : oText s bad = if (oCount s bad 65536).n > (oCount s bad 65536).s.length then ⟨[], [], true⟩ else
    ⟨(oCount s bad 65536).s.take (oCount s bad 65536).n.toNat, (oCount s bad 65536).s.drop (oCount s bad 65536).n.toNat, (oCount s bad 65536).bad⟩ := rfl
  obtain ⟨r, hr⟩ : ∃ r, r = oCount s bad 65536 := ⟨_, rfl⟩
  rw [← hr] at c hrl hrr ht
  obtain ⟨n, l, bd⟩ := r
  simp only at c hrl hrr ht
  rw [ht]
  have C := Lib.hid c
  clear c hr ht h
  obtain ⟨n, rfl⟩ := Int.eq_ofNat_of_zero_le hrr.1
  by_cases hn : (n : Int) > l.length
  · rw [if_pos hn]
    go_enter Try.func18, Try.ntmps18
    go_wp2_with fail
    refine C.out.mono ?_
    rintro e w1 ⟨rfl, h1, hg1⟩
    have c0 := h1.c0
    have H1 := Lib.hid h1
    clear h1
    go_wp2_with fail
    refine (spoil_any b _ _ _ H1.out).mono ?_
    rintro e w2 ⟨rfl, h2, hg2⟩
    have H2 := Lib.hid h2
    clear h2 c0
    go_wp2
    go_ret
    exact ⟨rfl, H2.out, only_trans hg1 hg2⟩
  · rw [if_neg hn]
    simp only [Int.toNat_natCast]
    have hx0 : (ByteArray.mk l.toArray).extract 0 n = ⟨(l.take n).toArray⟩ := by rw [cutb]; simp
    have hx1 : (ByteArray.mk l.toArray).extract n l.length = ⟨(l.drop n).toArray⟩ := by rw [cutb, List.take_of_length_le (by simp)]
    go_enter Try.func18, Try.ntmps18
    go_wp2_with fail
    refine C.out.mono ?_
    rintro e w1 ⟨rfl, h1, hg1⟩
    have c0 := h1.c0
    have H1 := Lib.hid h1
    clear h1
    go_wp2_with fail
    refine (clone_any _ _ (by simp [ByteArray.size]; omega)).mono ?_
    rintro e w2 ⟨rfl, hb2⟩
    have h2 := Rdr.below H1.out hb2 (Rdr.lt H1.out)
    have c02 := h2.c0
    have f02 := h2.f 0
    have H2 := Lib.hid h2
    clear h2 c0
    go_wp2
    go_ret
    refine ⟨rfl, ?_, ?_⟩
    · exact Rdr.set0 H2.out (l.drop n)
    · exact only_set (p := ⟨b, 0, none⟩) (only_below hg1 hb2) (.inl rfl) _

set_option maxHeartbeats 400000 in
theorem rtxt_nil (w : World) : Calls Try.prog 18 #[.pointer none] w fun e w' => e = .returned (.string ⟨#[]⟩) ∧ w = w' := by
  go_enter Try.func18, Try.ntmps18
  go_wp2
  go_ret
  exact ⟨rfl, rfl⟩

end Go.Proofs.Ytjkjomnnpfbiiaa
