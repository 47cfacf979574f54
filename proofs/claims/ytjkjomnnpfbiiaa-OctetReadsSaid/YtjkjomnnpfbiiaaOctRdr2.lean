/- octet.Reader: Count, Text, Left, Done; Of. -/
import Derived.Test.YtjkjomnnpfbiiaaOctRdr
namespace Go.Proofs.Ytjkjomnnpfbiiaa
open Go.RowKit

def oCount (s : List UInt8) (bad : Bool) (most : Int) : Rd := if (oInt s bad).n < 0 ∨ most < (oInt s bad).n then ⟨0, [], true⟩ else oInt s bad
theorem oCount_bad {s : List UInt8} {bad : Bool} {most : Int} (h : (oInt s bad).n < 0 ∨ most < (oInt s bad).n) : oCount s bad most = ⟨0, [], true⟩ := if_pos h
theorem oCount_ok {s : List UInt8} {bad : Bool} {most : Int} (h : ¬ ((oInt s bad).n < 0 ∨ most < (oInt s bad).n)) : oCount s bad most = oInt s bad := if_neg h
structure Rt where
  t : List UInt8
  s : List UInt8
  bad : Bool
def oText (s : List UInt8) (bad : Bool) : Rt :=
  if (oCount s bad 65536).n > (oCount s bad 65536).s.length then ⟨[], [], true⟩ else
    ⟨(oCount s bad 65536).s.take (oCount s bad 65536).n.toNat, (oCount s bad 65536).s.drop (oCount s bad 65536).n.toNat, (oCount s bad 65536).bad⟩
theorem only_trans {a b c : World} {row : Option Nat} (h : a.grownBy b row) (k : b.grownBy c row) : a.grownBy c row :=
  ⟨k.os.trans h.os, k.tape.trans h.tape, k.output.trans h.output, Nat.le_trans h.size k.size, fun i hi hn => (k.block i (Nat.lt_of_lt_of_le hi h.size) hn).trans (h.block i hi hn)⟩

set_option maxHeartbeats 400000 in
theorem count_any (b : Nat) (s : List UInt8) (bad : Bool) (most : Int) (w : World) (hl : s.length ≤ 9223372036854775800) (h : Rdr 66 b s bad w) :
    Calls Try.prog 20 #[.pointer (some ⟨b, 0, none⟩), .int .i64 most] w fun e w' => e = .returned (.int .i64 (oCount s bad most).n) ∧ Rdr 66 b (oCount s bad most).s (oCount s bad most).bad w' ∧ w.grownBy w' (some b) := by
  have c := rdInt_any b s bad w hl h
  obtain ⟨r, hr⟩ : ∃ r, r = oInt s bad := ⟨_, rfl⟩
  rw [← hr] at c
  by_cases hb : r.n < 0 ∨ most < r.n
  · rw [oCount_bad (by rw [← hr]; exact hb)]
    have C := Lib.hid c
    clear h c hr
    by_cases hn : r.n < 0
    · clear hb
      go_enter Try.func20, Try.ntmps20
      go_wp2_with fail
      refine C.out.mono ?_
      rintro e w1 ⟨rfl, h1, hg1⟩
      have H1 := Lib.hid h1
      clear h1
      go_wp2_with fail
      refine (spoil_any b _ _ _ H1.out).mono ?_
      rintro e w2 ⟨rfl, h2, hg2⟩
      have H2 := Lib.hid h2
      clear h2
      go_wp2
      go_ret
      exact ⟨rfl, H2.out, only_trans hg1 hg2⟩
    · have hm : most < r.n := by omega
      clear hb
      go_enter Try.func20, Try.ntmps20
      go_wp2_with fail
      refine C.out.mono ?_
      rintro e w1 ⟨rfl, h1, hg1⟩
      have H1 := Lib.hid h1
      clear h1
      go_wp2_with fail
      refine (spoil_any b _ _ _ H1.out).mono ?_
      rintro e w2 ⟨rfl, h2, hg2⟩
      have H2 := Lib.hid h2
      clear h2
      go_wp2
      go_ret
      exact ⟨rfl, H2.out, only_trans hg1 hg2⟩
  · rw [oCount_ok (by rw [← hr]; exact hb), ← hr]
    have h1 : ¬ r.n < 0 := by omega
    have h2 : ¬ most < r.n := by omega
    have C := Lib.hid c
    clear h c hr hb
    go_enter Try.func20, Try.ntmps20
    go_wp2_with fail
    refine C.out.mono ?_
    rintro e w1 ⟨rfl, h1, hg1⟩
    have H1 := Lib.hid h1
    clear h1
    go_wp2
    go_ret
    exact ⟨rfl, H1.out, hg1⟩

set_option maxHeartbeats 400000 in
theorem spoil_nil (w : World) : Calls Try.prog 32 #[.pointer none] w fun e w' => e = .returned (.tuple #[]) ∧ w = w' := by
  go_enter Try.func32, Try.ntmps32
  go_wp2
  go_end0
  exact ⟨rfl, rfl⟩

set_option maxHeartbeats 400000 in
theorem count_nil (most : Int) (w : World) : Calls Try.prog 20 #[.pointer none, .int .i64 most] w fun e w' => e = .returned (.int .i64 0) ∧ w = w' := by
  by_cases hm : most < 0
  · go_enter Try.func20, Try.ntmps20
    go_wp2_with (first | (go_at_call 16; refine (rdInt_nil _).mono ?_; rintro e w' ⟨rfl, rfl⟩) | (go_at_call 32; refine (spoil_nil _).mono ?_; rintro e w' ⟨rfl, rfl⟩))
    go_ret
    exact ⟨rfl, rfl⟩
  · go_enter Try.func20, Try.ntmps20
    go_wp2_with (first | (go_at_call 16; refine (rdInt_nil _).mono ?_; rintro e w' ⟨rfl, rfl⟩) | (go_at_call 32; refine (spoil_nil _).mono ?_; rintro e w' ⟨rfl, rfl⟩))
    go_ret
    exact ⟨rfl, rfl⟩

set_option maxHeartbeats 400000 in
theorem clone_any (s : ByteArray) (w : World) (hlim : s.size ≤ 281474976710656) :
    Calls Try.prog 30 #[.string s] w fun e w' => e = .returned (.string s) ∧ Below w.heap.size w w' := by
  go_enter Try.func30, Try.ntmps30
  go_wp2_with (go_at_call 39; refine (Try.stringslite_Clone s _ hlim).mono ?_; rintro e w1 ⟨rfl, hb1⟩)
  go_ret
  exact ⟨rfl, hb1⟩

set_option maxHeartbeats 400000 in
theorem of_any (s : List UInt8) (w : World) (hlim : s.length ≤ 281474976710656) :
    Calls Try.prog 15 #[.string ⟨s.toArray⟩] w fun e w' => ∃ b, e = .returned (.pointer (some ⟨b, 0, none⟩)) ∧ Rdr 66 b s false w' ∧ w.heap.size ≤ b ∧ Below w.heap.size w w' := by
  go_enter Try.func15, Try.ntmps15
  go_wp2_with (go_at_call 30; refine (clone_any _ _ (by simpa [ByteArray.size] using hlim)).mono ?_; rintro e w1 ⟨rfl, hb1⟩)
  go_ret
  exact ⟨_, rfl, heap_alloc_new w1 _, hb1.size, hb1.alloc hb1.size _⟩

set_option maxHeartbeats 400000 in
theorem left_any (b : Nat) (s : List UInt8) (bad : Bool) (w : World) (h : Rdr 66 b s bad w) :
    Calls Try.prog 22 #[.pointer (some ⟨b, 0, none⟩)] w fun e w' => e = .returned (.int .i64 s.length) ∧ w = w' := by
  have c0 := h.c0
  clear h
  go_enter Try.func22, Try.ntmps22
  go_wp2
  go_ret
  exact ⟨rfl, rfl⟩
set_option maxHeartbeats 400000 in
theorem left_nil (w : World) : Calls Try.prog 22 #[.pointer none] w fun e w' => e = .returned (.int .i64 0) ∧ w = w' := by
  go_enter Try.func22, Try.ntmps22
  go_wp2
  go_ret
  exact ⟨rfl, rfl⟩

def oDone (s : List UInt8) (bad : Bool) : Int := if bad = false ∧ s = [] then 0 else 2
set_option maxHeartbeats 400000 in
theorem done_any (b : Nat) (s : List UInt8) (bad : Bool) (w : World) (h : Rdr 66 b s bad w) :
    Calls Try.prog 23 #[.pointer (some ⟨b, 0, none⟩)] w fun e w' => e = .returned (.int .i64 (oDone s bad)) ∧ w = w' := by
  have c0 := h.c0
  have c1 := h.c1
  clear h
  cases bad
  · by_cases hs : s = []
    · subst hs
      go_enter Try.func23, Try.ntmps23
      go_wp2
      go_ret
      exact ⟨rfl, rfl⟩
    · have HE := Lib.hid (show oDone s false = 2 by simp [oDone, hs])
      obtain ⟨c, t, rfl⟩ := List.exists_cons_of_ne_nil hs
      clear hs
      go_enter Try.func23, Try.ntmps23
      go_wp2
      go_ret
      exact ⟨by rw [HE.out]; rfl, rfl⟩
  · go_enter Try.func23, Try.ntmps23
    go_wp2
    go_ret
    exact ⟨rfl, rfl⟩
set_option maxHeartbeats 400000 in
theorem done_nil (w : World) : Calls Try.prog 23 #[.pointer none] w fun e w' => e = .returned (.int .i64 2) ∧ w = w' := by
  go_enter Try.func23, Try.ntmps23
  go_wp2
  go_ret
  exact ⟨rfl, rfl⟩

end Go.Proofs.Ytjkjomnnpfbiiaa
