/- octet.Reader: what each method does to the reader's own block, and what it answers. -/
import Derived.Test.YtjkjomnnpfbiiaaOctNum2
namespace Go.Proofs.Ytjkjomnnpfbiiaa
open Go.RowKit

/-- block b is a reader: what it has left, and whether it is bad -/
def Rdr (T : TypeId) (b : Nat) (s : List UInt8) (bad : Bool) (w : World) : Prop := w.heap[b]? = some (.cells #[.string ⟨s.toArray⟩, .bool bad] T (0, 0))
section
variable {T : TypeId} {b : Nat} {s : List UInt8} {bad : Bool} {w w' : World}
theorem Rdr.lt (h : Rdr T b s bad w) : b < w.heap.size := lt_of_row h
theorem Rdr.c0 (h : Rdr T b s bad w) : w.cell? ⟨b, 0, none⟩ = some (.string ⟨s.toArray⟩) := by rw [Lib.cell_of_heap h]; rfl
theorem Rdr.c1 (h : Rdr T b s bad w) : w.cell? ⟨b, 1, none⟩ = some (.bool bad) := by rw [Lib.cell_of_heap h]; rfl
theorem Rdr.f (h : Rdr T b s bad w) (j : Nat) : w.frozen? ⟨b, j, none⟩ = false := Lib.frozen_of_heap h j
theorem Rdr.set0 (h : Rdr T b s bad w) (s' : List UInt8) : Rdr T b s' bad (w.setCell ⟨b, 0, none⟩ (.string ⟨s'.toArray⟩)) := by
  unfold Rdr at *
  simp [World.setCell, Array.getElem?_modify, h]
theorem Rdr.set1 (h : Rdr T b s bad w) (bad' : Bool) : Rdr T b s bad' (w.setCell ⟨b, 1, none⟩ (.bool bad')) := by
  unfold Rdr at *
  simp [World.setCell, Array.getElem?_modify, h]
theorem Rdr.below {B : Nat} (h : Rdr T b s bad w) (hb : Below B w w') (hB : b < B) : Rdr T b s bad w' := (hb.block b hB).trans h
theorem Rdr.only {row : Option Nat} (h : Rdr T b s bad w) (hb : w.grownBy w' row) (hB : some b ≠ row) : Rdr T b s bad w' := (hb.block b h.lt hB).trans h
theorem Rdr.drew (h : Rdr T b s bad w) : Rdr T b s bad w.drew := h
end

theorem only_set {a w : World} {g : Nat} (h : a.grownBy w (some g)) {p : Addr} (hp : p.block = g ∨ a.heap.size ≤ p.block) (u : Value) : a.grownBy (w.setCell p u) (some g) :=
  ⟨h.os, h.tape, h.output, by simpa [World.setCell] using h.size, fun i hi hne => (Below.heap_setCell w p u i (by
    rintro rfl
    rcases hp with hp | hp
    · exact hne (by rw [hp])
    · omega)).trans (h.block i hi hne)⟩
theorem only_below {a w w' : World} {row : Option Nat} (h : a.grownBy w row) (hb : Below w.heap.size w w') : a.grownBy w' row :=
  ⟨hb.os.trans h.os, hb.tape.trans h.tape, hb.output.trans h.output, Nat.le_trans h.size hb.size, fun i hi hn => (hb.block i (Nat.lt_of_lt_of_le hi h.size)).trans (h.block i hi hn)⟩

set_option maxHeartbeats 400000 in
theorem spoil_any (b : Nat) (s : List UInt8) (bad : Bool) (w : World) (h : Rdr 66 b s bad w) :
    Calls Try.prog 32 #[.pointer (some ⟨b, 0, none⟩)] w fun e w' => e = .returned (.tuple #[]) ∧ Rdr 66 b [] true w' ∧ w.grownBy w' (some b) := by
  have c0 := h.c0
  have c1 := h.c1
  have f0 := h.f 0
  have f1 := h.f 1
  have H := Lib.hid h
  clear h
  go_enter Try.func32, Try.ntmps32
  go_wp2
  go_end0
  refine ⟨rfl, ?_, ?_⟩
  · have h1 := Rdr.set0 H.out []
    exact h1.set1 true
  · exact only_set (p := ⟨b, 1, none⟩) (only_set (p := ⟨b, 0, none⟩) (World.grownBy.refl w _) (.inl rfl) _) (.inl rfl) _

theorem rdS_le (s : List UInt8) : rdS s ≤ s.length := by
  match s with
  | [] => exact Nat.le_refl _
  | c :: t =>
    by_cases h : low c > 8 ∨ low c > t.length
    · have e : rd (c :: t) = none := by simp only [rd]; rw [if_pos h]
      simp [rdS, e]
    · by_cases hf : fewB (t.take (low c)) = false
      · have e : rd (c :: t) = none := by simp only [rd]; rw [if_neg h, if_pos hf]
        simp [rdS, e]
      · have e : ∃ n, rd (c :: t) = some (n, 1 + low c) := by simp only [rd]; rw [if_neg h, if_neg hf]; exact ⟨_, rfl⟩
        obtain ⟨n, e⟩ := e
        simp [rdS, e]; omega
/-- what Int answers, and what it leaves -/
structure Rd where
  n : Int
  s : List UInt8
  bad : Bool
def oInt (s : List UInt8) (bad : Bool) : Rd := if rdS s = 0 then ⟨0, [], true⟩ else ⟨rdN s, s.drop (rdS s), bad⟩

theorem oInt_bad (s : List UInt8) (bad : Bool) (h : rdS s = 0) : oInt s bad = ⟨0, [], true⟩ := by unfold oInt; rw [if_pos h]
theorem oInt_ok (s : List UInt8) (bad : Bool) (h : ¬ rdS s = 0) : oInt s bad = ⟨rdN s, s.drop (rdS s), bad⟩ := by unfold oInt; rw [if_neg h]

set_option maxHeartbeats 400000 in
theorem rdInt_any (b : Nat) (s : List UInt8) (bad : Bool) (w : World) (hl : s.length ≤ 9223372036854775800) (h : Rdr 66 b s bad w) :
    Calls Try.prog 16 #[.pointer (some ⟨b, 0, none⟩)] w fun e w' => e = .returned (.int .i64 (oInt s bad).n) ∧ Rdr 66 b (oInt s bad).s (oInt s bad).bad w' ∧ w.grownBy w' (some b) := by
  have c0 := h.c0
  have f0 := h.f 0
  have cn := num_any s w hl
  have hle := rdS_le s
  obtain ⟨k, hk⟩ : ∃ k, k = rdS s := ⟨_, rfl⟩
  obtain ⟨n, hn⟩ : ∃ n, n = rdN s := ⟨_, rfl⟩
  rw [← hk, ← hn] at cn
  rw [← hk] at hle
  have H := Lib.hid h
  have CN := Lib.hid cn
  by_cases hz : k = 0
  · rw [oInt_bad s bad (by omega)]
    subst hz
    clear h cn hk hn
    go_enter Try.func16, Try.ntmps16
    go_wp2_with (first | (go_at_call 31; refine CN.out.mono ?_; rintro e w' ⟨rfl, rfl⟩) | (go_at_call 32; refine (spoil_any b s bad _ H.out).mono ?_; rintro e w1 ⟨rfl, h1, hg1⟩))
    go_ret
    exact ⟨rfl, h1, hg1⟩
  · rw [oInt_ok s bad (by omega), ← hk, ← hn]
    have hx : (ByteArray.mk s.toArray).extract k s.length = ⟨(s.drop k).toArray⟩ := by
      rw [cutb, List.take_of_length_le (by simp)]
    have hb : ((k : Int) == 0) = false := by simp; omega
    clear h cn hk hn hz
    go_enter Try.func16, Try.ntmps16
    go_wp2_with (go_at_call 31; refine CN.out.mono ?_; rintro e w' ⟨rfl, rfl⟩)
    go_ret
    refine ⟨rfl, ?_, ?_⟩
    · exact Rdr.set0 H.out (s.drop k)
    · exact only_set (p := ⟨b, 0, none⟩) (World.grownBy.refl w _) (.inl rfl) _

set_option maxHeartbeats 400000 in
theorem rdInt_nil (w : World) : Calls Try.prog 16 #[.pointer none] w fun e w' => e = .returned (.int .i64 0) ∧ w = w' := by
  go_enter Try.func16, Try.ntmps16
  go_wp2
  go_ret
  exact ⟨rfl, rfl⟩

end Go.Proofs.Ytjkjomnnpfbiiaa
