/- hedgerowref01.Reader: what the document's own reader does: as octet's. -/
import Derived.Test.YtjkjomnnpfbiiaaOctCode
namespace Go.Proofs.Ytjkjomnnpfbiiaa
open Go.RowKit
set_option linter.unusedVariables false

set_option maxHeartbeats 400000 in
theorem rspoil_any (b : Nat) (s : List UInt8) (bad : Bool) (w : World) (h : Rdr 36 b s bad w) :
    Calls Try.prog 33 #[.pointer (some ⟨b, 0, none⟩)] w fun e w' => e = .returned (.tuple #[]) ∧ Rdr 36 b [] true w' ∧ w.grownBy w' (some b) := by
  have c0 := h.c0
  have c1 := h.c1
  have f0 := h.f 0
  have f1 := h.f 1
  have H := Lib.hid h
  clear h
  go_enter Try.func33, Try.ntmps33
  go_wp2
  go_end0
  refine ⟨rfl, ?_, ?_⟩
  · have h1 := Rdr.set1 H.out true
    exact h1.set0 []
  · exact only_set (p := ⟨b, 0, none⟩) (only_set (p := ⟨b, 1, none⟩) (World.grownBy.refl w _) (.inl rfl) _) (.inl rfl) _

theorem idx1 (c c1 : UInt8) (t : List UInt8) : ∀ h, (ByteArray.mk (c :: c1 :: t).toArray)[1]'h = c1 := fun _ => rfl
theorem low_mod (c : UInt8) : (c.toNat : Int) % 128 = (low c : Int) := by unfold low; omega
def RSpoil (b : Nat) (w : World) : Prop := Calls Try.prog 17 #[.pointer (some ⟨b, 0, none⟩)] w fun e w' => e = .returned (.int .i64 0) ∧ Rdr 36 b [] true w' ∧ w.grownBy w' (some b)

set_option maxHeartbeats 1000000 in
set_option maxRecDepth 100000 in
theorem rint_bad (b : Nat) (s : List UInt8) (w : World) (h : Rdr 36 b s true w) : RSpoil b w := by
  have c0 := h.c0
  have c1 := h.c1
  have H := Lib.hid h
  clear h
  unfold RSpoil
  go_enter Try.func17, Try.ntmps17
  go_wp2_with (go_at_call 33; refine (rspoil_any b _ _ _ H.out).mono ?_; rintro e w1 ⟨rfl, h1, g1⟩)
  go_ret
  exact ⟨rfl, h1, g1⟩
set_option maxHeartbeats 1000000 in
set_option maxRecDepth 100000 in
theorem rint_nil (b : Nat) (w : World) (h : Rdr 36 b [] false w) : RSpoil b w := by
  have c0 := h.c0
  have c1 := h.c1
  have H := Lib.hid h
  clear h
  unfold RSpoil
  go_enter Try.func17, Try.ntmps17
  go_wp2_with (go_at_call 33; refine (rspoil_any b _ _ _ H.out).mono ?_; rintro e w1 ⟨rfl, h1, g1⟩)
  go_ret
  exact ⟨rfl, h1, g1⟩
set_option maxHeartbeats 1000000 in
set_option maxRecDepth 100000 in
theorem rint_head (b : Nat) (c : UInt8) (t : List UInt8) (w : World) (hl : t.length ≤ 1000000000) (hk : low c > 8 ∨ low c > t.length) (h : Rdr 36 b (c :: t) false w) : RSpoil b w := by
  have c0 := h.c0
  have c1 := h.c1
  have H := Lib.hid h
  have i0 := idx0 c t
  have hm := low_mod c
  have hz : (((t.length : Int) + 1) == 0) = false := by simp; omega
  have hl8 : low c < 128 := Nat.mod_lt _ (by decide)
  have hcb : (c.toNat : Int) < 256 := by have := c.toNat_lt; omega
  clear h
  unfold RSpoil
  by_cases h8 : low c > 8
  · have h8' : decide ((8 : Int) < (low c : Int)) = true := by simp; omega
    clear hk
    go_enter Try.func17, Try.ntmps17
    go_wp2_with (go_at_call 33; refine (rspoil_any b _ _ _ H.out).mono ?_; rintro e w1 ⟨rfl, h1, g1⟩)
    go_ret
    exact ⟨rfl, h1, g1⟩
  · have h8' : decide ((8 : Int) < (low c : Int)) = false := by simp; omega
    have h9 : decide ((t.length : Int) + 1 < 1 + (low c : Int)) = true := by simp; omega
    clear hk
    go_enter Try.func17, Try.ntmps17
    go_wp2_with (go_at_call 33; refine (rspoil_any b _ _ _ H.out).mono ?_; rintro e w1 ⟨rfl, h1, g1⟩)
    go_ret
    exact ⟨rfl, h1, g1⟩


def ROk (b : Nat) (n : Int) (s : List UInt8) (w : World) : Prop := Calls Try.prog 17 #[.pointer (some ⟨b, 0, none⟩)] w fun e w' => e = .returned (.int .i64 n) ∧ Rdr 36 b s false w' ∧ w.grownBy w' (some b)

set_option maxHeartbeats 2000000 in
set_option maxRecDepth 100000 in
theorem rint_digits (b : Nat) (c c1' : UInt8) (t : List UInt8) (w : World) (hl : t.length ≤ 1000000000) (h8 : low c ≤ 8) (h1 : 1 ≤ low c) (h9 : low c ≤ t.length + 1) (hf : c1'.toNat = 0 ∨ (low c = 8 ∧ 127 < c1'.toNat)) (h : Rdr 36 b (c :: c1' :: t) false w) : RSpoil b w := by
  have c0 := h.c0
  have c1 := h.c1
  have H := Lib.hid h
  have i0 := idx0 c (c1' :: t)
  have i1 := idx1 c c1' t
  have hm := low_mod c
  have hz : (((t.length : Int) + 1 + 1) == 0) = false := by simp; omega
  have hcb : (c.toNat : Int) < 256 := by have := c.toNat_lt; omega
  have hcb1 : (c1'.toNat : Int) < 256 := by have := c1'.toNat_lt; omega
  have e8 : decide ((8 : Int) < (low c : Int)) = false := by simp; omega
  have e9 : decide ((t.length : Int) + 1 + 1 < 1 + (low c : Int)) = false := by simp; omega
  have e1 : decide ((0 : Int) < (low c : Int)) = true := by simp; omega
  clear h
  unfold RSpoil
  by_cases hz1 : c1'.toNat = 0
  · have ez : ((c1'.toNat : Int) == 0) = true := by simp; omega
    clear hf
    go_enter Try.func17, Try.ntmps17
    go_wp2_with (go_at_call 33; refine (rspoil_any b _ _ _ H.out).mono ?_; rintro e w1 ⟨rfl, h1, g1⟩)
    go_ret
    exact ⟨rfl, h1, g1⟩
  · have ez : ((c1'.toNat : Int) == 0) = false := by rw [beq_eq_false_iff_ne]; omega
    have ek : ((low c : Int) == 8) = true := by rw [beq_iff_eq]; omega
    have e127 : decide ((127 : Int) < (c1'.toNat : Int)) = true := by simp; omega
    clear hf
    go_enter Try.func17, Try.ntmps17
    go_wp2_with (go_at_call 33; refine (rspoil_any b _ _ _ H.out).mono ?_; rintro e w1 ⟨rfl, h1, g1⟩)
    go_ret
    exact ⟨rfl, h1, g1⟩

end Go.Proofs.Ytjkjomnnpfbiiaa
