/- The law OctetJoins, walked. -/
import Derived.Test.YtjkjomnnpfbiiaaOctLong
namespace Go.Proofs.Ytjkjomnnpfbiiaa
open Go.RowKit
set_option linter.unusedVariables false

theorem int_n (A : Option Addr) (n cap : Nat) (l : List Int) (w : World) (hn : l.length = n) (hl : l.length ≤ 1000000000000) (hi : I64 l) (hr : Reads w w.heap.size A (ints l)) :
    Calls Try.prog 12 #[.slice A n cap] w fun e w' => e = .returned (.string ⟨(Oct.encs l).toArray⟩) ∧ Below w.heap.size w w' := by
  subst hn
  exact int_any A cap l w hl hi hr

def Good (w W : World) : Prop := Hid (Below w.heap.size w W)
theorem good_int (w : World) (A : Option Addr) (n cap : Nat) (l : List Int) (hn : l.length = n) (hl : l.length ≤ 1000000000000) (hi : I64 l) (hr : Reads w w.heap.size A (ints l)) : ∀ W, Good w W →
    Calls Try.prog 12 #[.slice A n cap] W fun e w' => e = .returned (.string ⟨(Oct.encs l).toArray⟩) ∧ Good w w' := fun W g => by
  have hb : Below w.heap.size w W := g.out
  exact (int_n A n cap l W hn hl hi ((hr.below hb).more hb.size)).mono fun e w' h => ⟨h.1, Lib.hid (hb.trans (h.2.mono hb.size))⟩
theorem good_text (w : World) : ∀ W, Good w W → Calls Try.prog 14 #[.slice none 0 0] W fun e w' => e = .returned (.string ⟨#[]⟩) ∧ Good w w' := fun W g => by
  have hb : Below w.heap.size w W := g.out
  exact (text_any none 0 [] W (by decide) (by decide) (fun h => absurd h (by simp [strings]))).mono fun e w' h => ⟨h.1, Lib.hid (hb.trans (h.2.mono hb.size))⟩
theorem good_awake (w : World) : ∀ W, Good w W → Calls Try.prog 10 #[] W fun e w' => e = .returned (.bool true) ∧ Good w w' := fun W g => by
  have hb : Below w.heap.size w W := g.out
  exact (awake_any W).mono fun e w' h => ⟨h.1, Lib.hid (hb.trans (h.2.mono hb.size))⟩
theorem reads_take {w : World} {B : Nat} {A : Option Addr} {l : List Int} (h : Reads w B A (ints l)) (k : Nat) : Reads w B A (ints (l.take k)) := fun h0 => by
  obtain ⟨b, off, rfl, hB, hc⟩ := h (by simp [ints] at h0 ⊢; omega)
  refine ⟨b, off, rfl, hB, fun j v hv => hc j v ?_⟩
  have hj : j < k := by
    have := (List.getElem?_eq_some_iff.1 hv).1
    simp [ints] at this; omega
  rw [← hv]
  simp [ints, hj]

theorem reads_drop {w : World} {B : Nat} {A : Option Addr} {l : List Int} (h : Reads w B A (ints l)) (k : Nat) : Reads w B (A.map (·.add k)) (ints (l.drop k)) := fun h0 => by
  obtain ⟨b, off, rfl, hB, hc⟩ := h (by simp [ints] at h0 ⊢; omega)
  refine ⟨b, off + k, by rw [Option.map_some, Go.WideShapes.add_plain], hB, fun j v hv => ?_⟩
  rw [Nat.add_assoc]
  refine hc (k + j) v ?_
  rw [← hv]
  simp [ints]
theorem encs_append (a b : List Int) : Oct.encs (a ++ b) = Oct.encs a ++ Oct.encs b := by simp [Oct.encs]

set_option maxHeartbeats 4000000 in
set_option maxRecDepth 100000 in
theorem joins_any (w : World) (A : Option Addr) (cap : Nat) (l : List Int) (h1 : l.length ≤ cap) (hcap : cap ≤ 140737488351232) (hi : I64 l) (hr : Reads w w.heap.size A (ints l))
    (at_ : Int) (hat : -9223372036854775808 ≤ at_ ∧ at_ ≤ 9223372036854775807) :
    Calls Try.prog 7 #[.slice A l.length cap, .int .i64 at_] w fun e w' => e = .returned (.bool true) ∧ Below w.heap.size w w' := by
  by_cases h60 : 60 < l.length
  · have h60' : (60 : Int) < (l.length : Int) := by omega
    go_enter Try.func7, Try.ntmps7
    go_wp2_with (go_at_call 10; refine (awake_any _).mono ?_; rintro e w1 ⟨rfl, hb1⟩)
    go_ret
    exact ⟨rfl, hb1⟩
  · have h60' : decide ((60 : Int) < (l.length : Int)) = false := by simp; omega
    go_enter Try.func7, Try.ntmps7
    go_wp2
    obtain ⟨k, hk, hkl⟩ : ∃ k : Nat, max 0 (min at_ (l.length : Int)) = (k : Int) ∧ k ≤ l.length := ⟨(max 0 (min at_ (l.length : Int))).toNat, by omega, by omega⟩
    rw [hk]
    clear hk
    have g0 : Good w w.drew := Lib.hid ((Below.refl _ _).drew)
    have C5 := Lib.hid (good_text w)
    have C6 := Lib.hid (good_awake w)
    have hsum := sum_two (Oct.encs (l.take k)) (Oct.encs (l.drop k)) (by have := Oct.encs_length_le (l.take k); have := Oct.encs_length_le (l.drop k); simp only [List.length_take, List.length_drop] at *; omega)
    rw [show Oct.encs (l.take k) ++ Oct.encs (l.drop k) = Oct.encs l by rw [← encs_append, List.take_append_drop]] at hsum
    by_cases hck : cap = k
    · subst hck
      have C1 := Lib.hid (good_int w A l.length cap l rfl (by omega) hi hr)
      have C2 := Lib.hid (good_int w A cap cap (l.take cap) (by rw [List.length_take]; omega) (by rw [List.length_take]; omega) (fun x hx => hi x (List.mem_of_mem_take hx)) (reads_take hr cap))
      have C4 := Lib.hid (good_int w none 0 0 [] rfl (by decide) (fun x hx => by simp at hx) (fun h => absurd h (by simp [ints])))
      have hd : l.drop cap = [] := List.drop_eq_nil_of_le (by omega)
      have C3 := Lib.hid (good_int w A 0 0 (l.drop cap) (by rw [hd]; rfl) (by rw [List.length_drop]; omega) (fun x hx => hi x (List.mem_of_mem_drop hx)) (by rw [hd]; exact fun h => absurd h (by simp [ints])))
      clear hd
      go_region_with (first | (go_at_call 12; with_reducible refine (C1.out _ (by assumption)).mono ?_; rintro e w1 ⟨rfl, g1⟩) | (go_at_call 12; with_reducible refine (C2.out _ (by assumption)).mono ?_; rintro e w2 ⟨rfl, g2⟩) | (go_at_call 12; with_reducible refine (C3.out _ (by assumption)).mono ?_; rintro e w3 ⟨rfl, g3⟩) | (go_at_call 12; with_reducible refine (C4.out _ (by assumption)).mono ?_; rintro e w4 ⟨rfl, g4⟩) | (go_at_call 14; with_reducible refine (C5.out _ (by assumption)).mono ?_; rintro e w5 ⟨rfl, g5⟩) | (go_at_call 10; with_reducible refine (C6.out _ (by assumption)).mono ?_; rintro e w6 ⟨rfl, g6⟩))
      all_goals (go_wp2; go_ret; exact ⟨rfl, g6.out⟩)
    · have C1 := Lib.hid (good_int w A l.length cap l rfl (by omega) hi hr)
      have C2 := Lib.hid (good_int w A k cap (l.take k) (by rw [List.length_take]; omega) (by rw [List.length_take]; omega) (fun x hx => hi x (List.mem_of_mem_take hx)) (reads_take hr k))
      have C4 := Lib.hid (good_int w none 0 0 [] rfl (by decide) (fun x hx => by simp at hx) (fun h => absurd h (by simp [ints])))
      have C3 := Lib.hid (good_int w (A.map (·.add k)) (l.length - k) (cap - k) (l.drop k) (by rw [List.length_drop]) (by rw [List.length_drop]; omega) (fun x hx => hi x (List.mem_of_mem_drop hx)) (reads_drop hr k))
      go_region_with (first | (go_at_call 12; with_reducible refine (C1.out _ (by assumption)).mono ?_; rintro e w1 ⟨rfl, g1⟩) | (go_at_call 12; with_reducible refine (C2.out _ (by assumption)).mono ?_; rintro e w2 ⟨rfl, g2⟩) | (go_at_call 12; with_reducible refine (C3.out _ (by assumption)).mono ?_; rintro e w3 ⟨rfl, g3⟩) | (go_at_call 12; with_reducible refine (C4.out _ (by assumption)).mono ?_; rintro e w4 ⟨rfl, g4⟩) | (go_at_call 14; with_reducible refine (C5.out _ (by assumption)).mono ?_; rintro e w5 ⟨rfl, g5⟩) | (go_at_call 10; with_reducible refine (C6.out _ (by assumption)).mono ?_; rintro e w6 ⟨rfl, g6⟩))
      all_goals (go_wp2; go_ret; exact ⟨rfl, g6.out⟩)

end Go.Proofs.Ytjkjomnnpfbiiaa
