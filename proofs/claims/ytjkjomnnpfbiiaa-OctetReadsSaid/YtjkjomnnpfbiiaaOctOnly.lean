/- begins; the law OctetOnly, walked. -/
import Derived.Test.YtjkjomnnpfbiiaaOctCode
import Derived.Test.YtjkjomnnpfbiiaaOctJoin
import Derived.Deep.RegionHeld3
namespace Go.Proofs.Ytjkjomnnpfbiiaa
open Go.RowKit
set_option linter.unusedVariables false

theorem eq_bytes (a b : List UInt8) : ((ByteArray.mk a.toArray).toList == (ByteArray.mk b.toArray).toList) = (a == b) := by
  have h : ∀ l : List UInt8, (ByteArray.mk l.toArray).toList = l := fun l => by simp
  rw [h, h]

set_option maxHeartbeats 1000000 in
theorem begins_any (a b : List UInt8) (w : World) (ha : a.length ≤ 1000000000000) (hb : b.length ≤ 1000000000000) :
    Calls Try.prog 25 #[.string ⟨a.toArray⟩, .string ⟨b.toArray⟩] w fun e w' => e = .returned (.bool (beginsB a b)) ∧ ∃ n, w' = w.drewN n := by
  obtain ⟨n, hn⟩ : ∃ n, n = min a.length b.length := ⟨_, rfl⟩
  have hna : n ≤ a.length := by omega
  have hnb : n ≤ b.length := by omega
  have hm : min (a.length : Int) (b.length : Int) = (n : Int) := by omega
  have HB := Lib.hid (show beginsB a b = (a.take n == b.take n) by rw [beginsB, hn])
  have h1 : (ByteArray.mk a.toArray).extract 0 n = ⟨(a.take n).toArray⟩ := by rw [cutb]; simp
  have h2 : (ByteArray.mk b.toArray).extract 0 n = ⟨(b.take n).toArray⟩ := by rw [cutb]; simp
  clear hn
  go_enter Try.func25, Try.ntmps25
  go_wp2
  go_quiet (fail)
  go_wp2
  go_ret
  exact ⟨bool_ret (by rw [HB.out]), _, rfl⟩

/-- a world in which all that lay in w lies as it was -/
theorem Good.drew {w W : World} (g : Good w W) : Good w W.drew := Lib.hid (Below.drew g.out)
theorem Good.drewN {w W : World} (g : Good w W) (n : Nat) : Good w (W.drewN n) := Lib.hid (by
  have h : Below w.heap.size w W := g.out
  exact ⟨h.os, h.tape, h.output, h.size, h.block⟩)
theorem Good.alloc {w W : World} (g : Good w W) (o : Obj) : Good w (W.alloc o) := Lib.hid (Below.alloc g.out (Below.size g.out) o)
theorem Good.start (w : World) : Good w w := Lib.hid (Below.refl _ _)
theorem Good.cell {w W : World} (g : Good w W) {b o : Nat} {v : Value} (h : w.cell? ⟨b, o, none⟩ = some v) : W.cell? ⟨b, o, none⟩ = some v :=
  (Below.cell (p := ⟨b, o, none⟩) g.out (cell_lt h)).trans h

theorem one_int (w : World) (a : Int) (ha : -9223372036854775808 ≤ a ∧ a ≤ 9223372036854775807) : ∀ (W : World) (g : Nat), Good w W → W.cell? ⟨g, 0, none⟩ = some (.int .i64 a) →
    Calls Try.prog 12 #[.slice (some ⟨g, 0, none⟩) 1 1] W fun e w' => e = .returned (.string ⟨(Oct.enc a).toArray⟩) ∧ Good w w' ∧ Good W w' := fun W g hg hc => by
  have h := int_any (some ⟨g, 0, none⟩) 1 [a] W (by simp) (fun x hx => by simp at hx; subst hx; exact ha) (fun _ => ⟨g, 0, rfl, cell_lt hc, fun k v hv => by
    match k, hv with
    | 0, hv => simp [ints] at hv; subst hv; exact hc⟩)
  refine h.mono fun e w' h => ⟨?_, Lib.hid (Below.trans hg.out (h.2.mono (Below.size hg.out))), Lib.hid h.2⟩
  rw [h.1]; simp [Oct.encs]
theorem one_text (w : World) (a : List UInt8) (ha : a.length ≤ 1000000) : ∀ (W : World) (g : Nat), Good w W → W.cell? ⟨g, 0, none⟩ = some (.string ⟨a.toArray⟩) →
    Calls Try.prog 14 #[.slice (some ⟨g, 0, none⟩) 1 1] W fun e w' => e = .returned (.string ⟨(Oct.encT a).toArray⟩) ∧ Good w w' ∧ Good W w' := fun W g hg hc => by
  have h := text_any (some ⟨g, 0, none⟩) 1 [a] W (by simp) (by simp [total]; omega) (fun _ => ⟨g, 0, rfl, cell_lt hc, fun k v hv => by
    match k, hv with
    | 0, hv => simp [strings] at hv; subst hv; exact hc⟩)
  refine h.mono fun e w' h => ⟨?_, Lib.hid (Below.trans hg.out (h.2.mono (Below.size hg.out))), Lib.hid h.2⟩
  rw [h.1]; simp [Oct.encTs]
theorem good_begins (w : World) (a b : List UInt8) (ha : a.length ≤ 1000000000000) (hb : b.length ≤ 1000000000000) (r : Bool) (hr : beginsB a b = r) : ∀ W, Good w W →
    Calls Try.prog 25 #[.string ⟨a.toArray⟩, .string ⟨b.toArray⟩] W fun e w' => e = .returned (.bool r) ∧ Good w w' := fun W g => by
  refine (begins_any a b W ha hb).mono ?_
  rintro e w' ⟨rfl, n, rfl⟩
  exact ⟨by rw [hr], g.drewN n⟩

def Box2 (w0 W : World) (a b : Int) (s t : List UInt8) : Prop := W.cell? ⟨w0.heap.size, 0, none⟩ = some (.int .i64 a) ∧ W.cell? ⟨w0.heap.size, 1, none⟩ = some (.int .i64 b) ∧
  W.cell? ⟨w0.heap.size + 1, 0, none⟩ = some (.string ⟨s.toArray⟩) ∧ W.cell? ⟨w0.heap.size + 1, 1, none⟩ = some (.string ⟨t.toArray⟩)
theorem Box2.keep {w0 w1 W : World} {a b : Int} {s t : List UInt8} (h : Box2 w0 w1 a b s t) (g : Good w1 W) : Box2 w0 W a b s t := ⟨g.cell h.1, g.cell h.2.1, g.cell h.2.2.1, g.cell h.2.2.2⟩

theorem two_off {w w0 W : World} {o o2 : Obj} (h : w0 = (w.alloc o).alloc o2) (g : Good w0 W) : Below w.heap.size w W := by
  subst h
  exact below_alloc (below_alloc g.out)

set_option maxHeartbeats 4000000 in
set_option maxRecDepth 100000 in
theorem only_any (a b : Int) (ha : -9223372036854775808 ≤ a ∧ a ≤ 9223372036854775807) (hb : -9223372036854775808 ≤ b ∧ b ≤ 9223372036854775807) (s t : List UInt8) (w : World) (hs : s.length ≤ 140737488351232) (ht : t.length ≤ 140737488351232) :
    Calls Try.prog 6 #[.agg #[.int .i64 a, .int .i64 b], .agg #[.string ⟨s.toArray⟩, .string ⟨t.toArray⟩]] w fun e w' => e = .returned (.bool true) ∧ Below w.heap.size w w' := by
  by_cases h1 : 100000 < s.length
  · have h1' : (100000 : Int) < (s.length : Int) := by omega
    go_enter Try.func6, Try.ntmps6
    go_wp2_with (go_at_call 10; refine (awake_any _).mono ?_; rintro e w1 ⟨rfl, hb1⟩)
    go_ret
    exact ⟨rfl, below_alloc (below_alloc hb1 |> fun h => h)⟩
  · have d1 : decide ((100000 : Int) < (s.length : Int)) = false := by simp; omega
    by_cases h2 : 100000 < t.length
    · have h2' : (100000 : Int) < (t.length : Int) := by omega
      go_enter Try.func6, Try.ntmps6
      go_wp2_with (go_at_call 10; refine (awake_any _).mono ?_; rintro e w1 ⟨rfl, hb1⟩)
      go_ret
      exact ⟨rfl, below_alloc (below_alloc hb1 |> fun h => h)⟩
    · have d2 : decide ((100000 : Int) < (t.length : Int)) = false := by simp; omega
      obtain ⟨w0, hw0⟩ : ∃ w0, w0 = (w.alloc (.cells #[.int .i64 a, .int .i64 b] 49)).alloc (.cells #[.string ⟨s.toArray⟩, .string ⟨t.toArray⟩] 50) := ⟨_, rfl⟩
      have hbox : Box2 w w0 a b s t := by subst hw0; exact ⟨by simp, by simp, by simp, by simp⟩
      obtain ⟨q1, q2, q3, q4⟩ := hbox
      have BX := Lib.hid (show Box2 w w0 a b s t from ⟨q1, q2, q3, q4⟩)
      have I1 := Lib.hid (one_int w0 a ha)
      have I2 := Lib.hid (one_int w0 b hb)
      have T1 := Lib.hid (one_text w0 s (by omega))
      have T2 := Lib.hid (one_text w0 t (by omega))
      have B1 := Lib.hid (good_begins w0 (Oct.enc a) (Oct.enc b) (by have := Oct.enc_length_le a; omega) (by have := Oct.enc_length_le b; omega) _ (begins_enc ha hb))
      have B2 := Lib.hid (good_begins w0 (Oct.encT s) (Oct.encT t) (by have := Oct.encT_length s; omega) (by have := Oct.encT_length t; omega) _ (begins_encT (by omega) (by omega)))
      have G0 := Good.start w0
      have AW := Lib.hid (good_awake w0)
      have HW0 := Lib.hid hw0
      clear q1 q2 q3 q4 hs ht h1 h2 ha hb
      go_enter Try.func6, Try.ntmps6
      go_wp2
      rw [← HW0.out]
      obtain ⟨q1, q2, q3, q4⟩ := BX.out
      clear hw0
      obtain ⟨r1, hab⟩ : ∃ r1, (a == b) = r1 := ⟨_, rfl⟩
      obtain ⟨r2, hst⟩ : ∃ r2, (s == t) = r2 := ⟨_, rfl⟩
      rw [hab] at B1
      rw [hst] at B2
      go_region_held3 (fun w' => w'.cell? ⟨w.heap.size, 0, none⟩ = some (.int .i64 a) ∧ w'.cell? ⟨w.heap.size, 1, none⟩ = some (.int .i64 b) ∧ w'.cell? ⟨w.heap.size + 1, 0, none⟩ = some (.string ⟨s.toArray⟩) ∧ w'.cell? ⟨w.heap.size + 1, 1, none⟩ = some (.string ⟨t.toArray⟩))
            (first | exact Box2.keep BX.out (by assumption) | go_keep)
            (first
              | ((with_reducible refine (I1.out _ _ ?_ ?_).mono ?_); (repeat (first | assumption | apply Good.drew | apply Good.alloc)); (first | assumption | (focus (simp; done)) | (focus (refine Good.cell (by assumption) ?_; simp; done))); rintro e w1 ⟨rfl, g1, k1⟩)
              | ((with_reducible refine (I2.out _ _ ?_ ?_).mono ?_); (repeat (first | assumption | apply Good.drew | apply Good.alloc)); (first | assumption | (focus (simp; done)) | (focus (refine Good.cell (by assumption) ?_; simp; done))); rintro e w2 ⟨rfl, g2, k2⟩)
              | ((with_reducible refine (T1.out _ _ ?_ ?_).mono ?_); (repeat (first | assumption | apply Good.drew | apply Good.alloc)); (first | assumption | (focus (simp; done)) | (focus (refine Good.cell (by assumption) ?_; simp; done))); rintro e w3 ⟨rfl, g3, k3⟩)
              | ((with_reducible refine (T2.out _ _ ?_ ?_).mono ?_); (repeat (first | assumption | apply Good.drew | apply Good.alloc)); (first | assumption | (focus (simp; done)) | (focus (refine Good.cell (by assumption) ?_; simp; done))); rintro e w4 ⟨rfl, g4, k4⟩)
              | ((with_reducible refine (B1.out _ ?_).mono ?_); (repeat (first | assumption | apply Good.drew | apply Good.alloc)); rintro e w5 ⟨rfl, g5⟩)
              | ((with_reducible refine (B2.out _ ?_).mono ?_); (repeat (first | assumption | apply Good.drew | apply Good.alloc)); rintro e w6 ⟨rfl, g6⟩)
              | ((with_reducible refine (AW.out _ ?_).mono ?_); (repeat (first | assumption | apply Good.drew | apply Good.alloc)); rintro e w7 ⟨rfl, g7⟩))
      all_goals (go_wp2; go_ret; exact ⟨rfl, two_off HW0.out g7⟩)

theorem only_walk (w : World) (a b : Int) (ha : -9223372036854775808 ≤ a ∧ a ≤ 9223372036854775807) (hb : -9223372036854775808 ≤ b ∧ b ≤ 9223372036854775807) (s t : List UInt8) (hs : s.length ≤ 140737488351232) (ht : t.length ≤ 140737488351232) :
    Calls Try.prog 6 #[.agg #[.int .i64 a, .int .i64 b], .agg #[.string ⟨s.toArray⟩, .string ⟨t.toArray⟩]] w fun e w' => e = .returned (.bool true) ∧ Below w.heap.size w w' := only_any a b ha hb s t w hs ht

end Go.Proofs.Ytjkjomnnpfbiiaa
