/- awake: chapter 1's examples; a reader that is none. -/
import Derived.Test.YtjkjomnnpfbiiaaOctRdr3
namespace Go.Proofs.Ytjkjomnnpfbiiaa
open Go.RowKit

theorem reads_new (w : World) (cs : Array Value) (T : TypeId) : Reads (w.alloc (.cells cs T)) (w.alloc (.cells cs T)).heap.size (some ⟨w.heap.size, 0, none⟩) cs.toList := by
  intro _
  refine ⟨w.heap.size, 0, rfl, by simp, fun k v hv => ?_⟩
  rw [Lib.cell_of_heap (heap_alloc_new w _), Nat.zero_add]
  simpa using hv
theorem Rdr.alloc {T : TypeId} {b : Nat} {s : List UInt8} {bad : Bool} {w : World} (h : Rdr T b s bad w) (o : Obj) : Rdr T b s bad (w.alloc o) := (Lib.alloc_old w o b h.lt).trans h
theorem below_alloc {w w' : World} {o : Obj} (hb : Below (w.alloc o).heap.size (w.alloc o) w') : Below w.heap.size w w' := ((Below.refl _ _).alloc (Nat.le_refl _) o).trans (hb.mono (by simp))

theorem i64s (l : List Int) (h : l.all (fun x => decide (-9223372036854775808 ≤ x ∧ x ≤ 9223372036854775807)) = true) : I64 l := by
  intro x hx
  have := List.all_eq_true.1 h x hx
  simpa using this

def SaysInt (l : List Int) (out : List UInt8) : Prop := ∀ W : World, Calls Try.prog 12 #[.slice (some ⟨W.heap.size, 0, none⟩) l.length l.length] (W.alloc (.cells (ints l).toArray 3)) fun e w' => e = .returned (.string ⟨out.toArray⟩) ∧ Below W.heap.size W w'
def SaysText (l : List (List UInt8)) (out : List UInt8) : Prop := ∀ W : World, Calls Try.prog 14 #[.slice (some ⟨W.heap.size, 0, none⟩) l.length l.length] (W.alloc (.cells (strings l).toArray 9)) fun e w' => e = .returned (.string ⟨out.toArray⟩) ∧ Below W.heap.size W w'
theorem says_int (l : List Int) (h1 : l.length ≤ 1000) (h2 : I64 l) : SaysInt l (Oct.encs l) := fun W =>
  (int_any _ l.length l _ (by omega) h2 (by have := reads_new W (ints l).toArray 3; simpa using this)).mono fun _ _ h => ⟨h.1, below_alloc h.2⟩
theorem says_text (l : List (List UInt8)) (h1 : l.length ≤ 1000) (h2 : total l ≤ 1000) : SaysText l (Oct.encTs l) := fun W =>
  (text_any _ l.length l _ (by omega) (by omega) (by have := reads_new W (strings l).toArray 9; simpa using this)).mono fun _ _ h => ⟨h.1, below_alloc h.2⟩

theorem ex_five : SaysInt [5] [1, 5] := says_int [5] (by decide) (i64s _ (by decide))
theorem ex_three : SaysInt [0, -1, 64] [0, 128, 1, 64] := says_int [0, -1, 64] (by decide) (i64s _ (by decide))
theorem ex_ab : SaysText [[97, 98]] [1, 2, 97, 98] := says_text [[97, 98]] (by decide) (by decide)
theorem ex_r : oInt [1, 0] false = ⟨0, [], true⟩ := by rfl
theorem ex_q : oInt [1, 5, 1, 2, 97, 98] false = ⟨5, [1, 2, 97, 98], false⟩ := by rfl
theorem ex_cat : (ByteArray.mk #[1, 5] ++ ByteArray.mk #[1, 2, 97, 98]) = ByteArray.mk [1, 5, 1, 2, 97, 98].toArray := by rfl
theorem ex_t : oText [1, 2, 97, 98] false = ⟨[97, 98], [], false⟩ := by rfl

set_option maxHeartbeats 1000000 in
set_option maxRecDepth 100000 in
theorem awake_any (w : World) : Calls Try.prog 10 #[] w fun e w' => e = .returned (.bool true) ∧ Below w.heap.size w w' := by
  go_enter Try.func10, Try.ntmps10
  go_wp2_with fail
  refine (of_any [1, 0] _ (by decide)).mono ?_
  rintro e w1 ⟨b1, rfl, h1, hs1, hb1⟩
  have H1 := Lib.hid h1
  clear h1
  go_wp2_with fail
  refine (ex_five _).mono ?_
  rintro e w2 ⟨rfl, hb2⟩
  have H2 := Lib.hid (Rdr.below H1.out hb2 (Rdr.lt H1.out))
  go_wp2_with fail
  refine (ex_ab _).mono ?_
  rintro e w3 ⟨rfl, hb3⟩
  have H3 := Lib.hid (Rdr.below H2.out hb3 (Rdr.lt H2.out))
  clear H1 H2
  go_wp2_with fail
  rw [ex_cat]
  refine (of_any [1, 5, 1, 2, 97, 98] _ (by decide)).mono ?_
  rintro e w4 ⟨b2, rfl, q4, hs4, hb4⟩
  have h4 := Rdr.below H3.out hb4 (Rdr.lt H3.out)
  have hne : b1 ≠ b2 := by have := Rdr.lt H3.out; omega
  have H4 := Lib.hid h4
  have Q4 := Lib.hid q4
  have HNE := Lib.hid hne
  clear h4 q4 H3 hne
  go_wp2_with fail
  refine (rdInt_any b1 _ _ _ (by decide) H4.out).mono ?_
  rw [ex_r]
  rintro e w5 ⟨rfl, h5, g5⟩
  have H5 := Lib.hid h5
  have Q5 := Lib.hid (Rdr.only Q4.out g5 (fun e => HNE.out (Option.some.inj e).symm))
  clear h5 H4 Q4
  go_wp2_with fail
  refine (rdInt_any b2 _ _ _ (by decide) Q5.out).mono ?_
  rw [ex_q]
  rintro e w6 ⟨rfl, q6, g6⟩
  have Q6 := Lib.hid q6
  have H6 := Lib.hid (Rdr.only H5.out g6 (fun e => HNE.out (Option.some.inj e)))
  clear q6 H5 Q5
  go_wp2_with fail
  refine (rtxt_any b2 _ _ _ (by decide) Q6.out).mono ?_
  rw [ex_t]
  rintro e w7 ⟨rfl, q7, g7⟩
  have Q7 := Lib.hid q7
  have H7 := Lib.hid (Rdr.only H6.out g7 (fun e => HNE.out (Option.some.inj e)))
  clear q7 H6 Q6
  go_wp2_with fail
  refine (ex_three _).mono ?_
  rintro e w8 ⟨rfl, hb8⟩
  have Q8 := Lib.hid (Rdr.below Q7.out hb8 (Rdr.lt Q7.out))
  have H8 := Lib.hid (Rdr.below H7.out hb8 (Rdr.lt H7.out))
  clear H7 Q7
  go_wp2_with fail
  refine (ex_ab _).mono ?_
  rintro e w9 ⟨rfl, hb9⟩
  have Q9 := Lib.hid (Rdr.below Q8.out hb9 (Rdr.lt Q8.out))
  have H9 := Lib.hid (Rdr.below H8.out hb9 (Rdr.lt H8.out))
  clear H8 Q8
  go_wp2_with fail
  refine (done_any b1 _ _ _ H9.out).mono ?_
  rintro e w' ⟨rfl, rfl⟩
  go_wp2_with fail
  refine (left_any b2 _ _ _ Q9.out).mono ?_
  rintro e w' ⟨rfl, rfl⟩
  go_wp2_with fail
  refine (done_any b2 _ _ _ Q9.out).mono ?_
  rintro e w' ⟨rfl, rfl⟩
  go_wp2
  go_ret
  refine ⟨rfl, ?_⟩
  have z1 := hb1.size
  have z2 := hb2.size
  have z3 := hb3.size
  have z4 := hb4.size
  have a4 : Below w.heap.size w w4 := ((hb1.trans (hb2.mono z1)).trans (hb3.mono (by omega))).trans (hb4.mono (by omega))
  have a5 := a4.grown g5 a4.size (fun k hk => by cases hk; exact hs1)
  have a6 := a5.grown g6 a5.size (fun k hk => by cases hk; omega)
  have a7 := a6.grown g7 a6.size (fun k hk => by cases hk; omega)
  have a8 := a7.trans (hb8.mono a7.size)
  exact a8.trans (hb9.mono a8.size)

set_option maxHeartbeats 1000000 in
set_option maxRecDepth 100000 in
theorem none_any (w : World) (most : Int) (_ : -9223372036854775808 ≤ most ∧ most ≤ 9223372036854775807) : Calls Try.prog 8 #[.int .i64 most] w fun e w' => e = .returned (.bool true) ∧ Below w.heap.size w w' := by
  go_enter Try.func8, Try.ntmps8
  go_wp2_with (first | (go_at_call 16; refine (rdInt_nil _).mono ?_; rintro e w' ⟨rfl, rfl⟩) | (go_at_call 18; refine (rtxt_nil _).mono ?_; rintro e w' ⟨rfl, rfl⟩) | (go_at_call 20; refine (count_nil _ _).mono ?_; rintro e w' ⟨rfl, rfl⟩) | (go_at_call 22; refine (left_nil _).mono ?_; rintro e w' ⟨rfl, rfl⟩) | (go_at_call 23; refine (done_nil _).mono ?_; rintro e w' ⟨rfl, rfl⟩) | (go_at_call 10; refine (awake_any _).mono ?_; rintro e w1 ⟨rfl, hb1⟩))
  go_ret
  exact ⟨rfl, hb1⟩

end Go.Proofs.Ytjkjomnnpfbiiaa
