/- awake: the document's examples. -/
import Derived.Test.YtloogafnkkbigaaZnUtil
namespace Go.Proofs.Ytloogafnkkbigaa
open Go.RowKit
open Zn (Ok There)

theorem ok_ex : Ok 2 2 256 10 0 := ⟨by decide, by decide, by decide, by decide, by decide, by decide, by decide, by decide, by decide, by decide⟩
theorem reads_123 {W : World} {g : Nat} (h : W.heap[g]? = some (.cells #[.int .i64 1, .int .i64 2, .int .i64 3] 3 (0, 0))) : Reads W W.heap.size (some ⟨g, 0, none⟩) (ints [1, 2, 3]) := fun _ => by
  refine ⟨g, 0, rfl, (Array.getElem?_eq_some_iff.1 h).1, fun k v hk => ?_⟩
  rw [Nat.zero_add, cellAt h]
  match k, hk with
  | 0, hk => simpa [ints] using hk
  | 1, hk => simpa [ints] using hk
  | 2, hk => simpa [ints] using hk
  | k + 3, hk => simp [ints] at hk
theorem same_123 (A B : Option Addr) (ca cb : Nat) (w : World) (ra : Reads w w.heap.size A (ints [1, 2, 3])) (rb : Reads w w.heap.size B (ints [1, 2, 3])) :
    Calls Try.prog 24 #[.slice A 3 ca, .slice B 3 cb] w fun e w' => e = .returned (.bool true) ∧ Below w.heap.size w w' :=
  same_any A B ca cb [1, 2, 3] [1, 2, 3] w (by decide) ra rb
theorem own_123 {W : World} {B : Nat} {v : Value} (h : Own W B v [1, 2, 3]) : ∃ A cap, v = .slice A 3 cap ∧ Reads W W.heap.size A (ints [1, 2, 3]) := own_at h
theorem own_0 {W : World} {B : Nat} {v : Value} (h : Own W B v []) : ∃ A cap, v = .slice A 0 cap := own_len h
theorem reads_more {W W' : World} {A : Option Addr} {l : List Int} (h : Reads W W.heap.size A (ints l)) (hb : Below W.heap.size W W') : Reads W' W'.heap.size A (ints l) := (h.below hb).more hb.size

set_option maxHeartbeats 4000000 in
set_option maxRecDepth 100000 in
theorem awake_any (w : World) : Calls Try.prog 14 #[] w fun e w' => e = .returned (.bool true) ∧ Below w.heap.size w w' := by
  have NW := Lib.hid (fun W => new_yes 2 2 256 10 0 1 1 W (by decide))
  have IN := Lib.hid (fun W b (h : MapAt W b 2 2 256 10 0 1 1) => show Calls Try.prog 20 #[.pointer (some ⟨b, 0, none⟩), .int .i64 (-5), .int .i64 600] W fun e w' => (e = .returned (.tuple #[.int .i64 0, .int .i64 511]) ∧ Below W.heap.size W w') from in_any b 2 2 256 10 0 1 1 (-5) 600 W h ok_ex (by decide) (by decide))
  have OF1 := Lib.hid (fun W b (h : MapAt W b 2 2 256 10 0 1 1) => show Calls Try.prog 22 #[.pointer (some ⟨b, 0, none⟩), .int .i64 256, .int .i64 0] W fun e w' => (e = .returned (.int .i64 1) ∧ Below W.heap.size W w') from of_any b 2 2 256 10 0 1 1 256 0 W h ok_ex (by decide) (by decide))
  have OF2 := Lib.hid (fun W b (h : MapAt W b 2 2 256 10 0 1 1) => show Calls Try.prog 22 #[.pointer (some ⟨b, 0, none⟩), .int .i64 0, .int .i64 256] W fun e w' => (e = .returned (.int .i64 2) ∧ Below W.heap.size W w') from of_any b 2 2 256 10 0 1 1 0 256 W h ok_ex (by decide) (by decide))
  have OF3 := Lib.hid (fun W b (h : MapAt W b 2 2 256 10 0 1 1) => show Calls Try.prog 22 #[.pointer (some ⟨b, 0, none⟩), .int .i64 512, .int .i64 0] W fun e w' => (e = .returned (.int .i64 (-1)) ∧ Below W.heap.size W w') from of_any b 2 2 256 10 0 1 1 512 0 W h ok_ex (by decide) (by decide))
  have e1 : Zn.near 2 2 256 10 250 250 = [1, 2, 3] := by decide
  have e2 : Zn.near 2 2 256 10 0 0 = [] := by decide
  have e3 : Zn.beside 2 2 0 = [1, 2, 3] := by decide
  have N1 := Lib.hid (fun W b (h : MapAt W b 2 2 256 10 0 1 1) => znear_any b 2 2 256 10 0 1 1 250 250 W h ok_ex (by decide) (by decide))
  have N2 := Lib.hid (fun W b (h : MapAt W b 2 2 256 10 0 1 1) => znear_any b 2 2 256 10 0 1 1 0 0 W h ok_ex (by decide) (by decide))
  have BS := Lib.hid (fun W b (h : MapAt W b 2 2 256 10 0 1 1) => beside_any b 2 2 256 10 0 1 1 0 W h ok_ex)
  rw [e1] at N1
  rw [e2] at N2
  rw [e3] at BS
  clear e1 e2 e3
  go_enter Try.func14, Try.ntmps14
  go_wp2_with fail
  refine (NW.out _).mono ?_
  rintro e w1 ⟨b, rfl, hb0, hm, b1⟩
  have HM := Lib.hid hm
  have B1 := Lib.hid b1
  clear hb0 hm b1 NW
  go_wp2_with fail
  refine (IN.out _ _ HM.out).mono ?_
  rintro e w2 ⟨rfl, b2⟩
  have HM2 := Lib.hid (HM.out.below b2)
  have B2 := Lib.hid (B1.out.trans (b2.mono B1.out.size))
  clear b2 HM B1 IN
  go_wp2_with fail
  refine (OF1.out _ _ HM2.out).mono ?_
  rintro e w3 ⟨rfl, b3⟩
  have HM3 := Lib.hid (HM2.out.below b3)
  have B3 := Lib.hid (B2.out.trans (b3.mono B2.out.size))
  clear b3 HM2 B2 OF1
  go_wp2_with fail
  refine (OF2.out _ _ HM3.out).mono ?_
  rintro e w4 ⟨rfl, b4⟩
  have HM4 := Lib.hid (HM3.out.below b4)
  have B4 := Lib.hid (B3.out.trans (b4.mono B3.out.size))
  clear b4 HM3 B3 OF2
  go_wp2_with fail
  refine (N1.out _ _ HM4.out).mono ?_
  rintro e w5 ⟨v5, rfl, o5, b5⟩
  have HM5 := Lib.hid (HM4.out.below b5)
  have B5 := Lib.hid (B4.out.trans (b5.mono B4.out.size))
  obtain ⟨A, ca, rfl, rA⟩ := own_123 o5
  have RA := Lib.hid rA
  clear b5 HM4 B4 N1 o5 rA
  go_wp2_with fail
  refine (same_123 _ _ _ _ _ (reads_more RA.out (bel1 _ _)) (reads_123 (at1 _ _))).mono ?_
  rintro e w6 ⟨rfl, b6⟩
  have b6' := (bel1 w5 _).trans (b6.mono (by rw [size1]; omega))
  have HM6 := Lib.hid (HM5.out.below b6')
  have B6 := Lib.hid (B5.out.trans (b6'.mono B5.out.size))
  clear b6 b6' HM5 B5 RA
  go_wp2_with fail
  refine (N2.out _ _ HM6.out).mono ?_
  rintro e w7 ⟨v7, rfl, o7, b7⟩
  have HM7 := Lib.hid (HM6.out.below b7)
  have B7 := Lib.hid (B6.out.trans (b7.mono B6.out.size))
  obtain ⟨A7, c7, rfl⟩ := own_0 o7
  clear b7 HM6 B6 N2 o7
  go_wp2_with fail
  refine (BS.out _ _ HM7.out).mono ?_
  rintro e w8 ⟨v8, rfl, o8, b8⟩
  have HM8 := Lib.hid (HM7.out.below b8)
  have B8 := Lib.hid (B7.out.trans (b8.mono B7.out.size))
  obtain ⟨A8, c8, rfl, rA⟩ := own_123 o8
  have RA := Lib.hid rA
  clear b8 HM7 B7 BS o8 rA
  go_wp2_with fail
  refine (same_123 _ _ _ _ _ (reads_more RA.out (bel1 _ _)) (reads_123 (at1 _ _))).mono ?_
  rintro e w9 ⟨rfl, b9⟩
  have b9' := (bel1 w8 _).trans (b9.mono (by rw [size1]; omega))
  have HM9 := Lib.hid (HM8.out.below b9')
  have B9 := Lib.hid (B8.out.trans (b9'.mono B8.out.size))
  clear b9 b9' HM8 B8 RA
  go_wp2_with fail
  refine (OF3.out _ _ HM9.out).mono ?_
  rintro e w10 ⟨rfl, b10⟩
  have B10 := Lib.hid (B9.out.trans (b10.mono B9.out.size))
  clear b10
  go_wp2
  go_ret
  exact ⟨rfl, B10.out⟩
theorem awake_hid : Hid (∀ w : World, Calls Try.prog 14 #[] w fun e w' => e = .returned (.bool true) ∧ Below w.heap.size w w') := Lib.hid awake_any
end Go.Proofs.Ytloogafnkkbigaa
