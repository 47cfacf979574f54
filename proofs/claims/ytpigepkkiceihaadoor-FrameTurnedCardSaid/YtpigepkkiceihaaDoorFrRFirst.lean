/- The document's own First. -/
import Derived.Test.YtpigepkkiceihaaDoorFrRef
import Derived.Test.YtpigepkkiceihaaDoorFrFirst
namespace Go.Proofs.YtpigepkkiceihaaDoor
open Go.RowKit
set_option linter.unusedVariables false

theorem num_bytes (s : List UInt8) (p : Nat) (h : p + 3 ≤ s.length) : Fr.num (s.drop p) = 65536 * (s[p]'(by omega)).toNat + 256 * (s[p + 1]'(by omega)).toNat + (s[p + 2]'(by omega)).toNat := by
  unfold Fr.num
  rw [List.drop_eq_getElem_cons (by omega : p < s.length), List.drop_eq_getElem_cons (by omega : p + 1 < s.length), List.drop_eq_getElem_cons (by omega : p + 1 + 1 < s.length)]
  simp only [List.take_succ_cons, List.take_zero, Fr.be, List.foldl_cons, List.foldl_nil]
  have e : s[p + 1 + 1]'(by omega) = s[p + 2]'(by omega) := rfl
  rw [e]
  omega

set_option maxHeartbeats 1000000 in
set_option maxRecDepth 100000 in
theorem rfirst_out (s : List UInt8) (a : Int) (w : World) (hs : s.length ≤ 140737488351232) (h : ¬ (0 ≤ a ∧ a ≤ s.length)) :
    Calls Tryd.prog 16 #[.string ⟨s.toArray⟩, .int .i64 a] w fun e w' => e = .returned (Reads1 s a) ∧ Below w.heap.size w w' := by
  have HR := Lib.hid (reads1_out h)
  by_cases h0 : a < 0
  · go_enter Tryd.func16, Tryd.ntmps16
    go_wp2
    go_ret3
    exact ⟨ret_tup HR.out.symm, Below.refl _ _⟩
  · have h0' : decide (a < 0) = false := by simpa using h0
    have h1 : (s.length : Int) < a := by omega
    go_enter Tryd.func16, Tryd.ntmps16
    go_wp2
    go_ret3
    exact ⟨ret_tup HR.out.symm, Below.refl _ _⟩

set_option maxHeartbeats 1000000 in
set_option maxRecDepth 100000 in
theorem rfirst_short (s r : List UInt8) (p : Nat) (w : World) (hs : s.length ≤ 140737488351232) (hp : p ≤ s.length) (hr : r = s.drop p) (h3 : r.length < 3) :
    Calls Tryd.prog 16 #[.string ⟨s.toArray⟩, .int .i64 p] w fun e w' => e = .returned (Reads1 s p) ∧ Below w.heap.size w w' := by
  have HR := Lib.hid (reads1_bad hp (by rw [← hr]; exact Fr.first_short h3) (by decide))
  have hl : r.length = s.length - p := by rw [hr, List.length_drop]
  have h0' : decide ((p : Int) < 0) = false := by simp
  have h1 : decide ((s.length : Int) < p) = false := by simp; omega
  have hw : IntKind.i64.wrap ((s.length : Int) - p) = s.length - p := IntWalk.i64_in _ ⟨by omega, by omega⟩
  have h2 : (s.length : Int) - p < 3 := by omega
  clear hr hl
  go_enter Tryd.func16, Tryd.ntmps16
  go_wp2
  go_ret3
  exact ⟨ret_tup HR.out.symm, Below.refl _ _⟩

set_option maxHeartbeats 2000000 in
set_option maxRecDepth 100000 in
theorem rfirst_big (s r : List UInt8) (p : Nat) (w : World) (hs : s.length ≤ 140737488351232) (hp : p ≤ s.length) (hr : r = s.drop p) (h3 : 3 ≤ r.length) (hb : 65536 < Fr.num r) :
    Calls Tryd.prog 16 #[.string ⟨s.toArray⟩, .int .i64 p] w fun e w' => e = .returned (Reads1 s p) ∧ Below w.heap.size w w' := by
  have HR := Lib.hid (reads1_bad hp (by rw [← hr]; exact Fr.first_big h3 hb) (by decide))
  have hl : r.length = s.length - p := by rw [hr, List.length_drop]
  have hp3 : p + 3 ≤ s.length := by omega
  have hn := num_bytes s p hp3
  rw [← hr] at hn
  have i0 : ∀ h, (ByteArray.mk s.toArray)[p]'h = s[p]'(by omega) := fun h => rfl
  have i1 : ∀ h, (ByteArray.mk s.toArray)[p + 1]'h = s[p + 1]'(by omega) := fun h => rfl
  have i2 : ∀ h, (ByteArray.mk s.toArray)[p + 2]'h = s[p + 2]'(by omega) := fun h => rfl
  have y0 := Fr.byte_lt (s[p]'(by omega))
  have y1 := Fr.byte_lt (s[p + 1]'(by omega))
  have y2 := Fr.byte_lt (s[p + 2]'(by omega))
  generalize s[p]'(by omega) = a at *
  generalize s[p + 1]'(by omega) = b at *
  generalize s[p + 2]'(by omega) = c at *
  generalize Fr.num r = n at *
  have h0' : decide ((p : Int) < 0) = false := by simp
  have h1 : decide ((s.length : Int) < p) = false := by simp; omega
  have hw : IntKind.i64.wrap ((s.length : Int) - p) = s.length - p := IntWalk.i64_in _ ⟨by omega, by omega⟩
  have h2 : decide ((s.length : Int) - p < 3) = false := by simp; omega
  have b0 : (p : Int) < s.length := by omega
  have b1 : (p : Int) + 1 < s.length := by omega
  have b2 : (p : Int) + 2 < s.length := by omega
  have z1 : 0 ≤ (p : Int) + 1 := by omega
  have z2 : 0 ≤ (p : Int) + 2 := by omega
  have t1 : ((p : Int) + 1).toNat = p + 1 := by omega
  have t2 : ((p : Int) + 2).toNat = p + 2 := by omega
  have w1 : IntKind.i64.wrap ((p : Int) + 1) = p + 1 := IntWalk.i64_in _ ⟨by omega, by omega⟩
  have w2 : IntKind.i64.wrap ((p : Int) + 2) = p + 2 := IntWalk.i64_in _ ⟨by omega, by omega⟩
  have w3 : IntKind.i64.wrap (65536 * (a.toNat : Int)) = 65536 * a.toNat := IntWalk.i64_in _ ⟨by omega, by omega⟩
  have w4 : IntKind.i64.wrap (256 * (b.toNat : Int)) = 256 * b.toNat := IntWalk.i64_in _ ⟨by omega, by omega⟩
  have w5 : IntKind.i64.wrap (65536 * (a.toNat : Int) + 256 * b.toNat) = 65536 * a.toNat + 256 * b.toNat := IntWalk.i64_in _ ⟨by omega, by omega⟩
  have w6 : IntKind.i64.wrap (65536 * (a.toNat : Int) + 256 * b.toNat + c.toNat) = n := by rw [IntWalk.i64_in _ ⟨by omega, by omega⟩]; omega
  have c1 : IntKind.i64.wrap (a.toNat : Int) = a.toNat := IntWalk.i64_in _ ⟨by omega, by omega⟩
  have c2 : IntKind.i64.wrap (b.toNat : Int) = b.toNat := IntWalk.i64_in _ ⟨by omega, by omega⟩
  have c3 : IntKind.i64.wrap (c.toNat : Int) = c.toNat := IntWalk.i64_in _ ⟨by omega, by omega⟩
  have hb' : (65536 : Int) < n := by omega
  clear hr hn hl hb y0 y1 y2 hp3
  go_enter Tryd.func16, Tryd.ntmps16
  go_wp2
  go_quiet (fail)
  go_wp2
  go_ret3
  exact ⟨ret_tup HR.out.symm, below_dn _ _⟩
set_option maxHeartbeats 2000000 in
set_option maxRecDepth 100000 in
theorem rfirst_end (s r : List UInt8) (p : Nat) (w : World) (hs : s.length ≤ 140737488351232) (hp : p ≤ s.length) (hr : r = s.drop p) (h3 : 3 ≤ r.length) (hb : Fr.num r ≤ 65536) (he : r.length < Fr.num r + 7) :
    Calls Tryd.prog 16 #[.string ⟨s.toArray⟩, .int .i64 p] w fun e w' => e = .returned (Reads1 s p) ∧ Below w.heap.size w w' := by
  have HR := Lib.hid (reads1_bad hp (by rw [← hr]; exact Fr.first_end h3 hb he) (by decide))
  have hl : r.length = s.length - p := by rw [hr, List.length_drop]
  have hp3 : p + 3 ≤ s.length := by omega
  have hn := num_bytes s p hp3
  rw [← hr] at hn
  have i0 : ∀ h, (ByteArray.mk s.toArray)[p]'h = s[p]'(by omega) := fun h => rfl
  have i1 : ∀ h, (ByteArray.mk s.toArray)[p + 1]'h = s[p + 1]'(by omega) := fun h => rfl
  have i2 : ∀ h, (ByteArray.mk s.toArray)[p + 2]'h = s[p + 2]'(by omega) := fun h => rfl
  have y0 := Fr.byte_lt (s[p]'(by omega))
  have y1 := Fr.byte_lt (s[p + 1]'(by omega))
  have y2 := Fr.byte_lt (s[p + 2]'(by omega))
  generalize s[p]'(by omega) = a at *
  generalize s[p + 1]'(by omega) = b at *
  generalize s[p + 2]'(by omega) = c at *
  generalize Fr.num r = n at *
  have h0' : decide ((p : Int) < 0) = false := by simp
  have h1 : decide ((s.length : Int) < p) = false := by simp; omega
  have hw : IntKind.i64.wrap ((s.length : Int) - p) = s.length - p := IntWalk.i64_in _ ⟨by omega, by omega⟩
  have h2 : decide ((s.length : Int) - p < 3) = false := by simp; omega
  have b0 : (p : Int) < s.length := by omega
  have b1 : (p : Int) + 1 < s.length := by omega
  have b2 : (p : Int) + 2 < s.length := by omega
  have z1 : 0 ≤ (p : Int) + 1 := by omega
  have z2 : 0 ≤ (p : Int) + 2 := by omega
  have t1 : ((p : Int) + 1).toNat = p + 1 := by omega
  have t2 : ((p : Int) + 2).toNat = p + 2 := by omega
  have w1 : IntKind.i64.wrap ((p : Int) + 1) = p + 1 := IntWalk.i64_in _ ⟨by omega, by omega⟩
  have w2 : IntKind.i64.wrap ((p : Int) + 2) = p + 2 := IntWalk.i64_in _ ⟨by omega, by omega⟩
  have w3 : IntKind.i64.wrap (65536 * (a.toNat : Int)) = 65536 * a.toNat := IntWalk.i64_in _ ⟨by omega, by omega⟩
  have w4 : IntKind.i64.wrap (256 * (b.toNat : Int)) = 256 * b.toNat := IntWalk.i64_in _ ⟨by omega, by omega⟩
  have w5 : IntKind.i64.wrap (65536 * (a.toNat : Int) + 256 * b.toNat) = 65536 * a.toNat + 256 * b.toNat := IntWalk.i64_in _ ⟨by omega, by omega⟩
  have w6 : IntKind.i64.wrap (65536 * (a.toNat : Int) + 256 * b.toNat + c.toNat) = n := by rw [IntWalk.i64_in _ ⟨by omega, by omega⟩]; omega
  have c1 : IntKind.i64.wrap (a.toNat : Int) = a.toNat := IntWalk.i64_in _ ⟨by omega, by omega⟩
  have c2 : IntKind.i64.wrap (b.toNat : Int) = b.toNat := IntWalk.i64_in _ ⟨by omega, by omega⟩
  have c3 : IntKind.i64.wrap (c.toNat : Int) = c.toNat := IntWalk.i64_in _ ⟨by omega, by omega⟩
  have hb' : decide ((65536 : Int) < n) = false := by simp; omega
  have w7 : IntKind.i64.wrap ((n : Int) + 7) = n + 7 := IntWalk.i64_in _ ⟨by omega, by omega⟩
  have he' : (s.length : Int) - p < n + 7 := by omega
  clear hr hn hl hb he y0 y1 y2 hp3
  go_enter Tryd.func16, Tryd.ntmps16
  go_wp2
  go_quiet (fail)
  go_wp2
  go_ret3
  exact ⟨ret_tup HR.out.symm, below_dn _ _⟩
set_option maxHeartbeats 2000000 in
set_option maxRecDepth 100000 in
theorem rfirst_sum (s r : List UInt8) (p : Nat) (w : World) (hs : s.length ≤ 140737488351232) (hp : p ≤ s.length) (hr : r = s.drop p) (hb : Fr.num r ≤ 65536) (he : Fr.num r + 7 ≤ r.length)
    (hq : Fr.sum (r.take (Fr.num r + 3)) ≠ Fr.be ((r.drop (Fr.num r + 3)).take 4)) :
    Calls Tryd.prog 16 #[.string ⟨s.toArray⟩, .int .i64 p] w fun e w' => e = .returned (Reads1 s p) ∧ Below w.heap.size w w' := by
  have HR := Lib.hid (reads1_bad hp (by rw [← hr]; exact Fr.first_sum hb he hq) (by decide))
  have hft := Fr.frame_there he
  have htl : ((r.drop 3).take (Fr.num r)).length = Fr.num r := by rw [List.length_take, List.length_drop]; omega
  have x1 : (ByteArray.mk s.toArray).extract (p + 3) (p + 3 + Fr.num r) = ⟨((r.drop 3).take (Fr.num r)).toArray⟩ := by rw [cut_mid s _ _ _ rfl, hr, List.drop_drop]
  have x2 : (ByteArray.mk s.toArray).extract p (p + 7 + Fr.num r) = ⟨(r.take (Fr.num r + 7)).toArray⟩ := by rw [cut_mid s _ _ (Fr.num r + 7) (by omega), hr]
  generalize (r.drop 3).take (Fr.num r) = t at *
  generalize r.take (Fr.num r + 7) = v at *
  have hl : r.length = s.length - p := by rw [hr, List.length_drop]
  have hp3 : p + 3 ≤ s.length := by omega
  have hn := num_bytes s p hp3
  rw [← hr] at hn
  have i0 : ∀ h, (ByteArray.mk s.toArray)[p]'h = s[p]'(by omega) := fun h => rfl
  have i1 : ∀ h, (ByteArray.mk s.toArray)[p + 1]'h = s[p + 1]'(by omega) := fun h => rfl
  have i2 : ∀ h, (ByteArray.mk s.toArray)[p + 2]'h = s[p + 2]'(by omega) := fun h => rfl
  have y0 := Fr.byte_lt (s[p]'(by omega))
  have y1 := Fr.byte_lt (s[p + 1]'(by omega))
  have y2 := Fr.byte_lt (s[p + 2]'(by omega))
  generalize s[p]'(by omega) = a at *
  generalize s[p + 1]'(by omega) = b at *
  generalize s[p + 2]'(by omega) = c at *
  generalize Fr.num r = n at *
  have h0' : decide ((p : Int) < 0) = false := by simp
  have h1 : decide ((s.length : Int) < p) = false := by simp; omega
  have hw : IntKind.i64.wrap ((s.length : Int) - p) = s.length - p := IntWalk.i64_in _ ⟨by omega, by omega⟩
  have h2 : decide ((s.length : Int) - p < 3) = false := by simp; omega
  have b0 : (p : Int) < s.length := by omega
  have b1 : (p : Int) + 1 < s.length := by omega
  have b2 : (p : Int) + 2 < s.length := by omega
  have z1 : 0 ≤ (p : Int) + 1 := by omega
  have z2 : 0 ≤ (p : Int) + 2 := by omega
  have t1 : ((p : Int) + 1).toNat = p + 1 := by omega
  have t2 : ((p : Int) + 2).toNat = p + 2 := by omega
  have w1 : IntKind.i64.wrap ((p : Int) + 1) = p + 1 := IntWalk.i64_in _ ⟨by omega, by omega⟩
  have w2 : IntKind.i64.wrap ((p : Int) + 2) = p + 2 := IntWalk.i64_in _ ⟨by omega, by omega⟩
  have w3 : IntKind.i64.wrap (65536 * (a.toNat : Int)) = 65536 * a.toNat := IntWalk.i64_in _ ⟨by omega, by omega⟩
  have w4 : IntKind.i64.wrap (256 * (b.toNat : Int)) = 256 * b.toNat := IntWalk.i64_in _ ⟨by omega, by omega⟩
  have w5 : IntKind.i64.wrap (65536 * (a.toNat : Int) + 256 * b.toNat) = 65536 * a.toNat + 256 * b.toNat := IntWalk.i64_in _ ⟨by omega, by omega⟩
  have w6 : IntKind.i64.wrap (65536 * (a.toNat : Int) + 256 * b.toNat + c.toNat) = n := by rw [IntWalk.i64_in _ ⟨by omega, by omega⟩]; omega
  have c1 : IntKind.i64.wrap (a.toNat : Int) = a.toNat := IntWalk.i64_in _ ⟨by omega, by omega⟩
  have c2 : IntKind.i64.wrap (b.toNat : Int) = b.toNat := IntWalk.i64_in _ ⟨by omega, by omega⟩
  have c3 : IntKind.i64.wrap (c.toNat : Int) = c.toNat := IntWalk.i64_in _ ⟨by omega, by omega⟩
  have hv : (Fr.frame t == v) = false := by simpa using fun e => hq (hft.1 e)
  have hb' : decide ((65536 : Int) < n) = false := by simp; omega
  have w7 : IntKind.i64.wrap ((n : Int) + 7) = n + 7 := IntWalk.i64_in _ ⟨by omega, by omega⟩
  have he' : decide ((s.length : Int) - p < n + 7) = false := by simp; omega
  have hk : p + 7 + n ≤ s.length := by omega
  have hk' : (p : Int) + 7 + n ≤ s.length := by omega
  have F := Lib.hid (fun W => rframe_small t W (by omega))
  generalize Fr.frame t = k at *
  clear hr hn hl hb he hq hft y0 y1 y2 hp3
  go_enter Tryd.func16, Tryd.ntmps16
  go_wp2
  go_quiet (fail)
  go_wp2_with fail
  refine (F.out _).mono ?_
  rintro e w3 ⟨rfl, b3⟩
  go_wp2
  go_ret3
  exact ⟨ret_tup HR.out.symm, (below_dn _ _).trans (b3.mono (below_dn _ _).size)⟩
set_option maxHeartbeats 2000000 in
set_option maxRecDepth 100000 in
theorem rfirst_ok (s r : List UInt8) (p : Nat) (w : World) (hs : s.length ≤ 140737488351232) (hp : p ≤ s.length) (hr : r = s.drop p) (hb : Fr.num r ≤ 65536) (he : Fr.num r + 7 ≤ r.length)
    (hq : Fr.sum (r.take (Fr.num r + 3)) = Fr.be ((r.drop (Fr.num r + 3)).take 4)) :
    Calls Tryd.prog 16 #[.string ⟨s.toArray⟩, .int .i64 p] w fun e w' => e = .returned (Reads1 s p) ∧ Below w.heap.size w w' := by
  have HR := Lib.hid (reads1_ok hp (by rw [← hr]; exact Fr.first_ok hb he hq))
  have hft := Fr.frame_there he
  have htl : ((r.drop 3).take (Fr.num r)).length = Fr.num r := by rw [List.length_take, List.length_drop]; omega
  have x1 : (ByteArray.mk s.toArray).extract (p + 3) (p + 3 + Fr.num r) = ⟨((r.drop 3).take (Fr.num r)).toArray⟩ := by rw [cut_mid s _ _ _ rfl, hr, List.drop_drop]
  have x2 : (ByteArray.mk s.toArray).extract p (p + 7 + Fr.num r) = ⟨(r.take (Fr.num r + 7)).toArray⟩ := by rw [cut_mid s _ _ (Fr.num r + 7) (by omega), hr]
  rw [htl, show (p : Int) + (Fr.num r : Int) + 7 = p + 7 + (Fr.num r : Int) by omega] at HR
  generalize (r.drop 3).take (Fr.num r) = t at *
  generalize r.take (Fr.num r + 7) = v at *
  have hl : r.length = s.length - p := by rw [hr, List.length_drop]
  have hp3 : p + 3 ≤ s.length := by omega
  have hn := num_bytes s p hp3
  rw [← hr] at hn
  have i0 : ∀ h, (ByteArray.mk s.toArray)[p]'h = s[p]'(by omega) := fun h => rfl
  have i1 : ∀ h, (ByteArray.mk s.toArray)[p + 1]'h = s[p + 1]'(by omega) := fun h => rfl
  have i2 : ∀ h, (ByteArray.mk s.toArray)[p + 2]'h = s[p + 2]'(by omega) := fun h => rfl
  have y0 := Fr.byte_lt (s[p]'(by omega))
  have y1 := Fr.byte_lt (s[p + 1]'(by omega))
  have y2 := Fr.byte_lt (s[p + 2]'(by omega))
  generalize s[p]'(by omega) = a at *
  generalize s[p + 1]'(by omega) = b at *
  generalize s[p + 2]'(by omega) = c at *
  generalize Fr.num r = n at *
  have h0' : decide ((p : Int) < 0) = false := by simp
  have h1 : decide ((s.length : Int) < p) = false := by simp; omega
  have hw : IntKind.i64.wrap ((s.length : Int) - p) = s.length - p := IntWalk.i64_in _ ⟨by omega, by omega⟩
  have h2 : decide ((s.length : Int) - p < 3) = false := by simp; omega
  have b0 : (p : Int) < s.length := by omega
  have b1 : (p : Int) + 1 < s.length := by omega
  have b2 : (p : Int) + 2 < s.length := by omega
  have z1 : 0 ≤ (p : Int) + 1 := by omega
  have z2 : 0 ≤ (p : Int) + 2 := by omega
  have t1 : ((p : Int) + 1).toNat = p + 1 := by omega
  have t2 : ((p : Int) + 2).toNat = p + 2 := by omega
  have w1 : IntKind.i64.wrap ((p : Int) + 1) = p + 1 := IntWalk.i64_in _ ⟨by omega, by omega⟩
  have w2 : IntKind.i64.wrap ((p : Int) + 2) = p + 2 := IntWalk.i64_in _ ⟨by omega, by omega⟩
  have w3 : IntKind.i64.wrap (65536 * (a.toNat : Int)) = 65536 * a.toNat := IntWalk.i64_in _ ⟨by omega, by omega⟩
  have w4 : IntKind.i64.wrap (256 * (b.toNat : Int)) = 256 * b.toNat := IntWalk.i64_in _ ⟨by omega, by omega⟩
  have w5 : IntKind.i64.wrap (65536 * (a.toNat : Int) + 256 * b.toNat) = 65536 * a.toNat + 256 * b.toNat := IntWalk.i64_in _ ⟨by omega, by omega⟩
  have w6 : IntKind.i64.wrap (65536 * (a.toNat : Int) + 256 * b.toNat + c.toNat) = n := by rw [IntWalk.i64_in _ ⟨by omega, by omega⟩]; omega
  have c1 : IntKind.i64.wrap (a.toNat : Int) = a.toNat := IntWalk.i64_in _ ⟨by omega, by omega⟩
  have c2 : IntKind.i64.wrap (b.toNat : Int) = b.toNat := IntWalk.i64_in _ ⟨by omega, by omega⟩
  have c3 : IntKind.i64.wrap (c.toNat : Int) = c.toNat := IntWalk.i64_in _ ⟨by omega, by omega⟩
  have hv : (Fr.frame t == v) = true := by simpa using hft.2 hq
  have hb' : decide ((65536 : Int) < n) = false := by simp; omega
  have w7 : IntKind.i64.wrap ((n : Int) + 7) = n + 7 := IntWalk.i64_in _ ⟨by omega, by omega⟩
  have he' : decide ((s.length : Int) - p < n + 7) = false := by simp; omega
  have hk : p + 7 + n ≤ s.length := by omega
  have hk' : (p : Int) + 7 + n ≤ s.length := by omega
  have F := Lib.hid (fun W => rframe_small t W (by omega))
  generalize Fr.frame t = k at *
  clear hr hn hl hb he hq hft y0 y1 y2 hp3
  go_enter Tryd.func16, Tryd.ntmps16
  go_wp2
  go_quiet (fail)
  go_wp2_with fail
  refine (F.out _).mono ?_
  rintro e w3 ⟨rfl, b3⟩
  go_wp2
  go_ret3
  exact ⟨ret_tup HR.out.symm, (below_dn _ _).trans (b3.mono (below_dn _ _).size)⟩

theorem rfirst_any (s : List UInt8) (a : Int) (w : World) (hs : s.length ≤ 140737488351232) :
    Calls Tryd.prog 16 #[.string ⟨s.toArray⟩, .int .i64 a] w fun e w' => e = .returned (Reads1 s a) ∧ Below w.heap.size w w' := by
  by_cases h : 0 ≤ a ∧ a ≤ s.length
  · obtain ⟨p, rfl⟩ := Int.eq_ofNat_of_zero_le h.1
    have hp : p ≤ s.length := by omega
    rcases Fr.first_cases (s.drop p) with ⟨h1, _⟩ | ⟨h1, h2, _⟩ | ⟨h1, h2, h3, _⟩ | ⟨h1, h2, h3, _⟩ | ⟨h1, h2, h3, _⟩
    · exact rfirst_short s _ p w hs hp rfl h1
    · exact rfirst_big s _ p w hs hp rfl h1 h2
    · exact rfirst_end s _ p w hs hp rfl h1 h2 h3
    · exact rfirst_sum s _ p w hs hp rfl h1 h2 h3
    · exact rfirst_ok s _ p w hs hp rfl h1 h2 h3
  · exact rfirst_out s a w hs h
end Go.Proofs.YtpigepkkiceihaaDoor
