/- The law QueryParts, walked. Written by wip/tools/genquL4.py. -/
import Derived.Test.YtgmgenggboicnaaKQuF
import Derived.Test.YtgmgenggboicnaaKQuE
namespace Go.Proofs.Ytgmgenggboicnaa
open Go.RowKit Go.Shelf Pz Ar Qu
set_option linter.unusedVariables false
set_option linter.unusedSimpArgs false

set_option maxHeartbeats 16000000 in
set_option maxRecDepth 100000 in
theorem law_parts (w : World) (A : Option Addr) (c : Nat) (l : List Bn) (hc : l.length ≤ c) (hcap : c ≤ 140737488351232) (R : RdB w w.heap.size A l) (q0 q1 : Int) (h0 : Fit q0) (h1 : Fit q1) (a : Int) (ha : 0 ≤ a ∧ a ≤ 18446744073709551615) :
    Calls Try.prog 9 #[.slice A l.length c, qV q0 q1, .int .u64 a] w fun e w' => e = .returned (.bool true) ∧ Below w.heap.size w w' := by
  have BE0 := bel1 w (.cells #[.int .i64 q0, .int .i64 q1] QTY)
  have T0 := at1 w (.cells #[.int .i64 q0, .int .i64 q1] QTY)
  have MD := Lib.hid (made_mk (c := c) ((R.below BE0).more BE0.size) (by omega))
  have AW := Lib.hid qawake_any
  have H0 := Lib.hid h0
  obtain ⟨k, hk⟩ : ∃ k : Nat, a.tmod 5 = (k : Int) := ⟨(a.tmod 5).toNat, by rw [Int.tmod_eq_emod_of_nonneg ha.1]; omega⟩
  have hk5 : k < 5 := by rw [Int.tmod_eq_emod_of_nonneg ha.1] at hk; omega
  have k64 : (k : Int) ≤ 64 := by omega
  have k0 : (0 : Int) ≤ (k : Int) := by omega
  obtain ⟨z, hz⟩ : ∃ z : Int, z = (2 : Int) ^ k := ⟨_, rfl⟩
  have w1' : IntKind.i64.wrap ((2 : Int) ^ k) = z := by
    rw [hz]
    have : k = 0 ∨ k = 1 ∨ k = 2 ∨ k = 3 ∨ k = 4 := by omega
    rcases this with rfl | rfl | rfl | rfl | rfl <;> rfl
  have HK5 := Lib.hid hk5
  have HZ := Lib.hid hz
  clear R hc hcap h0 h1 ha hz hk5
  generalize l.length = n0 at *
  go_enter Try.func9, Try.ntmps9
  go_upto_region 1 with fail
  generalize w.alloc (.cells #[.int .i64 q0, .int .i64 q1] QTY) = w1 at *
  go_upto_region 3 with (go_at_call 31; refine MD.out.mono ?_; rintro e w2 ⟨s, P, A2, c2, rfl, hk⟩; have MK := Lib.hid hk; clear MD hk)
  have BE := Lib.hid (BE0.trans (MK.out.bel.mono BE0.size))
  have T2 := Lib.hid ((MK.out.bel.block _ (Bx.lt T0)).trans T0)
  obtain ⟨L, hL⟩ : ∃ L, L = all (addAll P) := ⟨_, rfl⟩
  have CT : Hid (∀ V, Below w2.heap.size w2 V → ∀ x y, Calls Try.prog 36 #[.pointer (some ⟨s, 0, none⟩), qV x y] V fun e w' => e = .returned (.int .i64 ((fil x y L).length : Int)) ∧ Below V.heap.size V w') := Lib.hid fun V hV x y => by
    rw [hL]
    exact qcount_any (MK.out.src V hV) x y
  have LN : Hid (∀ V, Below w2.heap.size w2 V → Calls Try.prog 20 #[.pointer (some ⟨s, 0, none⟩)] V fun e w' => e = .returned (.int .i64 (L.length : Int)) ∧ V = w') := Lib.hid fun V hV => by
    obtain ⟨F, hC⟩ := (MK.out.own.below hV).one.cs
    have := len_any hC
    rwa [← total_all, ← hL] at this
  have QB : Hid (∀ V, Below w2.heap.size w2 V → V.cell? ⟨w.heap.size, 0, none⟩ = some (.int .i64 q0) ∧ V.cell? ⟨w.heap.size, 1, none⟩ = some (.int .i64 q1)) := Lib.hid fun V hV => (Bx.b2 ((hV.block _ (Bx.lt T2.out)).trans T2.out)).1
  have hsum := fil_parts (q1 := q1) H0.out HK5.out L
  rw [← HZ.out] at hsum
  have hfew : L.length ≤ 100 := by
    have := (MK.out.src _ (Below.refl _ _)).few
    rw [hL, total_all, total_addAll MK.out.ok.may]
    exact Nat.le_trans MK.out.few (by decide)
  have hn3 : (fil q0 q1 L).length ≤ L.length := List.length_filter_le _ _
  have C1 := Lib.hid fun V hV => CT.out V hV (bits .or .i64 q0 z) q1
  have C2 := Lib.hid fun V hV => CT.out V hV q0 (bits .or .i64 q1 z)
  have C3 := Lib.hid fun V hV => CT.out V hV q0 q1
  have C4 := Lib.hid fun V hV => CT.out V hV 0 0
  rw [fil_all] at C4
  clear CT MK T0 T2 BE0 hL w1' hk k64 k0
  generalize (fil (bits .or .i64 q0 z) q1 L).length = n1 at *
  generalize (fil q0 (bits .or .i64 q1 z) L).length = n2 at *
  generalize (fil q0 q1 L).length = n3 at *
  generalize L.length = n4 at *
  have ws : IntKind.i64.wrap ((n1 : Int) + (n2 : Int)) = (n3 : Int) := by rw [IntWalk.i64_in _ (by omega)]; omega
  have d1 : ((n3 : Int) == (n3 : Int)) = true := by simp
  have d2 : ((n4 : Int) == (n4 : Int)) = true := by simp
  clear hsum hfew hn3
  obtain ⟨k0, k1⟩ := QB.out w2 (Below.refl _ _)
  go_wp2_with (first
    | (go_at_call 20; refine (LN.out _ b6).mono ?_; rintro e w7 ⟨rfl, rfl⟩; clear LN)
    | (go_at_call 30; refine (AW.out _).mono ?_; rintro e w8 ⟨rfl, b8⟩; clear AW)
    | (go_at_call 36; with_reducible refine (C4.out _ b5).mono ?_; rintro e w6 ⟨rfl, c6⟩; have b6 := b5.trans (c6.mono b5.size); clear C4 c6)
    | (go_at_call 36; with_reducible refine (C3.out _ b4).mono ?_; rintro e w5 ⟨rfl, c5⟩; have b5 := b4.trans (c5.mono b4.size); clear C3 c5)
    | (go_at_call 36; with_reducible refine (C2.out _ b3).mono ?_; rintro e w4 ⟨rfl, c4⟩; have b4 := b3.trans (c4.mono b3.size); clear C2 c4 k0 k1; obtain ⟨k0, k1⟩ := QB.out _ b4)
    | (go_at_call 36; with_reducible refine (C1.out _ (Below.refl _ _)).mono ?_; rintro e w3 ⟨rfl, b3⟩; clear C1 k0 k1; obtain ⟨k0, k1⟩ := QB.out _ b3))
  go_ret
  exact ⟨rfl, BE.out.trans ((b6.trans (b8.mono b6.size)).mono BE.out.size)⟩
end Go.Proofs.Ytgmgenggboicnaa
