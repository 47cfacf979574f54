/- Alike of a code's store and a document's store with the same tables. -/
import Derived.Test.YteohkbepefjjlaaKArTSame
import Derived.Test.YteohkbepefjjlaaKTwo
import Derived.Test.YteohkbepefjjlaaKArRCopy
import Derived.Test.YteohkbepefjjlaaKArCopy
import Derived.Test.YteohkbepefjjlaaKArGet
namespace Go.Proofs.Yteohkbepefjjlaa
open Go.RowKit Pz Ar
set_option linter.unusedVariables false
set_option linter.unusedSimpArgs false

set_option maxHeartbeats 16000000 in
set_option maxRecDepth 100000 in
theorem alike_any {w : World} {F G : Foot} {s r : Nat} {t : Tb} (hC : CS F s t w) (hR : RS G r t w) (hl : total t ≤ 10000) :
    Calls Try.prog 14 #[.pointer (some ⟨s, 0, none⟩), .pointer (some ⟨r, 0, none⟩)] w fun e w' => e = .returned (.bool true) ∧ Below w.heap.size w w' := by
  have hg := hC.good
  have ht : total t = (all t).length := by rw [total_all]
  have RA := Lib.hid (rall_any hR (by omega))
  have TL : (tabs t).length ≤ 32 := by rw [tabs_to]; exact tabsTo_le t 32
  have TK : ∀ x ∈ tabs t, x.2.length ≤ 1000000 := fun x hx => by
    obtain ⟨m, hm, he⟩ := List.mem_filterMap.1 hx
    split at he
    · cases he
    · cases he
      rw [List.length_map]
      have := hC.few m
      omega
  have HL := Lib.hid fun W (hW : Below w.heap.size w W) => len_any (hC.below hW)
  have HA : Hid (∀ W, Below w.heap.size w W → Calls Try.prog 23 #[.pointer (some ⟨s, 0, none⟩), .int .i64 10000] W fun e V => ∃ A c, e = .returned (.slice A (all t).length c) ∧ OwnB V W.heap.size (.slice A (all t).length c) (all t) ∧ Below W.heap.size W V) := Lib.hid fun W hW => by
    have := all_any (hC.below hW) 10000 (by decide) (by omega)
    rw [List.take_of_length_le (by omega)] at this
    exact this
  have HT := Lib.hid fun W (hW : Below w.heap.size w W) => tables_any (hC.below hW)
  have RT := Lib.hid fun W (hW : Below w.heap.size w W) => rtables_any (hR.below hW)
  have FX : Hid (∀ j (hj : j < (all t).length), ∃ m i, Ar.find t (all t)[j].id = some (m, i) ∧ (t m)[i]? = some (all t)[j]) := Lib.hid fun j hj => by
    obtain ⟨m, i, _, hx⟩ := all_mem (List.getElem_mem hj)
    exact ⟨m, i, find_is hg hx, hx⟩
  have GX := Lib.hid fun W (hW : Below w.heap.size w W) => get_any (hC.below hW)
  have RX := Lib.hid fun W (hW : Below w.heap.size w W) => row_any (hC.below hW)
  have DX := Lib.hid fun W (hW : Below w.heap.size w W) => rGet_any (hR.below hW)
  rw [ht] at HL
  have hl2 : ((all t).length : Int) ≤ 10000 := by omega
  have hnn : (((all t).length : Int) != ((all t).length : Int)) = false := by simp
  have hrs : (all t).length ≤ 140737488351232 := by omega
  clear hC hR hl ht hg
  generalize all t = L at *
  generalize tabs t = T at *
  go_enter Try.func14, Try.ntmps14
  go_wp2_with (first
    | (go_at_call 34; refine RA.out.mono ?_; rintro e w1 ⟨A1, c1, rfl, o1, b1⟩; have RL := RdB.of_own o1; have B1 := b1; clear o1 b1 RA)
    | (go_at_call 22; refine (HL.out _ B1).mono ?_; rintro e w2 ⟨rfl, rfl⟩; clear HL)
    | (go_at_call 23; refine (HA.out _ B1).mono ?_; rintro e w3 ⟨A3, c3, rfl, o3, b3⟩; have RM := RdB.of_own o3; have RL3 := (RL.below b3).more b3.size; have B3 := B1.trans (b3.mono B1.size); clear o3 b3 HA B1 RL)
    | (go_at_call 27; refine (rsame_yes RM RL3 hrs).mono ?_; rintro e w4 ⟨rfl, b4⟩; have B4 := B3.trans (b4.mono B3.size); have RL4 := (RL3.below b4).more b4.size; clear RM RL3 b4 B3)
    | (go_at_call 19; refine (HT.out _ B4).mono ?_; rintro e w5 ⟨A5, c5, rfl, T5, b5⟩; have B5 := B4.trans (b5.mono B4.size); have RL5 := (RL4.below b5).more b5.size; clear RL4 b5 B4 HT)
    | (go_at_call 35; refine (RT.out _ B5).mono ?_; rintro e w6 ⟨A6, c6, rfl, T6, b6⟩; have B6 := B5.trans (b6.mono B5.size); have RL6 := (RL5.below b6).more b6.size; have T5' := T5.below b6; clear RL5 b6 B5 RT T5)
    | (go_at_call 28; refine (tsame_yes T5' T6 (by omega) TK).mono ?_; rintro e w7 ⟨rfl, b7⟩; have B7 := Lib.hid (B6.trans (b7.mono B6.size)); have RL7 := Lib.hid ((RL6.below b7).more b7.size); clear RL6 b7 B6 T5' T6 TK TL))
  go_loopw [6] (fun i wr => ∃ j : Nat, j ≤ L.length ∧ i = .int .i64 j ∧ Hid (Below w7.heap.size w7 wr)) (fun i _ => L.length - (intOf i).toNat)
  case atStart => exact ⟨0, Nat.zero_le _, rfl, Lib.hid (Below.refl _ _)⟩
  case round =>
    obtain ⟨j, hj, rfl, HB⟩ := hrel
    by_cases hjn : j < L.length
    · have t1 : (j : Int) < (L.length : Int) := by omega
      obtain ⟨m, i, hf, hx⟩ := FX.out j hjn
      obtain ⟨g, o, rfl, _⟩ := (RL7.out.below HB.out) j _ (List.getElem?_eq_getElem hjn)
      have RC0 : Hid (∀ W, Below w7.heap.size w7 W → W.cell? ⟨g, o + j * 11, none⟩ = some (.int .i64 L[j].s) ∧ W.cell? ⟨g, o + j * 11 + 1, none⟩ = some (.int .i64 L[j].i) ∧ W.cell? ⟨g, o + j * 11 + 2, none⟩ = some (.int .i64 L[j].g) ∧ W.cell? ⟨g, o + j * 11 + 3, none⟩ = some (.int .i64 L[j].m) ∧ W.cell? ⟨g, o + j * 11 + 4, none⟩ = some (.int .i64 L[j].x) ∧ W.cell? ⟨g, o + j * 11 + 5, none⟩ = some (.int .i64 L[j].y) ∧ W.cell? ⟨g, o + j * 11 + 6, none⟩ = some (.int .i64 L[j].vx) ∧ W.cell? ⟨g, o + j * 11 + 7, none⟩ = some (.int .i64 L[j].vy) ∧ W.cell? ⟨g, o + j * 11 + 8, none⟩ = some (.int .i64 L[j].h) ∧ W.cell? ⟨g, o + j * 11 + 9, none⟩ = some (.int .i64 L[j].p) ∧ W.cell? ⟨g, o + j * 11 + 10, none⟩ = some (.int .i64 L[j].l)) := Lib.hid fun W hW => by
        obtain ⟨g', o', e, _, hc⟩ := (RL7.out.below hW) j _ (List.getElem?_eq_getElem hjn)
        cases e
        exact hc
      have GC0 : Hid (∀ W, Below w7.heap.size w7 W → Calls Try.prog 15 #[.pointer (some ⟨s, 0, none⟩), .agg #[.int .i64 L[j].s, .int .i64 L[j].i, .int .i64 L[j].g]] W fun e V => e = .returned (.tuple #[L[j].val, .bool true]) ∧ Below W.heap.size W V) := Lib.hid fun W hW => by
        have := GX.out W (B7.out.trans (hW.mono B7.out.size)) L[j].s L[j].i L[j].g
        unfold cgetV at this
        rw [hf] at this
        simp only [hx] at this
        exact this
      have RW0 : Hid (∀ W, Below w7.heap.size w7 W → Calls Try.prog 20 #[.pointer (some ⟨s, 0, none⟩), .agg #[.int .i64 L[j].s, .int .i64 L[j].i, .int .i64 L[j].g]] W fun e V => e = .returned (.tuple #[.int .i64 (i : Int), .bool true]) ∧ Below W.heap.size W V) := Lib.hid fun W hW => by
        have := RX.out W (B7.out.trans (hW.mono B7.out.size)) L[j].s L[j].i L[j].g
        rw [hf] at this
        exact this
      have DC0 : Hid (∀ W, Below w7.heap.size w7 W → Calls Try.prog 16 #[.pointer (some ⟨r, 0, none⟩), .agg #[.int .i64 L[j].s, .int .i64 L[j].i, .int .i64 L[j].g]] W fun e V => e = .returned (.tuple #[L[j].val, .int .i64 (i : Int), .bool true]) ∧ Below W.heap.size W V) := Lib.hid fun W hW => by
        have := DX.out W (B7.out.trans (hW.mono B7.out.size)) L[j].s L[j].i L[j].g
        unfold getV at this
        rw [hf] at this
        simp only [hx] at this
        exact this
      have h0 : Hb w7 [] wr := ⟨HB.out, fun x hx => by cases hx⟩
      have LN := L.length
      clear FX GX RX DX RL7 hf hx HB
      generalize hxx : L[j] = x at *
      clear hxx
      obtain ⟨bs, bi, bg, bm, bx, bY, bvx, bvy, bh, bp, bl⟩ := x
      simp only [Bn.val] at *
      generalize hii : (i : Int) = ri at *
      clear hii
      have nm : (ri != ri) = false := by simp
      have dm : decide (ri = ri) = true := by simp
      have EQ := eq_bundle bs bi bg bm bx bY bvx bvy bh bp bl bs bi bg bm bx bY bvx bvy bh bp bl
      simp at EQ
      obtain ⟨k0, k1, k2, k3, k4, k5, k6, k7, k8, k9, k10⟩ := RC0.out wr h0.1
      go_wp2_with (first
        | (go_at_call 15; refine (GC0.out _ h0.1).mono ?_; rintro e w8 ⟨rfl, b8⟩; have h1 := (h0.below b8).hold (.cells #[.int .i64 bs, .int .i64 bi, .int .i64 bg, .int .i64 bm, .int .i64 bx, .int .i64 bY, .int .i64 bvx, .int .i64 bvy, .int .i64 bh, .int .i64 bp, .int .i64 bl] 35); clear GC0 h0 b8 k0 k1 k2 k3 k4 k5 k6 k7 k8 k9 k10; obtain ⟨k0, k1, k2, k3, k4, k5, k6, k7, k8, k9, k10⟩ := RC0.out _ h1.1)
        | (go_at_call 20; refine (RW0.out _ h1.1).mono ?_; rintro e w9 ⟨rfl, b9⟩; have h2 := h1.below b9; clear RW0 h1 b9 k0 k1 k2 k3 k4 k5 k6 k7 k8 k9 k10; obtain ⟨k0, k1, k2, k3, k4, k5, k6, k7, k8, k9, k10⟩ := RC0.out _ h2.1)
        | (go_at_call 16; refine (DC0.out _ h2.1).mono ?_; rintro e w10 ⟨rfl, b10⟩; have h3 := (h2.below b10).hold (.cells #[.int .i64 bs, .int .i64 bi, .int .i64 bg, .int .i64 bm, .int .i64 bx, .int .i64 bY, .int .i64 bvx, .int .i64 bvy, .int .i64 bh, .int .i64 bp, .int .i64 bl] 35); clear DC0 h2 b10 k0 k1 k2 k3 k4 k5 k6 k7 k8 k9 k10; obtain ⟨k0, k1, k2, k3, k4, k5, k6, k7, k8, k9, k10⟩ := RC0.out _ h3.1; obtain ⟨⟨m0, m1, m2, m3, m4, m5, m6, m7, m8, m9, m10⟩, _⟩ := Bx.b11 (h3.held (x := (w8.heap.size, .cells #[.int .i64 bs, .int .i64 bi, .int .i64 bg, .int .i64 bm, .int .i64 bx, .int .i64 bY, .int .i64 bvx, .int .i64 bvy, .int .i64 bh, .int .i64 bp, .int .i64 bl] 35 (0, 0))) (by simp))))
      have NX : Hid (∀ m, Below w7.heap.size w7 ((w10.alloc (.cells #[.int .i64 bs, .int .i64 bi, .int .i64 bg, .int .i64 bm, .int .i64 bx, .int .i64 bY, .int .i64 bvx, .int .i64 bvy, .int .i64 bh, .int .i64 bp, .int .i64 bl] 35)).drewN m)) := Lib.hid fun m => Below.dn' h3.1 m
      generalize w10.alloc (.cells #[.int .i64 bs, .int .i64 bi, .int .i64 bg, .int .i64 bm, .int .i64 bx, .int .i64 bY, .int .i64 bvx, .int .i64 bvy, .int .i64 bh, .int .i64 bp, .int .i64 bl] 35) = w11 at *
      go_quiet (fail)
      go_wp2
      go_roundw
      case rel => exact ⟨j + 1, by omega, by go_num, Lib.hid (NX.out _)⟩
      case measure => simp [intOf]; omega
    · obtain rfl : j = L.length := by omega
      have t1 : ¬ (L.length : Int) < (L.length : Int) := by omega
      clear FX GX RX DX RL7
      generalize L.length = n at *
      go_wp2
      go_ret
      exact ⟨rfl, B7.out.trans (HB.out.mono B7.out.size)⟩
end Go.Proofs.Yteohkbepefjjlaa
