/- The law WalBack, walked. -/
import Derived.Test.YtpafialojcidnaaGreatDoorWlTop
namespace Go.Proofs.YtpafialojcidnaaGreatDoor
open Go.RowKit Go.Maps Dk
open Wl (Lo Lg Tn)
set_option linter.unusedVariables false

/-- the number that the cut is brought to -/
theorem cut_is (cut : Int) (n : Nat) (hn : n ≤ 1000000) : ∃ (x : Int) (c : Nat), cut.tmod ((n : Int) + 1) = x ∧ (x + n + 1).tmod ((n : Int) + 1) = (c : Int) ∧ c ≤ n ∧ -1000002 ≤ x ∧ x ≤ 1000002 := by
  have h0 : ((n : Int) + 1) ≠ 0 := by omega
  have a1 := Int.tmod_lt_of_pos cut (show 0 < (n : Int) + 1 by omega)
  have a2 := Int.lt_tmod_of_pos cut (show 0 < (n : Int) + 1 by omega)
  have b0 : 0 ≤ cut.tmod ((n : Int) + 1) + n + 1 := by omega
  have b1 := Int.tmod_eq_emod_of_nonneg (b := (n : Int) + 1) b0
  have b2 := Int.emod_nonneg (cut.tmod ((n : Int) + 1) + n + 1) h0
  have b3 := Int.emod_lt_of_pos (cut.tmod ((n : Int) + 1) + n + 1) (show 0 < (n : Int) + 1 by omega)
  exact ⟨_, ((cut.tmod ((n : Int) + 1) + n + 1).tmod ((n : Int) + 1)).toNat, rfl, by omega, by omega, by omega, by omega⟩
set_option maxHeartbeats 16000000 in
set_option maxRecDepth 100000 in
theorem law_back (w : World) (ht : Tabs w.heap.size w) (A : Option Addr) (cap : Nat) (l : List Str) (hlc : l.length ≤ cap) (hcap : cap ≤ 140737488351232) (hl : ∀ s ∈ l, s.length ≤ 140737488351232) (hr : Reads w w.heap.size A (strings l)) (u : Int) (hu : -9223372036854775808 ≤ u ∧ u ≤ 9223372036854775807) :
    Calls Tryz.prog 3 #[.slice A l.length cap, .int .i64 u] w fun e w' => e = .returned (.bool true) ∧ Below w.heap.size w w' := by
  have F := Lib.hid (few_any w A cap l (by omega) hl (Nat.le_refl _) hr)
  have HT := Lib.hid ht
  clear ht hr hl hlc
  go_enter Tryz.func3, Tryz.ntmps3
  go_wp2_with fail
  refine F.out.mono ?_
  rintro e w1 ⟨v, rfl, D, hD, hO, b1⟩
  obtain ⟨A1, cap1, rfl⟩ := owns_len hO
  have T1 := HT.out.below b1 (Nat.le_refl _)
  have M := Lib.hid (lmade_any w1 T1 b1.size)
  have HO := Lib.hid hO
  have HD := Lib.hid hD
  have B1 := Lib.hid b1
  have hn := hD.1
  have hT1 := Lib.hid T1
  have hcap1 : D.length ≤ cap1 := by
    rcases hO.2 with ⟨e, e2⟩ | ⟨g, c2, cur, e, _, _, h1, h2, _⟩
    · simp only [Value.slice.injEq] at e; omega
    · cases e; exact h1
  obtain ⟨x, k, hx, hk, hkn, hx1, hx2⟩ := cut_is u D.length (by omega)
  have n0 : ((D.length : Int) + 1) ≠ 0 := by omega
  have v1 : IntKind.i64.wrap (x + D.length) = x + D.length := IntWalk.i64_in _ ⟨by omega, by omega⟩
  have v2 : IntKind.i64.wrap (x + D.length + 1) = x + D.length + 1 := IntWalk.i64_in _ ⟨by omega, by omega⟩
  have v3 : IntKind.i64.wrap ((D.length : Int) + 1) = D.length + 1 := IntWalk.i64_in _ ⟨by omega, by omega⟩
  have v4 : IntKind.i64.wrap x = x := IntWalk.i64_in _ ⟨by omega, by omega⟩
  have v5 : IntKind.i64.wrap (k : Int) = k := IntWalk.i64_in _ ⟨by omega, by omega⟩
  clear F T1 hO hD b1
  go_wp2_with fail
  refine M.out.mono ?_
  rintro e w2 ⟨b, K0, rfl, x2, l2, L0⟩
  have hkc : (k : Int) ≤ (cap1 : Int) := by omega
  have hsm : ∀ r ∈ D, r.length ≤ 65536 := fun r hm => by have := HD.out.2 r hm; omega
  have RD : Hid (∀ (W' : World) (K' : St), Wa w1 w1.heap.size w1.heap.size K' W' → Reads W' W'.heap.size A1 (strings D)) := Lib.hid fun W' K' h => owns_reads (owns_kp HO.out (p := isLog) (fun _ => rfl) h.gone.kp)
  have A2 := Lib.hid (lg_append (n0 := 0) (I := []) (R := []) x2 l2 L0 A1 cap1 k (D.take k) (by rw [List.length_take]; omega) (fun r hm => hsm r (List.mem_of_mem_take hm)) (by rw [List.length_take]; simp [Wl.tot]; omega) (by rw [List.length_take]; simp; omega) (fun W' K' h => (RD.out W' K' (x2.trans h)).front k))
  clear M L0 l2 x2
  go_wp2_with fail
  refine A2.out.mono ?_
  rintro e w3 ⟨rfl, K1, I1, R1, h3⟩
  obtain ⟨x3, l3, L3, f3, n3, _⟩ := h3.out
  have f3 : (I1 ++ [R1]).flatten = D.take k := f3
  have hlen3 := Wl.tot_flat f3
  rw [List.length_take] at hlen3 n3
  have A3 := Lib.hid (fun (A' : Option Addr) (c' : Nat) (hR : ∀ W' K', Wa w3 w1.heap.size w1.heap.size K' W' → Reads W' W'.heap.size A' (strings (D.drop k))) => lg_append x3 l3 L3 A' c' (D.length - k) (D.drop k) (by rw [List.length_drop]) (fun r hm => hsm r (List.mem_of_mem_drop hm)) (by rw [List.length_drop]; omega) (by rw [List.length_drop]; simp at n3; omega) hR)
  have RA : Hid (∀ W' K', Wa w3 w1.heap.size w1.heap.size K' W' → Reads W' W'.heap.size (A1.map fun x => x.add k) (strings (D.drop k))) := Lib.hid fun W' K' h => (RD.out W' K' (x3.trans h)).rest k
  have RB : Hid (cap1 = k → ∀ W' K', Wa w3 w1.heap.size w1.heap.size K' W' → Reads W' W'.heap.size A1 (strings (D.drop k))) := Lib.hid fun e W' K' h => Reads.none k (by omega)
  have F3 := Lib.hid f3
  have hkn' : (k : Int) ≤ (D.length : Int) := by omega
  clear A2 h3 x3 l3 L3 f3 hlen3 n3
  go_wp2_with fail
  all_goals
    refine (A3.out _ _ (by first | exact RA.out | exact RB.out (by assumption))).mono ?_
    rintro e w4 ⟨rfl, K2, I2, R2, h4⟩
    obtain ⟨x4, l4, L4, f4, _, _⟩ := h4.out
    rw [F3.out, List.take_append_drop] at f4
    have t4 := Wl.tot_flat f4
    have al := lg_all x4 l4 rfl L4
    rw [f4] at al
    have AL := Lib.hid al
    have X4 := Lib.hid x4
    have L4' := Lib.hid l4
    have LG := Lib.hid L4
    have F4 := Lib.hid f4
    clear al x4 l4 L4 f4 h4 A3 RA RB F3
    go_wp2_with fail
    refine AL.out.mono ?_
    rintro e w5 ⟨v5, rfl, hO5, b5⟩
    obtain ⟨A5, c5, rfl⟩ := owns_len hO5
    have X5 := Lib.hid (X4.out.below b5)
    have L5 := Lib.hid (L4'.out.below b5)
    have SM := Lib.hid (fun c => same_any A5 c5 A1 c D w5 _ _ (by omega) (owns_reads hO5) (RD.out w5 _ X5.out))
    clear AL X4 L4' hO5 b5
    go_wp2_with fail
    refine (SM.out _).mono ?_
    rintro e w6 ⟨rfl, b6⟩
    have X6 := Lib.hid (X5.out.below b6)
    have NX := next_any w6 (L5.out.below b6)
    try dsimp only at NX
    rw [show 0 + Wl.tot I2 + R2.length = D.length by omega] at NX
    have NX := Lib.hid NX
    have o7 := lg_again X6.out nm_w LG.out
    rw [F4.out] at o7
    have O7 := Lib.hid o7
    clear SM X5 L5 b6 o7
    go_wp2_with fail
    refine NX.out.mono ?_
    rintro e w6' ⟨rfl, rfl⟩
    clear NX
    go_wp2_with fail
    refine O7.out.mono ?_
    rintro e w7 ⟨b7, v7, K7, rfl, hb7, hv7, x7, l7, k7, L7⟩
    obtain ⟨A7, c7, rfl⟩ := owns_len hv7
    try dsimp only at l7
    rw [show 0 + Wl.tot I2 + R2.length = D.length by omega] at l7
    have HV7 := Lib.hid hv7
    have X7 := Lib.hid x7
    have HL7 := Lib.hid l7
    have LG7 := Lib.hid L7
    have CP := Lib.hid (copy_any w7 x7.dsk)
    clear O7 X6 LG hv7 x7 l7 k7 L7
    go_wp2_with fail
    refine CP.out.mono ?_
    rintro e w8 ⟨⟨c, rfl, hd8⟩, b8⟩
    have Y8 : Hid (Wa w7 w7.heap.size c K7 w8) := Lib.hid (Lib.hid ⟨hd8, Nat.le_refl _, ⟨b8, Kp.below b8⟩, (X7.out.tabs.up X7.out.size).below b8 (Nat.le_refl _)⟩)
    have o9 := lg_again Y8.out nm_w LG7.out
    rw [F4.out] at o9
    have O9 := Lib.hid o9
    have B8 := Lib.hid b8
    clear CP o9 hd8 b8
    go_wp2_with fail
    refine O9.out.mono ?_
    rintro e w9 ⟨b9, v9, K9, rfl, hb9, hv9, y9, l9, k9, L9⟩
    obtain ⟨A9, c9, rfl⟩ := owns_len hv9
    have k79 : Kp isRef w7 w9 := (Kp.below B8.out).trans k9
    have r9 := Lib.hid (owns_reads (owns_kp HV7.out (p := isRef) (fun _ => rfl) k79))
    have d9 := Lib.hid (owns_reads (owns_kp (owns_kp HO.out (p := isLog) (fun _ => rfl) X7.out.gone.kp) (p := isRef) (fun _ => rfl) k79))
    have S1 := Lib.hid (fun c => same_any A7 c7 A1 c D w9 _ _ (by omega) r9.out d9.out)
    have S2 := Lib.hid (fun c W (hb : Below w9.heap.size w9 W) => same_any A9 c9 A1 c D W _ _ (by omega) (owns_reads (owns_below hv9 hb)) (d9.out.below hb))
    have L79 := Lib.hid (HL7.out.kp k79)
    have Y9 := Lib.hid y9
    have HL9 := Lib.hid l9
    have LG9 := Lib.hid L9
    clear O9 hv9 y9 l9 L9 k9 k79 HV7 HL7 LG7 Y8
    go_wp2_with fail
    refine (S1.out _).mono ?_
    rintro e w10 ⟨rfl, b10⟩
    have S3 := Lib.hid (fun c => S2.out c w10 b10)
    have B10 := Lib.hid b10
    clear S1 S2 b10
    go_wp2_with fail
    refine (S3.out _).mono ?_
    rintro e w11 ⟨rfl, b11⟩
    have B11 := Lib.hid (B10.out.trans (b11.mono B10.out.size))
    have NX := Lib.hid (next_any w11 (L79.out.below B11.out))
    have FS := Lib.hid (lg_first_of (Y9.out.below B11.out) (HL9.out.below B11.out) rfl LG9.out)
    have Y11 := Lib.hid (Y9.out.below B11.out)
    clear S3 b11
    go_wp2_with fail
    refine NX.out.mono ?_
    rintro e w11' ⟨rfl, rfl⟩
    go_wp2_with fail
    refine FS.out.mono ?_
    rintro e w12 ⟨rfl, b12⟩
    have Y12 := Lib.hid (Y11.out.below b12)
    have AW := Lib.hid (awake_any w12 Y12.out.tabs Y12.out.size)
    clear FS NX b12
    go_wp2_with fail
    refine AW.out.mono ?_
    rintro e w13 ⟨rfl, b13⟩
    go_wp2
    go_ret
    exact ⟨rfl, B1.out.trans ((X7.out.bel.trans ((Y12.out.below b13).bel.mono X7.out.size)).mono B1.out.size)⟩
end Go.Proofs.YtpafialojcidnaaGreatDoor
