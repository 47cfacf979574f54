/- The law IdsPlays, walked. -/
import Derived.Test.YtdanpdlbbgcidaaIdAlike
namespace Go.Proofs.Ytdanpdlbbgcidaa
open Go.RowKit Ids
set_option linter.unusedVariables false

/-- New of both -/
theorem du_new (w : World) {n m : Nat} (n1 : 1 ≤ n) (n2 : n ≤ 16) (m1 : 1 ≤ m) (m2 : m ≤ 16) :
    Calls Try.prog 9 #[.int .i64 (n : Int), .int .i64 (m : Int)] w fun e w1 => e = .returned (.tuple #[.pointer (some ⟨w.heap.size, 0, none⟩), .int .i64 0]) ∧
      Hid (Calls Try.prog 10 #[.int .i64 (n : Int), .int .i64 (m : Int)] w1 fun e w2 => e = .returned (.tuple #[.pointer (some ⟨w1.heap.size, 0, none⟩), .bool true]) ∧
        Hid (∃ hi p q, Du w w.heap.size w1.heap.size hi p q (new n m) (new n m) (fun _ => True) w2 ∧ q.put ≤ 256)) := by
  refine (new_yes w n1 n2 m1 m2).mono ?_
  rintro e w1 ⟨rfl, ⟨q1, N, ib, rb, cb, h1⟩, hb1⟩
  refine ⟨rfl, Lib.hid ((rnew_yes w1 n1 n2 m1 m2).mono ?_)⟩
  rintro e w2 ⟨rfl, ⟨q, h2, e1, e2, e3⟩, hb2⟩
  have hl1 := heap_lt h2.box
  obtain ⟨_, hs, _⟩ := h2.slots
  have hl2 := heap_lt hs
  exact ⟨rfl, Lib.hid ⟨w2.heap.size, _, q, ⟨h1.below hb2, h2, rfl, e1, hb1.trans (hb2.mono hb1.size), Nat.le_refl _, ⟨by rw [e1]; exact Nat.le_refl _, hl1⟩, ⟨e2, hl2⟩, Nat.le_refl _, trivial, kept_true _⟩, e3⟩⟩
set_option maxHeartbeats 16000000 in
set_option maxRecDepth 100000 in
theorem law_plays (w : World) (n : Int) (_ : -9223372036854775808 ≤ n ∧ n ≤ 9223372036854775807) (m : Int) (_ : -9223372036854775808 ≤ m ∧ m ≤ 9223372036854775807) (A : Option Addr) (cap : Nat) (l : List (Int × Int × Int × Int)) (hlc : l.length ≤ cap) (hcap : cap ≤ 140737488351232) (hf : ∀ x ∈ l, DFine x) (R : ReadsK w w.heap.size A 4 (l.map deedRow)) :
    Calls Try.prog 3 #[.int .i64 n, .int .i64 m, .slice A l.length cap] w fun e w' => e = .returned (.bool true) ∧ Below w.heap.size w w' := by
  by_cases hbad : n < 1 ∨ 16 < n ∨ m < 1 ∨ 16 < m
  · have N1 := Lib.hid (new_no w hbad)
    have N2 := Lib.hid (rnew_no w hbad)
    clear R hf hbad
    go_enter Try.func3, Try.ntmps3
    go_wp2_with (first
      | (go_at_call 9; refine N1.out.mono ?_; rintro e w' ⟨rfl, rfl⟩; clear N1)
      | (go_at_call 10; refine N2.out.mono ?_; rintro e w' ⟨rfl, rfl⟩; clear N2)
      | (go_at_call 11; refine (awake_any _).mono ?_; rintro e w2 ⟨rfl, hb2⟩; have HB := Lib.hid hb2; clear hb2))
    go_ret
    exact ⟨rfl, HB.out⟩
  · obtain ⟨n, rfl⟩ : ∃ k : Nat, n = (k : Int) := ⟨n.toNat, by omega⟩
    obtain ⟨m, rfl⟩ : ∃ k : Nat, m = (k : Int) := ⟨m.toNat, by omega⟩
    obtain ⟨d, hd⟩ : ∃ d, d = w.heap.size := ⟨_, rfl⟩
    have N0 := du_new w (n := n) (m := m) (by omega) (by omega) (by omega) (by omega)
    rw [← hd] at N0
    have N1 : Hid (Calls Try.prog 9 #[.int .i64 (n : Int), .int .i64 (m : Int)] w fun e w1 => e = .returned (.tuple #[.pointer (some ⟨d, 0, none⟩), .int .i64 0]) ∧
      Hid (Calls Try.prog 10 #[.int .i64 (n : Int), .int .i64 (m : Int)] w1 fun e w2 => e = .returned (.tuple #[.pointer (some ⟨w1.heap.size, 0, none⟩), .bool true]) ∧
        Hid (∃ hi p q, Du w d w1.heap.size hi p q (new n m) (new n m) (fun _ => True) w2 ∧ q.put ≤ 256))) := Lib.hid N0
    have FR0 := Lib.hid (Fr.new n m)
    generalize new n m = K0 at *
    clear hd hbad N0
    have CL : Hid (∀ W, Below w.heap.size w W → ∀ j (hj : j < l.length), ∃ b o, A = some ⟨b, o, none⟩ ∧ W.cell? ⟨b, o + j * 4, none⟩ = some (.int .i64 l[j].1) ∧ W.cell? ⟨b, o + j * 4 + 1, none⟩ = some (.int .i64 l[j].2.1) ∧ W.cell? ⟨b, o + j * 4 + 2, none⟩ = some (.int .i64 l[j].2.2.1) ∧ W.cell? ⟨b, o + j * 4 + 3, none⟩ = some (.int .i64 l[j].2.2.2)) := Lib.hid fun W hW j hj => by
      obtain ⟨b, o, e, _, hc⟩ := (R.below hW) (by rw [List.length_map]; omega)
      have hrow : (l.map deedRow)[j]? = some (deedRow l[j]) := by rw [List.getElem?_map, List.getElem?_eq_getElem hj]; rfl
      refine ⟨b, o, e, ?_, ?_, ?_, ?_⟩
      · exact hc j _ hrow 0 _ rfl
      · exact hc j _ hrow 1 _ rfl
      · exact hc j _ hrow 2 _ rfl
      · exact hc j _ hrow 3 _ rfl
    have hl0 : (l.length : Int) ≤ 140737488351232 := by omega
    clear R hf
    go_enter Try.func3, Try.ntmps3
    go_wp2_with (first
      | (go_at_call 9; refine N1.out.mono ?_; rintro e w1 ⟨rfl, N2⟩; clear N1)
      | (go_at_call 10; refine N2.out.mono ?_; rintro e w2 ⟨rfl, HD⟩; clear N2))
    obtain ⟨hi, p, q, hD, hq⟩ := HD.out
    have HD := Lib.hid hD
    have HQ := Lib.hid hq
    clear hD hq
    generalize w1.heap.size = r at *
    go_loopw [11] (fun i wr => ∃ (j : Nat) (K : St) (q : RPl), j ≤ l.length ∧ j ≤ 60 ∧ i = .int .i64 j ∧ Hid (Du w d r hi p q K K (fun _ => True) wr) ∧ Hid (Fr K ∧ q.put ≤ 256 + j)) (fun i _ => l.length - (intOf i).toNat)
    case atStart => exact ⟨0, K0, q, Nat.zero_le _, by omega, rfl, HD, Lib.hid ⟨FR0.out, HQ.out⟩⟩
    case round =>
      obtain ⟨j, K, q, hj, hj60, rfl, HDU, HF⟩ := hrel
      clear HD HQ FR0
      by_cases hjl : j < l.length
      · have t1 : (j : Int) < (l.length : Int) := by omega
        by_cases hj6 : j < 60
        · have t2 : (j : Int) < 60 := by omega
          obtain ⟨b, o, rfl, c0, c1, c2, c3⟩ := CL.out wr HDU.out.bel j hjl
          have CL2 : Hid (∀ W, Below w.heap.size w W → W.cell? ⟨b, o + j * 4, none⟩ = some (.int .i64 l[j].1) ∧ W.cell? ⟨b, o + j * 4 + 1, none⟩ = some (.int .i64 l[j].2.1) ∧ W.cell? ⟨b, o + j * 4 + 2, none⟩ = some (.int .i64 l[j].2.2.1) ∧ W.cell? ⟨b, o + j * 4 + 3, none⟩ = some (.int .i64 l[j].2.2.2)) := Lib.hid fun W hW => by
            obtain ⟨b', o', e, h1⟩ := CL.out W hW j hjl
            cases e
            exact h1
          have SX := Lib.hid (step_any HDU.out HF.out.1 (by have := HF.out.2; omega) l[j])
          have NF : Hid (∀ q' : RPl, q'.put ≤ q.put + 1 → Fr (deedK K l[j]) ∧ q'.put ≤ 256 + (j + 1)) := Lib.hid fun q' h => ⟨HF.out.1.deed _, by have := HF.out.2; omega⟩
          clear CL HDU HF
          generalize deedK K l[j] = K2 at *
          generalize l[j].1 = x0 at *
          generalize l[j].2.1 = x1 at *
          generalize l[j].2.2.1 = x2 at *
          generalize l[j].2.2.2 = x3 at *
          generalize l.length = len at *
          go_wp2_with (first
            | (go_at_call 12; refine SX.out.mono ?_; rintro e w5 ⟨rfl, q2, hD2, hq2⟩; have D2 := Lib.hid hD2; have Q2 := Lib.hid (NF.out q2 hq2); clear hD2 hq2 SX NF c0 c1 c2 c3; obtain ⟨c0, c1, c2, c3⟩ := CL2.out w5 D2.out.bel; have AX := alike_any D2.out.pa D2.out.ra x1 x2 x3; rw [D2.out.pd, D2.out.qd] at AX; replace AX := Lib.hid AX)
            | (go_at_call 13; refine AX.out.mono ?_; rintro e w6 ⟨rfl, hb6⟩; have D3 := Lib.hid (D2.out.below hb6); clear hb6 AX D2 CL2 c0 c1 c2 c3))
          go_roundw
          case rel => exact ⟨j + 1, K2, q2, by omega, by omega, by go_num, D3, Q2⟩
          case measure => simp [intOf]; omega
        · have t2 : ¬ (j : Int) < 60 := by omega
          clear CL HF
          go_wp2_with (go_at_call 11; refine (awake_any _).mono ?_; rintro e w2 ⟨rfl, hb2⟩; have HB := Lib.hid hb2; clear hb2)
          go_ret
          exact ⟨rfl, HDU.out.bel.trans (HB.out.mono HDU.out.bel.size)⟩
      · have t1 : ¬ (j : Int) < (l.length : Int) := by omega
        clear CL HF
        go_wp2_with (go_at_call 11; refine (awake_any _).mono ?_; rintro e w2 ⟨rfl, hb2⟩; have HB := Lib.hid hb2; clear hb2)
        go_ret
        exact ⟨rfl, HDU.out.bel.trans (HB.out.mono HDU.out.bel.size)⟩
end Go.Proofs.Ytdanpdlbbgcidaa
