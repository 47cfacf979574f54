/- DiskRoom: what it makes. -/
import Derived.Test.YtklgiocihknebaaDkLaw4
import Derived.Test.YtklgiocihknebaaDkLawR
import Derived.Deep.OwnRows
namespace Go.Proofs.Ytklgiocihknebaa
open Go.RowKit Go.Maps Dk
set_option linter.unusedVariables false
theorem zeros_made (k : Nat) (hk : k ≤ 4194304) (W : World) : (Instr.makeSlice 59 (.int .i64 (k : Int)) (.int .i64 (k : Int))).run Try.prog W = .ok (.slice (some ⟨W.heap.size, 0, none⟩) k k) (W.alloc (.cells (madeCells #[.int .u8 0] k) 5)) :=
  run_make_row' 59 5 (.int .u8 0) 1 Try.underlying59 info8 rfl .i64 .i64 k (by omega) (by omega) W
theorem zeros_at (k j : Nat) (hj : j < k) : (madeCells #[.int .u8 0] k)[j]? = some (.int .u8 0) := by
  unfold madeCells
  rw [Array.getElem?_map, Array.getElem?_range, if_pos hj]
  simp [Nat.mod_one]
theorem zeros_string (k : Nat) (W : World) (b : Nat) (hb : W.heap[b]? = some (.cells (madeCells #[.int .u8 0] k) 5 (0, 0))) : (convert 59 9 (.slice (some ⟨b, 0, none⟩) k k)).run Try.prog W = .ok (.string ⟨(List.replicate k (0 : UInt8)).toArray⟩) W := by
  have h := run_convert_bytes_back (P := Try.prog) W 59 9 5 ⟨b, 0, none⟩ k (List.replicate k (0 : UInt8)) Try.underlying59 Try.underlying5 Try.underlying9 (fun j hj => by
    rw [List.length_replicate] at hj
    rw [Go.WideShapes.add_plain]
    have := cellAt hb (0 + j)
    rw [Nat.zero_add, zeros_at k j hj] at this
    rw [Nat.zero_add, this]
    simp)
  rw [List.length_replicate] at h
  exact h
theorem digits (j : Nat) (hj : j < 64) : ∃ ds : Str, nmR j = [110] ++ ds ∧ ∀ W : World, (convert 59 9 (.slice (some ⟨W.heap.size, 0, none⟩) 2 2)).run Try.prog (W.alloc (.cells #[.int .u8 (48 + (j : Int) / 10), .int .u8 (48 + (j : Int) % 10)] 5)) = .ok (.string ⟨ds.toArray⟩) (W.alloc (.cells #[.int .u8 (48 + (j : Int) / 10), .int .u8 (48 + (j : Int) % 10)] 5)) := by
  refine ⟨[UInt8.ofNat (48 + j / 10), UInt8.ofNat (48 + j % 10)], rfl, fun W => ?_⟩
  have hb := heap_alloc_new W (.cells #[.int .u8 (48 + (j : Int) / 10), .int .u8 (48 + (j : Int) % 10)] 5)
  have u1 : (48 : Int) + (j : Int) / 10 = ((UInt8.ofNat (48 + j / 10)).toNat : Int) := by rw [UInt8.toNat_ofNat']; omega
  have u2 : (48 : Int) + (j : Int) % 10 = ((UInt8.ofNat (48 + j % 10)).toNat : Int) := by rw [UInt8.toNat_ofNat']; omega
  exact run_convert_bytes_back (P := Try.prog) _ 59 9 5 ⟨W.heap.size, 0, none⟩ 2 [UInt8.ofNat (48 + j / 10), UInt8.ofNat (48 + j % 10)] Try.underlying59 Try.underlying5 Try.underlying9 (fun i hi => by
    rw [Go.WideShapes.add_plain]
    have h2 := cellAt hb (0 + i)
    match i, hi with
    | 0, _ => exact h2.trans (by rw [u1]; rfl)
    | 1, _ => exact h2.trans (by rw [u2]; rfl))
/-- n, turned into a length -/
theorem room_len (n : Int) : ∃ k : Nat, (wrap64 (n.tmod 4194304 + 4194304)).tmod 4194304 = (k : Int) ∧ k < 4194304 := by
  have h1 : -4194304 < n.tmod 4194304 := by
    have := Int.lt_tmod_of_pos n (b := 4194304) (by decide)
    omega
  have h2 : n.tmod 4194304 < 4194304 := Int.tmod_lt_of_pos n (by decide)
  have h3 : wrap64 (n.tmod 4194304 + 4194304) = n.tmod 4194304 + 4194304 := by
    rw [← IntWalk.i64_left]
    exact IntWalk.i64_in _ ⟨by omega, by omega⟩
  rw [h3, Int.tmod_eq_emod_of_nonneg (by omega)]
  exact ⟨((n.tmod 4194304 + 4194304) % 4194304).toNat, by omega, by omega⟩

set_option maxHeartbeats 4000000 in
set_option maxRecDepth 100000 in
theorem law_room (w : World) (n : Int) (hn : -9223372036854775808 ≤ n ∧ n ≤ 9223372036854775807) (s : Str) (hs : s.length ≤ 140737488351232) :
    Calls Try.prog 9 #[.int .i64 n, .string ⟨s.toArray⟩] w fun e w' => e = .returned (.bool true) ∧ Below w.heap.size w w' := by
  have N := Lib.hid (new_at w w rfl)
  obtain ⟨k, hk, hlt⟩ := room_len n
  have Z := zeros_made k (by omega)
  obtain ⟨zs, hzl, hzs⟩ : ∃ zs : Str, zs.length = k ∧ ∀ (W : World) (b : Nat), W.heap[b]? = some (.cells (madeCells #[.int .u8 0] k) 5 (0, 0)) → (convert 59 9 (.slice (some ⟨b, 0, none⟩) k k)).run Try.prog W = .ok (.string ⟨zs.toArray⟩) W :=
    ⟨List.replicate k 0, List.length_replicate, fun W b h => zeros_string k W b h⟩
  have HZ := Lib.hid hzs
  have E1 : Hid (Dk.append Dk.new [102] zs = (Dk.one ⟨[102], [], zs⟩, 0)) := Lib.hid (append_one bad_f (by omega))
  clear hzs
  by_cases hbig : 4194304 < s.length
  · have hbig' : (s.length : Int) > 4194304 := by omega
    clear hbig
    generalize Dk.one ⟨[102], [], zs⟩ = K1 at *
    go_enter Try.func9, Try.ntmps9
    go_wp2_with (first
      | (go_at_call 12; refine N.out.mono ?_; rintro e w2 ⟨d, rfl, H0⟩; have ZS := HZ.out _ _ (heap_alloc_new w2 _); replace H0 := H0.below ((Below.refl _ _).alloc (Nat.le_refl _) (.cells (madeCells #[.int .u8 0] k) 5)))
      | (go_at_call 21; refine (at_append H0 E1.out (by decide) (by omega)).mono ?_; rintro e w3 ⟨rfl, H1⟩)
      | (go_at_call 16; refine (awake_at H1).mono ?_; rintro e w8 ⟨rfl, HB4⟩))
    go_ret
    exact ⟨rfl, HB4.out⟩
  · have hbig' : ¬ (s.length : Int) > 4194304 := by omega
    obtain ⟨K2, cd, M, e2, e3, hrm, hM⟩ : ∃ (K2 : St) (cd M : Nat), Dk.append (Dk.one ⟨[102], [], zs⟩) [102] s = (K2, cd) ∧ Dk.size K2 [102] = (M, 0, 0) ∧ Rm 1 K2 ∧ ((k + s.length ≤ 4194304 ∧ cd = 0 ∧ k + s.length = M) ∨ (4194304 < k + s.length ∧ cd = 8 ∧ k = M)) := by
      by_cases hf : k + s.length ≤ 4194304
      · exact ⟨_, _, _, append_two (f := ⟨[102], [], zs⟩) bad_f (by simp [Fl.all]; omega), size_one (f := ⟨[102], [], zs ++ s⟩) bad_f, rm_first _ rfl, .inl ⟨hf, rfl, by simp [Fl.all]; omega⟩⟩
      · exact ⟨_, _, _, append_full (f := ⟨[102], [], zs⟩) bad_f (by simp [Fl.all]; omega), size_one (f := ⟨[102], [], zs⟩) bad_f, rm_first _ rfl, .inr ⟨by omega, rfl, by simp [Fl.all]; omega⟩⟩
    have E2 := Lib.hid e2
    have E3 := Lib.hid e3
    have RM := Lib.hid hrm
    clear hbig e2 e3 hrm
    generalize Dk.one ⟨[102], [], zs⟩ = K1 at *
    obtain ⟨hks, rfl, rfl⟩ | ⟨hks, rfl, rfl⟩ := hM
    · have hks' : (k : Int) + (s.length : Int) ≤ 4194304 := by omega
      clear hks
      go_enter Try.func9, Try.ntmps9
      go_wp2_with (first
        | (go_at_call 12; refine N.out.mono ?_; rintro e w2 ⟨d, rfl, H0⟩; have ZS := HZ.out _ _ (heap_alloc_new w2 _); replace H0 := H0.below ((Below.refl _ _).alloc (Nat.le_refl _) (.cells (madeCells #[.int .u8 0] k) 5)))
        | (go_at_call 21; refine (at_append H0 E1.out (by decide) (by omega)).mono ?_; rintro e w3 ⟨rfl, H1⟩; clear E1)
        | (go_at_call 21; refine (at_append H1 E2.out (by decide) hs).mono ?_; rintro e w4 ⟨rfl, H2⟩)
        | (go_at_call 19; refine (at_size H2 E3.out (by decide)).mono ?_; rintro e w5 ⟨rfl, H3⟩))
      go_loopw [12] (fun i wr => ∃ (j : Nat) (K : St), 1 ≤ j ∧ j ≤ 64 ∧ i = .int .i64 j ∧ Hid (Rm j K) ∧ At w w.heap.size d K wr) (fun i _ => 64 - (intOf i).toNat)
      case atStart => exact ⟨1, K2, by decide, by decide, rfl, RM, H3⟩
      case round =>
        obtain ⟨j, K, hj1, hj2, rfl, hrm, hr⟩ := hrel
        clear H0 H1 H2 H3 RM E2 E3 N HZ ZS
        by_cases hlt : j < 64
        · have hjl : (j : Int) < 64 := by omega
          obtain ⟨K', hap, hrm'⟩ := rm_step hrm.out hj1 hlt
          have EA := Lib.hid hap
          have RM := Lib.hid hrm'
          obtain ⟨ds, hds, CV⟩ := digits j hlt
          have SN := sum_two [110] ds (by rw [← List.length_append, ← hds]; simp [nmR])
          rw [← hds] at SN
          have SN' : ∀ W : World, (Op.stringOp .add ⟨#[110]⟩ ⟨ds.toArray⟩).run Try.prog W = .ok (.string ⟨(nmR j).toArray⟩) W := SN
          have hnl : (nmR j).length ≤ 140737488351232 := by simp [nmR]
          have HRA : Hid (At w w.heap.size d K (wr.alloc (.cells #[.int .u8 (48 + (j : Int) / 10), .int .u8 (48 + (j : Int) % 10)] 5))) := Lib.hid (hr.below ((Below.refl _ _).alloc (Nat.le_refl _) _))
          clear hap hrm' hds SN
          generalize nmR j = nm at *
          go_wp2_with (go_at_call 21; refine (at_append HRA.out EA.out hnl (by decide)).mono ?_; rintro e w6 ⟨rfl, H4⟩)
          go_roundw
          case rel => exact ⟨j + 1, K', by omega, by omega, by go_num, RM, H4⟩
          case measure => simp [intOf]; omega
        · obtain rfl : j = 64 := by omega
          have e1 := rm_last hrm.out
          obtain ⟨K3, K4, K5, e2, e3, e4, e5⟩ := rm_end hrm.out
          have F1 := Lib.hid e1
          have F2 : Hid (Dk.append K [110, 48, 49] [120] = (K3, 0)) := Lib.hid e2
          have F3 := Lib.hid e3
          have F4 : Hid (Dk.remove K3 [110, 48, 50] = (K4, 0)) := Lib.hid e4
          have F5 := Lib.hid e5
          clear e1 e2 e3 e4 e5 hrm
          go_wp2_with (first
            | (go_at_call 21; refine (at_append G4 F5.out (by decide) (by decide)).mono ?_; rintro e w11 ⟨rfl, G5⟩)
            | (go_at_call 29; refine (at_remove G3 F4.out (by decide)).mono ?_; rintro e w10 ⟨rfl, G4⟩)
            | (go_at_call 24; refine (at_files G2 F3.out).mono ?_; rintro e w9 ⟨⟨A, cc, rfl⟩, G3⟩)
            | (go_at_call 21; refine (at_append G1 F2.out (by decide) (by decide)).mono ?_; rintro e w8 ⟨rfl, G2⟩)
            | (go_at_call 21; refine (at_append hr F1.out (by decide) (by decide)).mono ?_; rintro e w7 ⟨rfl, G1⟩)
            | (go_at_call 16; refine (awake_at G5).mono ?_; rintro e w12 ⟨rfl, HB4⟩))
          go_ret
          exact ⟨rfl, HB4.out⟩
    · have hks' : ¬ (k : Int) + (s.length : Int) ≤ 4194304 := by omega
      clear hks
      go_enter Try.func9, Try.ntmps9
      go_wp2_with (first
        | (go_at_call 12; refine N.out.mono ?_; rintro e w2 ⟨d, rfl, H0⟩; have ZS := HZ.out _ _ (heap_alloc_new w2 _); replace H0 := H0.below ((Below.refl _ _).alloc (Nat.le_refl _) (.cells (madeCells #[.int .u8 0] k) 5)))
        | (go_at_call 21; refine (at_append H0 E1.out (by decide) (by omega)).mono ?_; rintro e w3 ⟨rfl, H1⟩; clear E1)
        | (go_at_call 21; refine (at_append H1 E2.out (by decide) hs).mono ?_; rintro e w4 ⟨rfl, H2⟩)
        | (go_at_call 19; refine (at_size H2 E3.out (by decide)).mono ?_; rintro e w5 ⟨rfl, H3⟩))
      go_loopw [12] (fun i wr => ∃ (j : Nat) (K : St), 1 ≤ j ∧ j ≤ 64 ∧ i = .int .i64 j ∧ Hid (Rm j K) ∧ At w w.heap.size d K wr) (fun i _ => 64 - (intOf i).toNat)
      case atStart => exact ⟨1, K2, by decide, by decide, rfl, RM, H3⟩
      case round =>
        obtain ⟨j, K, hj1, hj2, rfl, hrm, hr⟩ := hrel
        clear H0 H1 H2 H3 RM E2 E3 N HZ ZS
        by_cases hlt : j < 64
        · have hjl : (j : Int) < 64 := by omega
          obtain ⟨K', hap, hrm'⟩ := rm_step hrm.out hj1 hlt
          have EA := Lib.hid hap
          have RM := Lib.hid hrm'
          obtain ⟨ds, hds, CV⟩ := digits j hlt
          have SN := sum_two [110] ds (by rw [← List.length_append, ← hds]; simp [nmR])
          rw [← hds] at SN
          have SN' : ∀ W : World, (Op.stringOp .add ⟨#[110]⟩ ⟨ds.toArray⟩).run Try.prog W = .ok (.string ⟨(nmR j).toArray⟩) W := SN
          have hnl : (nmR j).length ≤ 140737488351232 := by simp [nmR]
          have HRA : Hid (At w w.heap.size d K (wr.alloc (.cells #[.int .u8 (48 + (j : Int) / 10), .int .u8 (48 + (j : Int) % 10)] 5))) := Lib.hid (hr.below ((Below.refl _ _).alloc (Nat.le_refl _) _))
          clear hap hrm' hds SN
          generalize nmR j = nm at *
          go_wp2_with (go_at_call 21; refine (at_append HRA.out EA.out hnl (by decide)).mono ?_; rintro e w6 ⟨rfl, H4⟩)
          go_roundw
          case rel => exact ⟨j + 1, K', by omega, by omega, by go_num, RM, H4⟩
          case measure => simp [intOf]; omega
        · obtain rfl : j = 64 := by omega
          have e1 := rm_last hrm.out
          obtain ⟨K3, K4, K5, e2, e3, e4, e5⟩ := rm_end hrm.out
          have F1 := Lib.hid e1
          have F2 : Hid (Dk.append K [110, 48, 49] [120] = (K3, 0)) := Lib.hid e2
          have F3 := Lib.hid e3
          have F4 : Hid (Dk.remove K3 [110, 48, 50] = (K4, 0)) := Lib.hid e4
          have F5 := Lib.hid e5
          clear e1 e2 e3 e4 e5 hrm
          go_wp2_with (first
            | (go_at_call 21; refine (at_append G4 F5.out (by decide) (by decide)).mono ?_; rintro e w11 ⟨rfl, G5⟩)
            | (go_at_call 29; refine (at_remove G3 F4.out (by decide)).mono ?_; rintro e w10 ⟨rfl, G4⟩)
            | (go_at_call 24; refine (at_files G2 F3.out).mono ?_; rintro e w9 ⟨⟨A, cc, rfl⟩, G3⟩)
            | (go_at_call 21; refine (at_append G1 F2.out (by decide) (by decide)).mono ?_; rintro e w8 ⟨rfl, G2⟩)
            | (go_at_call 21; refine (at_append hr F1.out (by decide) (by decide)).mono ?_; rintro e w7 ⟨rfl, G1⟩)
            | (go_at_call 16; refine (awake_at G5).mono ?_; rintro e w12 ⟨rfl, HB4⟩))
          go_ret
          exact ⟨rfl, HB4.out⟩
end Go.Proofs.Ytklgiocihknebaa
