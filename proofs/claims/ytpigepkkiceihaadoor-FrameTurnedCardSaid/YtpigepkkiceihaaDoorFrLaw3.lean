/- The law FrameTurned, walked. -/
import Derived.Test.YtpigepkkiceihaaDoorFrTurn
namespace Go.Proofs.YtpigepkkiceihaaDoor
open Go.RowKit
set_option linter.unusedVariables false

theorem act {s b : List UInt8} {k j : Nat} (hj : j < (Fr.bits s.length k b).length) (hk : 3 + k + j < s.length + 7) : ∃ v m : UInt8, (Fr.turn s k ((Fr.bits s.length k b).take j))[3 + k + j]? = some v ∧ b[j]? = some m ∧
    Fr.turn s k ((Fr.bits s.length k b).take (j + 1)) = (Fr.turn s k ((Fr.bits s.length k b).take j)).set (3 + k + j) (v ^^^ m) ∧ someB ((Fr.bits s.length k b).take (j + 1)) = (someB ((Fr.bits s.length k b).take j) || m != 0) := by
  have hl := Fr.frame_len s
  have hv : (Fr.frame s)[3 + k + j]? = some ((Fr.frame s)[3 + k + j]'(by omega)) := List.getElem?_eq_getElem (by omega)
  have hb := bits_at s.length k b j hj
  rw [List.getElem?_eq_getElem hj] at hb
  exact ⟨_, (Fr.bits s.length k b)[j], by rw [turn_at s k _ j hk, hv], hb.symm, turn_next s k _ j hj hk _ hv, someB_next _ j hj⟩
theorem box_at {x y z u m : UInt8} {j : Nat} (h : [x, y, z, u][j]? = some m) : (#[Value.int .u8 (x.toNat : Int), .int .u8 (y.toNat : Int), .int .u8 (z.toNat : Int), .int .u8 (u.toNat : Int)])[j]? = some (.int .u8 (m.toNat : Int)) := by
  match j, h with
  | 0, h => simp at h; subst h; rfl
  | 1, h => simp at h; subst h; rfl
  | 2, h => simp at h; subst h; rfl
  | 3, h => simp at h; subst h; rfl
  | n + 4, h => simp at h
theorem xor_u8 (v m : UInt8) : bits .xor .u8 (v.toNat : Int) (m.toNat : Int) = ((v ^^^ m).toNat : Int) := by
  have h := u8_xor_nat v.toNat m.toNat (Fr.byte_lt v) (Fr.byte_lt m)
  rw [h, UInt8.toNat_xor]
theorem not_nought (m : UInt8) : ((m.toNat : Int) != 0) = (m != 0) := by
  by_cases h : m = 0
  · subst h; rfl
  · have h1 : m.toNat ≠ 0 := fun e => h (UInt8.toNat_inj.1 (by rw [e]; rfl))
    have h2 : (m != 0) = true := by simpa using h
    rw [h2]
    simp
    omega

set_option maxHeartbeats 1000000 in
set_option maxRecDepth 100000 in
theorem turned_long (w : World) (hg : Good w) (s : List UInt8) (hs : s.length ≤ 140737488351232) (a : Int) (x y z u : UInt8) (hb : 65536 < s.length) :
    Calls Tryd.prog 8 #[.string ⟨s.toArray⟩, .int .i64 a, .agg #[.int .u8 (x.toNat : Int), .int .u8 (y.toNat : Int), .int .u8 (z.toNat : Int), .int .u8 (u.toNat : Int)]] w fun e w' => e = .returned (.bool true) ∧ Below w.heap.size w w' := by
  have b0 := bel1 w (.cells #[.int .u8 (x.toNat : Int), .int .u8 (y.toNat : Int), .int .u8 (z.toNat : Int), .int .u8 (u.toNat : Int)] 44)
  have G0 := hg.below b0 (Nat.le_refl _)
  by_cases hbb : 100000 < s.length
  · have hb' : (100000 : Int) < (s.length : Int) := by omega
    go_enter Tryd.func8, Tryd.ntmps8
    go_wp2_with fail
    refine (awake_hid.out _ G0).mono ?_
    rintro e w2 ⟨rfl, b2⟩
    go_wp2
    go_ret
    exact ⟨rfl, b0.trans (b2.mono b0.size)⟩
  · have hb' : decide ((100000 : Int) < (s.length : Int)) = false := by simp; omega
    have M := Lib.hid (fun W => frame_big s W hs hb)
    go_enter Tryd.func8, Tryd.ntmps8
    go_wp2_with fail
    refine (M.out _).mono ?_
    rintro e w1 ⟨rfl, h1⟩
    have b1 := b0.trans (h1.mono b0.size)
    have G1 : Good w1 := hg.below b1 (Nat.le_refl _)
    go_wp2_with fail
    refine (awake_hid.out _ G1).mono ?_
    rintro e w2 ⟨rfl, b2⟩
    go_wp2
    go_ret
    exact ⟨rfl, b1.trans (b2.mono b1.size)⟩

set_option maxHeartbeats 4000000 in
set_option maxRecDepth 100000 in
theorem turned_short (w : World) (hg : Good w) (s : List UInt8) (a : Int) (ha : -9223372036854775808 ≤ a ∧ a ≤ 9223372036854775807) (x y z u : UInt8) (hb : s.length ≤ 65536) :
    Calls Tryd.prog 8 #[.string ⟨s.toArray⟩, .int .i64 a, .agg #[.int .u8 (x.toNat : Int), .int .u8 (y.toNat : Int), .int .u8 (z.toNat : Int), .int .u8 (u.toNat : Int)]] w fun e w' => e = .returned (.bool true) ∧ Below w.heap.size w w' := by
  have b0 := bel1 w (.cells #[.int .u8 (x.toNat : Int), .int .u8 (y.toNat : Int), .int .u8 (z.toNat : Int), .int .u8 (u.toNat : Int)] 44)
  have G0 := hg.below b0 (Nat.le_refl _)
  have P0 := Lib.hid (at1 w (.cells #[.int .u8 (x.toNat : Int), .int .u8 (y.toNat : Int), .int .u8 (z.toNat : Int), .int .u8 (u.toNat : Int)] 44))
  have hb' : decide ((100000 : Int) < (s.length : Int)) = false := by simp; omega
  have M := Lib.hid (fun W (hW : Good W) => frame_small s W hb hW)
  have hfl := Fr.frame_len s
  obtain ⟨f, hf⟩ : ∃ f, f = Fr.frame s := ⟨_, rfl⟩
  rw [← hf] at M hfl
  have HF := Lib.hid hf
  have hlen : ((f.length : Int) != (s.length : Int) + 7) = false := by simp; omega
  obtain ⟨tx, k, t1, t2, hk, hx1, hx2⟩ := at_is a s.length (by omega)
  have n0 : ((s.length : Int) + 4) ≠ 0 := by omega
  have v1 : IntKind.i64.wrap (tx + s.length) = tx + s.length := IntWalk.i64_in _ ⟨by omega, by omega⟩
  have v2 : IntKind.i64.wrap (tx + s.length + 4) = tx + s.length + 4 := IntWalk.i64_in _ ⟨by omega, by omega⟩
  have v3 : IntKind.i64.wrap ((s.length : Int) + 4) = s.length + 4 := IntWalk.i64_in _ ⟨by omega, by omega⟩
  have v4 : IntKind.i64.wrap tx = tx := IntWalk.i64_in _ ⟨by omega, by omega⟩
  have v5 : IntKind.i64.wrap (k : Int) = k := IntWalk.i64_in _ ⟨by omega, by omega⟩
  clear hf
  go_enter Tryd.func8, Tryd.ntmps8
  go_wp2_with fail
  refine (M.out _ G0).mono ?_
  rintro e w2 ⟨rfl, h2⟩
  obtain ⟨zz, cap, w3, hconv, hrow, h3⟩ := bytes_new w2 f
  have b2 := b0.trans (h2.mono b0.size)
  have b3 := b2.trans (h3.mono b2.size)
  have P3 := Lib.hid (((h3.block w.heap.size (by have := h2.size; rw [size1] at this; omega)).trans (h2.block w.heap.size (by rw [size1]; omega))).trans P0.out)
  have R3 := Lib.hid hrow
  have B3 := Lib.hid b3
  have hgs : w.heap.size < w2.heap.size := by have := h2.size; rw [size1] at this; omega
  clear b0 P0 G0 h2 h3 b2 b3 hrow
  go_wp2
  have HBL := Lib.hid (bits_len s.length k [x, y, z, u] rfl hk)
  have HTR := Lib.hid (turned_reads s k [x, y, z, u] rfl hk hb)
  go_loopw [11, 12] (fun t i wr => ∃ j : Nat, j ≤ 4 ∧ i = .int .i64 j ∧ t = .bool (someB ((Fr.bits s.length k [x, y, z, u]).take j)) ∧ Hid (RowAt wr w2.heap.size (Fr.turn s k ((Fr.bits s.length k [x, y, z, u]).take j)) zz) ∧ Hid (wr.heap[w.heap.size]? = some (.cells #[.int .u8 (x.toNat : Int), .int .u8 (y.toNat : Int), .int .u8 (z.toNat : Int), .int .u8 (u.toNat : Int)] 44 (0, 0))) ∧ Hid (Below w.heap.size w wr)) (fun _ i _ => 4 - (intOf i).toNat)
  case atStart => exact ⟨0, Nat.zero_le _, rfl, rfl, Lib.hid (by rw [List.take_zero, turn_zero, ← HF.out]; exact R3.out), P3, B3⟩
  case round =>
    obtain ⟨j, hj, rfl, rfl, hR, hP, hB⟩ := hrel
    clear P3 R3 B3 hconv M
    by_cases h4 : j < 4
    · have h4' : (j : Int) < 4 := by omega
      by_cases h0 : j = 0
      · have hz : ((j : Int) == 0) = true := by simp; omega
        have hact : j < (Fr.bits s.length k [x, y, z, u]).length := by have := HBL.out.1; omega
        have hkj : k + j < s.length + 4 := by omega
        clear h0
        obtain ⟨v, m, hv, hm, hT, hS⟩ := act (b := [x, y, z, u]) (s := s) (k := k) (j := j) hact (by omega)
        have hml := box_at hm
        have R := hR.out
        have hgl := R.lt
        have hpl : w.heap.size < wr.heap.size := by omega
        have kv := R.cell _ v hv
        have km : wr.cell? ⟨w.heap.size, j, none⟩ = some (.int .u8 (m.toNat : Int)) := (Lib.cell_of_heap hP.out j).trans hml
        have hx := xor_u8 v m
        have hq := not_nought m
        have q1 : IntKind.i64.wrap (3 + (k : Int)) = 3 + k := IntWalk.i64_in _ ⟨by omega, by omega⟩
        have q2 : IntKind.i64.wrap (3 + (k : Int) + j) = 3 + k + j := IntWalk.i64_in _ ⟨by omega, by omega⟩
        have q3 : 3 + (k : Int) + j < (s.length : Int) + 7 := by omega
        have q4 : 0 ≤ 3 + (k : Int) + j := by omega
        have q5 : (3 + (k : Int) + j).toNat = 3 + k + j := by omega
        have q6 : IntKind.i64.wrap ((k : Int) + j) = k + j := IntWalk.i64_in _ ⟨by omega, by omega⟩
        have HT := Lib.hid hT
        have HS := Lib.hid hS
        have HV := Lib.hid hv
        have hll : 3 + k + j < (Fr.turn s k ((Fr.bits s.length k [x, y, z, u]).take j)).length := by rw [turn_len]; omega
        have HLL := Lib.hid hll
        have HQ := Lib.hid hq
        clear hT hS hv hm hml R hll hq
        generalize hr : v ^^^ m = r at *
        generalize hqq : (m != 0) = q at *
        clear hr hqq
        go_wp2
        refine Og.grow 12 (by kernel_rfl) (by kernel_rfl) fun hc hf => ?_
        simp only [List.take_succ_cons, List.take_zero, List.drop_succ_cons, List.drop_zero]
        iterate 12 (refine Og.det [] rfl (fun K hK => ?_); go_simp; refine hK _ _ ?_; clear hK K)
        refine Og.fin fun W hW => ?_
        simp only [Og.opened_nil]
        clear hc hf
        have RW : RowAt W w2.heap.size _ zz := (hW.block _ hgl).trans hR.out
        have PW := (hW.block _ hpl).trans hP.out
        have BW := hB.out.trans (hW.mono hB.out.size)
        have kv' := RW.cell _ v HV.out
        have fz' := RW.frozen _ HLL.out
        have R2 := RW.set _ HLL.out r
        rw [← HT.out] at R2
        have P2 := (Below.heap_setCell W ⟨w2.heap.size, 3 + k + j, none⟩ (.int .u8 (r.toNat : Int)) w.heap.size (by show w.heap.size ≠ w2.heap.size; omega)).trans PW
        have B2 := BW.setCell (p := ⟨w2.heap.size, 3 + k + j, none⟩) (by show w.heap.size ≤ w2.heap.size; omega) (.int .u8 (r.toNat : Int))
        have km2 : (W.setCell ⟨w2.heap.size, 3 + k + j, none⟩ (.int .u8 (r.toNat : Int))).cell? ⟨w.heap.size, j, none⟩ = some (.int .u8 (m.toNat : Int)) := by
          rw [Lib.cell_of_heap P2 j, ← Lib.cell_of_heap hP.out j]
          exact km
        have R2' := Lib.hid R2
        have P2' := Lib.hid P2
        have B2' := Lib.hid B2
        have HQ' := HQ.out
        clear hR hP hB RW PW BW R2 P2 B2 kv km
        generalize someB ((Fr.bits s.length k [x, y, z, u]).take j) = T at *
        cases T
        · have hTS : someB ((Fr.bits s.length k [x, y, z, u]).take (j + 1)) = q := by rw [HS.out]; rfl
          have HTS := Lib.hid hTS
          clear hTS
          go_wp2
          go_roundw
          case rel => exact ⟨j + 1, by omega, by go_num, by rw [HTS.out], R2', P2', B2'⟩
          case measure => simp [intOf]; omega
        · have hTS : someB ((Fr.bits s.length k [x, y, z, u]).take (j + 1)) = true := by rw [HS.out]; rfl
          have HTS := Lib.hid hTS
          clear hTS
          go_wp2
          go_roundw
          case rel => exact ⟨j + 1, by omega, by go_num, by rw [HTS.out], R2', P2', B2'⟩
          case measure => simp [intOf]; omega
      · have hz : ((j : Int) == 0) = false := by simp; omega
        by_cases hkn : k < s.length
        · have hkn' : (k : Int) < (s.length : Int) := by omega
          have hii := HBL.out.2.2.2.2 j h4 (.inr hkn)
          by_cases hkk : k + j < s.length
          · have hact : j < (Fr.bits s.length k [x, y, z, u]).length := hii.2 (.inr hkk)
            have hkk' : (k : Int) + j < (s.length : Int) := by omega
            have hkj : k + j < s.length + 4 := by omega
            clear hii h0
            obtain ⟨v, m, hv, hm, hT, hS⟩ := act (b := [x, y, z, u]) (s := s) (k := k) (j := j) hact (by omega)
            have hml := box_at hm
            have R := hR.out
            have hgl := R.lt
            have hpl : w.heap.size < wr.heap.size := by omega
            have kv := R.cell _ v hv
            have km : wr.cell? ⟨w.heap.size, j, none⟩ = some (.int .u8 (m.toNat : Int)) := (Lib.cell_of_heap hP.out j).trans hml
            have hx := xor_u8 v m
            have hq := not_nought m
            have q1 : IntKind.i64.wrap (3 + (k : Int)) = 3 + k := IntWalk.i64_in _ ⟨by omega, by omega⟩
            have q2 : IntKind.i64.wrap (3 + (k : Int) + j) = 3 + k + j := IntWalk.i64_in _ ⟨by omega, by omega⟩
            have q3 : 3 + (k : Int) + j < (s.length : Int) + 7 := by omega
            have q4 : 0 ≤ 3 + (k : Int) + j := by omega
            have q5 : (3 + (k : Int) + j).toNat = 3 + k + j := by omega
            have q6 : IntKind.i64.wrap ((k : Int) + j) = k + j := IntWalk.i64_in _ ⟨by omega, by omega⟩
            have HT := Lib.hid hT
            have HS := Lib.hid hS
            have HV := Lib.hid hv
            have hll : 3 + k + j < (Fr.turn s k ((Fr.bits s.length k [x, y, z, u]).take j)).length := by rw [turn_len]; omega
            have HLL := Lib.hid hll
            have HQ := Lib.hid hq
            clear hT hS hv hm hml R hll hq
            generalize hr : v ^^^ m = r at *
            generalize hqq : (m != 0) = q at *
            clear hr hqq
            go_wp2
            refine Og.grow 12 (by kernel_rfl) (by kernel_rfl) fun hc hf => ?_
            simp only [List.take_succ_cons, List.take_zero, List.drop_succ_cons, List.drop_zero]
            iterate 12 (refine Og.det [] rfl (fun K hK => ?_); go_simp; refine hK _ _ ?_; clear hK K)
            refine Og.fin fun W hW => ?_
            simp only [Og.opened_nil]
            clear hc hf
            have RW : RowAt W w2.heap.size _ zz := (hW.block _ hgl).trans hR.out
            have PW := (hW.block _ hpl).trans hP.out
            have BW := hB.out.trans (hW.mono hB.out.size)
            have kv' := RW.cell _ v HV.out
            have fz' := RW.frozen _ HLL.out
            have R2 := RW.set _ HLL.out r
            rw [← HT.out] at R2
            have P2 := (Below.heap_setCell W ⟨w2.heap.size, 3 + k + j, none⟩ (.int .u8 (r.toNat : Int)) w.heap.size (by show w.heap.size ≠ w2.heap.size; omega)).trans PW
            have B2 := BW.setCell (p := ⟨w2.heap.size, 3 + k + j, none⟩) (by show w.heap.size ≤ w2.heap.size; omega) (.int .u8 (r.toNat : Int))
            have km2 : (W.setCell ⟨w2.heap.size, 3 + k + j, none⟩ (.int .u8 (r.toNat : Int))).cell? ⟨w.heap.size, j, none⟩ = some (.int .u8 (m.toNat : Int)) := by
              rw [Lib.cell_of_heap P2 j, ← Lib.cell_of_heap hP.out j]
              exact km
            have R2' := Lib.hid R2
            have P2' := Lib.hid P2
            have B2' := Lib.hid B2
            have HQ' := HQ.out
            clear hR hP hB RW PW BW R2 P2 B2 kv km
            generalize someB ((Fr.bits s.length k [x, y, z, u]).take j) = T at *
            cases T
            · have hTS : someB ((Fr.bits s.length k [x, y, z, u]).take (j + 1)) = q := by rw [HS.out]; rfl
              have HTS := Lib.hid hTS
              clear hTS
              go_wp2
              go_roundw
              case rel => exact ⟨j + 1, by omega, by go_num, by rw [HTS.out], R2', P2', B2'⟩
              case measure => simp [intOf]; omega
            · have hTS : someB ((Fr.bits s.length k [x, y, z, u]).take (j + 1)) = true := by rw [HS.out]; rfl
              have HTS := Lib.hid hTS
              clear hTS
              go_wp2
              go_roundw
              case rel => exact ⟨j + 1, by omega, by go_num, by rw [HTS.out], R2', P2', B2'⟩
              case measure => simp [intOf]; omega
          · have hkk' : decide ((k : Int) + j < (s.length : Int)) = false := by simp; omega
            have hkk2 : decide (k + j < s.length) = false := by simp; omega
            have q6 : IntKind.i64.wrap ((k : Int) + j) = k + j := IntWalk.i64_in _ ⟨by omega, by omega⟩
            have hnl : (Fr.bits s.length k [x, y, z, u]).length ≤ j := by
              have : ¬ j < (Fr.bits s.length k [x, y, z, u]).length := fun h => by rcases hii.1 h with h' | h' <;> omega
              omega
            have e1 : (Fr.bits s.length k [x, y, z, u]).take (j + 1) = (Fr.bits s.length k [x, y, z, u]).take j := by rw [List.take_of_length_le (by omega), List.take_of_length_le hnl]
            have HE := Lib.hid e1
            clear e1 hii h0 hnl
            go_wp2
            go_roundw
            case rel => exact ⟨j + 1, by omega, by go_num, by rw [HE.out], by rw [HE.out]; exact hR, hP, hB⟩
            case measure => simp [intOf]; omega
        · have hkn' : decide ((k : Int) < (s.length : Int)) = false := by simp; omega
          have hkn2 : decide (k < s.length) = false := by simp; omega
          have hbs : (Fr.bits s.length k [x, y, z, u]).take j = Fr.bits s.length k [x, y, z, u] := List.take_of_length_le (by have := HBL.out.2.2.2.1 (by omega); omega)
          rw [hbs] at hR ⊢
          have hconv := hR.out.string (cap := cap) (turn_len s k _)
          have FF := Lib.hid (first_any (Fr.turn s k (Fr.bits s.length k [x, y, z, u])) 0 wr (by rw [turn_len]; omega) (hg.below hB.out (Nat.le_refl _)))
          have hB' := hB.out
          have htr := HTR.out
          clear hR hP hB HTR hbs HBL
          generalize Fr.turn s k (Fr.bits s.length k [x, y, z, u]) = L at *
          generalize someB (Fr.bits s.length k [x, y, z, u]) = T at *
          cases T
          · rw [htr.2 rfl] at FF
            have hss : (s == s) = true := by simp
            clear htr
            go_wp2_with fail
            refine FF.out.mono ?_
            rintro e w4 ⟨rfl, h4⟩
            have b4 := hB'.trans (h4.mono hB'.size)
            have G4 := hg.below b4 (Nat.le_refl _)
            go_wp2_with fail
            refine (awake_hid.out _ G4).mono ?_
            rintro e w5 ⟨rfl, b5⟩
            go_wp2
            go_ret
            exact ⟨rfl, b4.trans (b5.mono b4.size)⟩
          · rw [htr.1 rfl] at FF
            have hss : (([] : List UInt8) == []) = true := rfl
            clear htr
            go_wp2_with fail
            refine FF.out.mono ?_
            rintro e w4 ⟨rfl, h4⟩
            have b4 := hB'.trans (h4.mono hB'.size)
            have G4 := hg.below b4 (Nat.le_refl _)
            go_wp2_with fail
            refine (awake_hid.out _ G4).mono ?_
            rintro e w5 ⟨rfl, b5⟩
            go_wp2
            go_ret
            exact ⟨rfl, b4.trans (b5.mono b4.size)⟩
    · obtain rfl : j = 4 := by omega
      have hbs : (Fr.bits s.length k [x, y, z, u]).take 4 = Fr.bits s.length k [x, y, z, u] := List.take_of_length_le (by exact HBL.out.2.1)
      rw [hbs] at hR ⊢
      have hconv := hR.out.string (cap := cap) (turn_len s k _)
      have FF := Lib.hid (first_any (Fr.turn s k (Fr.bits s.length k [x, y, z, u])) 0 wr (by rw [turn_len]; omega) (hg.below hB.out (Nat.le_refl _)))
      have hB' := hB.out
      have htr := HTR.out
      clear hR hP hB HTR hbs HBL
      generalize Fr.turn s k (Fr.bits s.length k [x, y, z, u]) = L at *
      generalize someB (Fr.bits s.length k [x, y, z, u]) = T at *
      cases T
      · rw [htr.2 rfl] at FF
        have hss : (s == s) = true := by simp
        clear htr
        go_wp2_with fail
        refine FF.out.mono ?_
        rintro e w4 ⟨rfl, h4⟩
        have b4 := hB'.trans (h4.mono hB'.size)
        have G4 := hg.below b4 (Nat.le_refl _)
        go_wp2_with fail
        refine (awake_hid.out _ G4).mono ?_
        rintro e w5 ⟨rfl, b5⟩
        go_wp2
        go_ret
        exact ⟨rfl, b4.trans (b5.mono b4.size)⟩
      · rw [htr.1 rfl] at FF
        have hss : (([] : List UInt8) == []) = true := rfl
        clear htr
        go_wp2_with fail
        refine FF.out.mono ?_
        rintro e w4 ⟨rfl, h4⟩
        have b4 := hB'.trans (h4.mono hB'.size)
        have G4 := hg.below b4 (Nat.le_refl _)
        go_wp2_with fail
        refine (awake_hid.out _ G4).mono ?_
        rintro e w5 ⟨rfl, b5⟩
        go_wp2
        go_ret
        exact ⟨rfl, b4.trans (b5.mono b4.size)⟩

theorem law_turned (w : World) (hg : Good w) (s : List UInt8) (hs : s.length ≤ 140737488351232) (a : Int) (ha : -9223372036854775808 ≤ a ∧ a ≤ 9223372036854775807) (x y z u : UInt8) (_ : True) :
    Calls Tryd.prog 8 #[.string ⟨s.toArray⟩, .int .i64 a, .agg #[.int .u8 (x.toNat : Int), .int .u8 (y.toNat : Int), .int .u8 (z.toNat : Int), .int .u8 (u.toNat : Int)]] w fun e w' => e = .returned (.bool true) ∧ Below w.heap.size w w' := by
  by_cases hb : 65536 < s.length
  · exact turned_long w hg s hs a x y z u hb
  · exact turned_short w hg s a ha x y z u (by omega)
end Go.Proofs.YtpigepkkiceihaaDoor
