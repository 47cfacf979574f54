/- The law SystemsFar, walked. Written by wip/tools/gensy.py. -/
import Derived.Test.YtfmbldjaknjgbaaKSyLaw6
import Derived.Test.YtfmbldjaknjgbaaKSyC
import Derived.Test.YtfmbldjaknjgbaaKSoA
import Derived.Test.YtfmbldjaknjgbaaKZn
namespace Go.Proofs.Ytfmbldjaknjgbaa
open Go.RowKit Pz Sp
set_option linter.unusedVariables false
set_option linter.unusedSimpArgs false

set_option maxHeartbeats 16000000 in
set_option maxRecDepth 100000 in
theorem law_far (K : SyCt) (w : World) (r0 : Int) (A1 : Option Addr) (c1 : Nat) (l1 : List Bn) (hc1 : l1.length ≤ c1) (hp1 : c1 ≤ 140737488351232) (F1 : ∀ x ∈ l1, Fit x.m) (R1 : RdB w w.heap.size A1 l1) (A2 : Option Addr) (c2 : Nat) (l2 : List Bn) (hc2 : l2.length ≤ c2) (hp2 : c2 ≤ 140737488351232) (F2 : ∀ x ∈ l2, Fit x.m) (R2 : RdB w w.heap.size A2 l2) :
    Calls Try.prog 10 #[.int .i64 r0, .slice A1 l1.length c1, .slice A2 l2.length c2] w fun e w' => e = .returned (.bool true) ∧ Below w.heap.size w w' := by
  have FW1 := Lib.hid (few_any R1 hc1 hp1)
  have FW2 := Lib.hid (few_any R2 hc2 hp2)
  obtain ⟨x, hx⟩ : ∃ x, x = l1.take 60 := ⟨_, rfl⟩
  obtain ⟨y, hy⟩ : ∃ y, y = l2.take 60 := ⟨_, rfl⟩
  have nx : x.length ≤ 60 := by rw [hx, List.length_take]; omega
  have ny : y.length ≤ 60 := by rw [hy, List.length_take]; omega
  have Rx : Hid (∀ W, Below w.heap.size w W → RdB W W.heap.size A1 x) := Lib.hid fun W hW => by rw [hx]; exact ((R1.take 60).below hW).more hW.size
  have Ry : Hid (∀ W, Below w.heap.size w W → RdB W W.heap.size A2 y) := Lib.hid fun W hW => by rw [hy]; exact ((R2.take 60).below hW).more hW.size
  have fx : Hid (∀ z ∈ x, Fit z.m) := Lib.hid fun z hz => F1 z (List.mem_of_mem_take (hx ▸ hz))
  have fy : Hid (∀ z ∈ y, Fit z.m) := Lib.hid fun z hz => F2 z (List.mem_of_mem_take (hy ▸ hz))
  rw [← hx] at FW1
  rw [← hy] at FW2
  clear hx hy R1 R2 F1 F2 hc1 hc2 hp1 hp2
  obtain ⟨r, hr0⟩ : ∃ r, (r0.tmod 1000 + 1000).tmod 1000 = r := ⟨_, rfl⟩
  have s0 : IntKind.i64.wrap (r0.tmod 1000 + 1000) = r0.tmod 1000 + 1000 := by
    have := mod_lo r0 (n := 1000) (by decide)
    exact IntWalk.i64_in _ ⟨by omega, by omega⟩
  have hr1 : r < 1000 := by
    rw [← hr0, mod_is r0 (n := 1000) (by decide)]
    omega
  have K0 := Lib.hid K
  have AW := Lib.hid K.awake
  clear K
  generalize l1.length = m1 at *
  generalize l2.length = m2 at *
  have B0 := Lib.hid (Below.refl w.heap.size w)
  go_enter Try.func10, Try.ntmps10
  go_upto_region 5 with (first
    | (go_at_call 11; refine FW1.out.mono ?_; rintro e w1 ⟨⟨d1, rfl, _, _⟩, rfl⟩; clear FW1)
    | (go_at_call 11; refine FW2.out.mono ?_; rintro e w2 ⟨⟨d2, rfl, _, _⟩, rfl⟩; clear FW2))
  clear s0 hr0
  go_loopw [7, 8] (fun v s wr => ∃ j : Nat, j ≤ y.length ∧ s = .int .i64 j ∧ Hid (OwnB wr w.heap.size v (Sy.fzs y j) ∧ Below w.heap.size w wr)) (fun _ s _ => y.length - (intOf s).toNat)
  case atStart => exact ⟨0, by omega, rfl, Lib.hid ⟨rw_nil _ _, Below.refl _ _⟩⟩
  case round =>
    obtain ⟨j, hj, rfl, HP⟩ := hrel
    by_cases hlt : j < y.length
    · have t1 : (j : Int) < (y.length : Int) := by omega
      have hxj := List.getElem?_eq_getElem hlt
      obtain ⟨g, o, hA, _, z0', z1', z2', z3', z4', z5', z6', z7', z8', z9', z10'⟩ := Ry.out wr HP.out.2 j _ hxj
      have FN := Sy.fzs_next hxj
      clear Rx fx fy K0 AW hxj
      clear Ry
      generalize y[j] = bj at *
      obtain ⟨qs, qi, qg, qm, qx, qy, qvx, qvy, qh, qp, ql⟩ := bj
      subst hA
      dsimp only at z0' z1' z2' z3' z4' z5' z6' z7' z8' z9' z10'
      rcases Nat.mod_two_eq_zero_or_one j with e | e
      · have tm : Int.tmod (j : Int) 2 = 0 := by rw [Int.tmod_eq_emod_of_nonneg (by omega)]; omega
        have FZ : Sy.fz j ⟨qs, qi, qg, qm, qx, qy, qvx, qvy, qh, qp, ql⟩ = ⟨qs, qi, qg, qm, 1073741824, (-1073741824), qvx, qvy, qh, qp, ql⟩ := by unfold Sy.fz; rw [if_pos e]
        rw [FZ] at FN
        have hb1 := at1 wr (.cells #[.int .i64 qs, .int .i64 qi, .int .i64 qg, .int .i64 qm, .int .i64 1073741824, .int .i64 (-1073741824), .int .i64 qvx, .int .i64 qvy, .int .i64 qh, .int .i64 qp, .int .i64 ql] 34)
        have hb2 := bel1 wr (.cells #[.int .i64 qs, .int .i64 qi, .int .i64 qg, .int .i64 qm, .int .i64 1073741824, .int .i64 (-1073741824), .int .i64 qvx, .int .i64 qvy, .int .i64 qh, .int .i64 qp, .int .i64 ql] 34)
        obtain ⟨_, f0, f1, f2, f3, f4, f5, f6, f7, f8, f9, f10⟩ := Bx.b11 (at1 wr (.cells #[.int .i64 qs, .int .i64 qi, .int .i64 qg, .int .i64 qm, .int .i64 qx, .int .i64 qy, .int .i64 qvx, .int .i64 qvy, .int .i64 qh, .int .i64 qp, .int .i64 ql] 34))
        obtain ⟨z0, z1, z2, z3, z4, z5, z6, z7, z8, z9, z10⟩ := (Bx.b11 (at1 wr (.cells #[.int .i64 qs, .int .i64 qi, .int .i64 qg, .int .i64 qm, .int .i64 qx, .int .i64 qy, .int .i64 qvx, .int .i64 qvy, .int .i64 qh, .int .i64 qp, .int .i64 ql] 34))).1
        clear FZ
        go_upto_region 12 with fail
        generalize (wr.alloc (.cells #[.int .i64 qs, .int .i64 qi, .int .i64 qg, .int .i64 qm, .int .i64 1073741824, .int .i64 (-1073741824), .int .i64 qvx, .int .i64 qvy, .int .i64 qh, .int .i64 qp, .int .i64 ql] 34)) = wq at *
        obtain ⟨k0, k1, k2, k3, k4, k5, k6, k7, k8, k9, k10⟩ := (Bx.b11 hb1).1
        obtain ⟨v', w', hr, ho, hbw⟩ := push_bn wq (HP.out.1.below hb2) (Nat.le_trans HP.out.2.size hb2.size) (by rw [Sy.fzs_len hj]; omega) ⟨qs, qi, qg, qm, 1073741824, (-1073741824), qvx, qvy, qh, qp, ql⟩ 22
        have HN : Hid (OwnB w' w.heap.size v' (Sy.fzs y (j + 1)) ∧ Below w.heap.size w w') := Lib.hid ⟨by rw [FN]; exact ho, (HP.out.2.trans (hb2.mono HP.out.2.size)).trans hbw⟩
        dsimp only at hr
        replace hr := Lib.hid hr
        clear ho hbw hb1 hb2 HP FN z0 z1 z2 z3 z4 z5 z6 z7 z8 z9 z10 f0 f1 f2 f3 f4 f5 f6 f7 f8 f9 f10
        go_wp2_with (at_builtin; refine wpList_append _ rfl (.tmp 38) (.tmp 40) _ _ rfl _ _ rfl rfl _ _ hr.out ?_)
        go_roundw
        case rel => exact ⟨j + 1, by omega, by go_num, HN⟩
        case measure => simp [intOf]; omega
      · have tm : Int.tmod (j : Int) 2 = 1 := by rw [Int.tmod_eq_emod_of_nonneg (by omega)]; omega
        have FZ : Sy.fz j ⟨qs, qi, qg, qm, qx, qy, qvx, qvy, qh, qp, ql⟩ = ⟨qs, qi, qg, (bits .andNot .i64 qm 8), qx, qy, qvx, qvy, qh, qp, ql⟩ := by unfold Sy.fz; rw [if_neg (by omega)]
        rw [FZ] at FN
        have hb1 := at1 wr (.cells #[.int .i64 qs, .int .i64 qi, .int .i64 qg, .int .i64 (bits .andNot .i64 qm 8), .int .i64 qx, .int .i64 qy, .int .i64 qvx, .int .i64 qvy, .int .i64 qh, .int .i64 qp, .int .i64 ql] 34)
        have hb2 := bel1 wr (.cells #[.int .i64 qs, .int .i64 qi, .int .i64 qg, .int .i64 (bits .andNot .i64 qm 8), .int .i64 qx, .int .i64 qy, .int .i64 qvx, .int .i64 qvy, .int .i64 qh, .int .i64 qp, .int .i64 ql] 34)
        obtain ⟨_, f0, f1, f2, f3, f4, f5, f6, f7, f8, f9, f10⟩ := Bx.b11 (at1 wr (.cells #[.int .i64 qs, .int .i64 qi, .int .i64 qg, .int .i64 qm, .int .i64 qx, .int .i64 qy, .int .i64 qvx, .int .i64 qvy, .int .i64 qh, .int .i64 qp, .int .i64 ql] 34))
        obtain ⟨z0, z1, z2, z3, z4, z5, z6, z7, z8, z9, z10⟩ := (Bx.b11 (at1 wr (.cells #[.int .i64 qs, .int .i64 qi, .int .i64 qg, .int .i64 qm, .int .i64 qx, .int .i64 qy, .int .i64 qvx, .int .i64 qvy, .int .i64 qh, .int .i64 qp, .int .i64 ql] 34))).1
        clear FZ
        go_upto_region 12 with fail
        generalize (wr.alloc (.cells #[.int .i64 qs, .int .i64 qi, .int .i64 qg, .int .i64 (bits .andNot .i64 qm 8), .int .i64 qx, .int .i64 qy, .int .i64 qvx, .int .i64 qvy, .int .i64 qh, .int .i64 qp, .int .i64 ql] 34)) = wq at *
        obtain ⟨k0, k1, k2, k3, k4, k5, k6, k7, k8, k9, k10⟩ := (Bx.b11 hb1).1
        obtain ⟨v', w', hr, ho, hbw⟩ := push_bn wq (HP.out.1.below hb2) (Nat.le_trans HP.out.2.size hb2.size) (by rw [Sy.fzs_len hj]; omega) ⟨qs, qi, qg, (bits .andNot .i64 qm 8), qx, qy, qvx, qvy, qh, qp, ql⟩ 22
        have HN : Hid (OwnB w' w.heap.size v' (Sy.fzs y (j + 1)) ∧ Below w.heap.size w w') := Lib.hid ⟨by rw [FN]; exact ho, (HP.out.2.trans (hb2.mono HP.out.2.size)).trans hbw⟩
        dsimp only at hr
        replace hr := Lib.hid hr
        clear ho hbw hb1 hb2 HP FN z0 z1 z2 z3 z4 z5 z6 z7 z8 z9 z10 f0 f1 f2 f3 f4 f5 f6 f7 f8 f9 f10
        go_wp2_with (at_builtin; refine wpList_append _ rfl (.tmp 38) (.tmp 40) _ _ rfl _ _ rfl rfl _ _ hr.out ?_)
        go_roundw
        case rel => exact ⟨j + 1, by omega, by go_num, HN⟩
        case measure => simp [intOf]; omega
    · obtain rfl : j = y.length := by omega
      have t1 : ¬ ((y.length : Int) < (y.length : Int)) := by omega
      obtain ⟨Af, cf, rfl⟩ := HP.out.1.form
      have HB := Lib.hid HP.out.2
      have RF := Lib.hid (RdB.of_own HP.out.1)
      have FL := Sy.fzs_len (Nat.le_refl y.length)
      have fF : ∀ z ∈ Sy.fzs y y.length, Fit z.m := fun z hz => by
        obtain ⟨j, c0, h0, rfl⟩ := Sy.fzs_mem hz
        exact Sy.fz_fit (fy.out c0 h0)
      have HE : Hid ((∀ b ∈ x, b.x ≤ 536870912) → Sy.hits r x (Sy.fzs y y.length) = Sy.hits r x []) := Lib.hid fun h => Sy.hits_fzs hr1 h
      have nf : (Sy.fzs y y.length).length ≤ 1000 := by omega
      generalize Sy.fzs y y.length = fr at *
      have HK1 := Lib.hid fun (W : World) (A A' : Option Addr) (c c' : Nat) (a : RdB W W.heap.size A x) (b : RdB W W.heap.size A' fr) => K0.out.hits W A A' c c' x fr r a b (by omega) nf fx.out fF
      have HK2 : Hid (∀ (W : World) (A : Option Addr) (c : Nat), RdB W W.heap.size A x → Calls Try.prog 13 #[.int .i64 r, .slice A x.length c, .slice none 0 0] W fun e V => ∃ A' c', e = .returned (.slice A' (Sy.hits r x []).length c') ∧ OwnH V W.heap.size (.slice A' (Sy.hits r x []).length c') (Sy.hits r x []) ∧ Below W.heap.size W V) := Lib.hid fun W A c a => K0.out.hits W A none c 0 x [] r a (fun j z hz => by simp at hz) (by omega) (Nat.zero_le _) fx.out (fun z hz => by cases hz)
      have hln : (Sy.hits r x []).length ≤ 1000 := by
        have := List.length_filterMap_le (Sy.hitOf r x []) (sortL Bn.id x)
        rw [sort_len] at this
        show (List.filterMap _ _).length ≤ _
        omega
      have SH := Lib.hid fun (W : World) (A A' : Option Addr) (c c' B B' : Nat) (a : OwnH W B (.slice A (Sy.hits r x []).length c) (Sy.hits r x [])) (b : OwnH W B' (.slice A' (Sy.hits r x []).length c') (Sy.hits r x [])) => rsameh_yes a b (by omega)
      clear HP K0 fx fy fF FL hr1 nf hln ny Ry hlt
      go_wp2
      go_loopw [10] (fun s ws => ∃ k : Nat, k ≤ x.length ∧ s = .int .i64 k ∧ Hid ((∀ b ∈ x.take k, b.x ≤ 536870912) ∧ wr = ws)) (fun s _ => x.length - (intOf s).toNat)
      case atStart => exact ⟨0, by omega, rfl, Lib.hid ⟨by simp, rfl⟩⟩
      case round =>
        obtain ⟨k, hk, rfl, HQ⟩ := hrel
        obtain ⟨hq, ew⟩ := HQ.out
        subst ew
        clear HQ
        by_cases hlt2 : k < x.length
        · have t2 : (k : Int) < (x.length : Int) := by omega
          obtain ⟨g, o, hA, _, z0, z1, z2, z3, z4, z5, z6, z7, z8, z9, z10⟩ := Rx.out wr HB.out k _ (List.getElem?_eq_getElem hlt2)
          have NQ : x[k].x ≤ 536870912 → Hid ((∀ b ∈ x.take (k + 1), b.x ≤ 536870912) ∧ True) := fun h => Lib.hid ⟨fun b hb => by
            rw [← List.take_append_getElem hlt2] at hb
            rcases List.mem_append.1 hb with h1 | h1
            · exact hq b h1
            · rw [List.mem_singleton.1 h1]; exact h, trivial⟩
          subst hA
          clear Rx RF HE HK1 HK2 SH hq
          generalize x[k] = bk at *
          by_cases hm : bk.x ≤ 536870912
          · have NX := NQ hm
            have hm2 : ¬ (536870912 : Int) < bk.x := by omega
            clear NQ AW
            go_wp2
            go_roundw
            case rel => exact ⟨k + 1, by omega, by go_num, Lib.hid ⟨NX.out.1, trivial⟩⟩
            case measure => simp [intOf]; omega
          · have hm2 : (536870912 : Int) < bk.x := by omega
            clear NQ
            go_wp2_with (go_at_call 16; refine (AW.out _).mono ?_; rintro e w9 ⟨rfl, b9⟩; clear AW)
            go_ret
            exact ⟨rfl, HB.out.trans (b9.mono HB.out.size)⟩
        · obtain rfl : k = x.length := by omega
          have t2 : ¬ ((x.length : Int) < (x.length : Int)) := by omega
          rw [List.take_length] at hq
          rw [HE.out hq] at HK1
          clear HE hq
          generalize Sy.hits r x [] = H at *
          generalize hnH : H.length = nH at *
          replace hnH := Lib.hid hnH
          go_wp2_with (first
            | (go_at_call 13; refine (HK1.out _ _ _ _ _ (Rx.out _ HB.out) RF.out).mono ?_; rintro e w3 ⟨H1, e1, rfl, o1, b1⟩; replace HB := Lib.hid (HB.out.trans (b1.mono HB.out.size)); replace o1 := Lib.hid o1; clear HK1 b1)
            | (go_at_call 13; refine (HK2.out _ _ _ (Rx.out _ HB.out)).mono ?_; rintro e w4 ⟨H2, e2, rfl, o2, b2⟩; replace o1 := Lib.hid (ownh_below o1.out b2); replace HB := Lib.hid (HB.out.trans (b2.mono HB.out.size)); replace o2 := Lib.hid o2; clear HK2 b2)
            | (go_at_call 12; refine (SH.out _ _ _ _ _ _ _ o1.out o2.out).mono ?_; rintro e w5 ⟨rfl, b3⟩; replace HB := Lib.hid (HB.out.trans (b3.mono HB.out.size)); clear SH b3 o1 o2)
            | (go_at_call 16; refine (AW.out _).mono ?_; rintro e w8 ⟨rfl, b6⟩; replace HB := Lib.hid (HB.out.trans (b6.mono HB.out.size)); clear AW b6))
          go_ret
          exact ⟨rfl, HB.out⟩
end Go.Proofs.Ytfmbldjaknjgbaa
