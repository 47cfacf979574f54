/- Entities are sorted, and found. Written by wip/tools/genlawp.py. -/
import Derived.Test.YtookmjdnmmfkfaaPcAwake
import Derived.Test.YtookmjdnmmfkfaaPcSorted
import Derived.Test.YtookmjdnmmfkfaaPcCode8
import Derived.Test.YtookmjdnmmfkfaaPzRef7
namespace Go.Proofs.Ytookmjdnmmfkfaa
open Go.RowKit Pz
set_option linter.unusedVariables false

/-- the entities of one's own row get other masks -/
theorem own_mask {W : World} {B : Nat} {A : Option Addr} {c : Nat} {l : List Bn} (h : OwnB W B (.slice A l.length c) l) {k : Nat} (hk : k < l.length) (v : Int) :
    ∃ g o, A = some ⟨g, o, none⟩ ∧ (∃ u, W.cell? ⟨g, o + k * 11 + 3, none⟩ = some u) ∧ W.frozen? ⟨g, o + k * 11 + 3, none⟩ = false ∧ Hid ((∃ l2 : List Bn, l2.length = l.length ∧ OwnB (W.setCell ⟨g, o + k * 11 + 3, none⟩ (.int .i64 v)) B (.slice A l2.length c) l2) ∧ Below B W (W.setCell ⟨g, o + k * 11 + 3, none⟩ (.int .i64 v))) := by
  obtain ⟨g, o, rfl, hB, hc, hf⟩ := own_at h (List.getElem?_eq_getElem hk)
  refine ⟨g, o, rfl, ⟨_, hc.2.2.2.1⟩, hf.2.2.2.1, Lib.hid ⟨?_, (Below.refl _ _).setCell (p := ⟨g, _, none⟩) hB _⟩⟩
  rcases h with ⟨e, _⟩ | ⟨g', o', cap, cur, e, h1, h2, h3, h4, h5, h6⟩
  · cases e
  · cases e
    refine ⟨l.set k { l[k] with m := v }, by rw [List.length_set], .inr ⟨g, o, c, cur.setIfInBounds (o + k * 11 + 3) (.int .i64 v), rfl, h1, Bx.set h2 _, by rw [List.length_set]; exact h3, h4, by simpa using h5, fun j y hj c2 u hu => ?_⟩⟩
    have hc2 : c2 < 11 := (List.getElem?_eq_some_iff.1 hu).1
    have hkc : k * 11 + 11 ≤ c * 11 := by
      have := Nat.mul_le_mul_right 11 (show k + 1 ≤ c by omega)
      omega
    by_cases hjk : j = k
    · subst hjk
      rw [List.getElem?_set_self hk] at hj
      have hy := (Option.some.inj hj).symm
      subst hy
      have h7 : ∀ (c2 : Nat) (u : Value), (bnE l[j])[c2]? = some u → cur[o + (j * 11 + c2)]? = some u := fun c2 u hu => h6 j l[j] (List.getElem?_eq_getElem hk) c2 u hu
      by_cases h3c : c2 = 3
      · subst h3c
        have e2 : o + j * 11 + 3 = o + (j * 11 + 3) := by omega
        rw [e2, Array.getElem?_setIfInBounds_self_of_lt (by omega)]
        simpa [bnE] using hu
      · rw [Array.getElem?_setIfInBounds_ne (by omega)]
        refine h7 c2 u ?_
        have : c2 = 0 ∨ c2 = 1 ∨ c2 = 2 ∨ c2 = 4 ∨ c2 = 5 ∨ c2 = 6 ∨ c2 = 7 ∨ c2 = 8 ∨ c2 = 9 ∨ c2 = 10 := by omega
        rcases this with rfl | rfl | rfl | rfl | rfl | rfl | rfl | rfl | rfl | rfl <;> exact hu
    · rw [List.getElem?_set_ne (fun e => hjk e.symm)] at hj
      have h7 := h6 j y hj c2 u hu
      rw [Array.getElem?_setIfInBounds_ne (by omega)]
      exact h7
set_option maxHeartbeats 16000000 in
set_option maxRecDepth 100000 in
theorem law_sorts (w : World) (A : Option Addr) (cap : Nat) (l : List Bn) (hl : l.length ≤ 140737488351232) (R : RdB w w.heap.size A l) (s i g : Int) : Calls Try.prog 7 #[.slice A l.length cap, .agg #[.int .i64 s, .int .i64 i, .int .i64 g]] w fun e w' => e = .returned (.bool true) ∧ Below w.heap.size w w' := by
  have T0 := at1 w (.cells #[.int .i64 s, .int .i64 i, .int .i64 g] 23)
  have BE := bel1 w (.cells #[.int .i64 s, .int .i64 i, .int .i64 g] 23)
  have CE : Hid (∀ W, Below (w.alloc (.cells #[.int .i64 s, .int .i64 i, .int .i64 g] 23)).heap.size (w.alloc (.cells #[.int .i64 s, .int .i64 i, .int .i64 g] 23)) W → ((W.cell? ⟨w.heap.size, 0, none⟩ = some (.int .i64 s) ∧ W.cell? ⟨w.heap.size, 1, none⟩ = some (.int .i64 i) ∧ W.cell? ⟨w.heap.size, 2, none⟩ = some (.int .i64 g))) ∧ Below w.heap.size w W) := Lib.hid fun W hW => ⟨(Bx.b3 ((hW.block _ (Bx.lt T0)).trans T0)).1, BE.trans (hW.mono BE.size)⟩
  have HB := Lib.hid (Below.refl (w.alloc (.cells #[.int .i64 s, .int .i64 i, .int .i64 g] 23)).heap.size (w.alloc (.cells #[.int .i64 s, .int .i64 i, .int .i64 g] 23)))
  have RW : Hid (∀ W, Below (w.alloc (.cells #[.int .i64 s, .int .i64 i, .int .i64 g] 23)).heap.size (w.alloc (.cells #[.int .i64 s, .int .i64 i, .int .i64 g] 23)) W → RdB W w.heap.size A l) := Lib.hid fun W hW => R.below (BE.trans (hW.mono BE.size))
  clear T0 BE
  have AW : Hid (∀ W, Calls Try.prog 16 #[] W fun e w' => e = .returned (.bool true) ∧ Below W.heap.size W w') := Lib.hid fun W => awake_any W
  by_cases h300 : l.length > 300
  · have t1 : (l.length : Int) > 300 := by omega
    generalize l.length = n at *
    go_enter Try.func7, Try.ntmps7
    go_upto_region 1 with fail
    generalize w.alloc (.cells #[.int .i64 s, .int .i64 i, .int .i64 g] 23) = w1 at *
    go_wp2_with (go_at_call 16; with_reducible refine (AW.out _).mono ?_; rintro e w2 ⟨rfl, hb2⟩; replace HB := Lib.hid (HB.out.trans (hb2.mono HB.out.size)))
    go_ret
    exact ⟨rfl, (CE.out _ HB.out).2⟩
  · have t1 : ¬ (l.length : Int) > 300 := by omega
    have hG : (sortL l).length = l.length := by have := sortP_len l l.length (Nat.le_refl _); rwa [sortP_all] at this
    have RL : Hid (∀ W, Below (w.alloc (.cells #[.int .i64 s, .int .i64 i, .int .i64 g] 23)).heap.size (w.alloc (.cells #[.int .i64 s, .int .i64 i, .int .i64 g] 23)) W → RdB W W.heap.size A l) := Lib.hid fun W hW => (RW.out W hW).more ((CE.out W hW).2.size)
    have FL : Hid (∀ W, Below (w.alloc (.cells #[.int .i64 s, .int .i64 i, .int .i64 g] 23)).heap.size (w.alloc (.cells #[.int .i64 s, .int .i64 i, .int .i64 g] 23)) W → Calls Try.prog 28 #[.slice A l.length cap, .agg #[.int .i64 s, .int .i64 i, .int .i64 g]] W fun e w' => e = .returned (.tuple #[.int .i64 (findAt l (s, i, g) : Int), .bool (foundAt l (s, i, g))]) ∧ Below W.heap.size W w') := Lib.hid fun W hW => find_any (RL.out W hW) hl s i g
    have FR : Hid (∀ W, Below (w.alloc (.cells #[.int .i64 s, .int .i64 i, .int .i64 g] 23)).heap.size (w.alloc (.cells #[.int .i64 s, .int .i64 i, .int .i64 g] 23)) W → Calls Try.prog 29 #[.slice A l.length cap, .agg #[.int .i64 s, .int .i64 i, .int .i64 g]] W fun e w' => e = .returned (.tuple #[.int .i64 (findAt l (s, i, g) : Int), .bool (foundAt l (s, i, g))]) ∧ Below W.heap.size W w') := Lib.hid fun W hW => rfind_any (RL.out W hW) hl s i g
    have GL : Hid (∀ (W : World) (A2 : Option Addr) (c2 : Nat), RdB W W.heap.size A2 (sortL l) → Calls Try.prog 28 #[.slice A2 l.length c2, .agg #[.int .i64 s, .int .i64 i, .int .i64 g]] W fun e w' => e = .returned (.tuple #[.int .i64 (findAt (sortL l) (s, i, g) : Int), .bool (foundAt (sortL l) (s, i, g))]) ∧ Below W.heap.size W w') := Lib.hid fun W A2 c2 hR => by
      have := find_any (cap := c2) hR (by omega) s i g
      rwa [hG] at this
    have GR : Hid (∀ (W : World) (A2 : Option Addr) (c2 : Nat), RdB W W.heap.size A2 (sortL l) → Calls Try.prog 29 #[.slice A2 l.length c2, .agg #[.int .i64 s, .int .i64 i, .int .i64 g]] W fun e w' => e = .returned (.tuple #[.int .i64 (findAt (sortL l) (s, i, g) : Int), .bool (foundAt (sortL l) (s, i, g))]) ∧ Below W.heap.size W w') := Lib.hid fun W A2 c2 hR => by
      have := rfind_any (cap := c2) hR (by omega) s i g
      rwa [hG] at this
    have SO : Hid (∀ (W : World) (A2 : Option Addr) (c2 : Nat), RdB W W.heap.size A2 l → Calls Try.prog 26 #[.slice A2 l.length c2] W fun e w' => (∃ A' c', e = .returned (.slice A' l.length c') ∧ OwnB w' W.heap.size (.slice A' l.length c') (sortL l)) ∧ Below W.heap.size W w') := Lib.hid fun W A2 c2 hR => sorted_any hR (by omega)
    have SR : Hid (∀ (W : World) (A2 : Option Addr) (c2 : Nat), RdB W W.heap.size A2 l → Calls Try.prog 27 #[.slice A2 l.length c2] W fun e w' => (∃ A' c', e = .returned (.slice A' l.length c') ∧ OwnB w' W.heap.size (.slice A' l.length c') (sortL l)) ∧ Below W.heap.size W w') := Lib.hid fun W A2 c2 hR => rsorted_any hR (by omega)
    have SM : Hid (∀ (W : World) (A1 A2 : Option Addr) (c1 c2 : Nat), RdB W W.heap.size A1 l → RdB W W.heap.size A2 l → Calls Try.prog 30 #[.slice A1 l.length c1, .slice A2 l.length c2] W fun e w' => e = .returned (.bool true) ∧ Below W.heap.size W w') := Lib.hid fun W A1 A2 c1 c2 h1 h2 => rsame_yes h1 h2 hl
    have SG : Hid (∀ (W : World) (A1 A2 : Option Addr) (c1 c2 : Nat), RdB W W.heap.size A1 (sortL l) → RdB W W.heap.size A2 (sortL l) → Calls Try.prog 30 #[.slice A1 l.length c1, .slice A2 l.length c2] W fun e w' => e = .returned (.bool true) ∧ Below W.heap.size W w') := Lib.hid fun W A1 A2 c1 c2 h1 h2 => by
      have := rsame_yes (c1 := c1) (c2 := c2) h1 h2 (by omega)
      rwa [hG] at this
    have OG : Hid (∀ (W : World) (B : Nat) (A2 : Option Addr) (c2 : Nat), OwnB W B (.slice A2 l.length c2) (sortL l) → RdB W W.heap.size A2 (sortL l)) := Lib.hid fun W B A2 c2 h => by
      rw [← hG] at h
      exact RdB.of_own h
    have OL : Hid (∀ (W : World) (B : Nat) (A2 : Option Addr) (c2 : Nat), OwnB W B (.slice A2 l.length c2) l → RdB W W.heap.size A2 l) := Lib.hid fun W B A2 c2 h => RdB.of_own h
    have AP : Hid (∀ W, Below (w.alloc (.cells #[.int .i64 s, .int .i64 i, .int .i64 g] 23)).heap.size (w.alloc (.cells #[.int .i64 s, .int .i64 i, .int .i64 g] 23)) W → ∃ A' c' w', (Builtin.append_ #[44, 44] 44 #[.slice (some ⟨W.heap.size, 0, none⟩) 0 0, .slice A l.length cap]).run Try.prog (W.alloc (.cells #[] 25)) = .ok (.slice A' l.length c') w' ∧ OwnB w' W.heap.size (.slice A' l.length c') l ∧ Below W.heap.size W w') := Lib.hid fun W hW => app_bn W (RL.out W hW) (by omega) _
    have GN : Hid ((sortL l).length = l.length) := Lib.hid hG
    clear RW R hG
    generalize findAt (sortL l) (s, i, g) = fi at *
    generalize foundAt (sortL l) (s, i, g) = fb at *
    generalize findAt l (s, i, g) = gi at *
    generalize foundAt l (s, i, g) = gb at *
    generalize sortL l = G at *
    generalize l.length = n at *
    go_enter Try.func7, Try.ntmps7
    go_upto_region 1 with fail
    generalize w.alloc (.cells #[.int .i64 s, .int .i64 i, .int .i64 g] 23) = w1 at *
    go_upto_region 3 with fail
    obtain ⟨A2, c2, w2, hr, ho2, hb2⟩ := AP.out w1 HB.out
    replace HB := Lib.hid (HB.out.trans (hb2.mono HB.out.size))
    have B12 := HB
    have HR := Lib.hid hr
    have HO := Lib.hid (OL.out _ _ _ _ ho2)
    clear hr ho2 hb2 AP
    go_upto_region 4 with (at_builtin; refine wpList_append _ rfl (.tmp 21) (.tmp 22) _ _ rfl _ _ rfl rfl _ _ HR.out ?_; clear HR)
    have C1 := Lib.hid (SO.out w2 A2 c2 HO.out)
    go_upto_region 5 with (go_at_call 26; with_reducible refine (C1.out).mono ?_; rintro e w3 ⟨⟨A3, c3, rfl, ho3⟩, hb⟩; have HS := Lib.hid ho3; replace HB := Lib.hid (HB.out.trans (hb.mono HB.out.size)); have HB2 := Lib.hid hb; clear C1 ho3 hb SO)
    have C1 := Lib.hid (SR.out w3 A cap (RL.out w3 HB.out))
    go_upto_region 6 with (go_at_call 27; with_reducible refine (C1.out).mono ?_; rintro e w4 ⟨⟨A4, c4, rfl, ho4⟩, hb⟩; have HW := Lib.hid (OG.out _ _ _ _ ho4); replace HB := Lib.hid (HB.out.trans (hb.mono HB.out.size)); replace HB2 := Lib.hid (HB2.out.trans (hb.mono HB2.out.size)); replace HS := Lib.hid (HS.out.below hb); clear C1 ho4 hb SR)
    obtain ⟨⟨k0, k1, k2⟩, FB⟩ := CE.out w4 HB.out
    clear FB
    have C1 := Lib.hid (GL.out w4 A3 c3 (OG.out _ _ _ _ HS.out))
    go_upto_region 7 with (go_at_call 28; with_reducible refine (C1.out).mono ?_; rintro e w5 ⟨rfl, hb⟩; replace HW := Lib.hid ((HW.out.below hb).more hb.size); replace HB := Lib.hid (HB.out.trans (hb.mono HB.out.size)); replace HB2 := Lib.hid (HB2.out.trans (hb.mono HB2.out.size)); replace HS := Lib.hid (HS.out.below hb); clear C1 hb GL k0 k1 k2)
    obtain ⟨⟨k0, k1, k2⟩, FB⟩ := CE.out w5 HB.out
    clear FB
    have C1 := Lib.hid (GR.out w5 A4 c4 HW.out)
    go_upto_region 8 with (go_at_call 29; with_reducible refine (C1.out).mono ?_; rintro e w6 ⟨rfl, hb⟩; replace HW := Lib.hid ((HW.out.below hb).more hb.size); replace HB := Lib.hid (HB.out.trans (hb.mono HB.out.size)); replace HB2 := Lib.hid (HB2.out.trans (hb.mono HB2.out.size)); replace HS := Lib.hid (HS.out.below hb); clear C1 hb GR k0 k1 k2)
    obtain ⟨⟨k0, k1, k2⟩, FB⟩ := CE.out w6 HB.out
    clear FB
    have C1 := Lib.hid (FL.out w6 HB.out)
    go_upto_region 9 with (go_at_call 28; with_reducible refine (C1.out).mono ?_; rintro e w7 ⟨rfl, hb⟩; replace HW := Lib.hid ((HW.out.below hb).more hb.size); replace HB := Lib.hid (HB.out.trans (hb.mono HB.out.size)); replace HB2 := Lib.hid (HB2.out.trans (hb.mono HB2.out.size)); replace HS := Lib.hid (HS.out.below hb); clear C1 hb FL k0 k1 k2)
    obtain ⟨⟨k0, k1, k2⟩, FB⟩ := CE.out w7 HB.out
    clear FB
    have C1 := Lib.hid (FR.out w7 HB.out)
    go_upto_region 10 with (go_at_call 29; with_reducible refine (C1.out).mono ?_; rintro e w8 ⟨rfl, hb⟩; replace HW := Lib.hid ((HW.out.below hb).more hb.size); replace HB := Lib.hid (HB.out.trans (hb.mono HB.out.size)); replace HB2 := Lib.hid (HB2.out.trans (hb.mono HB2.out.size)); replace HS := Lib.hid (HS.out.below hb); clear C1 hb FR k0 k1 k2)
    have OW : Hid (∀ W, Below w2.heap.size w2 W → RdB W W.heap.size A2 l) := Lib.hid fun W hW => (HO.out.below hW).more hW.size
    have S1 : Hid (∀ W, Below w8.heap.size w8 W → Calls Try.prog 30 #[.slice A3 n c3, .slice A4 n c4] W fun e w' => e = .returned (.bool true) ∧ Below W.heap.size W w') := Lib.hid fun W hW => SG.out W A3 A4 c3 c4 (((OG.out _ _ _ _ HS.out).below hW).more hW.size) ((HW.out.below hW).more hW.size)
    have S2 : Hid (∀ W, Below w2.heap.size w2 W → Below w1.heap.size w1 W → Calls Try.prog 30 #[.slice A2 n c2, .slice A n cap] W fun e w' => e = .returned (.bool true) ∧ Below W.heap.size W w') := Lib.hid fun W h1 h2 => SM.out W A2 A c2 cap (OW.out W h1) (RL.out W h2)
    have B8 := Lib.hid (Below.refl w8.heap.size w8)
    have C1 := Lib.hid (S1.out w8 B8.out)
    have z1 : ((fi : Int) != (fi : Int)) = false := by simp
    have z2 : ((gi : Int) != (gi : Int)) = false := by simp
    have z3 : (fb != fb) = false := by cases fb <;> rfl
    have z4 : (gb != gb) = false := by cases gb <;> rfl
    clear SG SM OG OL HW RL HO
    go_upto_region 12 with (first
      | (go_at_call 30; with_reducible refine (C2.out).mono ?_; rintro e w10 ⟨rfl, hb⟩; replace HB := Lib.hid (HB.out.trans (hb.mono HB.out.size)); replace HB2 := Lib.hid (HB2.out.trans (hb.mono HB2.out.size)); replace HS := Lib.hid (HS.out.below hb); clear C2 hb)
      | (go_at_call 30; with_reducible refine (C1.out).mono ?_; rintro e w9 ⟨rfl, hb⟩; replace HB := Lib.hid (HB.out.trans (hb.mono HB.out.size)); replace HB2 := Lib.hid (HB2.out.trans (hb.mono HB2.out.size)); replace HS := Lib.hid (HS.out.below hb); have C2 := Lib.hid (S2.out w9 HB2.out HB.out); clear C1 hb))
    have S3 : Hid (∀ W, Below w2.heap.size w2 W → Calls Try.prog 30 #[.slice A2 n c2, .slice A n cap] W fun e w' => e = .returned (.bool true) ∧ Below W.heap.size W w') := Lib.hid fun W h1 => S2.out W h1 (B12.out.trans (h1.mono B12.out.size))
    have FIN : Hid (∀ W, Below w2.heap.size w2 W → Below w.heap.size w W) := Lib.hid fun W h1 => (CE.out W (B12.out.trans (h1.mono B12.out.size))).2
    have G0 := GN.out
    clear S1 S2 OW B8 CE HB B12 z1 z2 z3 z4
    go_wp2
    go_loopw [16] (fun mx wr => ∃ (m : Nat) (l2 : List Bn), mx = .int .i64 m ∧ m ≤ n ∧ l2.length = n ∧ Hid (OwnB wr w2.heap.size (.slice A3 n c3) l2) ∧ Hid (Below w2.heap.size w2 wr)) (fun mx _ => n - (intOf mx).toNat)
    case atStart => exact ⟨0, G, rfl, Nat.zero_le _, G0, HS, HB2⟩
    case round =>
      clear HS HB2 G0 GN
      obtain ⟨m, l2, rfl, hm, hl2, HS, HB2⟩ := hrel
      by_cases hmn : m < n
      · have t2 : (m : Int) < (n : Int) := by omega
        have ho := HS.out
        rw [← hl2] at ho
        obtain ⟨gg, oo, rfl, ⟨u, hu⟩, hf, HX⟩ := own_mask ho (k := m) (by omega) (-1)
        have HX2 : Hid (∃ l3 : List Bn, l3.length = n ∧ OwnB (wr.setCell ⟨gg, oo + m * 11 + 3, none⟩ (.int .i64 (-1))) w2.heap.size (.slice (some ⟨gg, oo, none⟩) n c3) l3) := Lib.hid (by
          obtain ⟨⟨l3, q1, q2⟩, _⟩ := HX.out
          rw [q1, hl2] at q2
          exact ⟨l3, q1.trans hl2, q2⟩)
        have HB3 : Hid (Below w2.heap.size w2 (wr.setCell ⟨gg, oo + m * 11 + 3, none⟩ (.int .i64 (-1)))) := Lib.hid (HB2.out.trans (HX.out.2))
        clear ho HX HS HB2 hl2
        go_wp2
        go_roundw
        case rel =>
          obtain ⟨l3, q1, q2⟩ := HX2.out
          exact ⟨m + 1, l3, by go_num, by omega, q1, Lib.hid q2, HB3⟩
        case measure => simp [intOf]; omega
      · have t2 : ¬ (m : Int) < (n : Int) := by omega
        have C3 := Lib.hid (S3.out wr HB2.out)
        clear HS S3
        go_wp2_with (first
          | (go_at_call 30; with_reducible refine (C3.out).mono ?_; rintro e w10 ⟨rfl, hb⟩; replace HB2 := Lib.hid (HB2.out.trans (hb.mono HB2.out.size)); clear hb C3)
          | (go_at_call 16; with_reducible refine (AW.out _).mono ?_; rintro e w11 ⟨rfl, hb⟩; replace HB2 := Lib.hid (HB2.out.trans (hb.mono HB2.out.size)); clear hb))
        refine ⟨rfl, .bool true, ?_, rfl, FIN.out _ HB2.out⟩
        simp [results, Try.results7, go_sem]
end Go.Proofs.Ytookmjdnmmfkfaa
