/- The law ArchYields, walked. Written by wip/tools/genyields.py. -/
import Derived.Test.YteohkbepefjjlaaKArOrdP
import Derived.Test.YteohkbepefjjlaaKArPlays
import Derived.Deep.RegionHeld3
namespace Go.Proofs.Yteohkbepefjjlaa
open Go.RowKit Pz Ar
set_option linter.unusedVariables false
set_option linter.unusedSimpArgs false

theorem ymod_lo (k : Int) {n : Int} (hn : 0 < n) : 0 ≤ k.tmod n + n ∧ k.tmod n + n < 2 * n := by
  have h2 := Int.tmod_lt_of_pos k hn
  have h1 : -n < k.tmod n := by
    have := Int.tmod_lt_of_pos (-k) hn
    rw [Int.neg_tmod] at this
    omega
  omega
theorem ymod_is (k : Int) {n : Int} (hn : 0 < n) : (k.tmod n + n).tmod n = k % n := by
  rw [Int.tmod_eq_emod_of_nonneg (ymod_lo k hn).1, Int.add_emod_right, Int.tmod_def, Int.sub_eq_add_neg, ← Int.mul_neg, Int.add_mul_emod_self_left]
namespace Ar
def flatTo (t : Tb) (j : Nat) : List Bn := ((tabs t).take j).flatMap fun y => t y.1
theorem flatTo_succ {t : Tb} {j m : Nat} {ks : List NK} (h : (tabs t)[j]? = some (m, ks)) : flatTo t (j + 1) = flatTo t j ++ t m := by
  unfold flatTo
  rw [List.take_add_one, h, List.flatMap_append]
  simp
theorem flatTo_all (t : Tb) : flatTo t (tabs t).length = all t := by
  unfold flatTo
  rw [List.take_length, tabs_flat]
theorem flatTo_len (t : Tb) (j : Nat) : (flatTo t j).length ≤ total t := rowsTo_le t j
end Ar
/-- one's own row, made since -/
theorem own_app {w W : World} {v : Value} {l : List Bn} (h0 : Below w.heap.size w W) (h5 : OwnB W w.heap.size v l) (x : Bn) (hn : l.length + 1 ≤ 1000000) (ty : TypeId) :
    ∃ A' c' w', (Builtin.append_ #[26, 26] ty #[v, .slice (some ⟨W.heap.size, 0, none⟩) 1 1]).run Try.prog (W.alloc (.cells (bnE x).toArray 35)) = .ok (.slice A' (l ++ [x]).length c') w' ∧ Below w.heap.size w w' ∧ OwnB w' w.heap.size (.slice A' (l ++ [x]).length c') (l ++ [x]) := by
  obtain ⟨v', w', hr, ho, hg, hv, hf⟩ := app_x (enc := bnE) (T := 35) (s := 11) (t := 26) Try.underlying26 bundle_info rfl (by decide) bnE_len bnE_one h5 h0.size x hn (by decide) ty
  obtain ⟨A', c', rfl⟩ := ho.form
  exact ⟨A', c', w', hr, below_row h0 hg h0.size hf, ho⟩
set_option maxHeartbeats 16000000 in
set_option maxRecDepth 100000 in
theorem law_yields (w : World) (A : Option Addr) (c : Nat) (l0 : List Dd) (hc : l0.length ≤ c) (hcap : c ≤ 140737488351232) (hF : ∀ x ∈ l0, Fit x.b.m) (R : RdD w w.heap.size A l0) (a : Int) :
    Calls Try.prog 7 #[.slice A l0.length c, .int .i64 a] w fun e w' => e = .returned (.bool true) ∧ Below w.heap.size w w' := by
  have MD := Lib.hid (made_any R hc hcap hF)
  have hl6 : (l0.take 60).length ≤ 60 := by rw [List.length_take]; omega
  have htot := deeds_few hl6
  obtain ⟨s, hs⟩ : ∃ s, s = w.heap.size := ⟨_, rfl⟩
  rw [← hs] at MD
  clear hs hc hcap hF R hl6
  generalize deeds (l0.take 60) = t at *
  generalize l0.length = n0 at *
  have AW := Lib.hid awake_any
  have q1 := ymod_lo a (n := 70) (by decide)
  have q2 := ymod_is a (n := 70) (by decide)
  obtain ⟨k, hk⟩ : ∃ k : Nat, a % 70 = (k : Int) := ⟨(a % 70).toNat, by omega⟩
  have hk70 : k < 70 := by omega
  rw [hk] at q2
  have s0 : IntKind.i64.wrap (a.tmod 70 + 70) = a.tmod 70 + 70 := IntWalk.i64_in _ ⟨by omega, by omega⟩
  clear q1 hk
  have hTl : (tabs t).length ≤ 32 := by rw [tabs_to]; exact tabsTo_le _ 32
  go_enter Try.func7, Try.ntmps7
  go_wp2_with (first
    | (go_at_call 18; refine MD.out.mono ?_; rintro e w2 ⟨rfl, h2⟩; have H2 := Lib.hid h2; clear MD h2)
    | (go_at_call 19; refine H2.out.tables.mono ?_; rintro e w6 ⟨A6, c6, rfl, T6, b6⟩; have H6 := Lib.hid (H2.out.below b6); have TB := Lib.hid fun W (hW : Below w6.heap.size w6 W) => T6.below hW; clear H2 T6 b6))
  obtain ⟨F, hC⟩ := H6.out.cs
  have hgood := hC.good
  have HC := Lib.hid hC
  have htot2 : total t ≤ 10000 := by omega
  have ALL := Lib.hid fun W (hW : Below w6.heap.size w6 W) (n : Nat) (hn : n ≤ 100000) => all_any (hC.below hW) n hn (by omega)
  clear hC q2 s0
  go_loopw [6, 8] (fun u i wr => ∃ q : Nat, q ≤ (tabs t).length ∧ i = .int .i64 q ∧ Hid (Below w6.heap.size w6 wr ∧ OwnB wr w6.heap.size u (flatTo t q))) (fun u i _ => (tabs t).length - (intOf i).toNat)
  case atStart => exact ⟨0, Nat.zero_le _, rfl, Lib.hid ⟨Below.refl _ _, .inl ⟨rfl, rfl⟩⟩⟩
  case round =>
    obtain ⟨i, hi, rfl, HW⟩ := hrel
    have hT2 : ((tabs t).length : Int) ≤ 32 := by omega
    by_cases hil : i < (tabs t).length
    · have t2 : (i : Int) < ((tabs t).length : Int) := by omega
      obtain ⟨⟨m, ks⟩, hik⟩ : ∃ y, (tabs t)[i]? = some y := ⟨_, List.getElem?_eq_getElem hil⟩
      obtain ⟨hm32, hks, hpos⟩ := tabs_at hik
      have hfs := flatTo_succ hik
      have hkl : ks.length = (t m).length := by rw [hks, List.length_map]
      have hfl := flatTo_len t (i + 1)
      rw [hfs, List.length_append] at hfl
      have HW2 : Hid (Below w6.heap.size w6 wr ∧ OwnB wr w6.heap.size u6 (flatTo t i ++ (t m).take 0)) := by rw [List.take_zero, List.append_nil]; exact HW
      clear HW AW ALL
      obtain ⟨Au0, cu0, hu0⟩ := HW2.out.2.form
      go_wp2
      go_loopw [6, 9] (fun u k' wr => ∃ q : Nat, q ≤ (t m).length ∧ k' = .int .i64 q ∧ Hid (Below w6.heap.size w6 wr ∧ OwnB wr w6.heap.size u (flatTo t i ++ (t m).take q))) (fun u k' _ => (t m).length - (intOf k').toNat)
      case atStart => exact ⟨0, Nat.zero_le _, rfl, HW2⟩
      case round =>
        obtain ⟨j, hj, rfl, HX⟩ := hrel
        clear HW2 hu0
        obtain ⟨g2, o2, rfl, _, tm, A', c', ts, OI⟩ := (TB.out wr HX.out.1).at_ hik
        obtain ⟨Au, cu, rfl⟩ := HX.out.2.form
        rw [hkl] at ts
        by_cases hjl : j < (t m).length
        · have t3 : (j : Int) < ((t m).length : Int) := by omega
          have hx := List.getElem?_eq_getElem hjl
          have hkk : ks[j]? = some (t m)[j].id := by rw [hks, List.getElem?_map, hx]; rfl
          rw [← hkl] at ts
          obtain ⟨d, e, rfl, _, ⟨y0, y1, y2⟩, _⟩ := owni_at OI hkk
          rw [hkl] at ts
          have hfd := find_is hgood hx
          have GC : Hid (Calls Try.prog 15 #[.pointer (some ⟨s, 0, none⟩), .agg #[.int .i64 (t m)[j].s, .int .i64 (t m)[j].i, .int .i64 (t m)[j].g]] wr fun e V => e = .returned (.tuple #[(t m)[j].val, .bool true]) ∧ Below wr.heap.size wr V) := Lib.hid (by
            have := get_any (HC.out.below HX.out.1) (t m)[j].s (t m)[j].i (t m)[j].g
            unfold cgetV at this
            rw [hfd] at this
            simp only [hx] at this
            exact this)
          have hpre : flatTo t i ++ (t m).take (j + 1) = (flatTo t i ++ (t m).take j) ++ [(t m)[j]] := by rw [List.take_add_one, hx, List.append_assoc]; rfl
          have hplen : (flatTo t i ++ (t m).take j).length + 1 ≤ 1000000 := by rw [List.length_append, List.length_take]; omega
          have hml : ((t m).length : Int) ≤ 10000 := by omega
          have AP : Hid (∀ V, Below wr.heap.size wr V → ∃ A' n' c' V', (Builtin.append_ #[26, 26] 26 #[.slice Au (flatTo t i ++ (t m).take j).length cu, .slice (some ⟨V.heap.size, 0, none⟩) 1 1]).run Try.prog (V.alloc (.cells #[.int .i64 (t m)[j].s, .int .i64 (t m)[j].i, .int .i64 (t m)[j].g, .int .i64 (t m)[j].m, .int .i64 (t m)[j].x, .int .i64 (t m)[j].y, .int .i64 (t m)[j].vx, .int .i64 (t m)[j].vy, .int .i64 (t m)[j].h, .int .i64 (t m)[j].p, .int .i64 (t m)[j].l] 35)) = .ok (.slice A' n' c') V' ∧ Hid (Below w6.heap.size w6 V' ∧ OwnB V' w6.heap.size (.slice A' n' c') (flatTo t i ++ (t m).take (j + 1)))) := Lib.hid fun V hV => by
            obtain ⟨A', c', V', hr, h1, h2⟩ := own_app (HX.out.1.trans (hV.mono HX.out.1.size)) (HX.out.2.below hV) (t m)[j] hplen 26
            rw [hpre]
            exact ⟨A', _, c', V', hr, Lib.hid ⟨h1, h2⟩⟩
          clear hpre hplen hkk OI hx hfd TB HX HC hks hpos hfs hfl hkl hik hgood
          generalize (flatTo t i ++ (t m).take j).length = nu at *
          simp only [Bn.id] at y0 y1 y2
          simp only [Bn.val] at GC
          generalize (t m)[j].s = xs at *
          generalize (t m)[j].i = xi at *
          generalize (t m)[j].g = xg at *
          generalize (t m)[j].m = xm at *
          generalize (t m)[j].x = xx at *
          generalize (t m)[j].y = xY at *
          generalize (t m)[j].vx = xvx at *
          generalize (t m)[j].vy = xvy at *
          generalize (t m)[j].h = xh at *
          generalize (t m)[j].p = xp at *
          generalize (t m)[j].l = xl at *
          go_wp2_with (first
            | (go_at_call 15; refine GC.out.mono ?_; rintro e w7 ⟨rfl, b7⟩; clear GC; obtain ⟨A8, n8, c8, V8, hr, FIN⟩ := AP.out (w7.alloc (.cells #[.int .i64 xs, .int .i64 xi, .int .i64 xg, .int .i64 xm, .int .i64 xx, .int .i64 xY, .int .i64 xvx, .int .i64 xvy, .int .i64 xh, .int .i64 xp, .int .i64 xl] 35)) ((b7.trans ((bel1 w7 (.cells #[.int .i64 xs, .int .i64 xi, .int .i64 xg, .int .i64 xm, .int .i64 xx, .int .i64 xY, .int .i64 xvx, .int .i64 xvy, .int .i64 xh, .int .i64 xp, .int .i64 xl] 35)).mono b7.size))); rw [size1] at hr; have HR := Lib.hid hr; clear hr AP b7)
            | (at_builtin; refine wpList_append _ rfl (.tmp 49) (.tmp 51) _ _ rfl _ _ rfl rfl _ _ HR.out ?_))
          go_roundw
          case rel => exact ⟨j + 1, by omega, by go_num, FIN⟩
          case measure => simp [intOf]; omega
        · obtain rfl : j = (t m).length := by omega
          have t3 : ¬ ((t m).length : Int) < ((t m).length : Int) := by omega
          rw [List.take_length, ← hfs] at HX
          clear OI TB hks
          rw [List.take_length, ← hfs]
          generalize (t m).length = nm at *
          go_wp2
          go_roundw
          case rel => exact ⟨i + 1, by omega, by go_num, HX⟩
          case measure => simp [intOf]; omega
    · obtain rfl : i = (tabs t).length := by omega
      have t2 : ¬ ((tabs t).length : Int) < ((tabs t).length : Int) := by omega
      rw [flatTo_all] at HW
      have hta : (Ar.all t).length ≤ 10000 := by rw [total_all]; exact htot2
      have hlk : ((Ar.all t).take k).length = min k (Ar.all t).length := List.length_take
      have RU : Hid (∀ (Au : Option Addr) (cu : Nat), u6 = .slice Au (Ar.all t).length cu → ∀ V, Below wr.heap.size wr V → RdB V V.heap.size Au (Ar.all t) ∧ RdB V V.heap.size Au ((Ar.all t).take k)) := Lib.hid fun Au cu e V hV => by
        subst e
        have h1 := RdB.of_own (HW.out.2.below hV)
        refine ⟨h1, fun j x hx => h1 j x ?_⟩
        by_cases hj : j < k
        · rwa [List.getElem?_take_of_lt hj] at hx
        · have := (List.getElem?_eq_some_iff.1 hx).1
          rw [List.length_take] at this
          omega
      have ALK : Hid (∀ W, Below wr.heap.size wr W → Calls Try.prog 23 #[.pointer (some ⟨s, 0, none⟩), .int .i64 (k : Int)] W fun e V => ∃ A c, e = .returned (.slice A ((Ar.all t).take k).length c) ∧ OwnB V W.heap.size (.slice A ((Ar.all t).take k).length c) ((Ar.all t).take k) ∧ Below W.heap.size W V) := Lib.hid fun W hW => ALL.out W (HW.out.1.trans (hW.mono HW.out.1.size)) k (by omega)
      have ALM : Hid (∀ W, Below wr.heap.size wr W → Calls Try.prog 23 #[.pointer (some ⟨s, 0, none⟩), .int .i64 10000] W fun e V => ∃ A c, e = .returned (.slice A (Ar.all t).length c) ∧ OwnB V W.heap.size (.slice A (Ar.all t).length c) (Ar.all t) ∧ Below W.heap.size W V) := Lib.hid fun W hW => by
        have := ALL.out W (HW.out.1.trans (hW.mono HW.out.1.size)) 10000 (by decide)
        rw [List.take_of_length_le hta] at this
        exact this
      have HB6 := Lib.hid (H6.out.bel.trans (HW.out.1.mono H6.out.bel.size))
      have B0 : Below wr.heap.size wr wr.drew := (Below.refl _ _).drew
      have mn : min (k : Int) ((Ar.all t).length : Int) = (((Ar.all t).take k).length : Int) := by rw [hlk]; omega
      have le1 : ((Ar.all t).take k).length ≤ (Ar.all t).length := by omega
      have hcu : ∃ Au cu, u6 = .slice Au (Ar.all t).length cu ∧ ((Au = none ∧ (Ar.all t).length = 0 ∧ cu = 0) ∨ ((∃ g o, Au = some ⟨g, o, none⟩) ∧ (Ar.all t).length ≤ cu ∧ cu ≤ 9223372036854775807)) := by
        rcases HW.out.2 with ⟨e, e2⟩ | ⟨g, o, cap, cur, e, hB, hg, h3, h4, h5, h6⟩
        · exact ⟨none, 0, by rw [e, e2]; rfl, .inl ⟨rfl, by rw [e2]; rfl, rfl⟩⟩
        · exact ⟨_, _, e, .inr ⟨⟨g, o, rfl⟩, h3, h4⟩⟩
      obtain ⟨Au, cu, rfl, hcu⟩ := hcu
      have RU2 := Lib.hid (RU.out Au cu rfl)
      clear RU ALL HC H6 TB HW hgood hi hil hT2
      generalize hL : Ar.all t = L at *
      generalize hLK : L.take k = LK at *
      clear hL hLK hlk htot htot2
      rcases hcu with ⟨rfl, h0, rfl⟩ | ⟨⟨g, o, rfl⟩, h3, h4⟩
      · obtain rfl : L = [] := List.length_eq_zero_iff.1 h0
        obtain rfl : LK = [] := List.length_eq_zero_iff.1 (Nat.le_zero.1 le1)
        have le3 : ([] : List Bn).length ≤ 140737488351232 := by decide
        have le4 : ([] : List Bn).length ≤ 140737488351232 := by decide
        have mn0 : min (k : Int) 0 = 0 := by omega
        clear mn le1 h0 hta
        have AK2 : Hid (∀ W, Below wr.heap.size wr W → Calls Try.prog 23 #[.pointer (some ⟨s, 0, none⟩), .int .i64 (k : Int)] W fun e V => ∃ A c, e = .returned (.slice A 0 c) ∧ OwnB V W.heap.size (.slice A 0 c) [] ∧ Below W.heap.size W V) := ALK
        have AM2 : Hid (∀ W, Below wr.heap.size wr W → Calls Try.prog 23 #[.pointer (some ⟨s, 0, none⟩), .int .i64 10000] W fun e V => ∃ A c, e = .returned (.slice A 0 c) ∧ OwnB V W.heap.size (.slice A 0 c) [] ∧ Below W.heap.size W V) := ALM
        clear ALK ALM
        have ALK := AK2
        have ALM := AM2
        clear AK2 AM2
        generalize (tabs t).length = nT at *
        simp only [List.length_nil]
        go_upto_region 13 with fail
        go_region_held3 (fun W' => True)
          (exact trivial)
          (first
            | (go_at_call 17; refine (AW.out _).mono ?_; rintro e w11 ⟨rfl, b11⟩; have B5 := B4.trans (b11.mono B4.size))
            | (go_at_call 27; refine (rsame_yes (RdB.of_own (c := c9) (B0 := _) (l := []) o9) (RU2.out _ B3).1 le4).mono ?_; rintro e w10 ⟨rfl, b10⟩; have B4 := B3.trans (b10.mono B3.size))
            | (go_at_call 27; refine (rsame_yes (RdB.of_own (c := c7) (B0 := _) (l := []) o7) (RU2.out _ B1).2 le3).mono ?_; rintro e w8 ⟨rfl, b8⟩; have B2 := B1.trans (b8.mono B1.size))
            | (go_at_call 23; refine (ALM.out _ B2).mono ?_; rintro e w9 ⟨A9, c9, rfl, o9, b9⟩; have B3 := B2.trans (b9.mono B2.size))
            | (go_at_call 23; refine (ALK.out _ B0).mono ?_; rintro e w7 ⟨A7, c7, rfl, o7, b7⟩; have B1 := B0.trans (b7.mono B0.size)))
        all_goals
          go_wp2
          go_ret
          exact ⟨rfl, HB6.out.trans (B5.mono HB6.out.size)⟩
      · have le2 : (LK.length : Int) ≤ (cu : Int) := by omega
        generalize (tabs t).length = nT at *
        go_upto_region 13 with fail
        have le3 : LK.length ≤ 140737488351232 := by omega
        have le4 : L.length ≤ 140737488351232 := by omega
        go_region_held3 (fun W' => True)
          (exact trivial)
          (first
            | (go_at_call 17; refine (AW.out _).mono ?_; rintro e w11 ⟨rfl, b11⟩; have B5 := B4.trans (b11.mono B4.size))
            | (go_at_call 27; refine (rsame_yes (RdB.of_own o9) (RU2.out _ B3).1 le4).mono ?_; rintro e w10 ⟨rfl, b10⟩; have B4 := B3.trans (b10.mono B3.size))
            | (go_at_call 27; refine (rsame_yes (RdB.of_own o7) (RU2.out _ B1).2 le3).mono ?_; rintro e w8 ⟨rfl, b8⟩; have B2 := B1.trans (b8.mono B1.size))
            | (go_at_call 23; refine (ALM.out _ B2).mono ?_; rintro e w9 ⟨A9, c9, rfl, o9, b9⟩; have B3 := B2.trans (b9.mono B2.size))
            | (go_at_call 23; refine (ALK.out _ B0).mono ?_; rintro e w7 ⟨A7, c7, rfl, o7, b7⟩; have B1 := B0.trans (b7.mono B0.size)))
        all_goals
          go_wp2
          go_ret
          exact ⟨rfl, HB6.out.trans (B5.mono HB6.out.size)⟩
end Go.Proofs.Yteohkbepefjjlaa
