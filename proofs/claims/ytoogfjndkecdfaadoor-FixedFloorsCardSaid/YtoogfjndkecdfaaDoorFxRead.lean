/- fixed.candidate and Read: what a text is read as. -/
import Derived.Test.YtoogfjndkecdfaaDoorFxShow
namespace Go.Proofs.YtoogfjndkecdfaaDoor
open Go.RowKit

def AtoiSays (l : List UInt8) (B : Nat) (W : World) (e : Ending) (w' : World) : Prop := ∃ ev, e = .returned (.tuple #[.int .i64 (Fx.atoiV l), ev]) ∧ Below B W w'
theorem atoi_any (l : List UInt8) (W : World) (hl : l.length ≤ 1000) (hg : Good W) :
    Calls Tryd.prog 40 #[.string ⟨l.toArray⟩] W (AtoiSays l W.heap.size W) := by
  obtain ⟨_, ⟨e1, c1, s1⟩, ⟨e2, c2, s2⟩⟩ := hg.out
  have hz : (ByteArray.mk l.toArray).size ≤ 1000 := by rw [Lib.size_eq]; exact hl
  have hd : Lib.atoiAll (ByteArray.mk l.toArray).data.toList = Lib.atoiAll l := rfl
  cases h : Lib.atoiAll l
  · rename_i v
    refine (Tryd.strconv_Atoi_ok ⟨l.toArray⟩ (by omega) v (by rw [hd, h]) W).mono ?_
    rintro e w' ⟨rfl, hw⟩
    refine ⟨.nilIface, by rw [Fx.atoiV, h], ?_⟩
    rcases hw with rfl | ⟨t, rfl⟩
    · exact Below.refl _ _
    · exact Lib.bytesWorld_below _ _ _
  · refine Calls.mono (f := 40) (Any.strconv_Atoi_syntax Tryd.laysC172 ⟨l.toArray⟩ (by omega) (by rw [hd, h]) e1 W c1 s1) ?_
    rintro e w' ⟨N, rfl, _, _, hb⟩
    exact ⟨_, by rw [Fx.atoiV, h], hb⟩
  · refine (Tryd.strconv_Atoi_range ⟨l.toArray⟩ (by omega) (by rw [hd, h]) e2 W c2 s2).mono ?_
    rintro e w' ⟨N, rfl, _, _, hb⟩
    exact ⟨_, by rw [Fx.atoiV, h], hb⟩

theorem ext_take (l : List UInt8) (i : Nat) : (ByteArray.mk l.toArray).extract 0 i = ⟨(l.take i).toArray⟩ := by
  apply bytes_ext
  rw [Lib.extract_data]
  simp
theorem cat8 (b : List UInt8) : (ByteArray.mk b.toArray ++ ByteArray.mk #[48, 48, 48, 48, 48, 48, 48, 48]).extract 0 8 = ⟨((b ++ Fx.zeros).take 8).toArray⟩ := by
  apply bytes_ext
  rw [Lib.extract_data, cat_list]
  rfl
theorem ext_drop (l : List UInt8) (i : Nat) : (ByteArray.mk l.toArray).extract i l.length = ⟨(l.drop i).toArray⟩ := by
  apply bytes_ext
  rw [Lib.extract_data]
  show (l.drop i).take (l.length - i) = l.drop i
  rw [List.take_of_length_le (by simp)]
set_option maxHeartbeats 1000000 in
set_option maxRecDepth 100000 in
theorem cut_any (l : List UInt8) (w : World) (hl : l.length ≤ 1000) :
    Calls Tryd.prog 48 #[.string ⟨l.toArray⟩, .string ⟨#[46]⟩] w fun e w' => (e = .returned (.tuple #[.string ⟨(Fx.ahead l).toArray⟩, .string ⟨(Fx.behind l).toArray⟩, .bool (decide (0 ≤ Lib.indexByte l 46))])) ∧ Below w.heap.size w w' := by
  have I : Hid (∀ W, Calls Tryd.prog 59 #[.string ⟨l.toArray⟩, .string ⟨#[46]⟩] W fun e w' => e = .returned (.int .i64 (Lib.indexByte l 46)) ∧ w' = W) := Lib.hid (fun W => Tryd.stringslite_Index_one ⟨l.toArray⟩ 46 W)
  have i0 := Lib.indexByte_ge l 46
  have i1 := Fx.indexByte_lt 46 l
  by_cases h : 0 ≤ Lib.indexByte l 46
  · obtain ⟨i, hi⟩ := Int.eq_ofNat_of_zero_le h
    have HA := Lib.hid (show Fx.ahead l = l.take i by unfold Fx.ahead; rw [if_pos h, hi]; rfl)
    have HB := Lib.hid (show Fx.behind l = l.drop (i + 1) by unfold Fx.behind; rw [if_pos h, hi]; rfl)
    have HD := Lib.hid (show decide (0 ≤ Lib.indexByte l 46) = true by simpa using h)
    rw [hi] at I i1
    clear h hi i0
    go_enter Tryd.func48, Tryd.ntmps48
    go_wp2_with (go_at_call 59; refine (I.out _).mono ?_; rintro e w' ⟨rfl, rfl⟩)
    go_quiet (fail)
    go_wp2
    go_ret3
    exact ⟨by rw [HA.out, HB.out, HD.out, ext_take, ext_drop]; rfl, below_dn _ _⟩
  · have he : Lib.indexByte l 46 = -1 := by omega
    have HA := Lib.hid (show Fx.ahead l = l by unfold Fx.ahead; rw [if_neg h])
    have HB := Lib.hid (show Fx.behind l = [] by unfold Fx.behind; rw [if_neg h])
    have HD := Lib.hid (show decide (0 ≤ Lib.indexByte l 46) = false by simpa using h)
    rw [he] at I
    clear h he i0 i1
    go_enter Tryd.func48, Tryd.ntmps48
    go_wp2_with (go_at_call 59; refine (I.out _).mono ?_; rintro e w' ⟨rfl, rfl⟩)
    go_ret3
    exact ⟨by rw [HA.out, HB.out, HD.out]; rfl, Below.refl _ _⟩

set_option maxHeartbeats 1000000 in
set_option maxRecDepth 100000 in
theorem cutdot_any (l : List UInt8) (w : World) (hl : l.length ≤ 1000) :
    Calls Tryd.prog 39 #[.string ⟨l.toArray⟩, .string ⟨#[46]⟩] w fun e w' => (e = .returned (.tuple #[.string ⟨(Fx.ahead l).toArray⟩, .string ⟨(Fx.behind l).toArray⟩, .bool (decide (0 ≤ Lib.indexByte l 46))])) ∧ Below w.heap.size w w' := by
  obtain ⟨f, hf⟩ : ∃ f, f = decide (0 ≤ Lib.indexByte l 46) := ⟨_, rfl⟩
  have C := Lib.hid (cut_any l w hl)
  rw [← hf] at C ⊢
  clear hf
  go_enter Tryd.func39, Tryd.ntmps39
  go_wp2_with (go_at_call 48; refine C.out.mono ?_; rintro e w1 ⟨rfl, hb1⟩)
  go_ret3
  exact ⟨rfl, hb1⟩

theorem ahead_len (l : List UInt8) : (Fx.ahead l).length ≤ l.length := by
  unfold Fx.ahead
  split
  · rw [List.length_take]; omega
  · omega
theorem behind_len (l : List UInt8) : (Fx.behind l).length ≤ l.length := by
  unfold Fx.behind
  split
  · rw [List.length_drop]; omega
  · simp
theorem trim_len (l p : List UInt8) : (Lib.trimPrefix l p).length ≤ l.length := by
  unfold Lib.trimPrefix
  split
  · rw [List.length_drop]; omega
  · omega

set_option maxHeartbeats 1000000 in
set_option maxRecDepth 100000 in
theorem cand_any (l : List UInt8) (w : World) (hl : l.length ≤ 9223372036854775807) (hg : Good w) :
    Calls Tryd.prog 34 #[.string ⟨l.toArray⟩] w fun e w' => e = .returned (.int .i64 (Fx.candL l)) ∧ Below w.heap.size w w' := by
  by_cases h17 : 17 < l.length
  · have HC := Lib.hid (show Fx.candL l = 0 by unfold Fx.candL; exact if_pos h17)
    go_enter Tryd.func34, Tryd.ntmps34
    go_wp2
    go_ret
    exact ⟨ret_int HC.out.symm, Below.refl _ _⟩
  · obtain ⟨t, ht⟩ : ∃ t, t = Lib.trimPrefix l [45] := ⟨_, rfl⟩
    obtain ⟨a, ha⟩ : ∃ a, a = Fx.ahead t := ⟨_, rfl⟩
    obtain ⟨b, hb⟩ : ∃ b, b = Fx.behind t := ⟨_, rfl⟩
    have lt : t.length ≤ 17 := by have := trim_len l [45]; rw [ht]; omega
    have la : a.length ≤ 17 := by have := ahead_len t; rw [ha]; omega
    have lb : b.length ≤ 17 := by have := behind_len t; rw [hb]; omega
    obtain ⟨c, hc⟩ : ∃ c, c = (b ++ Fx.zeros).take 8 := ⟨_, rfl⟩
    have lc : c.length ≤ 8 := by rw [hc, List.length_take]; omega
    obtain ⟨x, hx⟩ : ∃ x, x = Fx.atoiV a := ⟨_, rfl⟩
    obtain ⟨y, hy⟩ : ∃ y, y = Fx.atoiV c := ⟨_, rfl⟩
    obtain ⟨x0, x1⟩ := Fx.atoiV_bd a
    obtain ⟨y0, y1⟩ := Fx.atoiV_bd c
    rw [← hx] at x0 x1
    rw [← hy] at y0 y1
    have HC := Lib.hid (show Fx.candL l = if Lib.hasPrefix l [45] = true then wrap64 (-(wrap64 (wrap64 (x * 256) + y.tdiv 390625))) else wrap64 (wrap64 (x * 256) + y.tdiv 390625) by
      unfold Fx.candL
      rw [if_neg h17, hx, hy, hc, ha, hb, ht])
    have P := Lib.hid (fun W => show Calls Tryd.prog 38 #[.string ⟨l.toArray⟩, .string ⟨#[45]⟩] W fun e w' => e = .returned (.tuple #[.string ⟨t.toArray⟩, .bool (Lib.hasPrefix l [45])]) ∧ w' = W by rw [ht]; exact Tryd.strings_CutPrefix ⟨l.toArray⟩ ⟨#[45]⟩ W)
    have C : Hid (∀ W, Calls Tryd.prog 39 #[.string ⟨t.toArray⟩, .string ⟨#[46]⟩] W fun e w' => (e = .returned (.tuple #[.string ⟨a.toArray⟩, .string ⟨b.toArray⟩, .bool (decide (0 ≤ Lib.indexByte t 46))])) ∧ Below W.heap.size W w') := Lib.hid (fun W => by rw [ha, hb]; exact cutdot_any t W (by omega))
    have A1 : Hid (∀ W, Good W → Calls Tryd.prog 40 #[.string ⟨a.toArray⟩] W fun e w' => ∃ ev, e = .returned (.tuple #[.int .i64 x, ev]) ∧ Below W.heap.size W w') := Lib.hid (fun W hW => by rw [hx]; exact atoi_any a W (by omega) hW)
    have A2 : Hid (∀ W, Good W → Calls Tryd.prog 40 #[.string ⟨c.toArray⟩] W fun e w' => ∃ ev, e = .returned (.tuple #[.int .i64 y, ev]) ∧ Below W.heap.size W w') := Lib.hid (fun W hW => by rw [hy]; exact atoi_any c W (by omega) hW)
    have Hc := Lib.hid hc
    obtain ⟨neg, hneg⟩ : ∃ neg, neg = Lib.hasPrefix l [45] := ⟨_, rfl⟩
    obtain ⟨fnd, hfnd⟩ : ∃ f, f = decide (0 ≤ Lib.indexByte t 46) := ⟨_, rfl⟩
    rw [← hneg] at HC P
    rw [← hfnd] at C
    have yn : (y.tdiv 390625).natAbs = y.natAbs / 390625 := Int.natAbs_tdiv y 390625
    have y2 : y.tdiv 390625 ≤ 9223372036854775807 := by omega
    have y3 : -9223372036854775808 ≤ y.tdiv 390625 := by omega
    clear yn
    have h17' : ¬ (17 : Int) < (l.length : Int) := by omega
    clear hneg hfnd hc hy hx hb ha ht
    go_enter Tryd.func34, Tryd.ntmps34
    go_wp2_with fail
    refine (P.out _).mono ?_
    rintro e w' ⟨rfl, rfl⟩
    go_wp2_with fail
    refine (C.out _).mono ?_
    rintro e w1 ⟨rfl, hb1⟩
    have G1 : Good w1 := hg.below hb1 (Nat.le_refl _)
    go_wp2_with fail
    refine (A1.out _ G1).mono ?_
    rintro e w2 ⟨ev, rfl, hb2⟩
    have bel2 := hb1.trans (hb2.mono hb1.size)
    have G2 : Good w2 := hg.below bel2 (Nat.le_refl _)
    clear hb1 hb2 G1
    go_wp2_with fail
    rw [cat8, ← Hc.out]
    refine (A2.out _ G2).mono ?_
    rintro e w3 ⟨ev2, rfl, hb3⟩
    have bel3 := bel2.trans (hb3.mono bel2.size)
    clear bel2 hb3 G2 Hc A1 A2 C P
    cases neg
    · have HC2 := Lib.hid (show Fx.candL l = wrap64 (wrap64 (x * 256) + y.tdiv 390625) from HC.out)
      clear HC
      go_wp2
      go_ret
      exact ⟨ret_int HC2.out.symm, bel3⟩
    · have HC2 := Lib.hid (show Fx.candL l = wrap64 (-(wrap64 (wrap64 (x * 256) + y.tdiv 390625))) from HC.out)
      clear HC
      go_wp2
      go_ret
      exact ⟨ret_int HC2.out.symm, bel3⟩

def ReadSays (l : List UInt8) (B : Nat) (W : World) (e : Ending) (w' : World) : Prop := ∃ n bad : Int, Fx.ReadsAs l n bad ∧ e = .returned (.tuple #[.int .i64 n, .int .i64 bad]) ∧ Below B W w'
theorem candL_bd (l : List UInt8) : -9223372036854775808 ≤ Fx.candL l ∧ Fx.candL l ≤ 9223372036854775807 := by
  unfold Fx.candL
  simp only
  split
  · omega
  · split <;> (unfold wrap64; omega)

set_option maxHeartbeats 1000000 in
set_option maxRecDepth 100000 in
theorem read_any (l : List UInt8) (w : World) (hl : l.length ≤ 9223372036854775807) (hg : Good w) :
    Calls Tryd.prog 24 #[.string ⟨l.toArray⟩] w (ReadSays l w.heap.size w) := by
  obtain ⟨c0, c1⟩ := candL_bd l
  obtain ⟨ry, rn⟩ := Fx.reads_cand (l := l) (c := Fx.candL l) (Fx.candL_of)
  obtain ⟨k, hk⟩ : ∃ k, k = Fx.showL (Fx.candL l) := ⟨_, rfl⟩
  have C := Lib.hid (cand_any l w hl hg)
  have S : Hid (∀ W, Good W → Calls Tryd.prog 22 #[.int .i64 (Fx.candL l)] W fun e w' => e = .returned (.string ⟨k.toArray⟩) ∧ Below W.heap.size W w') := Lib.hid (fun W hW => by rw [hk]; exact show_any _ W c0 c1 hW)
  rw [← hk] at ry rn
  generalize Fx.candL l = c at *
  clear hk
  by_cases h : k = l
  · subst h
    have R := Lib.hid (ry rfl)
    clear ry rn
    go_enter Tryd.func24, Tryd.ntmps24
    go_wp2_with fail
    refine C.out.mono ?_
    rintro e w1 ⟨rfl, hb1⟩
    have G1 : Good w1 := hg.below hb1 (Nat.le_refl _)
    go_wp2_with fail
    refine (S.out _ G1).mono ?_
    rintro e w2 ⟨rfl, hb2⟩
    have bel2 := hb1.trans (hb2.mono hb1.size)
    clear hb1 hb2 G1
    go_wp2
    go_ret2
    exact ⟨_, _, R.out, rfl, bel2⟩
  · have R := Lib.hid (rn h)
    have hne : (k == l) = false := by simpa using h
    clear ry rn
    go_enter Tryd.func24, Tryd.ntmps24
    go_wp2_with fail
    refine C.out.mono ?_
    rintro e w1 ⟨rfl, hb1⟩
    have G1 : Good w1 := hg.below hb1 (Nat.le_refl _)
    go_wp2_with fail
    refine (S.out _ G1).mono ?_
    rintro e w2 ⟨rfl, hb2⟩
    have bel2 := hb1.trans (hb2.mono hb1.size)
    clear hb1 hb2 G1
    go_wp2
    go_ret2
    exact ⟨_, _, R.out, rfl, bel2⟩
end Go.Proofs.YtoogfjndkecdfaaDoor
