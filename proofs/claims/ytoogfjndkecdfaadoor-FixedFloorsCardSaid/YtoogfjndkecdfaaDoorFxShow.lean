/- fixed.decimals and Show: the text of any number. -/
import Derived.Test.YtoogfjndkecdfaaDoorFxBld
import Derived.Test.YtoogfjndkecdfaaDoorFxCore
import Derived.Lib.SmallJoins
import Derived.Lib.AppendIntMem
namespace Go.Proofs.YtoogfjndkecdfaaDoor
open Go.RowKit

/-- what the library reads of the program's variables -/
def GoodW (w : World) : Prop := Lib.TabIs Tryd.prog w "internal/strconv.uint64pow10" .u64 Lib.pow10Tab ∧
  (∃ ev, w.cell? ⟨2, 0, none⟩ = some ev ∧ (ev = .nilIface ∨ ∃ te pe, ev = .iface te pe)) ∧
  (∃ ev, w.cell? ⟨3, 0, none⟩ = some ev ∧ (ev = .nilIface ∨ ∃ te pe, ev = .iface te pe))
def Good (w : World) : Prop := Hid (GoodW w)
theorem Good.tab {w : World} (h : Good w) : Lib.TabIs Tryd.prog w "internal/strconv.uint64pow10" .u64 Lib.pow10Tab := h.out.1
theorem gPow : Tryd.prog.globalNamed "internal/strconv.uint64pow10" = some 0 := by kernel_rfl
theorem Good.below {w w' : World} {B : Nat} (h : Good w) (hb : Below B w w') (hB : w.heap.size ≤ B) : Good w' := by
  obtain ⟨h1, ⟨e1, c1, s1⟩, ⟨e2, c2, s2⟩⟩ := h.out
  refine Lib.hid ⟨Joins.tab_stays gPow h1 hb hB, ⟨e1, ?_, s1⟩, ⟨e2, ?_, s2⟩⟩
  · exact (hb.cell (p := ⟨2, 0, none⟩) (by have := Lib.lt_of_cell c1; omega)).trans c1
  · exact (hb.cell (p := ⟨3, 0, none⟩) (by have := Lib.lt_of_cell c2; omega)).trans c2

theorem itoa_any (n : Int) (w : World) (h0 : 0 ≤ n) (h1 : n ≤ 9223372036854775807) (hg : Good w) :
    Calls Tryd.prog 30 #[.int .i64 n] w fun e w' => e = .returned (.string ⟨(Lib.decDigits n.toNat).toArray⟩) ∧ Below w.heap.size w w' := by
  refine (Tryd.strconv_Itoa n (by omega) h1 w hg.tab).mono ?_
  rintro e w' ⟨rfl, k, os, rfl⟩
  refine ⟨?_, Lib.below_grow _ _ (Nat.le_refl _) _ _⟩
  unfold Lib.itoa
  rw [if_neg (by omega)]

theorem bytes_ext {a b : ByteArray} (h : a.data.toList = b.data.toList) : a = b := by
  obtain ⟨⟨x⟩⟩ := a
  obtain ⟨⟨y⟩⟩ := b
  simp at h
  rw [h]
theorem cat_list (a b : ByteArray) : (a ++ b).data.toList = a.data.toList ++ b.data.toList := by
  rw [ByteArray.data_append, Array.toList_append]
theorem cat_zeros (ds : List UInt8) : (ByteArray.mk #[48, 48, 48, 48, 48, 48, 48, 48]).extract ds.length 8 ++ ⟨ds.toArray⟩ = ⟨(Fx.zeros.drop ds.length ++ ds).toArray⟩ := by
  apply bytes_ext
  rw [cat_list, Lib.extract_data]
  show (Fx.zeros.drop ds.length).take (8 - ds.length) ++ ds = Fx.zeros.drop ds.length ++ ds
  rw [List.take_of_length_le (by simp [Fx.zeros])]
set_option maxHeartbeats 1000000 in
set_option maxRecDepth 100000 in
theorem decimals_any (r : Nat) (w : World) (h : r < 256) (hg : Good w) :
    Calls Tryd.prog 31 #[.int .i64 r] w fun e w' => e = .returned (.string ⟨(Fx.tail r).toArray⟩) ∧ Below w.heap.size w w' := by
  obtain ⟨t1, _, _, _, t5, t6⟩ := Fx.tail_all r h
  obtain ⟨ds, hds⟩ : ∃ ds, ds = Fx.digF 8 (r * 390625) := ⟨_, rfl⟩
  rw [← hds] at t5
  have l8 : ds.length ≤ 8 := by rw [hds]; exact Fx.digF_len 8 _
  have I : Calls Tryd.prog 30 #[.int .i64 ((r : Int) * 390625)] w fun e w' => e = .returned (.string ⟨ds.toArray⟩) ∧ Below w.heap.size w w' := by
    have := itoa_any ((r : Int) * 390625) w (by omega) (by omega) hg
    rwa [show ((r : Int) * 390625).toNat = r * 390625 by omega, Fx.digF_eq 7 _ (by omega), ← hds] at this
  have HI := Lib.hid I
  have T := Lib.hid (fun W => Tryd.strings_TrimRight_one ⟨(Fx.pad8 (r * 390625)).toArray⟩ 48 (by decide) W (by show (Fx.pad8 (r * 390625)).toArray.size ≤ _; rw [List.size_toArray, t6]; omega))
  have T1 := Lib.hid t1
  have T5 := Lib.hid t5
  clear t1 t5 t6 hds I
  go_enter Tryd.func31, Tryd.ntmps31
  go_wp2_with (go_at_call 30; refine HI.out.mono ?_; rintro e w1 ⟨rfl, hb1⟩)
  rw [cat_zeros, T5.out]
  refine (T.out _).mono ?_
  rintro e w' ⟨rfl, rfl⟩
  rw [T1.out]
  go_wp2
  go_ret
  exact ⟨rfl, hb1⟩

def Bld (B b : Nat) (l : List UInt8) (w : World) : Prop := Hid (Lib.IsBuilder 44 5 B b (Lib.byteCells l) w)
theorem bld_new (w : World) : Bld w.heap.size w.heap.size [] (w.alloc (.cells #[.pointer none, .slice none 0 0] 44)) := Lib.hid (Lib.fresh_isBuilder _ _ w)
theorem builderAt_old {T e : TypeId} {B b : Nat} {p : Value} {bs : List Value} {w w' : World} (h : Lib.BuilderAt T e B b p bs w) (hb : Below w.heap.size w w') : Lib.BuilderAt T e B b p bs w' := by
  have hlt := h.lt
  obtain ⟨h1, v, h2, ⟨h3, h4⟩, h5⟩ := h
  refine ⟨h1, v, (hb.block b hlt).trans h2, ⟨h3, ?_⟩, h5⟩
  rcases h4 with h4 | ⟨g, cap, cur, e1, e2, e3, e4⟩
  · exact .inl h4
  · have hg : g < w.heap.size := by
      rcases Nat.lt_or_ge g w.heap.size with h' | h'
      · exact h'
      · rw [Array.getElem?_eq_none h'] at e3; cases e3
    exact .inr ⟨g, cap, cur, e1, e2, (hb.block g hg).trans e3, e4⟩
theorem Bld.old {B b : Nat} {l : List UInt8} {w w' : World} (h : Bld B b l w) (hb : Below w.heap.size w w') : Bld B b l w' := by
  rcases h.out with h | h
  · exact Lib.hid (.inl (builderAt_old h hb))
  · exact Lib.hid (.inr (builderAt_old h hb))
theorem wb_any (B b : Nat) (l : List UInt8) (c : UInt8) (w : World) (h : Bld B b l w) (hlen : l.length ≤ 1000) (hBw : B ≤ w.heap.size) :
    Calls Tryd.prog 28 #[.pointer (some ⟨b, 0, none⟩), .int .u8 (c.toNat : Int)] w fun e w' => e = .returned .nilIface ∧ Bld B b (l ++ [c]) w' ∧ Below B w w' := by
  refine (writeByte_any B b _ _ w h.out (by rw [Lib.byteCells_length]; omega) hBw).mono ?_
  rintro e w' ⟨rfl, h1, h2⟩
  exact ⟨rfl, Lib.hid (by rw [Lib.byteCells_append]; exact h1), h2⟩
theorem ws_any (B b : Nat) (l s : List UInt8) (w : World) (h : Bld B b l w) (hlen : l.length ≤ 1000) (hs : s.length ≤ 1000) (hBw : B ≤ w.heap.size) :
    Calls Tryd.prog 29 #[.pointer (some ⟨b, 0, none⟩), .string ⟨s.toArray⟩] w fun e w' => e = .returned (.tuple #[.int .i64 s.length, .nilIface]) ∧ Bld B b (l ++ s) w' ∧ Below B w w' := by
  refine (writeString_any B b _ ⟨s.toArray⟩ w h.out (by rw [Lib.byteCells_length, Lib.size_eq]; show l.length + s.length ≤ _; omega) hBw).mono ?_
  rintro e w' ⟨rfl, h1, h2⟩
  exact ⟨rfl, Lib.hid (by rw [Lib.byteCells_append]; exact h1), h2⟩

/-- the text of a size m behind what is laid already -/
theorem showP_some {m : Nat} (h : 0 < m % 256) : Fx.showP m = Fx.digF 7 (m / 256) ++ [46] ++ Fx.tail (m % 256) := by
  unfold Fx.showP
  rw [if_neg (by omega), List.append_assoc]
  rfl
theorem showP_none {m : Nat} (h : m % 256 = 0) : Fx.showP m = Fx.digF 7 (m / 256) := by
  unfold Fx.showP
  rw [if_pos h, List.append_nil]
theorem showL_neg {n : Int} (h : Fx.clamp n < 0) : Fx.showL n = [45] ++ Fx.showP (-Fx.clamp n).toNat := by unfold Fx.showL; rw [if_pos h]; rfl
theorem showL_pos {n : Int} (h : ¬ Fx.clamp n < 0) : Fx.showL n = Fx.showP (Fx.clamp n).toNat := by unfold Fx.showL; rw [if_neg h]

set_option maxHeartbeats 4000000 in
set_option maxRecDepth 100000 in
theorem show_any (n : Int) (w : World) (h0 : -9223372036854775808 ≤ n) (h1 : n ≤ 9223372036854775807) (hg : Good w) :
    Calls Tryd.prog 22 #[.int .i64 n] w fun e w' => e = .returned (.string ⟨(Fx.showL n).toArray⟩) ∧ Below w.heap.size w w' := by
  obtain ⟨c0, c1⟩ := clamp_bd n
  have C := Lib.hid (fun W => show Calls Tryd.prog 13 #[.int .i64 n] W fun e w' => (e = .returned (.int .i64 (Fx.clamp n)) ∧ W = w') from clamp_any n W h0 h1)
  have hnew := bld_new w
  have hb0 : Below w.heap.size w (w.alloc (.cells #[.pointer none, .slice none 0 0] 44)) := (Below.refl _ _).alloc (Nat.le_refl _) _
  obtain ⟨m, l0, hm, hl0, hcase⟩ : ∃ (m : Nat) (l0 : List UInt8), m ≤ 1073741824 ∧ Hid (Fx.showL n = l0 ++ Fx.showP m) ∧ ((Fx.clamp n < 0 ∧ Hid (-Fx.clamp n = (m : Int)) ∧ l0 = [45]) ∨ (Hid (Fx.clamp n = (m : Int)) ∧ l0 = [])) := by
    by_cases hn : Fx.clamp n < 0
    · exact ⟨(-Fx.clamp n).toNat, [45], by omega, Lib.hid (showL_neg hn), .inl ⟨hn, Lib.hid (by omega), rfl⟩⟩
    · exact ⟨(Fx.clamp n).toNat, [], by omega, Lib.hid (showL_pos hn), .inr ⟨Lib.hid (by omega), rfl⟩⟩
  obtain ⟨ds, hds⟩ : ∃ ds, ds = Fx.digF 7 (m / 256) := ⟨_, rfl⟩
  have dl : ds.length ≤ 7 := by rw [hds]; exact Fx.digF_len 7 _
  have I : Hid (∀ W, Good W → Calls Tryd.prog 30 #[.int .i64 ((m : Int) / 256)] W fun e w' => e = .returned (.string ⟨ds.toArray⟩) ∧ Below W.heap.size W w') := Lib.hid (fun W hG => by
    have := itoa_any ((m : Int) / 256) W (by omega) (by omega) hG
    rwa [show ((m : Int) / 256).toNat = m / 256 by omega, Fx.digF_eq 6 _ (by omega), ← hds] at this)
  obtain ⟨ts, hts⟩ : ∃ ts, ts = Fx.tail (m % 256) := ⟨_, rfl⟩
  have tl : ts.length ≤ 8 := by rw [hts]; exact (Fx.tail_all (m % 256) (by omega)).2.2.2.1
  have D : Hid (∀ W, Good W → Calls Tryd.prog 31 #[.int .i64 ((m : Int) % 256)] W fun e w' => e = .returned (.string ⟨ts.toArray⟩) ∧ Below W.heap.size W w') := Lib.hid (fun W hG => by
    have := decimals_any (m % 256) W (by omega) hG
    rwa [show ((m % 256 : Nat) : Int) = (m : Int) % 256 by omega, ← hts] at this)
  have hrest : ((m : Int) % 256 ≤ 0 ∧ Hid ((m : Int) % 256 = 0) ∧ Hid (Fx.showP m = ds)) ∨ (0 < (m : Int) % 256 ∧ Hid (Fx.showP m = ds ++ [46] ++ ts)) := by
    by_cases h : m % 256 = 0
    · exact .inl ⟨by omega, Lib.hid (by omega), Lib.hid (by rw [hds]; exact showP_none h)⟩
    · exact .inr ⟨by omega, Lib.hid (by rw [hds, hts]; exact showP_some (by omega))⟩
  clear hds hts
  rcases hcase with ⟨hn, hc, rfl⟩ | ⟨hc, rfl⟩
  · have hc' := hc.out
    go_enter Tryd.func22, Tryd.ntmps22
    go_wp2_with (go_at_call 13; refine (C.out _).mono ?_; rintro e w' ⟨rfl, rfl⟩)
    refine (wb_any _ _ _ 45 _ hnew (by simp) (by simp)).mono ?_
    rintro e W1 ⟨rfl, B1, bel1⟩
    have bel1 := hb0.trans bel1
    clear hnew hb0
    -- the size, behind the sign
    have G1 : Good W1 := hg.below bel1 (Nat.le_refl _)
    have s1 := bel1.size
    go_wp2_with fail
    refine (I.out _ G1).mono ?_
    rintro e w2 ⟨rfl, hb2⟩
    have B2 := B1.old hb2
    have bel2 := bel1.trans (hb2.mono s1)
    have s2 := bel2.size
    clear B1 G1 hb2
    go_wp2_with fail
    refine (ws_any _ _ _ _ _ B2 (by simp) (by omega) s2).mono ?_
    rintro e w3 ⟨rfl, B3, hb3⟩
    have bel3 := bel2.trans hb3
    have s3 := bel3.size
    clear B2 hb3
    rcases hrest with ⟨hr, hr', hP⟩ | ⟨hr, hP⟩
    · have hr'' := hr'.out
      go_wp2_with fail
      refine (Tryd.Builder_String_any _ _ _ _ B3.out s3).mono ?_
      rintro e w4 ⟨rfl, hb4⟩
      go_wp2
      go_ret
      exact ⟨by rw [hl0.out, hP.out]; rfl, bel3.trans hb4⟩
    · go_wp2_with fail
      refine (wb_any _ _ _ 46 _ B3 (by simp; omega) s3).mono ?_
      rintro e w4 ⟨rfl, B4, hb4⟩
      have bel4 := bel3.trans hb4
      have s4 := bel4.size
      have G4 : Good w4 := hg.below bel4 (Nat.le_refl _)
      clear B3 hb4
      go_wp2_with fail
      refine (D.out _ G4).mono ?_
      rintro e w5 ⟨rfl, hb5⟩
      have B5 := B4.old hb5
      have bel5 := bel4.trans (hb5.mono s4)
      have s5 := bel5.size
      clear B4 G4 hb5
      go_wp2_with fail
      refine (ws_any _ _ _ _ _ B5 (by simp; omega) (by omega) s5).mono ?_
      rintro e w6 ⟨rfl, B6, hb6⟩
      have bel6 := bel5.trans hb6
      have s6 := bel6.size
      go_wp2_with fail
      refine (Tryd.Builder_String_any _ _ _ _ B6.out s6).mono ?_
      rintro e w7 ⟨rfl, hb7⟩
      go_wp2
      go_ret
      exact ⟨by rw [hl0.out, hP.out]; simp, bel6.trans hb7⟩
  · have hc' := hc.out
    have hn0 : ¬ (m : Int) < 0 := by omega
    go_enter Tryd.func22, Tryd.ntmps22
    go_wp2_with (go_at_call 13; refine (C.out _).mono ?_; rintro e w' ⟨rfl, rfl⟩)
    have B1 := hnew
    have bel1 := hb0
    clear hnew hb0
    -- the size, behind the sign
    have G1 : Good _ := hg.below bel1 (Nat.le_refl _)
    have s1 := bel1.size
    refine (I.out _ G1).mono ?_
    rintro e w2 ⟨rfl, hb2⟩
    have B2 := B1.old hb2
    have bel2 := bel1.trans (hb2.mono s1)
    have s2 := bel2.size
    clear B1 G1 hb2
    go_wp2_with fail
    refine (ws_any _ _ _ _ _ B2 (by simp) (by omega) s2).mono ?_
    rintro e w3 ⟨rfl, B3, hb3⟩
    have bel3 := bel2.trans hb3
    have s3 := bel3.size
    clear B2 hb3
    rcases hrest with ⟨hr, hr', hP⟩ | ⟨hr, hP⟩
    · have hr'' := hr'.out
      go_wp2_with fail
      refine (Tryd.Builder_String_any _ _ _ _ B3.out s3).mono ?_
      rintro e w4 ⟨rfl, hb4⟩
      go_wp2
      go_ret
      exact ⟨by rw [hl0.out, hP.out]; rfl, bel3.trans hb4⟩
    · go_wp2_with fail
      refine (wb_any _ _ _ 46 _ B3 (by simp; omega) s3).mono ?_
      rintro e w4 ⟨rfl, B4, hb4⟩
      have bel4 := bel3.trans hb4
      have s4 := bel4.size
      have G4 : Good w4 := hg.below bel4 (Nat.le_refl _)
      clear B3 hb4
      go_wp2_with fail
      refine (D.out _ G4).mono ?_
      rintro e w5 ⟨rfl, hb5⟩
      have B5 := B4.old hb5
      have bel5 := bel4.trans (hb5.mono s4)
      have s5 := bel5.size
      clear B4 G4 hb5
      go_wp2_with fail
      refine (ws_any _ _ _ _ _ B5 (by simp; omega) (by omega) s5).mono ?_
      rintro e w6 ⟨rfl, B6, hb6⟩
      have bel6 := bel5.trans hb6
      have s6 := bel6.size
      go_wp2_with fail
      refine (Tryd.Builder_String_any _ _ _ _ B6.out s6).mono ?_
      rintro e w7 ⟨rfl, hb7⟩
      go_wp2
      go_ret
      exact ⟨by rw [hl0.out, hP.out]; simp, bel6.trans hb7⟩
end Go.Proofs.YtoogfjndkecdfaaDoor
