/- What was encoded is decoded again, and in memory of its own. Written by wip/tools/gencdlaw2.py. -/
import Derived.Test.YtdhlebmgeiiejaaKDec
import Derived.Test.YtdhlebmgeiiejaaKSame
namespace Go.Proofs.Ytdhlebmgeiiejaa
open Go.RowKit Pz Cd
set_option linter.unusedVariables false
set_option linter.unusedSimpArgs false

/-- all but the blocks from lo on, below hi, is as it was -/
structure KO (lo hi : Nat) (W W' : World) : Prop where
  os : W'.os = W.os
  tape : W'.tape = W.tape
  output : W'.output = W.output
  size : W.heap.size ≤ W'.heap.size
  block : ∀ k, k < lo ∨ hi ≤ k → W'.heap[k]? = W.heap[k]?
theorem KO.refl (lo hi : Nat) (W : World) : KO lo hi W W := ⟨rfl, rfl, rfl, Nat.le_refl _, fun _ _ => rfl⟩
theorem KO.set {lo hi : Nat} {W V : World} (h : KO lo hi W V) {g : Nat} (h1 : lo ≤ g) (h2 : g < hi) (j : Nat) (v : Value) : KO lo hi W (V.setCell ⟨g, j, none⟩ v) :=
  ⟨h.os, h.tape, h.output, by simpa using h.size, fun k hk => (Bx.ne (by omega) _).trans (h.block k hk)⟩
theorem KO.below {lo hi B : Nat} {w W V : World} (hb : Below B w W) (h : KO lo hi W V) (hB : B ≤ lo) : Below B w V :=
  ⟨h.os.trans hb.os, h.tape.trans hb.tape, h.output.trans hb.output, Nat.le_trans hb.size h.size, fun k hk => (h.block k (.inl (by omega))).trans (hb.block k hk)⟩
/-- n things of s cells, all of which may be written, in a block from lo on, below hi -/
def Sz (lo hi : Nat) (W : World) (T s : Nat) (A : Option Addr) (n : Nat) : Prop := n = 0 ∨ ∃ g o cur, A = some ⟨g, o, none⟩ ∧ lo ≤ g ∧ g < hi ∧ W.heap[g]? = some (.cells cur T (0, 0)) ∧ o + n * s ≤ cur.size
theorem Sz.of_own {α : Type} {enc : α → List Value} {T s B hi : Nat} {W : World} {A : Option Addr} {c : Nat} {l : List α} (h : Rw enc T s W B (.slice A l.length c) l) (hh : W.heap.size ≤ hi) : Sz B hi W T s A l.length := by
  rcases h with ⟨_, e⟩ | ⟨g, off, cap, cur, e, h1, h2, h3, _, h5, _⟩
  · exact .inl (by rw [e]; rfl)
  · cases e
    refine .inr ⟨g, off, cur, rfl, h1, Nat.lt_of_lt_of_le (lt_of_row h2) hh, h2, ?_⟩
    have := Nat.mul_le_mul_right s h3
    omega
theorem Sz.below {lo hi : Nat} {W W' : World} {T s : Nat} {A : Option Addr} {n : Nat} (h : Sz lo hi W T s A n) (hb : Below W.heap.size W W') : Sz lo hi W' T s A n := by
  rcases h with e | ⟨g, o, cur, e, h1, h2, h3, h4⟩
  · exact .inl e
  · exact .inr ⟨g, o, cur, e, h1, h2, (hb.block _ (lt_of_row h3)).trans h3, h4⟩
theorem Sz.set {lo hi : Nat} {W : World} {T s : Nat} {A : Option Addr} {n : Nat} (h : Sz lo hi W T s A n) (b j : Nat) (v : Value) : Sz lo hi (W.setCell ⟨b, j, none⟩ v) T s A n := by
  rcases h with e | ⟨g, o, cur, e, h1, h2, h3, h4⟩
  · exact .inl e
  · by_cases hg : g = b
    · subst hg
      exact .inr ⟨g, o, _, e, h1, h2, Bx.set h3 _, by simpa using h4⟩
    · exact .inr ⟨g, o, cur, e, h1, h2, (Bx.ne (by omega) _).trans h3, h4⟩
theorem Sz.at_ {lo hi : Nat} {W : World} {T s : Nat} {A : Option Addr} {n : Nat} (h : Sz lo hi W T s A n) {j c : Nat} (hj : j < n) (hc : c < s) : ∃ g o x, A = some ⟨g, o, none⟩ ∧ lo ≤ g ∧ g < hi ∧ W.cell? ⟨g, o + j * s + c, none⟩ = some x ∧ W.frozen? ⟨g, o + j * s + c, none⟩ = false := by
  rcases h with e | ⟨g, o, cur, e, h1, h2, h3, h4⟩
  · omega
  · have hlt : o + j * s + c < cur.size := by
      have := Nat.mul_le_mul_right s (show j + 1 ≤ n by omega)
      rw [Nat.succ_mul] at this
      omega
    refine ⟨g, o, cur[o + j * s + c], e, h1, h2, ?_, ?_⟩
    · simp [World.cell?, h3, Array.getElem?_eq_getElem hlt]
    · simp [World.frozen?, h3]
/-- a message's rows, of one's own from B on -/
def AO (m : Mn) (B : Nat) (W : World) (A1 A2 A3 : Option Addr) (d1 d2 d3 : Nat) : Prop := OwnC W B (.slice A1 m.c.length d1) m.c ∧ OwnB W B (.slice A2 m.b.length d2) m.b ∧ OwnN W B (.slice A3 m.i.length d3) m.i
theorem AO.below {m : Mn} {B : Nat} {W W' : World} {A1 A2 A3 : Option Addr} {d1 d2 d3 : Nat} (h : AO m B W A1 A2 A3 d1 d2 d3) (hb : Below W.heap.size W W') : AO m B W' A1 A2 A3 d1 d2 d3 := ⟨h.1.below hb, h.2.1.below hb, h.2.2.below hb⟩
theorem AO.kept {m : Mn} {B lo hi : Nat} {W W' : World} {A1 A2 A3 : Option Addr} {d1 d2 d3 : Nat} (h : AO m B W A1 A2 A3 d1 d2 d3) (k : KO lo hi W W') (hB : hi ≤ B) : AO m B W' A1 A2 A3 d1 d2 d3 :=
  ⟨h.1.kept fun b e => k.block b (.inr (Nat.le_trans hB (h.1.blk e).1)), h.2.1.kept fun b e => k.block b (.inr (Nat.le_trans hB (h.2.1.blk e).1)), h.2.2.kept fun b e => k.block b (.inr (Nat.le_trans hB (h.2.2.blk e).1))⟩
theorem AO.msg {m : Mn} {B : Nat} {W w : World} {A1 A2 A3 X1 X2 X3 : Option Addr} {d1 d2 d3 : Nat} (h : AO m B W A1 A2 A3 d1 d2 d3) (hm : MsgAt m X1 X2 X3 w) : MsgAt m A1 A2 A3 W := ⟨RdC.of_own h.1, RdB.of_own h.2.1, RdI3.of_own h.2.2, hm.lc, hm.lb, hm.li⟩
set_option maxHeartbeats 16000000 in
set_option maxRecDepth 100000 in
theorem law_back (w : World) (m : Mn) (X1 X2 X3 : Option Addr) (x1 x2 x3 : Nat) (MA : MsgAt m X1 X2 X3 w) : Calls Try.prog 4 #[msgV m X1 x1 X2 x2 X3 x3] w fun e w' => e = .returned (.bool true) ∧ Below w.heap.size w w' := by
  have AW : Hid (∀ W, Calls Try.prog 13 #[] W fun e w' => e = .returned (.bool true) ∧ Below W.heap.size W w') := Lib.hid fun W => awake_any W
  have LG : Hid (∀ W, Calls Try.prog 14 #[msgV m X1 x1 X2 x2 X3 x3] W fun e w' => e = .returned (.bool (longB m)) ∧ Below W.heap.size W w') := Lib.hid fun W => long_any m X1 X2 X3 x1 x2 x3 W
  have EN : Hid (∀ W, Below w.heap.size w W → Calls Try.prog 15 #[msgV m X1 x1 X2 x2 X3 x3] W fun e w' => e = .returned (encR m) ∧ Below W.heap.size W w') := Lib.hid fun W hW => encode_any (MA.below hW)
  have D : Hid (mayM m = true → ∀ W, Calls Try.prog 16 #[.string ⟨(encM m).toArray⟩] W fun e w' => (∃ A1 A2 A3 d1 d2 d3, e = .returned (.tuple #[msgV m A1 d1 A2 d2 A3 d3, .int .i64 0]) ∧ AO m W.heap.size w' A1 A2 A3 d1 d2 d3) ∧ Below W.heap.size W w') := Lib.hid fun hm W => by
    have hl := enc_len hm
    refine (cdecode_any (encM m) (by omega) W).mono ?_
    rintro e w' ⟨hd, hb⟩
    refine ⟨?_, hb⟩
    unfold DecR at hd
    rw [decC_is, dec_enc hm] at hd
    obtain ⟨v, rfl, vc, vb, vi, rfl, hc, hb2, hi⟩ := hd
    obtain ⟨B1, d1, rfl⟩ := hc.form
    obtain ⟨B2, d2, rfl⟩ := hb2.form
    obtain ⟨B3, d3, rfl⟩ := hi.form
    exact ⟨_, _, _, _, _, _, rfl, hc, hb2, hi⟩
  have SM : Hid (∀ B W A1 A2 A3 d1 d2 d3, AO m B W A1 A2 A3 d1 d2 d3 → Below w.heap.size w W → Calls Try.prog 17 #[msgV m A1 d1 A2 d2 A3 d3, msgV m X1 x1 X2 x2 X3 x3] W fun e w' => e = .returned (.bool true) ∧ Below W.heap.size W w') := Lib.hid fun B W A1 A2 A3 d1 d2 d3 h hW => rsame_msg (h.msg MA) (MA.below hW)
  have FS : Hid (∀ B W A1 A2 A3 d1 d2 d3, AO m B W A1 A2 A3 d1 d2 d3 → Sz B W.heap.size W 25 11 A2 m.b.length ∧ Sz B W.heap.size W 23 3 A3 m.i.length) := Lib.hid fun B W A1 A2 A3 d1 d2 d3 h => ⟨Sz.of_own h.2.1 (Nat.le_refl _), Sz.of_own h.2.2 (Nat.le_refl _)⟩
  have FB : Hid (∀ B W W' A1 A2 A3 d1 d2 d3, AO m B W A1 A2 A3 d1 d2 d3 → Below W.heap.size W W' → AO m B W' A1 A2 A3 d1 d2 d3) := Lib.hid fun B W W' A1 A2 A3 d1 d2 d3 h hb => h.below hb
  have FK : Hid (∀ B lo hi W W' A1 A2 A3 d1 d2 d3, AO m B W A1 A2 A3 d1 d2 d3 → KO lo hi W W' → hi ≤ B → AO m B W' A1 A2 A3 d1 d2 d3) := Lib.hid fun B lo hi W W' A1 A2 A3 d1 d2 d3 h hb hB => h.kept hb hB
  have hlb : (m.b.length : Int) ≤ 140737488351232 := by have := MA.lb; omega
  have hli : (m.i.length : Int) ≤ 140737488351232 := by have := MA.li; omega
  clear MA
  unfold encR at EN
  generalize AO m = PO at *
  generalize encM m = em at *
  obtain ⟨lg, hlg⟩ : ∃ x, longB m = x := ⟨_, rfl⟩
  rw [hlg] at LG
  clear hlg
  obtain ⟨my, hmy⟩ : ∃ x, mayM m = x := ⟨_, rfl⟩
  rw [hmy] at EN D
  clear hmy
  obtain ⟨k, t, n, lc, lb, li⟩ := m
  simp only [msgV] at *
  generalize lc.length = l1 at *
  generalize lb.length = l2 at *
  generalize li.length = l3 at *
  have T1 := Lib.hid (at1 w (.cells #[.int .i64 k, .int .i64 t, .int .i64 n, .slice X1 l1 x1, .slice X2 l2 x2, .slice X3 l3 x3] MT))
  have HB := Lib.hid (bel1 w (.cells #[.int .i64 k, .int .i64 t, .int .i64 n, .slice X1 l1 x1, .slice X2 l2 x2, .slice X3 l3 x3] MT))
  go_enter Try.func4, Try.ntmps4
  go_upto_region 1 with fail
  generalize w.alloc (.cells #[.int .i64 k, .int .i64 t, .int .i64 n, .slice X1 l1 x1, .slice X2 l2 x2, .slice X3 l3 x3] MT) = w1 at *
  obtain ⟨⟨m0, m1, m2, m3, m4, m5⟩, _⟩ := Bx.b6 T1.out
  go_wp2_with fail
  refine (LG.out w1).mono ?_
  rintro e w2 ⟨rfl, hb2⟩
  replace T1 := Lib.hid ((hb2.block _ (lt_of_row T1.out)).trans T1.out)
  replace HB := Lib.hid (HB.out.trans (hb2.mono HB.out.size))
  clear hb2 LG m0 m1 m2 m3 m4 m5
  cases lg with
  | true =>
    clear EN D SM FS FB FK
    go_wp2_with fail
    refine (AW.out w2).mono ?_
    rintro e w3 ⟨rfl, hb⟩
    replace HB := Lib.hid (HB.out.trans (hb.mono HB.out.size))
    clear hb AW
    go_wp2
    go_ret
    exact ⟨rfl, HB.out⟩
  | false =>
    obtain ⟨⟨m0, m1, m2, m3, m4, m5⟩, _⟩ := Bx.b6 T1.out
    cases my with
    | false =>
      clear D SM FS FB FK
      rw [if_neg (by decide)] at EN
      go_wp2_with fail
      refine (EN.out w2 HB.out).mono ?_
      rintro e w3 ⟨rfl, hb2⟩
      replace HB := Lib.hid (HB.out.trans (hb2.mono HB.out.size))
      clear hb2 EN m0 m1 m2 m3 m4 m5 T1
      go_wp2_with fail
      refine (AW.out w3).mono ?_
      rintro e w4 ⟨rfl, hb⟩
      replace HB := Lib.hid (HB.out.trans (hb.mono HB.out.size))
      clear hb AW
      go_wp2
      go_ret
      exact ⟨rfl, HB.out⟩
    | true =>
      rw [if_pos rfl] at EN
      replace D := Lib.hid (D.out rfl)
      go_wp2_with fail
      refine (EN.out w2 HB.out).mono ?_
      rintro e w3 ⟨rfl, hb2⟩
      replace T1 := Lib.hid ((hb2.block _ (lt_of_row T1.out)).trans T1.out)
      replace HB := Lib.hid (HB.out.trans (hb2.mono HB.out.size))
      clear hb2 EN m0 m1 m2 m3 m4 m5
      have hlo := lt_of_row T1.out
      go_wp2_with fail
      refine (D.out w3).mono ?_
      rintro e w4 ⟨⟨A1, A2, A3, d1, d2, d3, rfl, ao⟩, hb2⟩
      replace T1 := Lib.hid ((hb2.block _ (lt_of_row T1.out)).trans T1.out)
      replace HB := Lib.hid (HB.out.trans (hb2.mono HB.out.size))
      have h34 := hb2.size
      obtain ⟨sb, si⟩ := FS.out _ _ _ _ _ _ _ _ ao
      clear hb2
      have T5 := Lib.hid (at1 w4 (.cells #[.int .i64 k, .int .i64 t, .int .i64 n, .slice A1 l1 d1, .slice A2 l2 d2, .slice A3 l3 d3] MT))
      have hb2 := bel1 w4 (.cells #[.int .i64 k, .int .i64 t, .int .i64 n, .slice A1 l1 d1, .slice A2 l2 d2, .slice A3 l3 d3] MT)
      have hp5 : w4.heap.size < (w4.alloc (.cells #[.int .i64 k, .int .i64 t, .int .i64 n, .slice A1 l1 d1, .slice A2 l2 d2, .slice A3 l3 d3] MT)).heap.size := by simp
      go_upto_region 7 with fail
      replace T1 := Lib.hid ((hb2.block _ (lt_of_row T1.out)).trans T1.out)
      replace HB := Lib.hid (HB.out.trans (hb2.mono HB.out.size))
      replace ao := Lib.hid (FB.out _ _ _ _ _ _ _ _ _ ao hb2)
      replace sb := Lib.hid (sb.below hb2)
      replace si := Lib.hid (si.below hb2)
      clear hb2
      generalize w4.alloc (.cells #[.int .i64 k, .int .i64 t, .int .i64 n, .slice A1 l1 d1, .slice A2 l2 d2, .slice A3 l3 d3] MT) = w5 at *
      generalize w4.heap.size = p5 at *
      go_wp2_with fail
      refine (D.out w5).mono ?_
      rintro e w6 ⟨⟨B1, B2, B3, f1, f2, f3, rfl, bo⟩, hb2⟩
      replace T1 := Lib.hid ((hb2.block _ (lt_of_row T1.out)).trans T1.out)
      replace T5 := Lib.hid ((hb2.block _ (lt_of_row T5.out)).trans T5.out)
      replace HB := Lib.hid (HB.out.trans (hb2.mono HB.out.size))
      have h56 := hb2.size
      replace ao := Lib.hid (FB.out _ _ _ _ _ _ _ _ _ ao.out hb2)
      replace sb := Lib.hid (sb.out.below hb2)
      replace si := Lib.hid (si.out.below hb2)
      clear hb2 D
      have T7 := Lib.hid (at1 w6 (.cells #[.int .i64 k, .int .i64 t, .int .i64 n, .slice B1 l1 f1, .slice B2 l2 f2, .slice B3 l3 f3] MT))
      have hb2 := bel1 w6 (.cells #[.int .i64 k, .int .i64 t, .int .i64 n, .slice B1 l1 f1, .slice B2 l2 f2, .slice B3 l3 f3] MT)
      have hp7 : p5 ≤ w6.heap.size := by omega
      go_upto_region 8 with fail
      replace T1 := Lib.hid ((hb2.block _ (lt_of_row T1.out)).trans T1.out)
      replace T5 := Lib.hid ((hb2.block _ (lt_of_row T5.out)).trans T5.out)
      replace HB := Lib.hid (HB.out.trans (hb2.mono HB.out.size))
      replace ao := Lib.hid (FB.out _ _ _ _ _ _ _ _ _ ao.out hb2)
      replace bo := Lib.hid (FB.out _ _ _ _ _ _ _ _ _ bo hb2)
      replace sb := Lib.hid (sb.out.below hb2)
      replace si := Lib.hid (si.out.below hb2)
      clear hb2 h56
      generalize w6.alloc (.cells #[.int .i64 k, .int .i64 t, .int .i64 n, .slice B1 l1 f1, .slice B2 l2 f2, .slice B3 l3 f3] MT) = w7 at *
      generalize w6.heap.size = p7 at *
      obtain ⟨⟨m0, m1, m2, m3, m4, m5⟩, _⟩ := Bx.b6 T1.out
      obtain ⟨⟨k0, k1, k2, k3, k4, k5⟩, _⟩ := Bx.b6 T5.out
      go_wp2_with fail
      refine (SM.out _ w7 _ _ _ _ _ _ ao.out HB.out).mono ?_
      rintro e w8 ⟨rfl, hb2⟩
      replace T1 := Lib.hid ((hb2.block _ (lt_of_row T1.out)).trans T1.out)
      replace T5 := Lib.hid ((hb2.block _ (lt_of_row T5.out)).trans T5.out)
      replace T7 := Lib.hid ((hb2.block _ (lt_of_row T7.out)).trans T7.out)
      replace HB := Lib.hid (HB.out.trans (hb2.mono HB.out.size))
      replace bo := Lib.hid (FB.out _ _ _ _ _ _ _ _ _ bo.out hb2)
      replace sb := Lib.hid (sb.out.below hb2)
      replace si := Lib.hid (si.out.below hb2)
      clear hb2 ao m0 m1 m2 m3 m4 m5 k0 k1 k2 k3 k4 k5 FB FS
      have hwlo : w.heap.size ≤ w3.heap.size := by omega
      generalize hlo3 : w3.heap.size = lo at *
      clear hlo3
      have hpb : p5 ≤ w5.heap.size := by omega
      generalize w5.heap.size = b5 at *
      go_wp2
      go_loopw [9] (fun i wr => ∃ j : Nat, j ≤ l2 ∧ i = .int .i64 j ∧ Hid (KO lo p5 w8 wr ∧ Sz lo p5 wr 25 11 A2 l2 ∧ Sz lo p5 wr 23 3 A3 l3)) (fun i _ => l2 - (intOf i).toNat)
      case atStart => exact ⟨0, Nat.zero_le _, rfl, Lib.hid ⟨KO.refl _ _ _, sb.out, si.out⟩⟩
      case round =>
        obtain ⟨j, hj, rfl, HK⟩ := hrel
        obtain ⟨⟨k0, k1, k2, k3, k4, k5⟩, _⟩ := Bx.b6 ((HK.out.1.block p5 (.inr (Nat.le_refl _))).trans T5.out)
        by_cases hjn : j < l2
        · have t1 : (j : Int) < (l2 : Int) := by omega
          obtain ⟨g, og, xv, rfl, g1, g2, gc, gf⟩ := HK.out.2.1.at_ (c := 3) hjn (by decide)
          have NX := Lib.hid (And.intro (HK.out.1.set g1 g2 (og + j * 11 + 3) (.int .i64 0)) (And.intro (HK.out.2.1.set g (og + j * 11 + 3) (.int .i64 0)) (HK.out.2.2.set g (og + j * 11 + 3) (.int .i64 0))))
          clear HK T1 T5 T7 bo sb si SM FK AW HB
          go_wp2
          go_roundw
          case rel => exact ⟨j + 1, by omega, by go_num, NX⟩
          case measure => simp [intOf]; omega
        · obtain rfl : j = l2 := by omega
          have t1 : ¬ (j : Int) < (j : Int) := by omega
          have t2 : decide ((j : Int) < (j : Int)) = false := by simp
          clear sb si
          go_wp2
          go_loopw [10] (fun i wr => ∃ q : Nat, q ≤ l3 ∧ i = .int .i64 q ∧ Hid (KO lo p5 w8 wr ∧ Sz lo p5 wr 23 3 A3 l3)) (fun i _ => l3 - (intOf i).toNat)
          case atStart => exact ⟨0, Nat.zero_le _, rfl, Lib.hid ⟨HK.out.1, HK.out.2.2⟩⟩
          case round =>
            obtain ⟨q, hq, rfl, HK2⟩ := hrel
            clear k0 k1 k2 k3 k4 k5 HK
            obtain ⟨⟨k0, k1, k2, k3, k4, k5⟩, _⟩ := Bx.b6 ((HK2.out.1.block p5 (.inr (Nat.le_refl _))).trans T5.out)
            by_cases hqn : q < l3
            · have t1 : (q : Int) < (l3 : Int) := by omega
              obtain ⟨g, og, xv, rfl, g1, g2, gc, gf⟩ := HK2.out.2.at_ (c := 2) hqn (by decide)
              have NX := Lib.hid (And.intro (HK2.out.1.set g1 g2 (og + q * 3 + 2) (.int .i64 (-1))) (HK2.out.2.set g (og + q * 3 + 2) (.int .i64 (-1))))
              clear HK2 T1 T5 T7 bo SM FK AW HB
              go_wp2
              go_roundw
              case rel => exact ⟨q + 1, by omega, by go_num, NX⟩
              case measure => simp [intOf]; omega
            · obtain rfl : q = l3 := by omega
              have t3 : ¬ (q : Int) < (q : Int) := by omega
              replace HB := Lib.hid (KO.below HB.out HK2.out.1 hwlo)
              replace bo := Lib.hid (FK.out _ _ _ _ _ _ _ _ _ _ _ bo.out HK2.out.1 hpb)
              obtain ⟨⟨y0, y1, y2, y3, y4, y5⟩, _⟩ := Bx.b6 ((HK2.out.1.block p7 (.inr hp7)).trans T7.out)
              obtain ⟨⟨m0, m1, m2, m3, m4, m5⟩, _⟩ := Bx.b6 ((HK2.out.1.block w.heap.size (.inl hlo)).trans T1.out)
              clear HK2 T1 T5 T7 FK
              go_wp2_with fail
              refine (SM.out _ _ _ _ _ _ _ _ bo.out HB.out).mono ?_
              rintro e w9 ⟨rfl, hb2⟩
              replace HB := Lib.hid (HB.out.trans (hb2.mono HB.out.size))
              clear hb2 bo SM k0 k1 k2 k3 k4 k5 y0 y1 y2 y3 y4 y5 m0 m1 m2 m3 m4 m5
              go_wp2_with fail
              refine (AW.out w9).mono ?_
              rintro e w10 ⟨rfl, hb⟩
              replace HB := Lib.hid (HB.out.trans (hb.mono HB.out.size))
              clear hb AW
              go_wp2
              go_ret
              exact ⟨rfl, HB.out⟩
end Go.Proofs.Ytdhlebmgeiiejaa
