/- No beginning of a message's bytes, but all of them, is a message's; nor are they with more behind. Written by wip/tools/gencdlaw2.py. -/
import Derived.Test.YtdhlebmgeiiejaaKDec
namespace Go.Proofs.Ytdhlebmgeiiejaa
open Go.RowKit Pz Cd
set_option linter.unusedVariables false
set_option linter.unusedSimpArgs false

namespace Cd
theorem enc_some {m : Mn} : encM m ≠ [] := by
  unfold encM
  have := Oct.enc_length m.k
  intro h
  rw [List.append_eq_nil_iff] at h
  rw [h.1] at this
  simp at this
  omega
/-- a beginning is no message's -/
theorem cut_none {m : Mn} (h : mayM m = true) {k : Nat} (hk : k < (encM m).length) : decM ((encM m).take k) = none := by
  cases hd : decM ((encM m).take k) with
  | none => rfl
  | some x =>
    obtain ⟨h1, h2⟩ := dec_only hd
    have e : encM m = encM x ++ (encM m).drop k := by rw [← h2, List.take_append_drop]
    obtain ⟨_, h3⟩ := enc_begins h h1 e
    have := congrArg List.length h3
    rw [List.length_drop, List.length_nil] at this
    omega
/-- nor with more behind -/
theorem more_none {m : Mn} (h : mayM m = true) {x : UInt8} {r : List UInt8} : decM (encM m ++ x :: r) = none := by
  cases hd : decM (encM m ++ x :: r) with
  | none => rfl
  | some y =>
    obtain ⟨h1, h2⟩ := dec_only hd
    obtain ⟨_, h3⟩ := enc_begins h1 h h2.symm
    cases h3
end Cd
theorem mod_lo' (k : Int) {n : Int} (hn : 0 < n) : 0 ≤ k.tmod n + n ∧ k.tmod n + n < 2 * n := by
  have h2 := Int.tmod_lt_of_pos k hn
  have h1 : -n < k.tmod n := by
    have := Int.tmod_lt_of_pos (-k) hn
    rw [Int.neg_tmod] at this
    omega
  omega
theorem mod_is' (k : Int) {n : Int} (hn : 0 < n) : (k.tmod n + n).tmod n = k % n := by
  rw [Int.tmod_eq_emod_of_nonneg (mod_lo' k hn).1, Int.add_emod_right, Int.tmod_def, Int.sub_eq_add_neg, ← Int.mul_neg, Int.add_mul_emod_self_left]
theorem cut0 (r : List UInt8) (n : Nat) : (ByteArray.mk r.toArray).extract 0 n = ⟨(r.take n).toArray⟩ := by
  apply ByteArray.ext
  rw [ByteArray.data_extract]
  apply Array.ext'
  simp [List.extract_eq_take_drop]
set_option maxHeartbeats 16000000 in
set_option maxRecDepth 100000 in
theorem law_cuts (w : World) (m : Mn) (A1 A2 A3 : Option Addr) (c1 c2 c3 : Nat) (a : Int) (more : List UInt8) (hb : more.length ≤ 140737488351232) (MA : MsgAt m A1 A2 A3 w) : Calls Try.prog 6 #[msgV m A1 c1 A2 c2 A3 c3, .int .i64 a, .string ⟨more.toArray⟩] w fun e w' => e = .returned (.bool true) ∧ Below w.heap.size w w' := by
  have AW : Hid (∀ W, Calls Try.prog 13 #[] W fun e w' => e = .returned (.bool true) ∧ Below W.heap.size W w') := Lib.hid fun W => awake_any W
  have LG : Hid (∀ W, Calls Try.prog 14 #[msgV m A1 c1 A2 c2 A3 c3] W fun e w' => e = .returned (.bool (longB m)) ∧ Below W.heap.size W w') := Lib.hid fun W => long_any m A1 A2 A3 c1 c2 c3 W
  have EN : Hid (∀ W, Below w.heap.size w W → Calls Try.prog 15 #[msgV m A1 c1 A2 c2 A3 c3] W fun e w' => e = .returned (encR m) ∧ Below W.heap.size W w') := Lib.hid fun W hW => encode_any (MA.below hW)
  have D1 : Hid (mayM m = true → ∀ k, k < (encM m).length → ∀ W, Calls Try.prog 16 #[.string ⟨((encM m).take k).toArray⟩] W fun e w' => e = .returned (.tuple #[.agg #[.int .i64 0, .int .i64 0, .int .i64 0, .slice none 0 0, .slice none 0 0, .slice none 0 0], .int .i64 2]) ∧ Below W.heap.size W w') := Lib.hid fun hm k hk W => by
    have hl := enc_len hm
    refine (cdecode_any ((encM m).take k) (by rw [List.length_take]; omega) W).mono ?_
    rintro e w' ⟨hd, hb⟩
    unfold DecR at hd
    rw [decC_is, cut_none hm hk] at hd
    exact ⟨hd, hb⟩
  have D2 : Hid (mayM m = true → ∀ W, Calls Try.prog 16 #[.string ⟨(encM m ++ more).toArray⟩] W fun e w' => (∃ k t n B1 B2 B3 n1 n2 n3 d1 d2 d3, e = .returned (.tuple #[.agg #[.int .i64 k, .int .i64 t, .int .i64 n, .slice B1 n1 d1, .slice B2 n2 d2, .slice B3 n3 d3], .int .i64 (if more.isEmpty then 0 else 2)])) ∧ Below W.heap.size W w') := Lib.hid fun hm W => by
    have hl := enc_len hm
    refine (cdecode_any (encM m ++ more) (by rw [List.length_append]; omega) W).mono ?_
    rintro e w' ⟨hd, hb⟩
    refine ⟨?_, hb⟩
    unfold DecR at hd
    rw [decC_is] at hd
    cases more with
    | nil =>
      rw [List.append_nil, dec_enc hm] at hd
      obtain ⟨v, rfl, vc, vb, vi, rfl, hc, hb2, hi⟩ := hd
      obtain ⟨B1, d1, rfl⟩ := hc.form
      obtain ⟨B2, d2, rfl⟩ := hb2.form
      obtain ⟨B3, d3, rfl⟩ := hi.form
      exact ⟨_, _, _, _, _, _, _, _, _, _, _, _, rfl⟩
    | cons x r =>
      rw [more_none hm] at hd
      exact ⟨_, _, _, _, _, _, _, _, _, _, _, _, hd⟩
  have HL : Hid (mayM m = true → (encM m).length ≤ 300000 ∧ 0 < (encM m).length) := Lib.hid fun hm => ⟨enc_len hm, List.length_pos_iff.2 enc_some⟩
  have HN : Hid (longB m = true → True) := Lib.hid fun _ => trivial
  clear HN MA
  unfold encR at EN
  generalize encM m = em at *
  obtain ⟨lg, hlg⟩ : ∃ x, longB m = x := ⟨_, rfl⟩
  rw [hlg] at LG
  clear hlg
  obtain ⟨my, hmy⟩ : ∃ x, mayM m = x := ⟨_, rfl⟩
  rw [hmy] at EN D1 D2 HL
  clear hmy
  obtain ⟨k, t, n, lc, lb, li⟩ := m
  simp only [msgV] at *
  generalize lc.length = l1 at *
  generalize lb.length = l2 at *
  generalize li.length = l3 at *
  have T1 := Lib.hid (at1 w (.cells #[.int .i64 k, .int .i64 t, .int .i64 n, .slice A1 l1 c1, .slice A2 l2 c2, .slice A3 l3 c3] MT))
  have HB := Lib.hid (bel1 w (.cells #[.int .i64 k, .int .i64 t, .int .i64 n, .slice A1 l1 c1, .slice A2 l2 c2, .slice A3 l3 c3] MT))
  go_enter Try.func6, Try.ntmps6
  go_upto_region 1 with fail
  generalize w.alloc (.cells #[.int .i64 k, .int .i64 t, .int .i64 n, .slice A1 l1 c1, .slice A2 l2 c2, .slice A3 l3 c3] MT) = w1 at *
  obtain ⟨⟨m0, m1, m2, m3, m4, m5⟩, _⟩ := Bx.b6 T1.out
  go_wp2_with fail
  refine (LG.out w1).mono ?_
  rintro e w2 ⟨rfl, hb2⟩
  replace T1 := Lib.hid ((hb2.block _ (lt_of_row T1.out)).trans T1.out)
  replace HB := Lib.hid (HB.out.trans (hb2.mono HB.out.size))
  clear hb2 LG m0 m1 m2 m3 m4 m5
  cases lg with
  | true =>
    clear EN D1 D2 HL
    go_wp2_with fail
    refine (AW.out w2).mono ?_
    rintro e w3 ⟨rfl, hb⟩
    replace HB := Lib.hid (HB.out.trans (hb.mono HB.out.size))
    clear hb AW
    go_wp2
    go_ret
    exact ⟨rfl, HB.out⟩
  | false =>
    obtain ⟨⟨m0, m1, m2, m3, m4, m5⟩, _⟩ := Bx.b6 T1.out
    cases my with
    | false =>
      clear D1 D2 HL
      rw [if_neg (by decide)] at EN
      go_wp2_with fail
      refine (EN.out w2 HB.out).mono ?_
      rintro e w3 ⟨rfl, hb2⟩
      replace HB := Lib.hid (HB.out.trans (hb2.mono HB.out.size))
      clear hb2 EN m0 m1 m2 m3 m4 m5 T1
      go_wp2_with fail
      refine (AW.out w3).mono ?_
      rintro e w4 ⟨rfl, hb⟩
      replace HB := Lib.hid (HB.out.trans (hb.mono HB.out.size))
      clear hb AW
      go_wp2
      go_ret
      exact ⟨rfl, HB.out⟩
    | true =>
      rw [if_pos rfl] at EN
      obtain ⟨hl, hp⟩ := HL.out rfl
      replace D1 := Lib.hid (D1.out rfl)
      replace D2 := Lib.hid (D2.out rfl)
      clear HL
      have SM := cd_sum em more (by omega)
      obtain ⟨z, hz⟩ : ∃ z, em ++ more = z := ⟨_, rfl⟩
      rw [hz] at SM D2
      clear hz
      have q1 := mod_lo' a (n := (em.length : Int)) (by omega)
      have q2 := mod_is' a (n := (em.length : Int)) (by omega)
      have q3 := Int.emod_nonneg a (b := (em.length : Int)) (by omega)
      have q4 := Int.emod_lt_of_pos a (b := (em.length : Int)) (by omega)
      obtain ⟨c, hc⟩ : ∃ c : Nat, a % (em.length : Int) = (c : Int) := ⟨(a % (em.length : Int)).toNat, by omega⟩
      rw [hc] at q2 q3 q4
      clear hc
      have hcl : c < em.length := by omega
      replace D1 := Lib.hid (D1.out c hcl)
      have X0 := cut0 em c
      obtain ⟨y, hy⟩ : ∃ y, em.take c = y := ⟨_, rfl⟩
      rw [hy] at X0 D1
      clear hy
      obtain ⟨q, hq⟩ : ∃ q, em.length = q := ⟨_, rfl⟩
      rw [hq] at q1 q2 q4 hl hp hcl
      have s0 : IntKind.i64.wrap (a.tmod q + q) = a.tmod q + q := IntWalk.i64_in _ ⟨by omega, by omega⟩
      have h0 : (q : Int) ≠ 0 := by omega
      have h00 : ((q : Int) == 0) = false := by rw [beq_eq_false_iff_ne]; exact h0
      have hcq : (c : Int) ≤ (q : Int) := by omega
      clear q1 q4 hl hp
      go_wp2_with fail
      refine (EN.out w2 HB.out).mono ?_
      rintro e w3 ⟨rfl, hb2⟩
      replace HB := Lib.hid (HB.out.trans (hb2.mono HB.out.size))
      clear hb2 EN m0 m1 m2 m3 m4 m5 T1
      go_wp2_with fail
      refine (D1.out w3).mono ?_
      rintro e w4 ⟨rfl, hb2⟩
      replace HB := Lib.hid (HB.out.trans (hb2.mono HB.out.size))
      clear hb2 D1 X0 q2 s0 h0 h00 hcq hcl
      have hb2 := bel1 w4 (.cells #[.int .i64 0, .int .i64 0, .int .i64 0, .slice none 0 0, .slice none 0 0, .slice none 0 0] MT)
      go_upto_region 10 with fail
      replace HB := Lib.hid (HB.out.trans (hb2.mono HB.out.size))
      generalize w4.alloc (.cells #[.int .i64 0, .int .i64 0, .int .i64 0, .slice none 0 0, .slice none 0 0, .slice none 0 0] MT) = w5 at *
      clear hb2
      go_wp2_with fail
      refine (D2.out w5).mono ?_
      rintro e w6 ⟨⟨k', t', n', B1, B2, B3, n1, n2, n3, d1, d2, d3, rfl⟩, hb2⟩
      replace HB := Lib.hid (HB.out.trans (hb2.mono HB.out.size))
      clear hb2 D2 SM
      have hb2 := bel1 w6 (.cells #[.int .i64 k', .int .i64 t', .int .i64 n', .slice B1 n1 d1, .slice B2 n2 d2, .slice B3 n3 d3] MT)
      cases more with
      | nil =>
        rw [show (if ([] : List UInt8).isEmpty then (0 : Int) else 2) = 0 from rfl]
        go_upto_region 11 with fail
        replace HB := Lib.hid (HB.out.trans (hb2.mono HB.out.size))
        generalize w6.alloc (.cells #[.int .i64 k', .int .i64 t', .int .i64 n', .slice B1 n1 d1, .slice B2 n2 d2, .slice B3 n3 d3] MT) = w7 at *
        clear hb2
        go_wp2_with fail
        refine (AW.out w7).mono ?_
        rintro e w8 ⟨rfl, hb⟩
        replace HB := Lib.hid (HB.out.trans (hb.mono HB.out.size))
        clear hb AW
        go_wp2
        go_ret
        exact ⟨rfl, HB.out⟩
      | cons x r =>
        rw [show (if (x :: r : List UInt8).isEmpty then (0 : Int) else 2) = 2 from rfl]
        go_upto_region 11 with fail
        replace HB := Lib.hid (HB.out.trans (hb2.mono HB.out.size))
        generalize w6.alloc (.cells #[.int .i64 k', .int .i64 t', .int .i64 n', .slice B1 n1 d1, .slice B2 n2 d2, .slice B3 n3 d3] MT) = w7 at *
        clear hb2
        go_wp2_with fail
        refine (AW.out w7).mono ?_
        rintro e w8 ⟨rfl, hb⟩
        replace HB := Lib.hid (HB.out.trans (hb.mono HB.out.size))
        clear hb AW
        go_wp2
        go_ret
        exact ⟨rfl, HB.out⟩
end Go.Proofs.Ytdhlebmgeiiejaa
