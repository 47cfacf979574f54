/- The document's store: Put. -/
import Derived.Test.YteohkbepefjjlaaKArPut
namespace Go.Proofs.Yteohkbepefjjlaa
open Go.RowKit Pz Ar
set_option linter.unusedVariables false
set_option linter.unusedSimpArgs false

theorem grown_below {w W V : World} {row : Option Nat} (h : w.grownBy W row) (hb : Below W.heap.size W V) : w.grownBy V row :=
  ⟨hb.os.trans h.os, hb.tape.trans h.tape, hb.output.trans h.output, Nat.le_trans h.size hb.size, fun k hk hne => (hb.block k (Nat.lt_of_lt_of_le hk h.size)).trans (h.block k hk hne)⟩
theorem below_grown {w W : World} (hb : Below w.heap.size w W) (row : Option Nat) : w.grownBy W row := ⟨hb.os, hb.tape, hb.output, hb.size, fun k hk _ => hb.block k hk⟩
theorem grown_grown {w W V : World} {row : Option Nat} (h : w.grownBy W row) (k : W.grownBy V row) : w.grownBy V row :=
  ⟨k.os.trans h.os, k.tape.trans h.tape, k.output.trans h.output, Nat.le_trans h.size k.size, fun i hi hne => (k.block i (Nat.lt_of_lt_of_le hi h.size) hne).trans (h.block i hi hne)⟩
set_option maxHeartbeats 8000000 in
set_option maxRecDepth 100000 in
theorem rPut_any {F : Foot} {p : Nat} {t : Tb} {w : World} (h : RS F p t w) (b : Bn) (hf : Fit b.m) (hl : ∀ m, (t m).length + 1 ≤ 100000) : Calls Try.prog 31 #[.pointer (some ⟨p, 0, none⟩), b.val] w fun e w' => e = .returned (.int .i64 (Ar.put t b).2) ∧ RS (Gr F w.heap.size w'.heap.size) p (Ar.put t b).1 w' ∧ Only F w w' := by
  have MY := Lib.hid fun W => may_any b hf W
  have HA : Hid (∀ W, Below w.heap.size w W → Calls Try.prog 37 #[.pointer (some ⟨p, 0, none⟩), .agg #[.int .i64 b.s, .int .i64 b.i, .int .i64 b.g]] W fun e w' => e = .returned (atV t b.id) ∧ Below W.heap.size W w') := Lib.hid fun W hW => rat_any (h.below hW) _ _ _
  have PU : Hid (may b = true → ∀ W, Below w.heap.size w W → Calls Try.prog 46 #[.pointer (some ⟨p, 0, none⟩), b.val] W fun e w' => e = .returned (.tuple #[]) ∧ RS (Gr F w.heap.size w'.heap.size) p (put0 t b) w' ∧ Only F w w') := Lib.hid fun hm W hW => by
    have hr := may_mask hm
    refine (rput_any (h.below hW) b (m := b.m.toNat) (by omega) (by omega) (hl _)).mono ?_
    rintro e w' ⟨rfl, hr, hg⟩
    refine ⟨rfl, hr.more (fun x hx => hx.imp id fun hx => ⟨Nat.le_trans hW.size hx.1, hx.2⟩) (fun x hx => ?_), (Only.of_below hW).trans (.of_grown hg (.inl h.mine))⟩
    rcases hx with hx | hx
    · exact hr.lt x (.inl hx)
    · exact hx.2
  have RB : Hid (∀ W, Below w.heap.size w W → RS (Gr F w.heap.size W.heap.size) p t W ∧ Only F w W) := Lib.hid fun W hW => ⟨(h.below hW).gr, .of_below hW⟩
  have P1 : Hid (may b = false → Ar.put t b = (t, 1)) := Lib.hid fun hm => by unfold Ar.put; rw [hm]; rfl
  have P2 : Hid (may b = true → ∀ pr, find t b.id = some pr → Ar.put t b = (t, 7)) := Lib.hid fun hm pr hp => by unfold Ar.put; rw [hm, hp]; rfl
  have P3 : Hid (may b = true → find t b.id = none → Ar.put t b = (put0 t b, 0)) := Lib.hid fun hm hp => by unfold Ar.put; rw [hm, hp]; rfl
  generalize Ar.put t b = ANS at *
  clear h hf hl
  generalize put0 t b = t' at *
  unfold atV at HA
  generalize find t b.id = fd at *
  obtain ⟨my, hmy⟩ : ∃ x, may b = x := ⟨_, rfl⟩
  rw [hmy] at MY PU P1 P2 P3
  clear hmy
  obtain ⟨bs, bi, bg, bm, bx, bY, bvx, bvy, bh, bp, bl⟩ := b
  simp only [Bn.val] at *
  have T1 := Lib.hid (at1 w (.cells #[.int .i64 bs, .int .i64 bi, .int .i64 bg, .int .i64 bm, .int .i64 bx, .int .i64 bY, .int .i64 bvx, .int .i64 bvy, .int .i64 bh, .int .i64 bp, .int .i64 bl] 35))
  have BE := Lib.hid (bel1 w (.cells #[.int .i64 bs, .int .i64 bi, .int .i64 bg, .int .i64 bm, .int .i64 bx, .int .i64 bY, .int .i64 bvx, .int .i64 bvy, .int .i64 bh, .int .i64 bp, .int .i64 bl] 35))
  go_enter Try.func31, Try.ntmps31
  go_upto_region 1 with fail
  generalize w.alloc (.cells #[.int .i64 bs, .int .i64 bi, .int .i64 bg, .int .i64 bm, .int .i64 bx, .int .i64 bY, .int .i64 bvx, .int .i64 bvy, .int .i64 bh, .int .i64 bp, .int .i64 bl] 35) = w1 at *
  obtain ⟨⟨k0, k1, k2, k3, k4, k5, k6, k7, k8, k9, k10⟩, _⟩ := Bx.b11 T1.out
  go_wp2_with fail
  refine (MY.out w1).mono ?_
  rintro e w2 ⟨rfl, hb⟩
  replace BE := Lib.hid (BE.out.trans (hb.mono BE.out.size))
  replace T1 := Lib.hid ((hb.block _ (Bx.lt T1.out)).trans T1.out)
  clear hb MY k0 k1 k2 k3 k4 k5 k6 k7 k8 k9 k10
  cases my with
  | false =>
    obtain rfl := P1.out rfl
    go_wp2
    go_ret
    exact ⟨rfl, RB.out _ BE.out⟩
  | true =>
    obtain ⟨⟨k0, k1, k2, k3, k4, k5, k6, k7, k8, k9, k10⟩, _⟩ := Bx.b11 T1.out
    go_wp2_with fail
    refine (HA.out w2 BE.out).mono ?_
    rintro e w3 ⟨he, hb⟩
    replace BE := Lib.hid (BE.out.trans (hb.mono BE.out.size))
    replace T1 := Lib.hid ((hb.block _ (Bx.lt T1.out)).trans T1.out)
    clear hb HA k0 k1 k2 k3 k4 k5 k6 k7 k8 k9 k10
    cases fd with
    | some pr =>
      obtain ⟨m, i⟩ := pr
      subst he
      have t1 : (m : Int) ≥ 0 := by omega
      have t2 : decide ((m : Int) ≥ 0) = true := decide_eq_true t1
      obtain rfl := P2.out (by trivial) _ rfl
      go_wp2
      go_ret
      exact ⟨rfl, RB.out _ BE.out⟩
    | none =>
      subst he
      obtain rfl := P3.out (by trivial) rfl
      obtain ⟨⟨k0, k1, k2, k3, k4, k5, k6, k7, k8, k9, k10⟩, _⟩ := Bx.b11 T1.out
      go_wp2_with fail
      refine (PU.out (by trivial) w3 BE.out).mono ?_
      rintro e w4 ⟨rfl, hr, hg⟩
      go_wp2
      go_ret
      exact ⟨rfl, hr, hg⟩
end Go.Proofs.Yteohkbepefjjlaa
