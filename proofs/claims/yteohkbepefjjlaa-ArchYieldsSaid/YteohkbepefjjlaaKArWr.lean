/- The document's store: Write. -/
import Derived.Test.YteohkbepefjjlaaKArMem3
namespace Go.Proofs.Yteohkbepefjjlaa
open Go.RowKit Pz Ar
set_option linter.unusedVariables false
set_option linter.unusedSimpArgs false

theorem rput_of {F : Foot} {p : Nat} {t : Tb} {w W : World} (hO : Only F w W) (h : RS (Gr F w.heap.size W.heap.size) p t W) (hp : F p) (b : Bn) (hm : may b = true) (hl : ∀ m, (t m).length + 1 ≤ 100000) : Calls Try.prog 46 #[.pointer (some ⟨p, 0, none⟩), b.val] W fun e w' => e = .returned (.tuple #[]) ∧ RS (Gr F w.heap.size w'.heap.size) p (put0 t b) w' ∧ Only F w w' := by
  have hr := may_mask hm
  refine (rput_any h b (m := b.m.toNat) (by omega) (by omega) (hl _)).mono ?_
  rintro e w' ⟨rfl, hr, hg⟩
  rw [Gr.gr hO.size hg.size] at hr
  exact ⟨rfl, hr, hO.trans (.of_grown hg (.inl hp))⟩
theorem cutL_le (t : Tb) (m i a : Nat) : (cut0 t m i a).length ≤ (t a).length := by
  unfold cut0 Ar.up
  split
  · rename_i e; subst e; rw [cutL_len]; omega
  · exact Nat.le_refl _
set_option maxHeartbeats 8000000 in
set_option maxRecDepth 100000 in
theorem rWrite_any {F : Foot} {p : Nat} {t : Tb} {w : World} (h : RS F p t w) (b : Bn) (hf : Fit b.m) (hl : ∀ m, (t m).length + 1 ≤ 100000) : Calls Try.prog 32 #[.pointer (some ⟨p, 0, none⟩), b.val] w fun e w' => e = .returned (.int .i64 (Ar.write t b).2) ∧ RS (Gr F w.heap.size w'.heap.size) p (Ar.write t b).1 w' ∧ Only F w w' := by
  have MY := Lib.hid fun W => may_any b hf W
  have HA : Hid (∀ W, Below w.heap.size w W → Calls Try.prog 37 #[.pointer (some ⟨p, 0, none⟩), .agg #[.int .i64 b.s, .int .i64 b.i, .int .i64 b.g]] W fun e w' => e = .returned (atV t b.id) ∧ Below W.heap.size W w') := Lib.hid fun W hW => rat_any (h.below hW) _ _ _
  have RB : Hid (∀ W, Below w.heap.size w W → RS (Gr F w.heap.size W.heap.size) p t W ∧ Only F w W) := Lib.hid fun W hW => ⟨(h.below hW).gr, .of_below hW⟩
  have P1 : Hid (may b = false → Ar.write t b = (t, 1)) := Lib.hid fun hm => by unfold Ar.write; rw [hm]; rfl
  have P2 : Hid (may b = true → find t b.id = none → Ar.write t b = (t, 6)) := Lib.hid fun hm hp => by unfold Ar.write; rw [hm, hp]; rfl
  have P3 : Hid (may b = true → ∀ m i, find t b.id = some (m, i) → (m : Int) = b.m → Ar.write t b = (Ar.up t m ((t m).set i b), 0)) := Lib.hid fun hm m i hp he => by unfold Ar.write; rw [hm, hp]; simp [he]
  have P4 : Hid (may b = true → ∀ m i, find t b.id = some (m, i) → ¬ (m : Int) = b.m → Ar.write t b = (put0 (cut0 t m i) b, 0)) := Lib.hid fun hm m i hp he => by unfold Ar.write; rw [hm, hp]; simp [he]
  have INP : Hid (∀ m i, find t b.id = some (m, i) → ∀ W, Below w.heap.size w W → ∃ g o n c, m < 32 ∧ i < n ∧ n ≤ 100000 ∧ W.cell? ⟨p, m, none⟩ = some (.slice (some ⟨g, o, none⟩) n c) ∧ ∃ y, (W.cell? ⟨g, o + i * 11, none⟩ = some (.int .i64 (Bn.s y)) ∧ W.cell? ⟨g, o + i * 11 + 1, none⟩ = some (.int .i64 y.i) ∧ W.cell? ⟨g, o + i * 11 + 2, none⟩ = some (.int .i64 y.g) ∧ W.cell? ⟨g, o + i * 11 + 3, none⟩ = some (.int .i64 y.m) ∧ W.cell? ⟨g, o + i * 11 + 4, none⟩ = some (.int .i64 y.x) ∧ W.cell? ⟨g, o + i * 11 + 5, none⟩ = some (.int .i64 y.y) ∧ W.cell? ⟨g, o + i * 11 + 6, none⟩ = some (.int .i64 y.vx) ∧ W.cell? ⟨g, o + i * 11 + 7, none⟩ = some (.int .i64 y.vy) ∧ W.cell? ⟨g, o + i * 11 + 8, none⟩ = some (.int .i64 y.h) ∧ W.cell? ⟨g, o + i * 11 + 9, none⟩ = some (.int .i64 y.p) ∧ W.cell? ⟨g, o + i * 11 + 10, none⟩ = some (.int .i64 y.l)) ∧ (W.frozen? ⟨g, o + i * 11, none⟩ = false ∧ W.frozen? ⟨g, o + i * 11 + 1, none⟩ = false ∧ W.frozen? ⟨g, o + i * 11 + 2, none⟩ = false ∧ W.frozen? ⟨g, o + i * 11 + 3, none⟩ = false ∧ W.frozen? ⟨g, o + i * 11 + 4, none⟩ = false ∧ W.frozen? ⟨g, o + i * 11 + 5, none⟩ = false ∧ W.frozen? ⟨g, o + i * 11 + 6, none⟩ = false ∧ W.frozen? ⟨g, o + i * 11 + 7, none⟩ = false ∧ W.frozen? ⟨g, o + i * 11 + 8, none⟩ = false ∧ W.frozen? ⟨g, o + i * 11 + 9, none⟩ = false ∧ W.frozen? ⟨g, o + i * 11 + 10, none⟩ = false) ∧
      Hid (RS (Gr F w.heap.size (setRow11 W g (o + i * 11) b).heap.size) p (Ar.up t m ((t m).set i b)) (setRow11 W g (o + i * 11) b) ∧ Only F w (setRow11 W g (o + i * 11) b))) := Lib.hid fun m i hf W hW => by
    obtain ⟨hm, x, hx, _⟩ := find_at hf
    have hi := (List.getElem?_eq_some_iff.1 hx).1
    have hR := h.below hW
    obtain ⟨A, c, hc, ho⟩ := hR.at_ hm
    obtain ⟨g, o, rfl, _, hcells, hfr⟩ := own_at ho hx
    obtain ⟨s1, s2⟩ := own_set ho hi b
    have hgF := hR.own_mine hm hc (g := g) rfl
    refine ⟨g, o, _, c, hm, hi, h.few m, hc, x, hcells, hfr, Lib.hid ⟨?_, setRow11_only (.of_below hW) hgF _ _⟩⟩
    rw [setRow11_size]
    refine (RS.set hR hm hc (setRow11_size _ _ _ _) (fun k hk => setRow11_ne _ _ _ (fun e => hk (by rw [e]; rfl))) s1 (by rw [List.length_set]; exact h.few m)).more (fun x hx => .inl hx) (fun x hx => ?_)
    rw [setRow11_size]
    exact hx.elim (hR.lt x) (fun e => e.2)
  have CU : Hid (∀ m i, find t b.id = some (m, i) → ∀ W, Below w.heap.size w W → Calls Try.prog 47 #[.pointer (some ⟨p, 0, none⟩), .int .i64 (m : Int), .int .i64 (i : Int)] W fun e w' => e = .returned (.tuple #[]) ∧ RS (Gr F W.heap.size w'.heap.size) p (cut0 t m i) w' ∧ Only F W w') := Lib.hid fun m i hf W hW => by
    obtain ⟨hm, x, hx, _⟩ := find_at hf
    refine (rcut_any (h.below hW) hm (List.getElem?_eq_some_iff.1 hx).1).mono ?_
    rintro e w' ⟨rfl, hr, hg⟩
    exact ⟨rfl, hr, .of_grown hg h.mine⟩
  have PU : Hid (may b = true → ∀ m i W V, Below w.heap.size w W → Only F W V → RS (Gr F W.heap.size V.heap.size) p (cut0 t m i) V → Calls Try.prog 46 #[.pointer (some ⟨p, 0, none⟩), b.val] V fun e w' => e = .returned (.tuple #[]) ∧ RS (Gr F w.heap.size w'.heap.size) p (put0 (cut0 t m i) b) w' ∧ Only F w w') := Lib.hid fun hm m i W V hW hO hr => by
    refine (rput_of hO hr h.mine b hm (fun a => by have := cutL_le t m i a; have := hl a; omega)).mono ?_
    rintro e w' ⟨rfl, hr, hO'⟩
    refine ⟨rfl, hr.more (fun x hx => hx.imp id fun hx => ⟨Nat.le_trans hW.size hx.1, hx.2⟩) (fun x hx => ?_), (Only.of_below hW).trans (hO'.more fun b hb => .inl hb)⟩
    rcases hx with hx | hx
    · exact hr.lt x (.inl hx)
    · exact hx.2
  have NF : Hid (¬ F w.heap.size) := Lib.hid fun e => Nat.lt_irrefl _ (h.lt _ e)
  generalize Ar.write t b = ANS at *
  clear h hf hl
  unfold atV at HA
  generalize find t b.id = fd at *
  obtain ⟨my, hmy⟩ : ∃ x, may b = x := ⟨_, rfl⟩
  rw [hmy] at MY PU P1 P2 P3 P4
  clear hmy
  obtain ⟨bs, bi, bg, bm, bx, bY, bvx, bvy, bh, bp, bl⟩ := b
  simp only [Bn.val] at MY HA PU P3 P4
  have T1 := Lib.hid (at1 w (.cells #[.int .i64 bs, .int .i64 bi, .int .i64 bg, .int .i64 bm, .int .i64 bx, .int .i64 bY, .int .i64 bvx, .int .i64 bvy, .int .i64 bh, .int .i64 bp, .int .i64 bl] 35))
  have BE := Lib.hid (bel1 w (.cells #[.int .i64 bs, .int .i64 bi, .int .i64 bg, .int .i64 bm, .int .i64 bx, .int .i64 bY, .int .i64 bvx, .int .i64 bvy, .int .i64 bh, .int .i64 bp, .int .i64 bl] 35))
  go_enter Try.func32, Try.ntmps32
  go_upto_region 1 with fail
  generalize w.alloc (.cells #[.int .i64 bs, .int .i64 bi, .int .i64 bg, .int .i64 bm, .int .i64 bx, .int .i64 bY, .int .i64 bvx, .int .i64 bvy, .int .i64 bh, .int .i64 bp, .int .i64 bl] 35) = w1 at *
  obtain ⟨⟨k0, k1, k2, k3, k4, k5, k6, k7, k8, k9, k10⟩, _⟩ := Bx.b11 T1.out
  go_wp2_with fail
  refine (MY.out w1).mono ?_
  rintro e w2 ⟨rfl, hb⟩
  replace BE := Lib.hid (BE.out.trans (hb.mono BE.out.size))
  replace T1 := Lib.hid ((hb.block _ (Bx.lt T1.out)).trans T1.out)
  clear hb MY k0 k1 k2 k3 k4 k5 k6 k7 k8 k9 k10
  cases my with
  | false =>
    obtain rfl := P1.out rfl
    go_wp2
    go_ret
    exact ⟨rfl, RB.out _ BE.out⟩
  | true =>
    obtain ⟨⟨k0, k1, k2, k3, k4, k5, k6, k7, k8, k9, k10⟩, _⟩ := Bx.b11 T1.out
    go_wp2_with fail
    refine (HA.out w2 BE.out).mono ?_
    rintro e w3 ⟨he, hb⟩
    replace BE := Lib.hid (BE.out.trans (hb.mono BE.out.size))
    replace T1 := Lib.hid ((hb.block _ (Bx.lt T1.out)).trans T1.out)
    clear hb HA k0 k1 k2 k3 k4 k5 k6 k7 k8 k9 k10
    cases fd with
    | none =>
      subst he
      obtain rfl := P2.out (by trivial) rfl
      go_wp2
      go_ret
      exact ⟨rfl, RB.out _ BE.out⟩
    | some pr =>
      obtain ⟨m, i⟩ := pr
      subst he
      have t2 : decide ((m : Int) < 0) = false := decide_eq_false (by omega)
      obtain ⟨⟨k0, k1, k2, k3, k4, k5, k6, k7, k8, k9, k10⟩, _⟩ := Bx.b11 T1.out
      by_cases hmb : (m : Int) = bm
      · obtain rfl := P3.out (by trivial) _ _ rfl hmb
        obtain ⟨g, o, n, c, hm, hi, hn, hc, y, ⟨y0, y1, y2, y3, y4, y5, y6, y7, y8, y9, y10⟩, ⟨f0, f1, f2, f3, f4, f5, f6, f7, f8, f9, f10⟩, FIN⟩ := INP.out m i rfl w3.drew BE.out.drew
        have hm2 : (m : Int) < 32 := by omega
        have hi2 : (i : Int) < (n : Int) := by omega
        have hn2 : (n : Int) ≤ 100000 := by omega
        clear INP CU PU P1 P2 P3 P4 RB NF hm hi hn
        subst hmb
        go_upto_region 7 with fail
        have z0 : w3.drew.cell? ⟨w.heap.size, 0, none⟩ = some (.int .i64 bs) := k0
        have z1 : w3.drew.cell? ⟨w.heap.size, 1, none⟩ = some (.int .i64 bi) := k1
        have z2 : w3.drew.cell? ⟨w.heap.size, 2, none⟩ = some (.int .i64 bg) := k2
        have z3 : w3.drew.cell? ⟨w.heap.size, 3, none⟩ = some (.int .i64 (m : Int)) := k3
        have z4 : w3.drew.cell? ⟨w.heap.size, 4, none⟩ = some (.int .i64 bx) := k4
        have z5 : w3.drew.cell? ⟨w.heap.size, 5, none⟩ = some (.int .i64 bY) := k5
        have z6 : w3.drew.cell? ⟨w.heap.size, 6, none⟩ = some (.int .i64 bvx) := k6
        have z7 : w3.drew.cell? ⟨w.heap.size, 7, none⟩ = some (.int .i64 bvy) := k7
        have z8 : w3.drew.cell? ⟨w.heap.size, 8, none⟩ = some (.int .i64 bh) := k8
        have z9 : w3.drew.cell? ⟨w.heap.size, 9, none⟩ = some (.int .i64 bp) := k9
        have z10 : w3.drew.cell? ⟨w.heap.size, 10, none⟩ = some (.int .i64 bl) := k10
        clear k0 k1 k2 k3 k4 k5 k6 k7 k8 k9 k10 BE T1
        go_still_tail 9, (by kernel_rfl)
        change wpList _ _ _ _ _ w3.drew
        generalize w3.drew = w4 at *
        go_wp2
        go_ret
        exact ⟨rfl, FIN.out⟩
      · obtain rfl := P4.out (by trivial) _ _ rfl hmb
        have tm : decide ((m : Int) = bm) = false := decide_eq_false hmb
        have CU1 := Lib.hid (CU.out m i rfl w3 BE.out)
        have PU1 := Lib.hid fun V => PU.out (by trivial) m i w3 V BE.out
        have hb3 := Bx.lt T1.out
        clear INP CU PU P1 P2 P3 P4 RB
        go_wp2_with fail
        refine CU1.out.mono ?_
        rintro e w4 ⟨rfl, hr, hO⟩
        replace T1 := Lib.hid ((hO.block _ hb3 NF.out).trans T1.out)
        clear k0 k1 k2 k3 k4 k5 k6 k7 k8 k9 k10 BE CU1
        obtain ⟨⟨k0, k1, k2, k3, k4, k5, k6, k7, k8, k9, k10⟩, _⟩ := Bx.b11 T1.out
        go_wp2_with fail
        refine (PU1.out w4 hO hr).mono ?_
        rintro e w5 ⟨rfl, hr, hO5⟩
        go_wp2
        go_ret
        exact ⟨rfl, hr, hO5⟩
end Go.Proofs.Yteohkbepefjjlaa
