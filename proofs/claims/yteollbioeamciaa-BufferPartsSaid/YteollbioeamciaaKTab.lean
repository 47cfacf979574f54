/- ArWr, ArCPut, ArRows, ArNames, ArTab1, in one text. -/
import Derived.Test.YteollbioeamciaaKMem
import Derived.Test.YteollbioeamciaaKDel
import Derived.Test.YteollbioeamciaaKPc
import Derived.Test.YteollbioeamciaaKBase
namespace Go.Proofs.Yteollbioeamciaa
open Go.RowKit Pz Ar
set_option linter.unusedVariables false
set_option linter.unusedSimpArgs false

theorem rput_of {F : Foot} {p : Nat} {t : Tb} {w W : World} (hO : Only F w W) (h : RS (Gr F w.heap.size W.heap.size) p t W) (hp : F p) (b : Bn) (hm : may b = true) (hl : ∀ m, (t m).length + 1 ≤ 100000) : Calls Try.prog 52 #[.pointer (some ⟨p, 0, none⟩), b.val] W fun e w' => e = .returned (.tuple #[]) ∧ RS (Gr F w.heap.size w'.heap.size) p (put0 t b) w' ∧ Only F w w' := by
  have hr := may_mask hm
  refine (rput_any h b (m := b.m.toNat) (by omega) (by omega) (hl _)).mono ?_
  rintro e w' ⟨rfl, hr, hg⟩
  rw [Gr.gr hO.size hg.size] at hr
  exact ⟨rfl, hr, hO.trans (.of_grown hg (.inl hp))⟩
theorem cutL_le (t : Tb) (m i a : Nat) : (cut0 t m i a).length ≤ (t a).length := by
  unfold cut0 Ar.up
  split
  · rename_i e; subst e; rw [cutL_len]; omega
  · exact Nat.le_refl _
set_option maxHeartbeats 8000000 in
set_option maxRecDepth 100000 in
theorem rWrite_any {F : Foot} {p : Nat} {t : Tb} {w : World} (h : RS F p t w) (b : Bn) (hf : Fit b.m) (hl : ∀ m, (t m).length + 1 ≤ 100000) : Calls Try.prog 33 #[.pointer (some ⟨p, 0, none⟩), b.val] w fun e w' => e = .returned (.int .i64 (Ar.write t b).2) ∧ RS (Gr F w.heap.size w'.heap.size) p (Ar.write t b).1 w' ∧ Only F w w' := by
  have MY := Lib.hid fun W => may_any b hf W
  have HA : Hid (∀ W, Below w.heap.size w W → Calls Try.prog 51 #[.pointer (some ⟨p, 0, none⟩), .agg #[.int .i64 b.s, .int .i64 b.i, .int .i64 b.g]] W fun e w' => e = .returned (atV t b.id) ∧ Below W.heap.size W w') := Lib.hid fun W hW => rat_any (h.below hW) _ _ _
  have RB : Hid (∀ W, Below w.heap.size w W → RS (Gr F w.heap.size W.heap.size) p t W ∧ Only F w W) := Lib.hid fun W hW => ⟨(h.below hW).gr, .of_below hW⟩
  have P1 : Hid (may b = false → Ar.write t b = (t, 1)) := Lib.hid fun hm => by unfold Ar.write; rw [hm]; rfl
  have P2 : Hid (may b = true → find t b.id = none → Ar.write t b = (t, 6)) := Lib.hid fun hm hp => by unfold Ar.write; rw [hm, hp]; rfl
  have P3 : Hid (may b = true → ∀ m i, find t b.id = some (m, i) → (m : Int) = b.m → Ar.write t b = (Ar.up t m ((t m).set i b), 0)) := Lib.hid fun hm m i hp he => by unfold Ar.write; rw [hm, hp]; simp [he]
  have P4 : Hid (may b = true → ∀ m i, find t b.id = some (m, i) → ¬ (m : Int) = b.m → Ar.write t b = (put0 (cut0 t m i) b, 0)) := Lib.hid fun hm m i hp he => by unfold Ar.write; rw [hm, hp]; simp [he]
  have INP : Hid (∀ m i, find t b.id = some (m, i) → ∀ W, Below w.heap.size w W → ∃ g o n c, m < 32 ∧ i < n ∧ n ≤ 100000 ∧ W.cell? ⟨p, m, none⟩ = some (.slice (some ⟨g, o, none⟩) n c) ∧ ∃ y, (W.cell? ⟨g, o + i * 11, none⟩ = some (.int .i64 (Bn.s y)) ∧ W.cell? ⟨g, o + i * 11 + 1, none⟩ = some (.int .i64 y.i) ∧ W.cell? ⟨g, o + i * 11 + 2, none⟩ = some (.int .i64 y.g) ∧ W.cell? ⟨g, o + i * 11 + 3, none⟩ = some (.int .i64 y.m) ∧ W.cell? ⟨g, o + i * 11 + 4, none⟩ = some (.int .i64 y.x) ∧ W.cell? ⟨g, o + i * 11 + 5, none⟩ = some (.int .i64 y.y) ∧ W.cell? ⟨g, o + i * 11 + 6, none⟩ = some (.int .i64 y.vx) ∧ W.cell? ⟨g, o + i * 11 + 7, none⟩ = some (.int .i64 y.vy) ∧ W.cell? ⟨g, o + i * 11 + 8, none⟩ = some (.int .i64 y.h) ∧ W.cell? ⟨g, o + i * 11 + 9, none⟩ = some (.int .i64 y.p) ∧ W.cell? ⟨g, o + i * 11 + 10, none⟩ = some (.int .i64 y.l)) ∧ (W.frozen? ⟨g, o + i * 11, none⟩ = false ∧ W.frozen? ⟨g, o + i * 11 + 1, none⟩ = false ∧ W.frozen? ⟨g, o + i * 11 + 2, none⟩ = false ∧ W.frozen? ⟨g, o + i * 11 + 3, none⟩ = false ∧ W.frozen? ⟨g, o + i * 11 + 4, none⟩ = false ∧ W.frozen? ⟨g, o + i * 11 + 5, none⟩ = false ∧ W.frozen? ⟨g, o + i * 11 + 6, none⟩ = false ∧ W.frozen? ⟨g, o + i * 11 + 7, none⟩ = false ∧ W.frozen? ⟨g, o + i * 11 + 8, none⟩ = false ∧ W.frozen? ⟨g, o + i * 11 + 9, none⟩ = false ∧ W.frozen? ⟨g, o + i * 11 + 10, none⟩ = false) ∧
      Hid (RS (Gr F w.heap.size (setRow11 W g (o + i * 11) b).heap.size) p (Ar.up t m ((t m).set i b)) (setRow11 W g (o + i * 11) b) ∧ Only F w (setRow11 W g (o + i * 11) b))) := Lib.hid fun m i hf W hW => by
    obtain ⟨hm, x, hx, _⟩ := find_at hf
    have hi := (List.getElem?_eq_some_iff.1 hx).1
    have hR := h.below hW
    obtain ⟨A, c, hc, ho⟩ := hR.at_ hm
    obtain ⟨g, o, rfl, _, hcells, hfr⟩ := own_at ho hx
    obtain ⟨s1, s2⟩ := own_set ho hi b
    have hgF := hR.own_mine hm hc (g := g) rfl
    refine ⟨g, o, _, c, hm, hi, h.few m, hc, x, hcells, hfr, Lib.hid ⟨?_, setRow11_only (.of_below hW) hgF _ _⟩⟩
    rw [setRow11_size]
    refine (RS.set hR hm hc (setRow11_size _ _ _ _) (fun k hk => setRow11_ne _ _ _ (fun e => hk (by rw [e]; rfl))) s1 (by rw [List.length_set]; exact h.few m)).more (fun x hx => .inl hx) (fun x hx => ?_)
    rw [setRow11_size]
    exact hx.elim (hR.lt x) (fun e => e.2)
  have CU : Hid (∀ m i, find t b.id = some (m, i) → ∀ W, Below w.heap.size w W → Calls Try.prog 53 #[.pointer (some ⟨p, 0, none⟩), .int .i64 (m : Int), .int .i64 (i : Int)] W fun e w' => e = .returned (.tuple #[]) ∧ RS (Gr F W.heap.size w'.heap.size) p (cut0 t m i) w' ∧ Only F W w') := Lib.hid fun m i hf W hW => by
    obtain ⟨hm, x, hx, _⟩ := find_at hf
    refine (rcut_any (h.below hW) hm (List.getElem?_eq_some_iff.1 hx).1).mono ?_
    rintro e w' ⟨rfl, hr, hg⟩
    exact ⟨rfl, hr, .of_grown hg h.mine⟩
  have PU : Hid (may b = true → ∀ m i W V, Below w.heap.size w W → Only F W V → RS (Gr F W.heap.size V.heap.size) p (cut0 t m i) V → Calls Try.prog 52 #[.pointer (some ⟨p, 0, none⟩), b.val] V fun e w' => e = .returned (.tuple #[]) ∧ RS (Gr F w.heap.size w'.heap.size) p (put0 (cut0 t m i) b) w' ∧ Only F w w') := Lib.hid fun hm m i W V hW hO hr => by
    refine (rput_of hO hr h.mine b hm (fun a => by have := cutL_le t m i a; have := hl a; omega)).mono ?_
    rintro e w' ⟨rfl, hr, hO'⟩
    refine ⟨rfl, hr.more (fun x hx => hx.imp id fun hx => ⟨Nat.le_trans hW.size hx.1, hx.2⟩) (fun x hx => ?_), (Only.of_below hW).trans (hO'.more fun b hb => .inl hb)⟩
    rcases hx with hx | hx
    · exact hr.lt x (.inl hx)
    · exact hx.2
  have NF : Hid (¬ F w.heap.size) := Lib.hid fun e => Nat.lt_irrefl _ (h.lt _ e)
  generalize Ar.write t b = ANS at *
  clear h hf hl
  unfold atV at HA
  generalize find t b.id = fd at *
  obtain ⟨my, hmy⟩ : ∃ x, may b = x := ⟨_, rfl⟩
  rw [hmy] at MY PU P1 P2 P3 P4
  clear hmy
  obtain ⟨bs, bi, bg, bm, bx, bY, bvx, bvy, bh, bp, bl⟩ := b
  simp only [Bn.val] at MY HA PU P3 P4
  have T1 := Lib.hid (at1 w (.cells #[.int .i64 bs, .int .i64 bi, .int .i64 bg, .int .i64 bm, .int .i64 bx, .int .i64 bY, .int .i64 bvx, .int .i64 bvy, .int .i64 bh, .int .i64 bp, .int .i64 bl] 36))
  have BE := Lib.hid (bel1 w (.cells #[.int .i64 bs, .int .i64 bi, .int .i64 bg, .int .i64 bm, .int .i64 bx, .int .i64 bY, .int .i64 bvx, .int .i64 bvy, .int .i64 bh, .int .i64 bp, .int .i64 bl] 36))
  go_enter Try.func33, Try.ntmps33
  go_upto_region 1 with fail
  generalize w.alloc (.cells #[.int .i64 bs, .int .i64 bi, .int .i64 bg, .int .i64 bm, .int .i64 bx, .int .i64 bY, .int .i64 bvx, .int .i64 bvy, .int .i64 bh, .int .i64 bp, .int .i64 bl] 36) = w1 at *
  obtain ⟨⟨k0, k1, k2, k3, k4, k5, k6, k7, k8, k9, k10⟩, _⟩ := Bx.b11 T1.out
  go_wp2_with fail
  refine (MY.out w1).mono ?_
  rintro e w2 ⟨rfl, hb⟩
  replace BE := Lib.hid (BE.out.trans (hb.mono BE.out.size))
  replace T1 := Lib.hid ((hb.block _ (Bx.lt T1.out)).trans T1.out)
  clear hb MY k0 k1 k2 k3 k4 k5 k6 k7 k8 k9 k10
  cases my with
  | false =>
    obtain rfl := P1.out rfl
    go_wp2
    go_ret
    exact ⟨rfl, RB.out _ BE.out⟩
  | true =>
    obtain ⟨⟨k0, k1, k2, k3, k4, k5, k6, k7, k8, k9, k10⟩, _⟩ := Bx.b11 T1.out
    go_wp2_with fail
    refine (HA.out w2 BE.out).mono ?_
    rintro e w3 ⟨he, hb⟩
    replace BE := Lib.hid (BE.out.trans (hb.mono BE.out.size))
    replace T1 := Lib.hid ((hb.block _ (Bx.lt T1.out)).trans T1.out)
    clear hb HA k0 k1 k2 k3 k4 k5 k6 k7 k8 k9 k10
    cases fd with
    | none =>
      subst he
      obtain rfl := P2.out (by trivial) rfl
      go_wp2
      go_ret
      exact ⟨rfl, RB.out _ BE.out⟩
    | some pr =>
      obtain ⟨m, i⟩ := pr
      subst he
      have t2 : decide ((m : Int) < 0) = false := decide_eq_false (by omega)
      obtain ⟨⟨k0, k1, k2, k3, k4, k5, k6, k7, k8, k9, k10⟩, _⟩ := Bx.b11 T1.out
      by_cases hmb : (m : Int) = bm
      · obtain rfl := P3.out (by trivial) _ _ rfl hmb
        obtain ⟨g, o, n, c, hm, hi, hn, hc, y, ⟨y0, y1, y2, y3, y4, y5, y6, y7, y8, y9, y10⟩, ⟨f0, f1, f2, f3, f4, f5, f6, f7, f8, f9, f10⟩, FIN⟩ := INP.out m i rfl w3.drew BE.out.drew
        have hm2 : (m : Int) < 32 := by omega
        have hi2 : (i : Int) < (n : Int) := by omega
        have hn2 : (n : Int) ≤ 100000 := by omega
        clear INP CU PU P1 P2 P3 P4 RB NF hm hi hn
        subst hmb
        go_upto_region 7 with fail
        have z0 : w3.drew.cell? ⟨w.heap.size, 0, none⟩ = some (.int .i64 bs) := k0
        have z1 : w3.drew.cell? ⟨w.heap.size, 1, none⟩ = some (.int .i64 bi) := k1
        have z2 : w3.drew.cell? ⟨w.heap.size, 2, none⟩ = some (.int .i64 bg) := k2
        have z3 : w3.drew.cell? ⟨w.heap.size, 3, none⟩ = some (.int .i64 (m : Int)) := k3
        have z4 : w3.drew.cell? ⟨w.heap.size, 4, none⟩ = some (.int .i64 bx) := k4
        have z5 : w3.drew.cell? ⟨w.heap.size, 5, none⟩ = some (.int .i64 bY) := k5
        have z6 : w3.drew.cell? ⟨w.heap.size, 6, none⟩ = some (.int .i64 bvx) := k6
        have z7 : w3.drew.cell? ⟨w.heap.size, 7, none⟩ = some (.int .i64 bvy) := k7
        have z8 : w3.drew.cell? ⟨w.heap.size, 8, none⟩ = some (.int .i64 bh) := k8
        have z9 : w3.drew.cell? ⟨w.heap.size, 9, none⟩ = some (.int .i64 bp) := k9
        have z10 : w3.drew.cell? ⟨w.heap.size, 10, none⟩ = some (.int .i64 bl) := k10
        clear k0 k1 k2 k3 k4 k5 k6 k7 k8 k9 k10 BE T1
        go_still_tail 9, (by kernel_rfl)
        change wpList _ _ _ _ _ w3.drew
        generalize w3.drew = w4 at *
        go_wp2
        go_ret
        exact ⟨rfl, FIN.out⟩
      · obtain rfl := P4.out (by trivial) _ _ rfl hmb
        have tm : decide ((m : Int) = bm) = false := decide_eq_false hmb
        have CU1 := Lib.hid (CU.out m i rfl w3 BE.out)
        have PU1 := Lib.hid fun V => PU.out (by trivial) m i w3 V BE.out
        have hb3 := Bx.lt T1.out
        clear INP CU PU P1 P2 P3 P4 RB
        go_wp2_with fail
        refine CU1.out.mono ?_
        rintro e w4 ⟨rfl, hr, hO⟩
        replace T1 := Lib.hid ((hO.block _ hb3 NF.out).trans T1.out)
        clear k0 k1 k2 k3 k4 k5 k6 k7 k8 k9 k10 BE CU1
        obtain ⟨⟨k0, k1, k2, k3, k4, k5, k6, k7, k8, k9, k10⟩, _⟩ := Bx.b11 T1.out
        go_wp2_with fail
        refine (PU1.out w4 hO hr).mono ?_
        rintro e w5 ⟨rfl, hr, hO5⟩
        go_wp2
        go_ret
        exact ⟨rfl, hr, hO5⟩
end Go.Proofs.Yteollbioeamciaa
namespace Go.Proofs.Yteollbioeamciaa
open Go.RowKit Pz Ar
set_option linter.unusedVariables false
set_option linter.unusedSimpArgs false

theorem CS.widen {F : Foot} {p : Nat} {t : Tb} {w W V : World} (hW : Below w.heap.size w W) (hr : CS (Gr F W.heap.size V.heap.size) p t V) (hO : Only F W V) : CS (Gr F w.heap.size V.heap.size) p t V ∧ Only F w V := by
  refine ⟨hr.more (fun x hx => hx.imp id fun hx => ⟨Nat.le_trans hW.size hx.1, hx.2⟩) (fun x hx => ?_), (Only.of_below hW).trans (hO.more fun b hb => .inl hb)⟩
  rcases hx with hx | hx
  · exact hr.lt x (.inl hx)
  · exact hx.2
set_option maxHeartbeats 8000000 in
set_option maxRecDepth 100000 in
theorem cput_nil (w : World) (b : Bn) : Calls Try.prog 28 #[.pointer none, b.val] w fun e w' => e = .returned (.int .i64 1) ∧ Below w.heap.size w w' := by
  have BE := Lib.hid (bel1 w (bobj b))
  obtain ⟨bs, bi, bg, bm, bx, bY, bvx, bvy, bh, bp, bl⟩ := b
  simp only [bobj, Bn.val] at *
  go_enter Try.func28, Try.ntmps28
  go_wp2
  go_ret
  exact ⟨rfl, BE.out⟩
set_option maxHeartbeats 8000000 in
set_option maxRecDepth 100000 in
theorem cwrite_nil (w : World) (b : Bn) : Calls Try.prog 46 #[.pointer none, b.val] w fun e w' => e = .returned (.int .i64 1) ∧ Below w.heap.size w w' := by
  have BE := Lib.hid (bel1 w (bobj b))
  obtain ⟨bs, bi, bg, bm, bx, bY, bvx, bvy, bh, bp, bl⟩ := b
  simp only [bobj, Bn.val] at *
  go_enter Try.func46, Try.ntmps46
  go_wp2
  go_ret
  exact ⟨rfl, BE.out⟩
set_option maxHeartbeats 8000000 in
set_option maxRecDepth 100000 in
theorem cput_any {F : Foot} {p : Nat} {t : Tb} {w : World} (h : CS F p t w) (b : Bn) (hl : ∀ m, (t m).length + 1 ≤ 100000) : Calls Try.prog 28 #[.pointer (some ⟨p, 0, none⟩), b.val] w fun e w' => e = .returned (.int .i64 (Ar.put t b).2) ∧ CS (Gr F w.heap.size w'.heap.size) p (Ar.put t b).1 w' ∧ Only F w w' := by
  have MY := Lib.hid fun W => check_any b W
  have HA := Lib.hid (h.finds b.s b.i b.g)
  have PU : Hid (may b = true → Ar.find t b.id = none → ∀ W, Below w.heap.size w W → Calls Try.prog 45 #[.pointer (some ⟨p, 0, none⟩), b.val] W fun e w' => e = .returned (.tuple #[]) ∧ CS (Gr F w.heap.size w'.heap.size) p (put0 t b) w' ∧ Only F w w') := Lib.hid fun hm hf W hW => by
    refine (add_any (h.below hW) b hm hf hl).mono ?_
    rintro e w' ⟨rfl, hr, hO⟩
    obtain ⟨a1, a2⟩ := CS.widen hW hr hO
    exact ⟨rfl, a1, a2⟩
  have RB : Hid (∀ W, Below w.heap.size w W → CS (Gr F w.heap.size W.heap.size) p t W ∧ Only F w W) := Lib.hid fun W hW => ⟨(h.below hW).gr, .of_below hW⟩
  have P1 : Hid (may b = false → Ar.put t b = (t, 1)) := Lib.hid fun hm => by unfold Ar.put; rw [hm]; rfl
  have P2 : Hid (may b = true → ∀ pr, find t b.id = some pr → Ar.put t b = (t, 7)) := Lib.hid fun hm pr hp => by unfold Ar.put; rw [hm, hp]; rfl
  have P3 : Hid (may b = true → find t b.id = none → Ar.put t b = (put0 t b, 0)) := Lib.hid fun hm hp => by unfold Ar.put; rw [hm, hp]; rfl
  have hbid : (b.s, b.i, b.g) = b.id := rfl
  rw [hbid] at HA
  generalize Ar.put t b = ANS at *
  clear h hl hbid
  generalize put0 t b = t' at *
  generalize Ar.find t b.id = fd at *
  obtain ⟨my, hmy⟩ : ∃ x, may b = x := ⟨_, rfl⟩
  rw [hmy] at PU P1 P2 P3
  simp only [hmy] at MY
  clear hmy
  have T1 := Lib.hid (at1 w (bobj b))
  have BE := Lib.hid (bel1 w (bobj b))
  obtain ⟨bs, bi, bg, bm, bx, bY, bvx, bvy, bh, bp, bl⟩ := b
  simp only [Bn.val, bobj] at *
  go_enter Try.func28, Try.ntmps28
  go_upto_region 1 with fail
  generalize w.alloc (.cells #[.int .i64 bs, .int .i64 bi, .int .i64 bg, .int .i64 bm, .int .i64 bx, .int .i64 bY, .int .i64 bvx, .int .i64 bvy, .int .i64 bh, .int .i64 bp, .int .i64 bl] 36) = w1 at *
  obtain ⟨⟨k0, k1, k2, k3, k4, k5, k6, k7, k8, k9, k10⟩, _⟩ := Bx.b11 T1.out
  go_wp2_with fail
  refine (MY.out w1).mono ?_
  rintro e w2 ⟨rfl, hb⟩
  replace BE := Lib.hid (BE.out.trans (hb.mono BE.out.size))
  replace T1 := Lib.hid ((hb.block _ (Bx.lt T1.out)).trans T1.out)
  clear hb MY k0 k1 k2 k3 k4 k5 k6 k7 k8 k9 k10
  cases my with
  | false =>
    obtain rfl := P1.out rfl
    simp only [errB]
    go_wp2
    go_ret
    exact ⟨rfl, RB.out _ BE.out⟩
  | true =>
    simp only [errB]
    obtain ⟨⟨k0, k1, k2, k3, k4, k5, k6, k7, k8, k9, k10⟩, _⟩ := Bx.b11 T1.out
    go_wp2_with fail
    refine (HA.out w2 BE.out).mono ?_
    rintro e w3 ⟨rfl, hb⟩
    have B23 := BE.out.trans (hb.mono BE.out.size)
    replace T1 := (hb.block _ (Bx.lt T1.out)).trans T1.out
    clear hb HA k0 k1 k2 k3 k4 k5 k6 k7 k8 k9 k10 BE
    cases fd with
    | some pr =>
      obtain ⟨m, i⟩ := pr
      obtain rfl := P2.out (by trivial) _ rfl
      have BE := Lib.hid (B23.alloc B23.size (.cells #[.int .i64 (m : Int), .int .i64 (i : Int)] 84))
      simp only [lookV, plV]
      clear B23 T1
      go_wp2
      go_ret
      exact ⟨rfl, RB.out _ BE.out⟩
    | none =>
      obtain rfl := P3.out (by trivial) rfl
      have BE := Lib.hid (B23.alloc B23.size (.cells #[.int .i64 0, .int .i64 0] 84))
      obtain ⟨⟨k0, k1, k2, k3, k4, k5, k6, k7, k8, k9, k10⟩, _⟩ := Bx.b11 (((bel1 w3 (.cells #[.int .i64 0, .int .i64 0] 84)).block _ (Bx.lt T1)).trans T1)
      have PU1 := Lib.hid (PU.out (by trivial) rfl _ BE.out)
      simp only [lookV]
      clear B23 T1 PU
      go_wp2_with fail
      refine PU1.out.mono ?_
      rintro e w4 ⟨rfl, hr, hg⟩
      go_wp2
      go_ret
      exact ⟨rfl, hr, hg⟩
set_option maxHeartbeats 8000000 in
set_option maxRecDepth 100000 in
theorem cwrite_any {F : Foot} {p : Nat} {t : Tb} {w : World} (h : CS F p t w) (b : Bn) (hl : ∀ m, (t m).length + 1 ≤ 100000) : Calls Try.prog 46 #[.pointer (some ⟨p, 0, none⟩), b.val] w fun e w' => e = .returned (.int .i64 (Ar.write t b).2) ∧ CS (Gr F w.heap.size w'.heap.size) p (Ar.write t b).1 w' ∧ Only F w w' := by
  have MY := Lib.hid fun W => check_any b W
  have HA := Lib.hid (h.finds b.s b.i b.g)
  have RB : Hid (∀ W, Below w.heap.size w W → CS (Gr F w.heap.size W.heap.size) p t W ∧ Only F w W) := Lib.hid fun W hW => ⟨(h.below hW).gr, .of_below hW⟩
  have P1 : Hid (may b = false → Ar.write t b = (t, 1)) := Lib.hid fun hm => by unfold Ar.write; rw [hm]; rfl
  have P2 : Hid (may b = true → find t b.id = none → Ar.write t b = (t, 6)) := Lib.hid fun hm hp => by unfold Ar.write; rw [hm, hp]; rfl
  have P3 : Hid (may b = true → ∀ m i, find t b.id = some (m, i) → (m : Int) = b.m → Ar.write t b = (Ar.up t m ((t m).set i b), 0)) := Lib.hid fun hm m i hp he => by unfold Ar.write; rw [hm, hp]; simp [he]
  have P4 : Hid (may b = true → ∀ m i, find t b.id = some (m, i) → ¬ (m : Int) = b.m → Ar.write t b = (put0 (cut0 t m i) b, 0)) := Lib.hid fun hm m i hp he => by unfold Ar.write; rw [hm, hp]; simp [he]
  have INP : Hid (may b = true → ∀ m i, find t b.id = some (m, i) → (m : Int) = b.m → ∀ W, Below w.heap.size w W → ∃ g o n c, m < 32 ∧ i < n ∧ n ≤ 100000 ∧ W.cell? ⟨p, m, none⟩ = some (.slice (some ⟨g, o, none⟩) n c) ∧ ∃ y, Cells11 W g (o + i * 11) y ∧ Froz11 W g (o + i * 11) ∧
      Hid (CS (Gr F w.heap.size (setRow11 W g (o + i * 11) b).heap.size) p (Ar.up t m ((t m).set i b)) (setRow11 W g (o + i * 11) b) ∧ Only F w (setRow11 W g (o + i * 11) b))) := Lib.hid fun hmay m i hf he W hW => by
    obtain ⟨hm, x, hx, hxid⟩ := find_at hf
    have hi := (List.getElem?_eq_some_iff.1 hx).1
    have hR := h.below hW
    obtain ⟨A, c, hc, ho⟩ := hR.at_ hm
    obtain ⟨g, o, rfl, _, hcells, hfr⟩ := own_at ho hx
    obtain ⟨s1, s2⟩ := own_set ho hi b
    have hgF := hR.own_mine hm hc (g := g) rfl
    refine ⟨g, o, _, c, hm, hi, h.few m, hc, x, hcells, hfr, Lib.hid ⟨?_, setRow11_only (.of_below hW) hgF _ _⟩⟩
    rw [setRow11_size]
    refine (CS.set hR hm hc (setRow11_size _ _ _ _) (fun k hk => setRow11_ne _ _ _ (fun e => hk (by rw [e]; rfl))) hmay hx hxid he s1).more (fun x hx => .inl hx) (fun x hx => ?_)
    rw [setRow11_size]
    exact hx.elim (hR.lt x) (fun e => e.2)
  have CU : Hid (∀ m i, find t b.id = some (m, i) → ∀ W, Below w.heap.size w W → Calls Try.prog 49 #[.pointer (some ⟨p, 0, none⟩), .agg #[.int .i64 b.s, .int .i64 b.i, .int .i64 b.g]] W fun e w' => e = .returned (.bool true) ∧ CS (Gr F W.heap.size w'.heap.size) p (cut0 t m i) w' ∧ Only F W w') := Lib.hid fun m i hf W hW =>
    remove_some (h.below hW) hf
  have PU : Hid (may b = true → ∀ m i, find t b.id = some (m, i) → ∀ W V, Below w.heap.size w W → Only F W V → CS (Gr F W.heap.size V.heap.size) p (cut0 t m i) V → Calls Try.prog 45 #[.pointer (some ⟨p, 0, none⟩), b.val] V fun e w' => e = .returned (.tuple #[]) ∧ CS (Gr F w.heap.size w'.heap.size) p (put0 (cut0 t m i) b) w' ∧ Only F w w') := Lib.hid fun hm m i hf W V hW hO hr => by
    obtain ⟨_, x, hx, hxid⟩ := find_at hf
    refine (add_any hr b hm (by rw [← hxid]; exact cut_gone h.good hx) (fun a => by have := cutL_le t m i a; have := hl a; omega)).mono ?_
    rintro e w' ⟨rfl, hr', hO'⟩
    rw [Gr.gr hO.size hO'.size] at hr'
    obtain ⟨a1, a2⟩ := CS.widen hW hr' (hO.trans hO')
    exact ⟨rfl, a1, a2⟩
  have NF : Hid (¬ F w.heap.size) := Lib.hid fun e => Nat.lt_irrefl _ (h.lt _ e)
  have hbid : (b.s, b.i, b.g) = b.id := rfl
  rw [hbid] at HA
  generalize Ar.write t b = ANS at *
  clear h hl hbid
  generalize Ar.find t b.id = fd at *
  obtain ⟨my, hmy⟩ : ∃ x, may b = x := ⟨_, rfl⟩
  rw [hmy] at INP PU P1 P2 P3 P4
  simp only [hmy] at MY
  clear hmy
  have T1 := Lib.hid (at1 w (bobj b))
  have BE := Lib.hid (bel1 w (bobj b))
  obtain ⟨bs, bi, bg, bm, bx, bY, bvx, bvy, bh, bp, bl⟩ := b
  simp only [Bn.val, bobj, Cells11, Froz11] at *
  go_enter Try.func46, Try.ntmps46
  go_upto_region 1 with fail
  generalize w.alloc (.cells #[.int .i64 bs, .int .i64 bi, .int .i64 bg, .int .i64 bm, .int .i64 bx, .int .i64 bY, .int .i64 bvx, .int .i64 bvy, .int .i64 bh, .int .i64 bp, .int .i64 bl] 36) = w1 at *
  obtain ⟨⟨k0, k1, k2, k3, k4, k5, k6, k7, k8, k9, k10⟩, _⟩ := Bx.b11 T1.out
  go_wp2_with fail
  refine (MY.out w1).mono ?_
  rintro e w2 ⟨rfl, hb⟩
  replace BE := Lib.hid (BE.out.trans (hb.mono BE.out.size))
  replace T1 := Lib.hid ((hb.block _ (Bx.lt T1.out)).trans T1.out)
  clear hb MY k0 k1 k2 k3 k4 k5 k6 k7 k8 k9 k10
  cases my with
  | false =>
    obtain rfl := P1.out rfl
    simp only [errB]
    go_wp2
    go_ret
    exact ⟨rfl, RB.out _ BE.out⟩
  | true =>
    simp only [errB]
    obtain ⟨⟨k0, k1, k2, k3, k4, k5, k6, k7, k8, k9, k10⟩, _⟩ := Bx.b11 T1.out
    go_wp2_with fail
    refine (HA.out w2 BE.out).mono ?_
    rintro e w3 ⟨rfl, hb⟩
    have B23 := BE.out.trans (hb.mono BE.out.size)
    replace T1 := (hb.block _ (Bx.lt T1.out)).trans T1.out
    clear hb HA k0 k1 k2 k3 k4 k5 k6 k7 k8 k9 k10 BE
    cases fd with
    | none =>
      obtain rfl := P2.out (by trivial) rfl
      have BE := Lib.hid (B23.alloc B23.size (.cells #[.int .i64 0, .int .i64 0] 84))
      simp only [lookV]
      clear B23 T1
      go_wp2
      go_ret
      exact ⟨rfl, RB.out _ BE.out⟩
    | some pr =>
      obtain ⟨m, i⟩ := pr
      have B4 := bel1 w3 (.cells #[.int .i64 (m : Int), .int .i64 (i : Int)] 84)
      have T4 := at1 w3 (.cells #[.int .i64 (m : Int), .int .i64 (i : Int)] 84)
      replace T1 := (B4.block _ (Bx.lt T1)).trans T1
      have BE := Lib.hid (B23.trans (B4.mono B23.size))
      simp only [lookV, plV]
      clear B23 B4
      go_upto_region 4 with fail
      obtain ⟨b2, hb2⟩ : ∃ b2, b2 = w3.heap.size := ⟨_, rfl⟩
      rw [← hb2] at T4 ⊢
      clear hb2
      generalize w3.alloc (.cells #[.int .i64 (m : Int), .int .i64 (i : Int)] 84) = w4 at *
      obtain ⟨⟨k0, k1, k2, k3, k4, k5, k6, k7, k8, k9, k10⟩, _⟩ := Bx.b11 T1
      obtain ⟨⟨r0, r1⟩, _⟩ := Bx.b2 T4
      by_cases hmb : (m : Int) = bm
      · obtain rfl := P3.out (by trivial) _ _ rfl hmb
        obtain ⟨g, o, n, c, hm, hi, hn, hc, y, ⟨y0, y1, y2, y3, y4, y5, y6, y7, y8, y9, y10⟩, ⟨f0, f1, f2, f3, f4, f5, f6, f7, f8, f9, f10⟩, FIN⟩ := INP.out (by trivial) m i rfl hmb w4.drew BE.out.drew
        have hm2 : (m : Int) < 32 := by omega
        have hi2 : (i : Int) < (n : Int) := by omega
        have hn2 : (n : Int) ≤ 100000 := by omega
        clear INP CU PU P1 P2 P3 P4 RB NF hm hi hn
        subst hmb
        go_upto_region 7 with fail
        have T1d : w4.drew.heap[w.heap.size]? = some (.cells #[.int .i64 bs, .int .i64 bi, .int .i64 bg, .int .i64 (m : Int), .int .i64 bx, .int .i64 bY, .int .i64 bvx, .int .i64 bvy, .int .i64 bh, .int .i64 bp, .int .i64 bl] 36 (0, 0)) := T1
        have T4d : w4.drew.heap[b2]? = some (.cells #[.int .i64 (m : Int), .int .i64 (i : Int)] 84 (0, 0)) := T4
        clear k0 k1 k2 k3 k4 k5 k6 k7 k8 k9 k10 r0 r1 T1 T4 BE
        obtain ⟨⟨z0, z1, z2, z3, z4, z5, z6, z7, z8, z9, z10⟩, _⟩ := Bx.b11 T1d
        obtain ⟨⟨r0, r1⟩, _⟩ := Bx.b2 T4d
        clear T1d T4d
        go_still_tail 11, (by kernel_rfl)
        change wpList _ _ _ _ _ w4.drew
        generalize w4.drew = w5 at *
        go_wp2
        go_ret
        exact ⟨rfl, FIN.out⟩
      · obtain rfl := P4.out (by trivial) _ _ rfl hmb
        have tm : decide ((m : Int) = bm) = false := decide_eq_false hmb
        have CU1 := Lib.hid (CU.out m i rfl w4 BE.out)
        have PU1 := Lib.hid fun V => PU.out (by trivial) m i rfl w4 V BE.out
        have hb3 := Bx.lt T1
        replace T1 := Lib.hid T1
        clear INP CU PU P1 P2 P3 P4 RB T4
        go_wp2_with fail
        refine CU1.out.mono ?_
        rintro e w5 ⟨rfl, hr, hO⟩
        replace T1 := Lib.hid ((hO.block _ hb3 NF.out).trans T1.out)
        clear k0 k1 k2 k3 k4 k5 k6 k7 k8 k9 k10 BE CU1
        obtain ⟨⟨k0, k1, k2, k3, k4, k5, k6, k7, k8, k9, k10⟩, _⟩ := Bx.b11 T1.out
        go_wp2_with fail
        refine (PU1.out w5 hO hr).mono ?_
        rintro e w6 ⟨rfl, hr, hO5⟩
        go_wp2
        go_ret
        exact ⟨rfl, hr, hO5⟩
end Go.Proofs.Yteollbioeamciaa
namespace Go.Proofs.Yteollbioeamciaa
open Go.RowKit Pz Ar
set_option linter.unusedVariables false
set_option linter.unusedSimpArgs false

/-- an element more: its box is new -/
theorem app_x {α : Type} {enc : α → List Value} {T s : Nat} {W : World} {B : Nat} {v : Value} {l : List α} {t : TypeId} {z : Value} {bytes : Nat} (ht : Try.prog.underlying t = some (.slice T)) (hi : (Try.prog.info? T).map (fun i => (i.zero, i.size, i.bytes)) = some (some z, s, bytes)) (hzs : z.cells.size = s) (hs : 0 < s)
    (he : ∀ x, (enc x).length = s) (h1 : ∀ x, ∀ u ∈ enc x, u.oneCell' = true) (h : Rw enc T s W B v l) (hB : B ≤ W.heap.size) (x : α) (hn : l.length + 1 ≤ 1000000) (hby : bytes ≤ 1000) (ty : TypeId) :
    ∃ v' w', (Builtin.append_ #[t, t] ty #[v, .slice (some ⟨W.heap.size, 0, none⟩) 1 1]).run Try.prog (W.alloc (.cells (enc x).toArray T)) = .ok v' w' ∧ Rw enc T s w' B v' (l ++ [x]) ∧ W.grownBy w' v.ownBlock ∧ (∀ g, v'.ownBlock = some g → v.ownBlock = some g ∨ W.heap.size ≤ g) ∧ ∀ g, v.ownBlock = some g → B ≤ g := by
  have hb := bel1 W (.cells (enc x).toArray T)
  have ha := at1 W (.cells (enc x).toArray T)
  have h2 := h.below hb
  obtain ⟨v', w', hr, ho, hg, hf⟩ := h2.app (P := Try.prog) (t := t) (ty := ty) ht hi hzs hs he h1 (Nat.le_trans hB hb.size) [x] ⟨W.heap.size, 0, none⟩ 1 (fun j y hj c u hu => by
    have hj0 : j = 0 := by
      have := (List.getElem?_eq_some_iff.1 hj).1
      simp at this
      exact this
    subst hj0
    have hy := Option.some.inj hj
    subst hy
    rw [Addr.add_mid, Nat.zero_mul, Nat.zero_add, Nat.zero_add]
    exact (Bx.cell ha (by simpa using hu)).1) (by simpa using hn) hby (.inl (by simp))
  exact ⟨v', w', hr, ho, ⟨hg.os, hg.tape, hg.output, Nat.le_trans hb.size hg.size, fun k hk hne => (hg.block k (Nat.lt_of_lt_of_le hk hb.size) hne).trans (hb.block k hk)⟩, fun g e => (hf g e).imp id fun e => Nat.le_trans hb.size e, fun g e => (h.blk e).1⟩
/-- what a world made since B became, but for one's own row -/
theorem below_row {B : Nat} {w W V : World} {row : Option Nat} (h : Below B w W) (hg : W.grownBy V row) (hB : B ≤ W.heap.size) (hr : ∀ g, row = some g → B ≤ g) : Below B w V := h.grown hg hB hr
abbrev idE (k : NK) : List Value := [.int .i64 k.1, .int .i64 k.2.1, .int .i64 k.2.2]
abbrev OwnI (W : World) (B : Nat) (v : Value) (l : List NK) : Prop := Rw idE 34 3 W B v l
theorem idE_len (x : NK) : (idE x).length = 3 := rfl
theorem idE_one (x : NK) : ∀ u ∈ idE x, u.oneCell' = true := by
  intro u hu
  simp only [idE, List.mem_cons, List.not_mem_nil, or_false] at hu
  rcases hu with rfl | rfl | rfl <;> rfl
theorem id_info : (Try.prog.info? 34).map (fun i => (i.zero, i.size, i.bytes)) = some (some (.agg #[.int .i64 0, .int .i64 0, .int .i64 0]), 3, 24) := by kernel_rfl
theorem owni_at {W : World} {B c : Nat} {A : Option Addr} {l : List NK} (h : OwnI W B (.slice A l.length c) l) {j : Nat} {k : NK} (hk : l[j]? = some k) : ∃ g o, A = some ⟨g, o, none⟩ ∧ B ≤ g ∧ (W.cell? ⟨g, o + j * 3, none⟩ = some (.int .i64 k.1) ∧ W.cell? ⟨g, o + j * 3 + 1, none⟩ = some (.int .i64 k.2.1) ∧ W.cell? ⟨g, o + j * 3 + 2, none⟩ = some (.int .i64 k.2.2)) ∧ (W.frozen? ⟨g, o + j * 3, none⟩ = false ∧ W.frozen? ⟨g, o + j * 3 + 1, none⟩ = false ∧ W.frozen? ⟨g, o + j * 3 + 2, none⟩ = false) := by
  obtain ⟨g, o, c', e, hB, hg, hc⟩ := h.at_ hk
  cases e
  exact ⟨g, o, rfl, hB, ⟨(hc 0 _ rfl).1, (hc 1 _ rfl).1, (hc 2 _ rfl).1⟩, ⟨(hc 0 _ rfl).2, (hc 1 _ rfl).2, (hc 2 _ rfl).2⟩⟩
/-- a table: its mask, the slice of its names -/
abbrev TE := Nat × Option Addr × Nat × Nat
abbrev tbE (x : TE) : List Value := [.int .i64 (x.1 : Int), .slice x.2.1 x.2.2.1 x.2.2.2]
abbrev OwnT (W : World) (B : Nat) (v : Value) (l : List TE) : Prop := Rw tbE 94 2 W B v l
theorem tbE_len (x : TE) : (tbE x).length = 2 := rfl
theorem tbE_one (x : TE) : ∀ u ∈ tbE x, u.oneCell' = true := by
  intro u hu
  simp only [tbE, List.mem_cons, List.not_mem_nil, or_false] at hu
  rcases hu with rfl | rfl <;> rfl
theorem tb_info : (Try.prog.info? 94).map (fun i => (i.zero, i.size, i.bytes)) = some (some (.agg #[.int .i64 0, .slice none 0 0]), 2, 32) := by kernel_rfl
/-- what a call told of tables: the asker's own -/
def TabsAt (W : World) (B : Nat) (v : Value) (T : List (Nat × List NK)) : Prop :=
  ∃ l : List TE, OwnT W B v l ∧ l.length = T.length ∧ ∀ (j : Nat) (x : TE) (y : Nat × List NK), l[j]? = some x → T[j]? = some y → x.1 = y.1 ∧ x.2.2.1 = y.2.length ∧ OwnI W B (.slice x.2.1 x.2.2.1 x.2.2.2) y.2
section
variable {W V : World} {B : Nat} {v : Value} {T : List (Nat × List NK)}
theorem TabsAt.below (h : TabsAt W B v T) (hb : Below W.heap.size W V) : TabsAt V B v T := by
  obtain ⟨l, h1, h2, h3⟩ := h
  exact ⟨l, h1.below hb, h2, fun j x y hx hy => (h3 j x y hx hy).imp id (·.imp id fun h => h.below hb)⟩
theorem TabsAt.kept (h : TabsAt W B v T) (hk : ∀ b, B ≤ b → b < W.heap.size → V.heap[b]? = W.heap[b]?) : TabsAt V B v T := by
  obtain ⟨l, h1, h2, h3⟩ := h
  have ok : ∀ {α : Type} {enc : α → List Value} {T s : Nat} {u : Value} {r : List α}, Rw enc T s W B u r → Rw enc T s V B u r := fun hu => hu.kept fun b hb => by
    obtain ⟨hB, cur, hc⟩ := hu.blk hb
    exact hk b hB (Bx.lt hc)
  exact ⟨l, ok h1, h2, fun j x y hx hy => (h3 j x y hx hy).imp id (·.imp id fun h => ok h)⟩
theorem tabs_nil (W : World) (B : Nat) : TabsAt W B (.slice none 0 0) [] := ⟨[], .inl ⟨rfl, rfl⟩, rfl, fun j x y hx => by simp at hx⟩
theorem TabsAt.form (h : TabsAt W B v T) : ∃ A c, v = .slice A T.length c := by
  obtain ⟨l, h1, h2, _⟩ := h
  obtain ⟨A, c, rfl⟩ := h1.form
  exact ⟨A, c, by rw [h2]⟩
theorem TabsAt.at_ {A : Option Addr} {c : Nat} (h : TabsAt W B (.slice A T.length c) T) {j : Nat} {m : Nat} {ks : List NK} (hj : T[j]? = some (m, ks)) :
    ∃ g o, A = some ⟨g, o, none⟩ ∧ B ≤ g ∧ W.cell? ⟨g, o + j * 2, none⟩ = some (.int .i64 (m : Int)) ∧ ∃ A' c', W.cell? ⟨g, o + j * 2 + 1, none⟩ = some (.slice A' ks.length c') ∧ OwnI W B (.slice A' ks.length c') ks := by
  obtain ⟨l, h1, h2, h3⟩ := h
  have hjl := (List.getElem?_eq_some_iff.1 hj).1
  obtain ⟨x, hx⟩ : ∃ x, l[j]? = some x := ⟨l[j], List.getElem?_eq_getElem (by omega)⟩
  obtain ⟨e1, e2, h4⟩ := h3 j x _ hx hj
  obtain ⟨xm, xA, xn, xc⟩ := x
  simp only at e1 e2 h4
  subst e1
  obtain ⟨g, o, c', e, hB, hg, hc⟩ := h1.at_ hx
  rw [h2] at e
  cases e
  rw [← e2]
  exact ⟨g, o, rfl, hB, (hc 0 _ rfl).1, xA, xc, (hc 1 _ rfl).1, h4⟩
/-- a table more -/
theorem TabsAt.push (h : TabsAt W B v T) (hB : B ≤ W.heap.size) {m : Nat} {ks : List NK} {A : Option Addr} {c : Nat} (hks : OwnI W B (.slice A ks.length c) ks) (hn : T.length + 1 ≤ 1000000) (ty : TypeId) :
    ∃ A' n' c' w', (Builtin.append_ #[76, 76] ty #[v, .slice (some ⟨W.heap.size, 0, none⟩) 1 1]).run Try.prog (W.alloc (.cells #[.int .i64 (m : Int), .slice A ks.length c] 94)) = .ok (.slice A' n' c') w' ∧ TabsAt w' B (.slice A' n' c') (T ++ [(m, ks)]) ∧ W.grownBy w' v.ownBlock ∧ ∀ g, v.ownBlock = some g → B ≤ g := by
  obtain ⟨l, h1, h2, h3⟩ := h
  obtain ⟨v', w', hr, ho, hg, _, hf⟩ := app_x (enc := tbE) (T := 94) (s := 2) (t := 76) Try.underlying76 tb_info rfl (by decide) tbE_len tbE_one h1 hB (m, A, ks.length, c) (by omega) (by decide) ty
  obtain ⟨A', c', rfl⟩ := ho.form
  have keep : ∀ {u : Value} {r : List NK}, OwnI W B u r → OwnI w' B u r := fun hu => hu.kept fun b hb => by
    obtain ⟨_, cur, hc⟩ := hu.blk hb
    refine hg.block b (Bx.lt hc) (fun e => ?_)
    obtain ⟨_, cur2, hc2⟩ := h1.blk e.symm
    exact Bx.ne_type hc hc2 (by decide) rfl
  refine ⟨A', _, c', w', hr, ⟨l ++ [(m, A, ks.length, c)], ho, by simp [h2], fun j x y hx hy => ?_⟩, hg, hf⟩
  by_cases hj : j < l.length
  · rw [List.getElem?_append_left hj] at hx
    rw [List.getElem?_append_left (by omega)] at hy
    exact (h3 j x y hx hy).imp id (·.imp id keep)
  · rw [List.getElem?_append_right (by omega)] at hx
    rw [List.getElem?_append_right (by omega)] at hy
    have h0 := (List.getElem?_eq_some_iff.1 hx).1
    simp at h0
    have e1 : j - l.length = 0 := by omega
    have e2 : j - T.length = 0 := by omega
    rw [e1] at hx
    rw [e2] at hy
    cases Option.some.inj hx
    cases Option.some.inj hy
    exact ⟨rfl, rfl, keep hks⟩
end
end Go.Proofs.Yteollbioeamciaa
namespace Go.Proofs.Yteollbioeamciaa
open Go.RowKit Pz Ar
set_option linter.unusedVariables false
set_option linter.unusedSimpArgs false

set_option maxHeartbeats 8000000 in
set_option maxRecDepth 100000 in
theorem names_any {w : World} {A : Option Addr} {c : Nat} {l : List Bn} (h : RdB w w.heap.size A l) (hl : l.length ≤ 100000) : Calls Try.prog 54 #[.slice A l.length c] w fun e w' => ∃ A' c', e = .returned (.slice A' (l.map Bn.id).length c') ∧ OwnI w' w.heap.size (.slice A' (l.map Bn.id).length c') (l.map Bn.id) ∧ Below w.heap.size w w' := by
  have HR := Lib.hid h
  clear h
  have hl1 : (l.length : Int) ≤ 100000 := by omega
  go_enter Try.func54, Try.ntmps54
  go_wp2
  go_loopw [3, 8] (fun u ix wr => ∃ j : Nat, j ≤ l.length ∧ ix = .int .i64 j ∧ Hid (OwnI wr w.heap.size u ((l.map Bn.id).take j)) ∧ Hid (Below w.heap.size w wr)) (fun u ix _ => l.length - (intOf ix).toNat)
  case atStart => exact ⟨0, Nat.zero_le _, rfl, Lib.hid (.inl ⟨rfl, by simp⟩), Lib.hid (Below.refl _ _)⟩
  case round =>
    rename_i u0 ix0
    obtain ⟨j, hj, rfl, HO, HB⟩ := hrel
    by_cases hjl : j < l.length
    · have t1 : (j : Int) < (l.length : Int) := by omega
      have hjj := List.getElem?_eq_getElem hjl
      obtain ⟨g, o, rfl, hg, ⟨y0, y1, y2, y3, y4, y5, y6, y7, y8, y9, y10⟩⟩ := (HR.out.below HB.out) j _ hjj
      have hT : (l.map Bn.id).take (j + 1) = (l.map Bn.id).take j ++ [l[j].id] := by
        rw [List.take_add_one, List.getElem?_map, hjj]
        rfl
      generalize l[j] = x at *
      obtain ⟨xs, xi, xg, xm, xx, xy, xvx, xvy, xh, xp, xl⟩ := x
      simp only [Bn.id] at *
      have B1 := bel1 wr (bobj ⟨xs, xi, xg, xm, xx, xy, xvx, xvy, xh, xp, xl⟩)
      obtain ⟨⟨k0, k1, k2, _⟩, _⟩ := Bx.b11 (at1 wr (bobj ⟨xs, xi, xg, xm, xx, xy, xvx, xvy, xh, xp, xl⟩))
      obtain ⟨v', w', hr, ho, hgr, _, hf⟩ := app_x (enc := idE) (T := 34) (s := 3) (t := 92) Try.underlying92 id_info rfl (by decide) idE_len idE_one (HO.out.below B1) (by have := B1.size; have := HB.out.size; omega) (xs, xi, xg) (by rw [List.length_take, List.length_map]; omega) (by decide) 92
      have HN := Lib.hid (below_row (HB.out.trans (B1.mono HB.out.size)) hgr (by have := B1.size; have := HB.out.size; omega) hf)
      rw [← hT] at ho
      rw [size1] at hr
      have HV := Lib.hid ho
      have HRun := Lib.hid hr
      clear hT ho hr hgr hf B1 HO HB hjj
      simp only [bobj, idE] at *
      go_wp2_with (at_builtin; refine wpList_append _ rfl (.tmp 12) (.tmp 15) _ _ rfl _ _ rfl rfl _ _ HRun.out ?_)
      go_roundw
      case rel => exact ⟨j + 1, by omega, by go_num, HV, HN⟩
      case measure => simp [intOf]; omega
    · obtain rfl : j = l.length := by omega
      have t2 : ¬ (l.length : Int) < (l.length : Int) := by omega
      have HO2 := HO.out
      rw [List.take_of_length_le (by simp)] at HO2
      obtain ⟨A', c', rfl⟩ := HO2.form
      go_wp2
      go_ret
      exact ⟨A', c', by simp, by simpa using HO2, HB.out⟩
end Go.Proofs.Yteollbioeamciaa
namespace Go.Proofs.Yteollbioeamciaa
open Go.RowKit Pz Ar
set_option linter.unusedVariables false
set_option linter.unusedSimpArgs false

namespace Ar
def tabsTo (t : Tb) (m : Nat) : List (Nat × List NK) := (List.range m).filterMap (fun m => if (t m).isEmpty then none else some (m, (t m).map Bn.id))
theorem tabsTo_yes {t : Tb} {m : Nat} (h : 0 < (t m).length) : tabsTo t (m + 1) = tabsTo t m ++ [(m, (t m).map Bn.id)] := by
  unfold tabsTo
  rw [List.range_succ, List.filterMap_append]
  have : (t m).isEmpty = false := by cases hl : t m with | nil => rw [hl] at h; simp at h | cons _ _ => rfl
  rw [List.filterMap_cons, this]
  rfl
theorem tabsTo_no {t : Tb} {m : Nat} (h : ¬ 0 < (t m).length) : tabsTo t (m + 1) = tabsTo t m := by
  unfold tabsTo
  rw [List.range_succ, List.filterMap_append]
  have : (t m).isEmpty = true := by cases hl : t m with | nil => rfl | cons _ _ => rw [hl] at h; simp at h
  rw [List.filterMap_cons, this]
  simp
theorem tabsTo_le (t : Tb) (m : Nat) : (tabsTo t m).length ≤ m := by
  have := List.length_filterMap_le (fun m => if (t m).isEmpty then none else some (m, (t m).map Bn.id)) (List.range m)
  simpa [tabsTo] using this
theorem tabs_to (t : Tb) : tabs t = tabsTo t 32 := rfl
end Ar
theorem idx_tab {ds : List Value} {m : Nat} {A : Option Addr} {n c : Nat} (hl : ds.length = 32) (hm : m < 32) (hv : ds[m]? = some (.slice A n c)) (w : World) : (Instr.index 27 (.agg ds.toArray) (.int .i64 (m : Int))).run Try.prog w = .ok (.slice A n c) w := by
  have hu : Try.prog.underlying 27 = some (.array 32 26) := Try.underlying27
  have h1 : (m : Int) < 32 := by omega
  simp [Instr.index, run_underlying hu, asIntOf, h1, go_sem, part, hv]
  omega
theorem CS.range {F : Foot} {p : Nat} {t : Tb} {w : World} (h : CS F p t w) : ∃ ds : List Value, ds.length = 32 ∧ (∀ W, Below w.heap.size w W → W.rangeAt p 0 ds) ∧ ∀ m, m < 32 → ∃ A c, ds[m]? = some (.slice A (t m).length c) ∧ OwnB w 0 (.slice A (t m).length c) (t m) ∧ ∀ g, (Value.slice A (t m).length c).ownBlock = some g → F g := by
  obtain ⟨cs, mv, L, h1, h2, h3, _⟩ := h.head
  refine ⟨(cs.extract 0 (0 + 32)).toList, by simp [h2], fun W hW => ?_, fun m hm => ?_⟩
  · exact World.rangeAt_of_block ((hW.block p (h.lt p h.mine)).trans h1) 0 32
  · obtain ⟨v, hv, ho, hvF⟩ := h3.tab m hm
    obtain ⟨A, c, rfl⟩ := ho.form
    refine ⟨A, c, ?_, ho, hvF⟩
    rw [Array.getElem?_toList, Array.getElem?_extract]
    have : m < min 32 cs.size := by omega
    simp [this, hv]
set_option maxHeartbeats 8000000 in
set_option maxRecDepth 100000 in
theorem tables_any {F : Foot} {p : Nat} {t : Tb} {w : World} (h : CS F p t w) : Calls Try.prog 37 #[.pointer (some ⟨p, 0, none⟩)] w fun e w' => ∃ A' c', e = .returned (.slice A' (tabs t).length c') ∧ TabsAt w' w.heap.size (.slice A' (tabs t).length c') (tabs t) ∧ Below w.heap.size w w' := by
  obtain ⟨ds, hdl, hrg, hds⟩ := h.range
  have hfew := h.few
  have HR := Lib.hid (hrg w (Below.refl _ _))
  have IDX := Lib.hid fun m A n c hm hv => idx_tab (ds := ds) (m := m) (A := A) (n := n) (c := c) hdl hm hv
  have HD : Hid (∀ m, m < 32 → ∃ A c, ds[m]? = some (.slice A (t m).length c) ∧ ∀ W, Below w.heap.size w W → RdB W W.heap.size A (t m)) := Lib.hid fun m hm => by
    obtain ⟨A, c, h1, h2, _⟩ := hds m hm
    exact ⟨A, c, h1, fun W hW => RdB.of_own (h2.below hW)⟩
  replace hfew := Lib.hid hfew
  replace hdl := Lib.hid hdl
  clear h hds hrg
  go_enter Try.func37, Try.ntmps37
  go_wp2_with (refine wpList_load_mid rfl 27 (.tmp 10) rfl p 0 rfl ds _ HR.out Try.underlying27 rfl (by rw [hdl.out]; kernel_rfl) ?_)
  go_loopw [3, 12] (fun u ix wr => ∃ j : Nat, j ≤ 32 ∧ ix = .int .i64 j ∧ Hid (TabsAt wr w.heap.size u (tabsTo t j)) ∧ Hid (Below w.heap.size w wr)) (fun u ix _ => 32 - (intOf ix).toNat)
  case atStart => exact ⟨0, Nat.zero_le _, rfl, Lib.hid (tabs_nil _ _), Lib.hid (Below.refl _ _)⟩
  case round =>
    obtain ⟨j, hj, rfl, HO, HB⟩ := hrel
    by_cases hjl : j < 32
    · have t1 : (j : Int) < 32 := by omega
      obtain ⟨A, c, hv, hrd⟩ := HD.out j hjl
      have IX := IDX.out j A _ c hjl hv
      obtain ⟨Au, cu, rfl⟩ := HO.out.form
      by_cases hne : 0 < (t j).length
      · have t2 : (0 : Int) < ((t j).length : Int) := by omega
        have NM := Lib.hid (names_any (A := A) (c := c) (hrd wr HB.out) (hfew.out j))
        have hT := tabsTo_yes hne
        have hlen := tabsTo_le t j
        clear hv hrd
        go_wp2_with (first
          | (refine NM.out.mono ?_
             rintro e w2 ⟨A2, c2, rfl, hI, hb2⟩
             obtain ⟨A3, n3, c3, w3, hr, hTA, hg, hf⟩ := (HO.out.below hb2).push (m := j) (Nat.le_trans HB.out.size hb2.size) (hI.base HB.out.size) (by omega) 76
             rw [List.length_map] at hr)
          | (at_builtin; refine wpList_append _ rfl (.tmp 19) (.tmp 24) _ _ rfl _ _ rfl rfl _ _ hr ?_))
        have HN := Lib.hid (below_row ((HB.out.trans (hb2.mono HB.out.size))) hg (Nat.le_trans HB.out.size hb2.size) hf)
        rw [← hT] at hTA
        have HV := Lib.hid hTA
        clear hr hTA hg hf hT hlen NM hI hb2 HO
        go_wp2
        go_roundw
        case rel => exact ⟨j + 1, by omega, by go_num, HV, HN⟩
        case measure => simp [intOf]; omega
      · have t2 : ¬ (0 : Int) < ((t j).length : Int) := by omega
        have HV := HO.out
        rw [← tabsTo_no hne] at HV
        replace HV := Lib.hid HV
        clear hv hrd HO
        go_wp2
        go_roundw
        case rel => exact ⟨j + 1, by omega, by go_num, by first | exact HV | (have := HV.out; rw [tabsTo_no hne] at this ⊢; exact Lib.hid this), HB⟩
        case measure => simp [intOf]; omega
    · obtain rfl : j = 32 := by omega
      have t2 : ¬ (32 : Int) < 32 := by omega
      obtain ⟨Au, cu, rfl⟩ := HO.out.form
      go_wp2
      go_ret
      exact ⟨Au, cu, rfl, HO.out, HB.out⟩
set_option maxHeartbeats 8000000 in
set_option maxRecDepth 100000 in
theorem tables_nil (w : World) : Calls Try.prog 37 #[.pointer none] w fun e w' => e = .returned (.slice none 0 0) ∧ w = w' := by
  go_enter Try.func37, Try.ntmps37
  go_wp2
  go_ret
  exact ⟨rfl, rfl⟩
end Go.Proofs.Yteollbioeamciaa
