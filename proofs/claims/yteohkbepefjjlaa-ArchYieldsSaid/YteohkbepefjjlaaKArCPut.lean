/- The code's store: Put, Write. -/
import Derived.Test.YteohkbepefjjlaaKArDel
import Derived.Test.YteohkbepefjjlaaKArWr
import Derived.Test.YteohkbepefjjlaaKPc
namespace Go.Proofs.Yteohkbepefjjlaa
open Go.RowKit Pz Ar
set_option linter.unusedVariables false
set_option linter.unusedSimpArgs false

theorem CS.widen {F : Foot} {p : Nat} {t : Tb} {w W V : World} (hW : Below w.heap.size w W) (hr : CS (Gr F W.heap.size V.heap.size) p t V) (hO : Only F W V) : CS (Gr F w.heap.size V.heap.size) p t V ∧ Only F w V := by
  refine ⟨hr.more (fun x hx => hx.imp id fun hx => ⟨Nat.le_trans hW.size hx.1, hx.2⟩) (fun x hx => ?_), (Only.of_below hW).trans (hO.more fun b hb => .inl hb)⟩
  rcases hx with hx | hx
  · exact hr.lt x (.inl hx)
  · exact hx.2
set_option maxHeartbeats 8000000 in
set_option maxRecDepth 100000 in
theorem cput_nil (w : World) (b : Bn) : Calls Try.prog 30 #[.pointer none, b.val] w fun e w' => e = .returned (.int .i64 1) ∧ Below w.heap.size w w' := by
  have BE := Lib.hid (bel1 w (bobj b))
  obtain ⟨bs, bi, bg, bm, bx, bY, bvx, bvy, bh, bp, bl⟩ := b
  simp only [bobj, Bn.val] at *
  go_enter Try.func30, Try.ntmps30
  go_wp2
  go_ret
  exact ⟨rfl, BE.out⟩
set_option maxHeartbeats 8000000 in
set_option maxRecDepth 100000 in
theorem cwrite_nil (w : World) (b : Bn) : Calls Try.prog 26 #[.pointer none, b.val] w fun e w' => e = .returned (.int .i64 1) ∧ Below w.heap.size w w' := by
  have BE := Lib.hid (bel1 w (bobj b))
  obtain ⟨bs, bi, bg, bm, bx, bY, bvx, bvy, bh, bp, bl⟩ := b
  simp only [bobj, Bn.val] at *
  go_enter Try.func26, Try.ntmps26
  go_wp2
  go_ret
  exact ⟨rfl, BE.out⟩
set_option maxHeartbeats 8000000 in
set_option maxRecDepth 100000 in
theorem cput_any {F : Foot} {p : Nat} {t : Tb} {w : World} (h : CS F p t w) (b : Bn) (hl : ∀ m, (t m).length + 1 ≤ 100000) : Calls Try.prog 30 #[.pointer (some ⟨p, 0, none⟩), b.val] w fun e w' => e = .returned (.int .i64 (Ar.put t b).2) ∧ CS (Gr F w.heap.size w'.heap.size) p (Ar.put t b).1 w' ∧ Only F w w' := by
  have MY := Lib.hid fun W => check_any b W
  have HA := Lib.hid (h.finds b.s b.i b.g)
  have PU : Hid (may b = true → Ar.find t b.id = none → ∀ W, Below w.heap.size w W → Calls Try.prog 44 #[.pointer (some ⟨p, 0, none⟩), b.val] W fun e w' => e = .returned (.tuple #[]) ∧ CS (Gr F w.heap.size w'.heap.size) p (put0 t b) w' ∧ Only F w w') := Lib.hid fun hm hf W hW => by
    refine (add_any (h.below hW) b hm hf hl).mono ?_
    rintro e w' ⟨rfl, hr, hO⟩
    obtain ⟨a1, a2⟩ := CS.widen hW hr hO
    exact ⟨rfl, a1, a2⟩
  have RB : Hid (∀ W, Below w.heap.size w W → CS (Gr F w.heap.size W.heap.size) p t W ∧ Only F w W) := Lib.hid fun W hW => ⟨(h.below hW).gr, .of_below hW⟩
  have P1 : Hid (may b = false → Ar.put t b = (t, 1)) := Lib.hid fun hm => by unfold Ar.put; rw [hm]; rfl
  have P2 : Hid (may b = true → ∀ pr, find t b.id = some pr → Ar.put t b = (t, 7)) := Lib.hid fun hm pr hp => by unfold Ar.put; rw [hm, hp]; rfl
  have P3 : Hid (may b = true → find t b.id = none → Ar.put t b = (put0 t b, 0)) := Lib.hid fun hm hp => by unfold Ar.put; rw [hm, hp]; rfl
  have hbid : (b.s, b.i, b.g) = b.id := rfl
  rw [hbid] at HA
  generalize Ar.put t b = ANS at *
  clear h hl hbid
  generalize put0 t b = t' at *
  generalize Ar.find t b.id = fd at *
  obtain ⟨my, hmy⟩ : ∃ x, may b = x := ⟨_, rfl⟩
  rw [hmy] at PU P1 P2 P3
  simp only [hmy] at MY
  clear hmy
  have T1 := Lib.hid (at1 w (bobj b))
  have BE := Lib.hid (bel1 w (bobj b))
  obtain ⟨bs, bi, bg, bm, bx, bY, bvx, bvy, bh, bp, bl⟩ := b
  simp only [Bn.val, bobj] at *
  go_enter Try.func30, Try.ntmps30
  go_upto_region 1 with fail
  generalize w.alloc (.cells #[.int .i64 bs, .int .i64 bi, .int .i64 bg, .int .i64 bm, .int .i64 bx, .int .i64 bY, .int .i64 bvx, .int .i64 bvy, .int .i64 bh, .int .i64 bp, .int .i64 bl] 35) = w1 at *
  obtain ⟨⟨k0, k1, k2, k3, k4, k5, k6, k7, k8, k9, k10⟩, _⟩ := Bx.b11 T1.out
  go_wp2_with fail
  refine (MY.out w1).mono ?_
  rintro e w2 ⟨rfl, hb⟩
  replace BE := Lib.hid (BE.out.trans (hb.mono BE.out.size))
  replace T1 := Lib.hid ((hb.block _ (Bx.lt T1.out)).trans T1.out)
  clear hb MY k0 k1 k2 k3 k4 k5 k6 k7 k8 k9 k10
  cases my with
  | false =>
    obtain rfl := P1.out rfl
    simp only [errB]
    go_wp2
    go_ret
    exact ⟨rfl, RB.out _ BE.out⟩
  | true =>
    simp only [errB]
    obtain ⟨⟨k0, k1, k2, k3, k4, k5, k6, k7, k8, k9, k10⟩, _⟩ := Bx.b11 T1.out
    go_wp2_with fail
    refine (HA.out w2 BE.out).mono ?_
    rintro e w3 ⟨rfl, hb⟩
    have B23 := BE.out.trans (hb.mono BE.out.size)
    replace T1 := (hb.block _ (Bx.lt T1.out)).trans T1.out
    clear hb HA k0 k1 k2 k3 k4 k5 k6 k7 k8 k9 k10 BE
    cases fd with
    | some pr =>
      obtain ⟨m, i⟩ := pr
      obtain rfl := P2.out (by trivial) _ rfl
      have BE := Lib.hid (B23.alloc B23.size (.cells #[.int .i64 (m : Int), .int .i64 (i : Int)] 72))
      simp only [lookV, plV]
      clear B23 T1
      go_wp2
      go_ret
      exact ⟨rfl, RB.out _ BE.out⟩
    | none =>
      obtain rfl := P3.out (by trivial) rfl
      have BE := Lib.hid (B23.alloc B23.size (.cells #[.int .i64 0, .int .i64 0] 72))
      obtain ⟨⟨k0, k1, k2, k3, k4, k5, k6, k7, k8, k9, k10⟩, _⟩ := Bx.b11 (((bel1 w3 (.cells #[.int .i64 0, .int .i64 0] 72)).block _ (Bx.lt T1)).trans T1)
      have PU1 := Lib.hid (PU.out (by trivial) rfl _ BE.out)
      simp only [lookV]
      clear B23 T1 PU
      go_wp2_with fail
      refine PU1.out.mono ?_
      rintro e w4 ⟨rfl, hr, hg⟩
      go_wp2
      go_ret
      exact ⟨rfl, hr, hg⟩
set_option maxHeartbeats 8000000 in
set_option maxRecDepth 100000 in
theorem cwrite_any {F : Foot} {p : Nat} {t : Tb} {w : World} (h : CS F p t w) (b : Bn) (hl : ∀ m, (t m).length + 1 ≤ 100000) : Calls Try.prog 26 #[.pointer (some ⟨p, 0, none⟩), b.val] w fun e w' => e = .returned (.int .i64 (Ar.write t b).2) ∧ CS (Gr F w.heap.size w'.heap.size) p (Ar.write t b).1 w' ∧ Only F w w' := by
  have MY := Lib.hid fun W => check_any b W
  have HA := Lib.hid (h.finds b.s b.i b.g)
  have RB : Hid (∀ W, Below w.heap.size w W → CS (Gr F w.heap.size W.heap.size) p t W ∧ Only F w W) := Lib.hid fun W hW => ⟨(h.below hW).gr, .of_below hW⟩
  have P1 : Hid (may b = false → Ar.write t b = (t, 1)) := Lib.hid fun hm => by unfold Ar.write; rw [hm]; rfl
  have P2 : Hid (may b = true → find t b.id = none → Ar.write t b = (t, 6)) := Lib.hid fun hm hp => by unfold Ar.write; rw [hm, hp]; rfl
  have P3 : Hid (may b = true → ∀ m i, find t b.id = some (m, i) → (m : Int) = b.m → Ar.write t b = (Ar.up t m ((t m).set i b), 0)) := Lib.hid fun hm m i hp he => by unfold Ar.write; rw [hm, hp]; simp [he]
  have P4 : Hid (may b = true → ∀ m i, find t b.id = some (m, i) → ¬ (m : Int) = b.m → Ar.write t b = (put0 (cut0 t m i) b, 0)) := Lib.hid fun hm m i hp he => by unfold Ar.write; rw [hm, hp]; simp [he]
  have INP : Hid (may b = true → ∀ m i, find t b.id = some (m, i) → (m : Int) = b.m → ∀ W, Below w.heap.size w W → ∃ g o n c, m < 32 ∧ i < n ∧ n ≤ 100000 ∧ W.cell? ⟨p, m, none⟩ = some (.slice (some ⟨g, o, none⟩) n c) ∧ ∃ y, Cells11 W g (o + i * 11) y ∧ Froz11 W g (o + i * 11) ∧
      Hid (CS (Gr F w.heap.size (setRow11 W g (o + i * 11) b).heap.size) p (Ar.up t m ((t m).set i b)) (setRow11 W g (o + i * 11) b) ∧ Only F w (setRow11 W g (o + i * 11) b))) := Lib.hid fun hmay m i hf he W hW => by
    obtain ⟨hm, x, hx, hxid⟩ := find_at hf
    have hi := (List.getElem?_eq_some_iff.1 hx).1
    have hR := h.below hW
    obtain ⟨A, c, hc, ho⟩ := hR.at_ hm
    obtain ⟨g, o, rfl, _, hcells, hfr⟩ := own_at ho hx
    obtain ⟨s1, s2⟩ := own_set ho hi b
    have hgF := hR.own_mine hm hc (g := g) rfl
    refine ⟨g, o, _, c, hm, hi, h.few m, hc, x, hcells, hfr, Lib.hid ⟨?_, setRow11_only (.of_below hW) hgF _ _⟩⟩
    rw [setRow11_size]
    refine (CS.set hR hm hc (setRow11_size _ _ _ _) (fun k hk => setRow11_ne _ _ _ (fun e => hk (by rw [e]; rfl))) hmay hx hxid he s1).more (fun x hx => .inl hx) (fun x hx => ?_)
    rw [setRow11_size]
    exact hx.elim (hR.lt x) (fun e => e.2)
  have CU : Hid (∀ m i, find t b.id = some (m, i) → ∀ W, Below w.heap.size w W → Calls Try.prog 24 #[.pointer (some ⟨p, 0, none⟩), .agg #[.int .i64 b.s, .int .i64 b.i, .int .i64 b.g]] W fun e w' => e = .returned (.bool true) ∧ CS (Gr F W.heap.size w'.heap.size) p (cut0 t m i) w' ∧ Only F W w') := Lib.hid fun m i hf W hW =>
    remove_some (h.below hW) hf
  have PU : Hid (may b = true → ∀ m i, find t b.id = some (m, i) → ∀ W V, Below w.heap.size w W → Only F W V → CS (Gr F W.heap.size V.heap.size) p (cut0 t m i) V → Calls Try.prog 44 #[.pointer (some ⟨p, 0, none⟩), b.val] V fun e w' => e = .returned (.tuple #[]) ∧ CS (Gr F w.heap.size w'.heap.size) p (put0 (cut0 t m i) b) w' ∧ Only F w w') := Lib.hid fun hm m i hf W V hW hO hr => by
    obtain ⟨_, x, hx, hxid⟩ := find_at hf
    refine (add_any hr b hm (by rw [← hxid]; exact cut_gone h.good hx) (fun a => by have := cutL_le t m i a; have := hl a; omega)).mono ?_
    rintro e w' ⟨rfl, hr', hO'⟩
    rw [Gr.gr hO.size hO'.size] at hr'
    obtain ⟨a1, a2⟩ := CS.widen hW hr' (hO.trans hO')
    exact ⟨rfl, a1, a2⟩
  have NF : Hid (¬ F w.heap.size) := Lib.hid fun e => Nat.lt_irrefl _ (h.lt _ e)
  have hbid : (b.s, b.i, b.g) = b.id := rfl
  rw [hbid] at HA
  generalize Ar.write t b = ANS at *
  clear h hl hbid
  generalize Ar.find t b.id = fd at *
  obtain ⟨my, hmy⟩ : ∃ x, may b = x := ⟨_, rfl⟩
  rw [hmy] at INP PU P1 P2 P3 P4
  simp only [hmy] at MY
  clear hmy
  have T1 := Lib.hid (at1 w (bobj b))
  have BE := Lib.hid (bel1 w (bobj b))
  obtain ⟨bs, bi, bg, bm, bx, bY, bvx, bvy, bh, bp, bl⟩ := b
  simp only [Bn.val, bobj, Cells11, Froz11] at *
  go_enter Try.func26, Try.ntmps26
  go_upto_region 1 with fail
  generalize w.alloc (.cells #[.int .i64 bs, .int .i64 bi, .int .i64 bg, .int .i64 bm, .int .i64 bx, .int .i64 bY, .int .i64 bvx, .int .i64 bvy, .int .i64 bh, .int .i64 bp, .int .i64 bl] 35) = w1 at *
  obtain ⟨⟨k0, k1, k2, k3, k4, k5, k6, k7, k8, k9, k10⟩, _⟩ := Bx.b11 T1.out
  go_wp2_with fail
  refine (MY.out w1).mono ?_
  rintro e w2 ⟨rfl, hb⟩
  replace BE := Lib.hid (BE.out.trans (hb.mono BE.out.size))
  replace T1 := Lib.hid ((hb.block _ (Bx.lt T1.out)).trans T1.out)
  clear hb MY k0 k1 k2 k3 k4 k5 k6 k7 k8 k9 k10
  cases my with
  | false =>
    obtain rfl := P1.out rfl
    simp only [errB]
    go_wp2
    go_ret
    exact ⟨rfl, RB.out _ BE.out⟩
  | true =>
    simp only [errB]
    obtain ⟨⟨k0, k1, k2, k3, k4, k5, k6, k7, k8, k9, k10⟩, _⟩ := Bx.b11 T1.out
    go_wp2_with fail
    refine (HA.out w2 BE.out).mono ?_
    rintro e w3 ⟨rfl, hb⟩
    have B23 := BE.out.trans (hb.mono BE.out.size)
    replace T1 := (hb.block _ (Bx.lt T1.out)).trans T1.out
    clear hb HA k0 k1 k2 k3 k4 k5 k6 k7 k8 k9 k10 BE
    cases fd with
    | none =>
      obtain rfl := P2.out (by trivial) rfl
      have BE := Lib.hid (B23.alloc B23.size (.cells #[.int .i64 0, .int .i64 0] 72))
      simp only [lookV]
      clear B23 T1
      go_wp2
      go_ret
      exact ⟨rfl, RB.out _ BE.out⟩
    | some pr =>
      obtain ⟨m, i⟩ := pr
      have B4 := bel1 w3 (.cells #[.int .i64 (m : Int), .int .i64 (i : Int)] 72)
      have T4 := at1 w3 (.cells #[.int .i64 (m : Int), .int .i64 (i : Int)] 72)
      replace T1 := (B4.block _ (Bx.lt T1)).trans T1
      have BE := Lib.hid (B23.trans (B4.mono B23.size))
      simp only [lookV, plV]
      clear B23 B4
      go_upto_region 4 with fail
      obtain ⟨b2, hb2⟩ : ∃ b2, b2 = w3.heap.size := ⟨_, rfl⟩
      rw [← hb2] at T4 ⊢
      clear hb2
      generalize w3.alloc (.cells #[.int .i64 (m : Int), .int .i64 (i : Int)] 72) = w4 at *
      obtain ⟨⟨k0, k1, k2, k3, k4, k5, k6, k7, k8, k9, k10⟩, _⟩ := Bx.b11 T1
      obtain ⟨⟨r0, r1⟩, _⟩ := Bx.b2 T4
      by_cases hmb : (m : Int) = bm
      · obtain rfl := P3.out (by trivial) _ _ rfl hmb
        obtain ⟨g, o, n, c, hm, hi, hn, hc, y, ⟨y0, y1, y2, y3, y4, y5, y6, y7, y8, y9, y10⟩, ⟨f0, f1, f2, f3, f4, f5, f6, f7, f8, f9, f10⟩, FIN⟩ := INP.out (by trivial) m i rfl hmb w4.drew BE.out.drew
        have hm2 : (m : Int) < 32 := by omega
        have hi2 : (i : Int) < (n : Int) := by omega
        have hn2 : (n : Int) ≤ 100000 := by omega
        clear INP CU PU P1 P2 P3 P4 RB NF hm hi hn
        subst hmb
        go_upto_region 7 with fail
        have T1d : w4.drew.heap[w.heap.size]? = some (.cells #[.int .i64 bs, .int .i64 bi, .int .i64 bg, .int .i64 (m : Int), .int .i64 bx, .int .i64 bY, .int .i64 bvx, .int .i64 bvy, .int .i64 bh, .int .i64 bp, .int .i64 bl] 35 (0, 0)) := T1
        have T4d : w4.drew.heap[b2]? = some (.cells #[.int .i64 (m : Int), .int .i64 (i : Int)] 72 (0, 0)) := T4
        clear k0 k1 k2 k3 k4 k5 k6 k7 k8 k9 k10 r0 r1 T1 T4 BE
        obtain ⟨⟨z0, z1, z2, z3, z4, z5, z6, z7, z8, z9, z10⟩, _⟩ := Bx.b11 T1d
        obtain ⟨⟨r0, r1⟩, _⟩ := Bx.b2 T4d
        clear T1d T4d
        go_still_tail 11, (by kernel_rfl)
        change wpList _ _ _ _ _ w4.drew
        generalize w4.drew = w5 at *
        go_wp2
        go_ret
        exact ⟨rfl, FIN.out⟩
      · obtain rfl := P4.out (by trivial) _ _ rfl hmb
        have tm : decide ((m : Int) = bm) = false := decide_eq_false hmb
        have CU1 := Lib.hid (CU.out m i rfl w4 BE.out)
        have PU1 := Lib.hid fun V => PU.out (by trivial) m i rfl w4 V BE.out
        have hb3 := Bx.lt T1
        replace T1 := Lib.hid T1
        clear INP CU PU P1 P2 P3 P4 RB T4
        go_wp2_with fail
        refine CU1.out.mono ?_
        rintro e w5 ⟨rfl, hr, hO⟩
        replace T1 := Lib.hid ((hO.block _ hb3 NF.out).trans T1.out)
        clear k0 k1 k2 k3 k4 k5 k6 k7 k8 k9 k10 BE CU1
        obtain ⟨⟨k0, k1, k2, k3, k4, k5, k6, k7, k8, k9, k10⟩, _⟩ := Bx.b11 T1.out
        go_wp2_with fail
        refine (PU1.out w5 hO hr).mono ?_
        rintro e w6 ⟨rfl, hr, hO5⟩
        go_wp2
        go_ret
        exact ⟨rfl, hr, hO5⟩
end Go.Proofs.Yteohkbepefjjlaa
