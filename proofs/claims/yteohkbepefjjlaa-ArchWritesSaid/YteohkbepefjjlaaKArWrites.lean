/- The law ArchWrites, walked. Written by wip/tools/genwrites.py. -/
import Derived.Test.YteohkbepefjjlaaKArPX
import Derived.Test.YteohkbepefjjlaaKArWrP
import Derived.Test.YteohkbepefjjlaaKArCopies
namespace Go.Proofs.Yteohkbepefjjlaa
open Go.RowKit Pz Ar
set_option linter.unusedVariables false
set_option linter.unusedSimpArgs false

theorem px_all' {w W : World} {s : Nat} {t : Tb} {Φ : World → Prop} (h : PX w s t Φ W) (hl : total t ≤ 10000) : Calls Try.prog 23 #[.pointer (some ⟨s, 0, none⟩), .int .i64 10000] W fun e V => ∃ A c, e = .returned (.slice A (all t).length c) ∧ PX w s t (fun V => Φ V ∧ OwnB V W.heap.size (.slice A (all t).length c) (all t)) V := by
  have := h.all 10000 (by decide) (by omega)
  rw [List.take_of_length_le (by rw [total_all]; omega)] at this
  exact this
theorem deeds_good (l : List Dd) : Ar.Good (deeds l) := by
  have : ∀ (l : List Dd) (t : Tb), Ar.Good t → Ar.Good (l.foldl deedT t) := fun l => by
    induction l with
    | nil => intro t h; exact h
    | cons x l ih => intro t h; exact ih _ (good_step h x)
  exact this l _ good_none
set_option maxHeartbeats 32000000 in
set_option maxRecDepth 100000 in
theorem law_writes (w : World) (A : Option Addr) (c : Nat) (l0 : List Dd) (hc : l0.length ≤ c) (hcap : c ≤ 140737488351232) (hF : ∀ x ∈ l0, Fit x.b.m) (R : RdD w w.heap.size A l0) (b : Bn) (hfit : Fit b.m) :
    Calls Try.prog 6 #[.slice A l0.length c, b.val] w fun e w' => e = .returned (.bool true) ∧ Below w.heap.size w w' := by
  obtain ⟨b, hb⟩ : ∃ b', b' = b := ⟨_, rfl⟩
  rw [← hb] at hfit ⊢
  clear hb
  have MB0 := Lib.hid (may_any b hfit)
  have B1 := bel1 w (.cells #[.int .i64 b.s, .int .i64 b.i, .int .i64 b.g, .int .i64 b.m, .int .i64 b.x, .int .i64 b.y, .int .i64 b.vx, .int .i64 b.vy, .int .i64 b.h, .int .i64 b.p, .int .i64 b.l] 35)
  have KB0 := at1 w (.cells #[.int .i64 b.s, .int .i64 b.i, .int .i64 b.g, .int .i64 b.m, .int .i64 b.x, .int .i64 b.y, .int .i64 b.vx, .int .i64 b.vy, .int .i64 b.h, .int .i64 b.p, .int .i64 b.l] 35)
  have MD := made_any (w := w.alloc (.cells #[.int .i64 b.s, .int .i64 b.i, .int .i64 b.g, .int .i64 b.m, .int .i64 b.x, .int .i64 b.y, .int .i64 b.vx, .int .i64 b.vy, .int .i64 b.h, .int .i64 b.p, .int .i64 b.l] 35)) ((R.below B1).more B1.size) hc hcap hF
  have hLe : Le (deeds (l0.take 60)) 60 := (deeds_le _).mono (by rw [List.length_take]; omega)
  have hgood := deeds_good (l0.take 60)
  clear R hF hc hcap
  generalize deeds (l0.take 60) = t at MD hLe hgood
  generalize l0.length = n0 at *
  have htot : total t ≤ 10000 := by have := le_total hLe; omega
  have AW := Lib.hid awake_any
  obtain ⟨x, xi0, gx, _, gx2⟩ := gets (t := t) b.id
  by_cases hmay : may b = true
  · cases hfd : Ar.find t b.id with
    | none =>
      have hw : Ar.write t b = (t, 6) := by unfold Ar.write; rw [if_pos hmay, hfd]
      rw [hfd] at gx
      simp only [Option.isSome_none] at gx
      rw [hmay] at MB0
      clear hfd gx2 hmay
      obtain ⟨bs, bi, bg, bm, bx, bY, bvx, bvy, bh, bp, bl⟩ := b
      obtain ⟨xs, xi, xg, xm, xx, xY, xvx, xvy, xh, xp, xl⟩ := x
      simp only [Bn.val, Bn.id] at *
      have GX : Hid (∀ Φ W, PX (w.alloc (.cells #[.int .i64 bs, .int .i64 bi, .int .i64 bg, .int .i64 bm, .int .i64 bx, .int .i64 bY, .int .i64 bvx, .int .i64 bvy, .int .i64 bh, .int .i64 bp, .int .i64 bl] 35)) (w.alloc (.cells #[.int .i64 bs, .int .i64 bi, .int .i64 bg, .int .i64 bm, .int .i64 bx, .int .i64 bY, .int .i64 bvx, .int .i64 bvy, .int .i64 bh, .int .i64 bp, .int .i64 bl] 35)).heap.size t Φ W → Calls Try.prog 15 #[.pointer (some ⟨(w.alloc (.cells #[.int .i64 bs, .int .i64 bi, .int .i64 bg, .int .i64 bm, .int .i64 bx, .int .i64 bY, .int .i64 bvx, .int .i64 bvy, .int .i64 bh, .int .i64 bp, .int .i64 bl] 35)).heap.size, 0, none⟩), .agg #[.int .i64 bs, .int .i64 bi, .int .i64 bg]] W fun e V => e = .returned (.tuple #[.agg #[.int .i64 xs, .int .i64 xi, .int .i64 xg, .int .i64 xm, .int .i64 xx, .int .i64 xY, .int .i64 xvx, .int .i64 xvy, .int .i64 xh, .int .i64 xp, .int .i64 xl], .bool false]) ∧ PX (w.alloc (.cells #[.int .i64 bs, .int .i64 bi, .int .i64 bg, .int .i64 bm, .int .i64 bx, .int .i64 bY, .int .i64 bvx, .int .i64 bvy, .int .i64 bh, .int .i64 bp, .int .i64 bl] 35)) (w.alloc (.cells #[.int .i64 bs, .int .i64 bi, .int .i64 bg, .int .i64 bm, .int .i64 bx, .int .i64 bY, .int .i64 bvx, .int .i64 bvy, .int .i64 bh, .int .i64 bp, .int .i64 bl] 35)).heap.size t Φ V) := Lib.hid fun Φ W h => by
        have := h.get bs bi bg
        rw [gx] at this
        exact this
      clear gx
      go_enter Try.func6, Try.ntmps6
      go_upto_region 1 with fail
      generalize w.alloc (.cells #[.int .i64 bs, .int .i64 bi, .int .i64 bg, .int .i64 bm, .int .i64 bx, .int .i64 bY, .int .i64 bvx, .int .i64 bvy, .int .i64 bh, .int .i64 bp, .int .i64 bl] 35) = w1 at *
      have KB : Hid (∀ W, Below w1.heap.size w1 W → W.cell? ⟨w.heap.size, 0, none⟩ = some (.int .i64 bs) ∧ W.cell? ⟨w.heap.size, 1, none⟩ = some (.int .i64 bi) ∧ W.cell? ⟨w.heap.size, 2, none⟩ = some (.int .i64 bg) ∧ W.cell? ⟨w.heap.size, 3, none⟩ = some (.int .i64 bm) ∧ W.cell? ⟨w.heap.size, 4, none⟩ = some (.int .i64 bx) ∧ W.cell? ⟨w.heap.size, 5, none⟩ = some (.int .i64 bY) ∧ W.cell? ⟨w.heap.size, 6, none⟩ = some (.int .i64 bvx) ∧ W.cell? ⟨w.heap.size, 7, none⟩ = some (.int .i64 bvy) ∧ W.cell? ⟨w.heap.size, 8, none⟩ = some (.int .i64 bh) ∧ W.cell? ⟨w.heap.size, 9, none⟩ = some (.int .i64 bp) ∧ W.cell? ⟨w.heap.size, 10, none⟩ = some (.int .i64 bl)) := Lib.hid fun W hW => (Bx.b11 ((hW.block _ (Bx.lt KB0)).trans KB0)).1
      replace B1 := Lib.hid B1
      replace MD := Lib.hid MD
      clear KB0
      generalize w1.heap.size = s at MD GX ⊢
      have hwrt := Lib.hid hw
      clear hw
      go_wp2_with (first
        | (go_at_call 18; refine MD.out.mono ?_; rintro e w2 ⟨rfl, h2⟩; have X2 := h2.px; clear MD h2)
        | (go_at_call 23; refine (px_all' X2 htot).mono ?_; rintro e w3 ⟨A3, c3, rfl, X3⟩; clear X2)
        | (go_at_call 19; refine X3.tables.mono ?_; rintro e w4 ⟨A4, c4, rfl, X4⟩; clear X3; obtain ⟨k0, k1, k2, k3, k4, k5, k6, k7, k8, k9, k10⟩ := KB.out _ X4.bel)
        | (go_at_call 15; refine (GX.out _ _ X4).mono ?_; rintro e w5 ⟨rfl, X5'⟩; have X5 := X5'.box (.cells #[.int .i64 xs, .int .i64 xi, .int .i64 xg, .int .i64 xm, .int .i64 xx, .int .i64 xY, .int .i64 xvx, .int .i64 xvy, .int .i64 xh, .int .i64 xp, .int .i64 xl] 35); clear GX X4 X5' k0 k1 k2 k3 k4 k5 k6 k7 k8 k9 k10; obtain ⟨k0, k1, k2, k3, k4, k5, k6, k7, k8, k9, k10⟩ := KB.out _ X5.bel)
        | (go_at_call 26; refine (X5.write ⟨bs, bi, bg, bm, bx, bY, bvx, bvy, bh, bp, bl⟩ hLe (by decide) hwrt.out).mono ?_; rintro e w6 ⟨rfl, X6⟩; clear X5 k0 k1 k2 k3 k4 k5 k6 k7 k8 k9 k10 hwrt; obtain ⟨k0, k1, k2, k3, k4, k5, k6, k7, k8, k9, k10⟩ := KB.out _ X6.bel)
        | (go_at_call 21; refine (MB0.out _).mono ?_; rintro e w7 ⟨rfl, b7⟩; have X7 := X6.below b7; clear MB0 X6 b7 k0 k1 k2 k3 k4 k5 k6 k7 k8 k9 k10)
        | (go_at_call 23; refine (px_all' X7 htot).mono ?_; rintro e w8 ⟨A8, c8, rfl, X8⟩; clear X7)
        | (go_at_call 27; refine (rsame_yes (RdB.of_own X8.is.2) (RdB.of_own X8.is.1.1.1.2) (by rw [total_all]; omega)).mono ?_; rintro e w9 ⟨rfl, b9⟩; have X9 := X8.below b9; clear X8 b9)
        | (go_at_call 17; refine (AW.out _).mono ?_; rintro e w10 ⟨rfl, b10⟩; have X10 := X9.below b10; clear AW X9 b10))
      go_ret
      exact ⟨rfl, B1.out.trans (X10.bel.mono B1.out.size)⟩
    | some mi =>
      obtain ⟨m, i⟩ := mi
      have hgx := gx2 m i hfd
      have WE : Ar.write t b = ((Ar.write t b).1, 0) := by rw [write_eq hmay hfd]; split <;> rfl
      have WG := Lib.hid fun y hy => write_get hmay hfd hgood (y := y) hy
      have hLT : total (Ar.write t b).1 = (Ar.all t).length := by rw [write_total hmay hfd, total_all]
      have hxm : x.m = (m : Int) := (hgood.ok m x (List.mem_of_getElem? hgx)).2
      have WS : Hid (x.m = b.m → tabs (Ar.write t b).1 = tabs t) := Lib.hid fun e => write_tabs hmay hfd (by rw [← hxm]; exact e)
      have hta : (Ar.all t).length ≤ 10000 := by rw [total_all]; exact htot
      rw [hfd] at gx
      simp only [Option.isSome_some] at gx
      clear gx2 hfd hgx hgood hxm hmay MB0
      generalize (Ar.write t b).1 = t2 at *
      obtain ⟨bs, bi, bg, bm, bx, bY, bvx, bvy, bh, bp, bl⟩ := b
      obtain ⟨xs, xi, xg, xm, xx, xY, xvx, xvy, xh, xp, xl⟩ := x
      simp only [Bn.val, Bn.id] at *
      have GX : Hid (∀ Φ W, PX (w.alloc (.cells #[.int .i64 bs, .int .i64 bi, .int .i64 bg, .int .i64 bm, .int .i64 bx, .int .i64 bY, .int .i64 bvx, .int .i64 bvy, .int .i64 bh, .int .i64 bp, .int .i64 bl] 35)) (w.alloc (.cells #[.int .i64 bs, .int .i64 bi, .int .i64 bg, .int .i64 bm, .int .i64 bx, .int .i64 bY, .int .i64 bvx, .int .i64 bvy, .int .i64 bh, .int .i64 bp, .int .i64 bl] 35)).heap.size t Φ W → Calls Try.prog 15 #[.pointer (some ⟨(w.alloc (.cells #[.int .i64 bs, .int .i64 bi, .int .i64 bg, .int .i64 bm, .int .i64 bx, .int .i64 bY, .int .i64 bvx, .int .i64 bvy, .int .i64 bh, .int .i64 bp, .int .i64 bl] 35)).heap.size, 0, none⟩), .agg #[.int .i64 bs, .int .i64 bi, .int .i64 bg]] W fun e V => e = .returned (.tuple #[.agg #[.int .i64 xs, .int .i64 xi, .int .i64 xg, .int .i64 xm, .int .i64 xx, .int .i64 xY, .int .i64 xvx, .int .i64 xvy, .int .i64 xh, .int .i64 xp, .int .i64 xl], .bool true]) ∧ PX (w.alloc (.cells #[.int .i64 bs, .int .i64 bi, .int .i64 bg, .int .i64 bm, .int .i64 bx, .int .i64 bY, .int .i64 bvx, .int .i64 bvy, .int .i64 bh, .int .i64 bp, .int .i64 bl] 35)) (w.alloc (.cells #[.int .i64 bs, .int .i64 bi, .int .i64 bg, .int .i64 bm, .int .i64 bx, .int .i64 bY, .int .i64 bvx, .int .i64 bvy, .int .i64 bh, .int .i64 bp, .int .i64 bl] 35)).heap.size t Φ V) := Lib.hid fun Φ W h => by
        have := h.get bs bi bg
        rw [gx] at this
        exact this
      clear gx
      go_enter Try.func6, Try.ntmps6
      go_upto_region 1 with fail
      generalize w.alloc (.cells #[.int .i64 bs, .int .i64 bi, .int .i64 bg, .int .i64 bm, .int .i64 bx, .int .i64 bY, .int .i64 bvx, .int .i64 bvy, .int .i64 bh, .int .i64 bp, .int .i64 bl] 35) = w1 at *
      have KB : Hid (∀ W, Below w1.heap.size w1 W → W.cell? ⟨w.heap.size, 0, none⟩ = some (.int .i64 bs) ∧ W.cell? ⟨w.heap.size, 1, none⟩ = some (.int .i64 bi) ∧ W.cell? ⟨w.heap.size, 2, none⟩ = some (.int .i64 bg) ∧ W.cell? ⟨w.heap.size, 3, none⟩ = some (.int .i64 bm) ∧ W.cell? ⟨w.heap.size, 4, none⟩ = some (.int .i64 bx) ∧ W.cell? ⟨w.heap.size, 5, none⟩ = some (.int .i64 bY) ∧ W.cell? ⟨w.heap.size, 6, none⟩ = some (.int .i64 bvx) ∧ W.cell? ⟨w.heap.size, 7, none⟩ = some (.int .i64 bvy) ∧ W.cell? ⟨w.heap.size, 8, none⟩ = some (.int .i64 bh) ∧ W.cell? ⟨w.heap.size, 9, none⟩ = some (.int .i64 bp) ∧ W.cell? ⟨w.heap.size, 10, none⟩ = some (.int .i64 bl)) := Lib.hid fun W hW => (Bx.b11 ((hW.block _ (Bx.lt KB0)).trans KB0)).1
      replace B1 := Lib.hid B1
      replace MD := Lib.hid MD
      clear KB0
      generalize w1.heap.size = s at MD GX ⊢
      have WE2 := Lib.hid WE
      have nm : ((total t2 : Int) != ((Ar.all t).length : Int)) = false := by rw [hLT]; simp
      have TT1 := Lib.hid (tabs_short hLe (by decide))
      have TT2 : (tabs t).length ≤ 1000000 := Nat.le_trans (by rw [tabs_to]; exact tabsTo_le t 32) (by decide)
      clear WE hLT
      go_wp2_with (first
        | (go_at_call 18; refine MD.out.mono ?_; rintro e w2 ⟨rfl, h2⟩; have X2 := h2.px; clear MD h2)
        | (go_at_call 23; refine (px_all' X2 htot).mono ?_; rintro e w3 ⟨A3, c3, rfl, X3⟩; clear X2)
        | (go_at_call 19; refine X3.tables.mono ?_; rintro e w4 ⟨A4, c4, rfl, X4⟩; clear X3; obtain ⟨k0, k1, k2, k3, k4, k5, k6, k7, k8, k9, k10⟩ := KB.out _ X4.bel)
        | (go_at_call 15; refine (GX.out _ _ X4).mono ?_; rintro e w5 ⟨rfl, X5'⟩; have X5 := X5'.box (.cells #[.int .i64 xs, .int .i64 xi, .int .i64 xg, .int .i64 xm, .int .i64 xx, .int .i64 xY, .int .i64 xvx, .int .i64 xvy, .int .i64 xh, .int .i64 xp, .int .i64 xl] 35); clear GX X4 X5' k0 k1 k2 k3 k4 k5 k6 k7 k8 k9 k10; obtain ⟨k0, k1, k2, k3, k4, k5, k6, k7, k8, k9, k10⟩ := KB.out _ X5.bel)
        | (go_at_call 26; refine (X5.write ⟨bs, bi, bg, bm, bx, bY, bvx, bvy, bh, bp, bl⟩ hLe (by decide) WE2.out).mono ?_; rintro e w6 ⟨rfl, X6⟩; clear X5 k0 k1 k2 k3 k4 k5 k6 k7 k8 k9 k10 WE2)
        | (go_at_call 22; refine X6.len.mono ?_; rintro e w7 ⟨rfl, rfl⟩))
      obtain ⟨Φ, X7, RW0, TW0, BW0⟩ : ∃ Φ : World → Prop, PX w1 s t2 Φ w6 ∧ (∀ V, Φ V → RdB V V.heap.size A3 (Ar.all t)) ∧ (∀ V, Φ V → ∃ B, TabsAt V B (.slice A4 (tabs t).length c4) (tabs t)) ∧ (∀ V, Φ V → V.heap[w5.heap.size]? = some (.cells #[.int .i64 xs, .int .i64 xi, .int .i64 xg, .int .i64 xm, .int .i64 xx, .int .i64 xY, .int .i64 xvx, .int .i64 xvy, .int .i64 xh, .int .i64 xp, .int .i64 xl] 35)) := ⟨_, X6, fun V h => RdB.of_own h.1.1.2, fun V h => ⟨_, h.1.2⟩, fun V h => h.2⟩
      have RW := Lib.hid RW0
      have TW := Lib.hid TW0
      have BW := Lib.hid BW0
      have X7h := Lib.hid X7
      clear X6 X7 RW0 TW0 BW0 nm
      have hl4 : ((Ar.all t).length : Int) ≤ 10000 := by omega
      go_loopw [11] (fun i wr => ∃ j : Nat, j ≤ (Ar.all t).length ∧ i = .int .i64 j ∧ Hid (PX w1 s t2 Φ wr)) (fun i _ => (Ar.all t).length - (intOf i).toNat)
      case atStart => exact ⟨0, Nat.zero_le _, rfl, X7h⟩
      case round =>
        obtain ⟨j, hj, rfl, HX⟩ := hrel
        clear X7h
        by_cases hjn : j < (Ar.all t).length
        · have t1 : (j : Int) < ((Ar.all t).length : Int) := by omega
          obtain ⟨g, o, rfl, _⟩ := RW.out wr HX.out.is j _ (List.getElem?_eq_getElem hjn)
          have RC : Hid (∀ W, Φ W → W.cell? ⟨g, o + j * 11, none⟩ = some (.int .i64 (Ar.all t)[j].s) ∧ W.cell? ⟨g, o + j * 11 + 1, none⟩ = some (.int .i64 (Ar.all t)[j].i) ∧ W.cell? ⟨g, o + j * 11 + 2, none⟩ = some (.int .i64 (Ar.all t)[j].g) ∧ W.cell? ⟨g, o + j * 11 + 3, none⟩ = some (.int .i64 (Ar.all t)[j].m) ∧ W.cell? ⟨g, o + j * 11 + 4, none⟩ = some (.int .i64 (Ar.all t)[j].x) ∧ W.cell? ⟨g, o + j * 11 + 5, none⟩ = some (.int .i64 (Ar.all t)[j].y) ∧ W.cell? ⟨g, o + j * 11 + 6, none⟩ = some (.int .i64 (Ar.all t)[j].vx) ∧ W.cell? ⟨g, o + j * 11 + 7, none⟩ = some (.int .i64 (Ar.all t)[j].vy) ∧ W.cell? ⟨g, o + j * 11 + 8, none⟩ = some (.int .i64 (Ar.all t)[j].h) ∧ W.cell? ⟨g, o + j * 11 + 9, none⟩ = some (.int .i64 (Ar.all t)[j].p) ∧ W.cell? ⟨g, o + j * 11 + 10, none⟩ = some (.int .i64 (Ar.all t)[j].l)) := Lib.hid fun W hW => by
            obtain ⟨g', o', e, _, hc⟩ := RW.out W hW j _ (List.getElem?_eq_getElem hjn)
            cases e
            exact hc
          obtain ⟨M, I, f1, f2⟩ := WG.out _ (List.getElem_mem hjn)
          by_cases hyb : (Ar.all t)[j].id = (⟨bs, bi, bg, bm, bx, bY, bvx, bvy, bh, bp, bl⟩ : Bn).id
          · rw [if_pos hyb] at f2
            have GC : Hid (∀ Ψ W, PX w1 s t2 Ψ W → Calls Try.prog 15 #[.pointer (some ⟨s, 0, none⟩), .agg #[.int .i64 (Ar.all t)[j].s, .int .i64 (Ar.all t)[j].i, .int .i64 (Ar.all t)[j].g]] W fun e V => e = .returned (.tuple #[.agg #[.int .i64 bs, .int .i64 bi, .int .i64 bg, .int .i64 bm, .int .i64 bx, .int .i64 bY, .int .i64 bvx, .int .i64 bvy, .int .i64 bh, .int .i64 bp, .int .i64 bl], .bool true]) ∧ PX w1 s t2 Ψ V) := Lib.hid fun Ψ W h => by
              have := h.get (Ar.all t)[j].s (Ar.all t)[j].i (Ar.all t)[j].g
              unfold cgetV at this
              rw [f1] at this
              simp only [f2] at this
              exact this
            have EQI : ∀ V : World, (Op.equalIn 10000 33 (.agg #[.int .i64 (Ar.all t)[j].s, .int .i64 (Ar.all t)[j].i, .int .i64 (Ar.all t)[j].g]) (.agg #[.int .i64 bs, .int .i64 bi, .int .i64 bg])).run Try.prog V = .ok true V := fun V => by
              have := eq_id 9998 (Ar.all t)[j].s (Ar.all t)[j].i (Ar.all t)[j].g bs bi bg V
              simp only [Bn.id, Prod.mk.injEq] at hyb
              rw [this]
              simp [hyb.1, hyb.2.1, hyb.2.2]
            have EQ := eq_bundle bs bi bg bm bx bY bvx bvy bh bp bl bs bi bg bm bx bY bvx bvy bh bp bl
            simp at EQ
            clear WG RW TW BW WS f1 f2 hyb AW TT1
            generalize (Ar.all t)[j].s = ys at *
            generalize (Ar.all t)[j].i = yi at *
            generalize (Ar.all t)[j].g = yg at *
            generalize (Ar.all t)[j].m = ym at *
            generalize (Ar.all t)[j].x = yx at *
            generalize (Ar.all t)[j].y = yY at *
            generalize (Ar.all t)[j].vx = yvx at *
            generalize (Ar.all t)[j].vy = yvy at *
            generalize (Ar.all t)[j].h = yh at *
            generalize (Ar.all t)[j].p = yp at *
            generalize (Ar.all t)[j].l = yl at *
            obtain ⟨k0, k1, k2, k3, k4, k5, k6, k7, k8, k9, k10⟩ := RC.out _ HX.out.is
            go_wp2_with (go_at_call 15; refine (GC.out _ _ HX.out).mono ?_; rintro e w7 ⟨rfl, X7⟩; clear GC HX k0 k1 k2 k3 k4 k5 k6 k7 k8 k9 k10; have X8 := X7.box (.cells #[.int .i64 bs, .int .i64 bi, .int .i64 bg, .int .i64 bm, .int .i64 bx, .int .i64 bY, .int .i64 bvx, .int .i64 bvy, .int .i64 bh, .int .i64 bp, .int .i64 bl] 35); have X9 := X8.box (.cells #[.int .i64 ys, .int .i64 yi, .int .i64 yg, .int .i64 ym, .int .i64 yx, .int .i64 yY, .int .i64 yvx, .int .i64 yvy, .int .i64 yh, .int .i64 yp, .int .i64 yl] 35); have X10 := X8.box (.cells #[.int .i64 bs, .int .i64 bi, .int .i64 bg, .int .i64 bm, .int .i64 bx, .int .i64 bY, .int .i64 bvx, .int .i64 bvy, .int .i64 bh, .int .i64 bp, .int .i64 bl] 35); have Y1 := Lib.hid (X10.imp (fun V h => h.1.1)); obtain ⟨k0, k1, k2, k3, k4, k5, k6, k7, k8, k9, k10⟩ := RC.out _ X8.is.1; obtain ⟨m0, m1, m2, m3, m4, m5, m6, m7, m8, m9, m10⟩ := KB.out _ X9.bel; obtain ⟨n0, n1, n2, n3, n4, n5, n6, n7, n8, n9, n10⟩ := (Bx.b11 X10.is.1.2).1; clear X7 X8 X9 X10 RC KB)
            go_roundw
            case rel => exact ⟨j + 1, by omega, by go_num, Y1⟩
            case measure => simp [intOf]; omega
          · rw [if_neg hyb] at f2
            have GC : Hid (∀ Ψ W, PX w1 s t2 Ψ W → Calls Try.prog 15 #[.pointer (some ⟨s, 0, none⟩), .agg #[.int .i64 (Ar.all t)[j].s, .int .i64 (Ar.all t)[j].i, .int .i64 (Ar.all t)[j].g]] W fun e V => e = .returned (.tuple #[(Ar.all t)[j].val, .bool true]) ∧ PX w1 s t2 Ψ V) := Lib.hid fun Ψ W h => by
              have := h.get (Ar.all t)[j].s (Ar.all t)[j].i (Ar.all t)[j].g
              unfold cgetV at this
              rw [f1] at this
              simp only [f2] at this
              exact this
            have EQI : ∀ V : World, (Op.equalIn 10000 33 (.agg #[.int .i64 (Ar.all t)[j].s, .int .i64 (Ar.all t)[j].i, .int .i64 (Ar.all t)[j].g]) (.agg #[.int .i64 bs, .int .i64 bi, .int .i64 bg])).run Try.prog V = .ok false V := fun V => by
              have := eq_id 9998 (Ar.all t)[j].s (Ar.all t)[j].i (Ar.all t)[j].g bs bi bg V
              rw [this]
              have hne : (((Ar.all t)[j].s == bs) && (((Ar.all t)[j].i == bi) && ((Ar.all t)[j].g == bg))) = false := by
                rw [Bool.eq_false_iff]
                intro h
                simp only [Bool.and_eq_true, beq_iff_eq] at h
                exact hyb (by simp only [Bn.id, h.1, h.2.1, h.2.2])
              rw [hne]
            clear WG RW TW BW WS f1 f2 hyb AW TT1
            simp only [Bn.val] at GC
            generalize (Ar.all t)[j].s = ys at *
            generalize (Ar.all t)[j].i = yi at *
            generalize (Ar.all t)[j].g = yg at *
            generalize (Ar.all t)[j].m = ym at *
            generalize (Ar.all t)[j].x = yx at *
            generalize (Ar.all t)[j].y = yY at *
            generalize (Ar.all t)[j].vx = yvx at *
            generalize (Ar.all t)[j].vy = yvy at *
            generalize (Ar.all t)[j].h = yh at *
            generalize (Ar.all t)[j].p = yp at *
            generalize (Ar.all t)[j].l = yl at *
            have EQ := eq_bundle ys yi yg ym yx yY yvx yvy yh yp yl ys yi yg ym yx yY yvx yvy yh yp yl
            simp at EQ
            obtain ⟨k0, k1, k2, k3, k4, k5, k6, k7, k8, k9, k10⟩ := RC.out _ HX.out.is
            go_wp2_with (go_at_call 15; refine (GC.out _ _ HX.out).mono ?_; rintro e w7 ⟨rfl, X7⟩; clear GC HX k0 k1 k2 k3 k4 k5 k6 k7 k8 k9 k10; have X8 := X7.box (.cells #[.int .i64 ys, .int .i64 yi, .int .i64 yg, .int .i64 ym, .int .i64 yx, .int .i64 yY, .int .i64 yvx, .int .i64 yvy, .int .i64 yh, .int .i64 yp, .int .i64 yl] 35); have X9 := X8.box (.cells #[.int .i64 ys, .int .i64 yi, .int .i64 yg, .int .i64 ym, .int .i64 yx, .int .i64 yY, .int .i64 yvx, .int .i64 yvy, .int .i64 yh, .int .i64 yp, .int .i64 yl] 35); have Y1 := Lib.hid (X9.imp (fun V h => h.1.1)); obtain ⟨k0, k1, k2, k3, k4, k5, k6, k7, k8, k9, k10⟩ := RC.out _ X8.is.1; obtain ⟨m0, m1, m2, m3, m4, m5, m6, m7, m8, m9, m10⟩ := KB.out _ X9.bel; obtain ⟨n0, n1, n2, n3, n4, n5, n6, n7, n8, n9, n10⟩ := (Bx.b11 X9.is.1.2).1; clear X7 X8 X9 RC KB)
            go_roundw
            case rel => exact ⟨j + 1, by omega, by go_num, Y1⟩
            case measure => simp [intOf]; omega
        · obtain rfl : j = (Ar.all t).length := by omega
          have t1 : ¬ ((Ar.all t).length : Int) < ((Ar.all t).length : Int) := by omega
          clear WG RW
          have HXo := HX.out
          clear HX
          obtain ⟨k0, k1, k2, k3, k4, k5, k6, k7, k8, k9, k10⟩ := KB.out _ HXo.bel
          obtain ⟨n0, n1, n2, n3, n4, n5, n6, n7, n8, n9, n10⟩ := (Bx.b11 (BW.out _ HXo.is)).1
          by_cases hmm : xm = bm
          · have d1 : (xm != bm) = false := by simp [hmm]
            have d2 : decide (xm = bm) = true := decide_eq_true hmm
            have WS2 := WS.out hmm
            have TX : Hid (∀ W, PX w1 s t2 Φ W → Calls Try.prog 19 #[.pointer (some ⟨s, 0, none⟩)] W fun e V => ∃ A' c', e = .returned (.slice A' (tabs t).length c') ∧ PX w1 s t2 (fun V => Φ V ∧ TabsAt V W.heap.size (.slice A' (tabs t).length c') (tabs t)) V) := Lib.hid fun W h => by
              have := h.tables
              rw [WS2] at this
              exact this
            clear WS WS2 BW KB hmm
            go_wp2_with (first
              | (go_at_call 19; refine (TX.out _ HXo).mono ?_; rintro e w8 ⟨A8, c8, rfl, X8⟩; obtain ⟨B8, TB8⟩ := TW.out _ X8.is.1; clear TX HXo k0 k1 k2 k3 k4 k5 k6 k7 k8 k9 k10 n0 n1 n2 n3 n4 n5 n6 n7 n8 n9 n10)
              | (go_at_call 28; refine (tsame_yes X8.is.2 TB8 TT2 TT1.out).mono ?_; rintro e w9 ⟨rfl, b9⟩; have X9 := X8.below b9; clear X8 TB8 b9)
              | (go_at_call 17; refine (AW.out _).mono ?_; rintro e w10 ⟨rfl, b10⟩; have X10 := X9.below b10; clear AW X9 b10))
            go_ret
            exact ⟨rfl, B1.out.trans (X10.bel.mono B1.out.size)⟩
          · have d1 : (xm != bm) = true := by simp [hmm]
            have d2 : decide (xm = bm) = false := decide_eq_false hmm
            clear WS TW TT1 BW KB
            go_wp2_with (go_at_call 17; refine (AW.out _).mono ?_; rintro e w10 ⟨rfl, b10⟩; have X10 := HXo.below b10; clear AW HXo b10)
            go_ret
            exact ⟨rfl, B1.out.trans (X10.bel.mono B1.out.size)⟩
  · have hw : Ar.write t b = (t, 1) := by unfold Ar.write; rw [if_neg hmay]
    have hm2 : may b = false := by simpa using hmay
    rw [hm2] at MB0
    generalize (Ar.find t b.id).isSome = sb at gx
    clear gx2 hmay hm2
    obtain ⟨bs, bi, bg, bm, bx, bY, bvx, bvy, bh, bp, bl⟩ := b
    obtain ⟨xs, xi, xg, xm, xx, xY, xvx, xvy, xh, xp, xl⟩ := x
    simp only [Bn.val, Bn.id] at *
    have GX : Hid (∀ Φ W, PX (w.alloc (.cells #[.int .i64 bs, .int .i64 bi, .int .i64 bg, .int .i64 bm, .int .i64 bx, .int .i64 bY, .int .i64 bvx, .int .i64 bvy, .int .i64 bh, .int .i64 bp, .int .i64 bl] 35)) (w.alloc (.cells #[.int .i64 bs, .int .i64 bi, .int .i64 bg, .int .i64 bm, .int .i64 bx, .int .i64 bY, .int .i64 bvx, .int .i64 bvy, .int .i64 bh, .int .i64 bp, .int .i64 bl] 35)).heap.size t Φ W → Calls Try.prog 15 #[.pointer (some ⟨(w.alloc (.cells #[.int .i64 bs, .int .i64 bi, .int .i64 bg, .int .i64 bm, .int .i64 bx, .int .i64 bY, .int .i64 bvx, .int .i64 bvy, .int .i64 bh, .int .i64 bp, .int .i64 bl] 35)).heap.size, 0, none⟩), .agg #[.int .i64 bs, .int .i64 bi, .int .i64 bg]] W fun e V => e = .returned (.tuple #[.agg #[.int .i64 xs, .int .i64 xi, .int .i64 xg, .int .i64 xm, .int .i64 xx, .int .i64 xY, .int .i64 xvx, .int .i64 xvy, .int .i64 xh, .int .i64 xp, .int .i64 xl], .bool sb]) ∧ PX (w.alloc (.cells #[.int .i64 bs, .int .i64 bi, .int .i64 bg, .int .i64 bm, .int .i64 bx, .int .i64 bY, .int .i64 bvx, .int .i64 bvy, .int .i64 bh, .int .i64 bp, .int .i64 bl] 35)) (w.alloc (.cells #[.int .i64 bs, .int .i64 bi, .int .i64 bg, .int .i64 bm, .int .i64 bx, .int .i64 bY, .int .i64 bvx, .int .i64 bvy, .int .i64 bh, .int .i64 bp, .int .i64 bl] 35)).heap.size t Φ V) := Lib.hid fun Φ W h => by
      have := h.get bs bi bg
      rw [gx] at this
      exact this
    clear gx
    go_enter Try.func6, Try.ntmps6
    go_upto_region 1 with fail
    generalize w.alloc (.cells #[.int .i64 bs, .int .i64 bi, .int .i64 bg, .int .i64 bm, .int .i64 bx, .int .i64 bY, .int .i64 bvx, .int .i64 bvy, .int .i64 bh, .int .i64 bp, .int .i64 bl] 35) = w1 at *
    have KB : Hid (∀ W, Below w1.heap.size w1 W → W.cell? ⟨w.heap.size, 0, none⟩ = some (.int .i64 bs) ∧ W.cell? ⟨w.heap.size, 1, none⟩ = some (.int .i64 bi) ∧ W.cell? ⟨w.heap.size, 2, none⟩ = some (.int .i64 bg) ∧ W.cell? ⟨w.heap.size, 3, none⟩ = some (.int .i64 bm) ∧ W.cell? ⟨w.heap.size, 4, none⟩ = some (.int .i64 bx) ∧ W.cell? ⟨w.heap.size, 5, none⟩ = some (.int .i64 bY) ∧ W.cell? ⟨w.heap.size, 6, none⟩ = some (.int .i64 bvx) ∧ W.cell? ⟨w.heap.size, 7, none⟩ = some (.int .i64 bvy) ∧ W.cell? ⟨w.heap.size, 8, none⟩ = some (.int .i64 bh) ∧ W.cell? ⟨w.heap.size, 9, none⟩ = some (.int .i64 bp) ∧ W.cell? ⟨w.heap.size, 10, none⟩ = some (.int .i64 bl)) := Lib.hid fun W hW => (Bx.b11 ((hW.block _ (Bx.lt KB0)).trans KB0)).1
    replace B1 := Lib.hid B1
    replace MD := Lib.hid MD
    clear KB0
    generalize w1.heap.size = s at MD GX ⊢
    have hwrt := Lib.hid hw
    clear hw
    go_wp2_with (first
      | (go_at_call 18; refine MD.out.mono ?_; rintro e w2 ⟨rfl, h2⟩; have X2 := h2.px; clear MD h2)
      | (go_at_call 23; refine (px_all' X2 htot).mono ?_; rintro e w3 ⟨A3, c3, rfl, X3⟩; clear X2)
      | (go_at_call 19; refine X3.tables.mono ?_; rintro e w4 ⟨A4, c4, rfl, X4⟩; clear X3; obtain ⟨k0, k1, k2, k3, k4, k5, k6, k7, k8, k9, k10⟩ := KB.out _ X4.bel)
      | (go_at_call 15; refine (GX.out _ _ X4).mono ?_; rintro e w5 ⟨rfl, X5'⟩; have X5 := X5'.box (.cells #[.int .i64 xs, .int .i64 xi, .int .i64 xg, .int .i64 xm, .int .i64 xx, .int .i64 xY, .int .i64 xvx, .int .i64 xvy, .int .i64 xh, .int .i64 xp, .int .i64 xl] 35); clear GX X4 X5' k0 k1 k2 k3 k4 k5 k6 k7 k8 k9 k10; obtain ⟨k0, k1, k2, k3, k4, k5, k6, k7, k8, k9, k10⟩ := KB.out _ X5.bel)
      | (go_at_call 26; refine (X5.write ⟨bs, bi, bg, bm, bx, bY, bvx, bvy, bh, bp, bl⟩ hLe (by decide) hwrt.out).mono ?_; rintro e w6 ⟨rfl, X6⟩; clear X5 k0 k1 k2 k3 k4 k5 k6 k7 k8 k9 k10 hwrt; obtain ⟨k0, k1, k2, k3, k4, k5, k6, k7, k8, k9, k10⟩ := KB.out _ X6.bel)
      | (go_at_call 21; refine (MB0.out _).mono ?_; rintro e w7 ⟨rfl, b7⟩; have X7 := X6.below b7; clear MB0 X6 b7 k0 k1 k2 k3 k4 k5 k6 k7 k8 k9 k10)
      | (go_at_call 23; refine (px_all' X7 htot).mono ?_; rintro e w8 ⟨A8, c8, rfl, X8⟩; clear X7)
      | (go_at_call 27; refine (rsame_yes (RdB.of_own X8.is.2) (RdB.of_own X8.is.1.1.1.2) (by rw [total_all]; omega)).mono ?_; rintro e w9 ⟨rfl, b9⟩; have X9 := X8.below b9; clear X8 b9)
      | (go_at_call 17; refine (AW.out _).mono ?_; rintro e w10 ⟨rfl, b10⟩; have X10 := X9.below b10; clear AW X9 b10))
    go_ret
    exact ⟨rfl, B1.out.trans (X10.bel.mono B1.out.size)⟩
end Go.Proofs.Yteohkbepefjjlaa
