/- The document's store: an entity becomes the last row of its table. -/
import Derived.Test.YteohkbepefjjlaaKArApp
import Derived.Test.YteohkbepefjjlaaKBase
import Derived.Deep.DeepCutAuto
namespace Go.Proofs.Yteohkbepefjjlaa
open Go.RowKit Pz Ar
set_option linter.unusedVariables false
set_option linter.unusedSimpArgs false

theorem app_one {W : World} {B0 : Nat} {v : Value} {l : List Bn} (h : OwnB W B0 v l) (hB : B0 ≤ W.heap.size) (x : Bn) (hn : l.length + 1 ≤ 1000000) (ty : TypeId) :
    ∃ v' w', (Builtin.append_ #[26, 26] ty #[v, .slice (some ⟨W.heap.size, 0, none⟩) 1 1]).run Try.prog (W.alloc (.cells #[.int .i64 x.s, .int .i64 x.i, .int .i64 x.g, .int .i64 x.m, .int .i64 x.x, .int .i64 x.y, .int .i64 x.vx, .int .i64 x.vy, .int .i64 x.h, .int .i64 x.p, .int .i64 x.l] 35)) = .ok v' w' ∧ OwnB w' B0 v' (l ++ [x]) ∧ (W.alloc (.cells #[.int .i64 x.s, .int .i64 x.i, .int .i64 x.g, .int .i64 x.m, .int .i64 x.x, .int .i64 x.y, .int .i64 x.vx, .int .i64 x.vy, .int .i64 x.h, .int .i64 x.p, .int .i64 x.l] 35)).grownBy w' v.ownBlock ∧ (∀ b, v.ownBlock = some b → B0 ≤ b) := by
  have hb := bel1 W (.cells #[.int .i64 x.s, .int .i64 x.i, .int .i64 x.g, .int .i64 x.m, .int .i64 x.x, .int .i64 x.y, .int .i64 x.vx, .int .i64 x.vy, .int .i64 x.h, .int .i64 x.p, .int .i64 x.l] 35)
  have ha := at1 W (.cells #[.int .i64 x.s, .int .i64 x.i, .int .i64 x.g, .int .i64 x.m, .int .i64 x.x, .int .i64 x.y, .int .i64 x.vx, .int .i64 x.vy, .int .i64 x.h, .int .i64 x.p, .int .i64 x.l] 35)
  have h2 := h.below hb
  obtain ⟨v', w', hr, ho, hg, _⟩ := h2.app (P := Try.prog) (t := 26) (ty := ty) Try.underlying26 bundle_info rfl (by decide) bnE_len bnE_one (Nat.le_trans hB hb.size) [x] ⟨W.heap.size, 0, none⟩ 1 (fun j y hj c u hu => by
    have hj0 : j = 0 := by
      have := (List.getElem?_eq_some_iff.1 hj).1
      simp at this
      exact this
    subst hj0
    have hy := Option.some.inj hj
    subst hy
    rw [Addr.add_mid, Nat.zero_mul, Nat.zero_add, Nat.zero_add]
    exact (Bx.cell ha (by simpa [bnE, Bn.row] using hu)).1) (by simpa using hn) (by decide) (.inl (by simp))
  exact ⟨v', w', hr, ho, hg, fun b hb' => (h.blk hb').1⟩
set_option maxHeartbeats 8000000 in
set_option maxRecDepth 100000 in
theorem rput_any {F : Foot} {p : Nat} {t : Tb} {w : World} (h : RS F p t w) (b : Bn) {m : Nat} (hm : m < 32) (hb : b.m = (m : Int)) (hl : (t m).length + 1 ≤ 100000) : Calls Try.prog 46 #[.pointer (some ⟨p, 0, none⟩), b.val] w fun e w' => e = .returned (.tuple #[]) ∧ RS (Gr F w.heap.size w'.heap.size) p (put0 t b) w' ∧ w.grownBy w' (some p) := by
  obtain ⟨A, c, hc, ho⟩ := h.at_ hm
  obtain ⟨bs, bi, bg, bm, bx, bY, bvx, bvy, bh, bp, bl⟩ := b
  simp only at hb
  subst hb
  simp only [Bn.val]
  have b1 := bel1 w (.cells #[.int .i64 bs, .int .i64 bi, .int .i64 bg, .int .i64 (m : Int), .int .i64 bx, .int .i64 bY, .int .i64 bvx, .int .i64 bvy, .int .i64 bh, .int .i64 bp, .int .i64 bl] 35)
  have T1 := Lib.hid (at1 w (.cells #[.int .i64 bs, .int .i64 bi, .int .i64 bg, .int .i64 (m : Int), .int .i64 bx, .int .i64 bY, .int .i64 bvx, .int .i64 bvy, .int .i64 bh, .int .i64 bp, .int .i64 bl] 35))
  have hp : p < w.heap.size := h.lt p h.mine
  go_enter Try.func46, Try.ntmps46
  go_upto_region 2 with fail
  generalize w.alloc (.cells #[.int .i64 bs, .int .i64 bi, .int .i64 bg, .int .i64 (m : Int), .int .i64 bx, .int .i64 bY, .int .i64 bvx, .int .i64 bvy, .int .i64 bh, .int .i64 bp, .int .i64 bl] 35) = w1 at *
  have hc1 : w1.cell? ⟨p, m, none⟩ = some (.slice A (t m).length c) := (b1.cell (p := ⟨p, m, none⟩) hp).trans hc
  obtain ⟨⟨k0, k1, k2, k3, k4, k5, k6, k7, k8, k9, k10⟩, _⟩ := Bx.b11 T1.out
  have ho1 := ho.below b1
  obtain ⟨v2, w2, hr2, ho2, hg2⟩ := app_all (W := w1.drew) (B := 0) (A := A) (c := c) (l := t m) ho1 (by omega) 26
  obtain ⟨A2, c2, rfl⟩ := ho2.form
  have HR := Lib.hid hr2
  clear hr2
  have hm2 : (m : Int) < 32 := by omega
  generalize hn : (t m).length = n at *
  replace hn := Lib.hid hn
  go_region_law (refine step_append rfl (.tmp 5) (.tmp 12) 26 26 rfl (.slice none 0 0) (.slice A n c) (by simp [Act.eval]) (by simp [Act.eval]) (.slice A2 n c2) w2 HR.out ?_)
  have g12 : w1.grownBy w2 none := ⟨hg2.os, hg2.tape, hg2.output, hg2.size, hg2.block⟩
  clear ho1
  have B2 : Below w1.heap.size w1 w2 := (Below.refl _ _).grown g12 (Nat.le_refl _) (fun k e => by cases e)
  have T2 := Lib.hid ((B2.block _ (Bx.lt T1.out)).trans T1.out)
  clear k0 k1 k2 k3 k4 k5 k6 k7 k8 k9 k10 HR
  obtain ⟨⟨k0, k1, k2, k3, k4, k5, k6, k7, k8, k9, k10⟩, _⟩ := Bx.b11 T2.out
  have ho2' : OwnB w2 w1.heap.size (.slice A2 n c2) (t m) := ho2
  obtain ⟨v3, w3, hr3, ho3, hg3, hrow3⟩ := app_one ho2' B2.size ⟨bs, bi, bg, (m : Int), bx, bY, bvx, bvy, bh, bp, bl⟩ (by have := hn.out; omega) 26
  obtain ⟨A3, c3, hv3⟩ := ho3.form
  generalize (t m ++ [(⟨bs, bi, bg, (m : Int), bx, bY, bvx, bvy, bh, bp, bl⟩ : Bn)]).length = n3 at hv3
  subst hv3
  have HR3 := Lib.hid hr3
  clear hr3
  go_upto_region 4 with (at_builtin; refine wpList_append _ rfl (.tmp 14) (.tmp 16) _ _ rfl _ _ rfl rfl _ _ HR3.out ?_)
  have g23 := hg3
  have b23 := bel1 w2 (.cells #[.int .i64 bs, .int .i64 bi, .int .i64 bg, .int .i64 (m : Int), .int .i64 bx, .int .i64 bY, .int .i64 bvx, .int .i64 bvy, .int .i64 bh, .int .i64 bp, .int .i64 bl] 35)
  have B3 : Below w1.heap.size w1 w3 := (B2.trans (b23.mono B2.size)).grown g23 (Nat.le_trans B2.size b23.size) (fun k e => hrow3 k e)
  have T3 := Lib.hid ((B3.block _ (Bx.lt T1.out)).trans T1.out)
  have HK : ∀ k, k < w.heap.size → w3.heap[k]? = w.heap[k]? := fun k hk => (B3.block k (by have := b1.size; omega)).trans (b1.block k hk)
  clear k0 k1 k2 k3 k4 k5 k6 k7 k8 k9 k10 HR3 T2 g23 b23
  obtain ⟨⟨k0, k1, k2, k3, k4, k5, k6, k7, k8, k9, k10⟩, _⟩ := Bx.b11 T3.out
  obtain ⟨cs, hcs, hsz, _⟩ := h.head
  have hcs3 := (HK p hp).trans hcs
  obtain ⟨u, hu⟩ : ∃ u, cs[m]? = some u := ⟨cs[m], Array.getElem?_eq_getElem (by omega)⟩
  have cm := (Bx.cell hcs3 hu).1
  have fm := (Bx.cell hcs3 hu).2
  have FIN : Hid (RS (Gr F w.heap.size (w3.setCell ⟨p, m, none⟩ (.slice A3 n3 c3)).heap.size) p (put0 t ⟨bs, bi, bg, (m : Int), bx, bY, bvx, bvy, bh, bp, bl⟩) (w3.setCell ⟨p, m, none⟩ (.slice A3 n3 c3))) := Lib.hid (by
    rw [World.size_setCell]
    have := h.up (Nat.le_trans b1.size B3.size) HK hm (ho3.base (Nat.zero_le _)) (by rw [List.length_append, hn.out]; simpa using hl) (fun g e => by have := (ho3.blk e).1; have := b1.size; omega)
    exact this)
  have G3 : Hid (w.grownBy (w3.setCell ⟨p, m, none⟩ (.slice A3 n3 c3)) (some p)) := Lib.hid (by
    have hb3 := (b1.trans (B3.mono b1.size))
    refine ⟨hb3.os, hb3.tape, hb3.output, by simpa using hb3.size, fun k hk hne => ?_⟩
    exact (Bx.ne (fun e => hne (by rw [e])) _).trans (hb3.block k hk))
  clear hu hcs hcs3 ho ho2 ho2' ho3 hg2 hg3 hrow3 g12 B2 B3 T1 T3 HK
  have k3' : w3.drew.cell? ⟨w.heap.size, 3, none⟩ = some (.int .i64 (m : Int)) := k3
  have cm' : w3.drew.cell? ⟨p, m, none⟩ = some u := cm
  have fm' : w3.drew.frozen? ⟨p, m, none⟩ = false := fm
  have FIN2 : Hid (RS (Gr F w.heap.size (w3.drew.setCell ⟨p, m, none⟩ (.slice A3 n3 c3)).heap.size) p (put0 t ⟨bs, bi, bg, (m : Int), bx, bY, bvx, bvy, bh, bp, bl⟩) (w3.drew.setCell ⟨p, m, none⟩ (.slice A3 n3 c3))) := Lib.hid (FIN.out.kept (Nat.le_refl _) (fun b _ => rfl))
  have G32 : Hid (w.grownBy (w3.drew.setCell ⟨p, m, none⟩ (.slice A3 n3 c3)) (some p)) := Lib.hid ⟨G3.out.os, G3.out.tape, G3.out.output, G3.out.size, G3.out.block⟩
  clear FIN G3 k0 k1 k2 k4 k5 k6 k7 k8 k9 k10 cm fm
  go_still_tail 7, (by kernel_rfl)
  change wpList _ _ _ _ _ w3.drew
  clear k3
  generalize w3.drew = w4 at *
  go_wp2
  go_end0
  exact ⟨rfl, FIN2.out, G32.out⟩
end Go.Proofs.Yteohkbepefjjlaa
