/- The document's store: the last row of a table comes into another one's place. -/
import Derived.Test.YteohkbepefjjlaaKArPut2
namespace Go.Proofs.Yteohkbepefjjlaa
open Go.RowKit Pz Ar
set_option linter.unusedVariables false
set_option linter.unusedSimpArgs false

theorem own_take {W : World} {B g o n c : Nat} {l : List Bn} (h : OwnB W B (.slice (some ⟨g, o, none⟩) n c) l) {k : Nat} (hk : k ≤ l.length) : OwnB W B (.slice (some ⟨g, o, none⟩) k c) (l.take k) := by
  rcases h with ⟨e, _⟩ | ⟨g', o', cap, cur, e, h1, h2, h3, h4, h5, h6⟩
  · cases e
  · cases e
    refine .inr ⟨g, o, c, cur, by rw [List.length_take, Nat.min_eq_left hk], h1, h2, by rw [List.length_take]; omega, h4, h5, fun j x hj c2 u hu => ?_⟩
    have hjk : j < k := by have := (List.getElem?_eq_some_iff.1 hj).1; rw [List.length_take] at this; omega
    rw [List.getElem?_take_of_lt hjk] at hj
    exact h6 j x hj c2 u hu
set_option maxHeartbeats 16000000 in
set_option maxRecDepth 100000 in
theorem rcut_any {F : Foot} {p : Nat} {t : Tb} {w : World} (h : RS F p t w) {m i : Nat} (hm : m < 32) (hi : i < (t m).length) : Calls Try.prog 47 #[.pointer (some ⟨p, 0, none⟩), .int .i64 (m : Int), .int .i64 (i : Int)] w fun e w' => e = .returned (.tuple #[]) ∧ RS (Gr F w.heap.size w'.heap.size) p (cut0 t m i) w' ∧ w.grownBy w' (some p) := by
  obtain ⟨A, c, hc, ho⟩ := h.at_ hm
  have hp : p < w.heap.size := h.lt p h.mine
  obtain ⟨v2, w2, hr2, ho2, hg2⟩ := app_all ho (by have := h.few m; omega) 26
  obtain ⟨g2, o2, c2, hv2, hgB, hgl, _⟩ := ho2.at_ (j := i) (List.getElem?_eq_getElem hi)
  subst hv2
  have hlast : (t m).length - 1 < (t m).length := by omega
  obtain ⟨g, o, e1, _, ⟨k0, k1, k2, k3, k4, k5, k6, k7, k8, k9, k10⟩, _⟩ := own_at ho2 (List.getElem?_eq_getElem hlast)
  cases e1
  obtain ⟨g', o', e2, _, ⟨h0, h1, h2, h3, h4, h5, h6, h7, h8, h9, h10⟩, ⟨f0, f1, f2, f3, f4, f5, f6, f7, f8, f9, f10⟩⟩ := own_at ho2 (List.getElem?_eq_getElem hi)
  cases e2
  have SET := own_set ho2 hi (t m)[(t m).length - 1]
  have HL : cutL (t m) i = ((t m).set i (t m)[(t m).length - 1]).take ((t m).length - 1) := by unfold cutL; rw [List.getElem?_eq_getElem hlast]
  have B2 : Below w.heap.size w w2 := (Below.refl _ _).grown hg2 (Nat.le_refl _) (fun k e => by cases e)
  have FIN : Hid (∀ W, w.heap.size ≤ W.heap.size → (∀ k, k < w.heap.size → W.heap[k]? = w.heap[k]?) → OwnB W w.heap.size (.slice (some ⟨g2, o2, none⟩) ((t m).length - 1) c2) (cutL (t m) i) → RS (Gr F w.heap.size (W.setCell ⟨p, m, none⟩ (.slice (some ⟨g2, o2, none⟩) ((t m).length - 1) c2)).heap.size) p (cut0 t m i) (W.setCell ⟨p, m, none⟩ (.slice (some ⟨g2, o2, none⟩) ((t m).length - 1) c2))) := Lib.hid fun W hs hk hO => by
    rw [World.size_setCell]
    exact h.up hs hk hm (hO.base (Nat.zero_le _)) (by rw [cutL_len]; have := h.few m; omega) (fun g e => (hO.blk e).1)
  obtain ⟨cs, hcs, hsz, _⟩ := h.head
  obtain ⟨u, hu⟩ : ∃ u, cs[m]? = some u := ⟨cs[m], Array.getElem?_eq_getElem (by omega)⟩
  have ho3 := own_take SET.1 (k := (t m).length - 1) (by simp)
  rw [← HL] at ho3
  have b3 := SET.2 w.heap.size hgB
  have hfew := h.few m
  have hcap : (t m).length ≤ c2 := by
    rcases ho2 with ⟨e, _⟩ | ⟨_, _, _, _, e, _, _, e3, _⟩
    · cases e
    · cases e; exact e3
  have HR := Lib.hid hr2
  have K3 : Hid (∀ k, k < w.heap.size → w2.heap[k]? = w.heap[k]?) := Lib.hid fun k hk => B2.block k hk
  have HB3 := b3
  have HO3 := ho3
  clear SET HL ho3 b3 hr2 ho2 hg2 hgl
  generalize (t m)[(t m).length - 1].s = zs at *
  generalize (t m)[(t m).length - 1].i = zi at *
  generalize (t m)[(t m).length - 1].g = zg at *
  generalize (t m)[(t m).length - 1].m = zm at *
  generalize (t m)[(t m).length - 1].x = zx at *
  generalize (t m)[(t m).length - 1].y = zy at *
  generalize (t m)[(t m).length - 1].vx = zvx at *
  generalize (t m)[(t m).length - 1].vy = zvy at *
  generalize (t m)[(t m).length - 1].h = zh at *
  generalize (t m)[(t m).length - 1].p = zp at *
  generalize (t m)[(t m).length - 1].l = zl at *
  obtain ⟨r, hr⟩ : ∃ r : Nat, (t m).length - 1 = r := ⟨_, rfl⟩
  have hr1 : (t m).length = r + 1 := by omega
  have s1 : IntKind.i64.wrap (((t m).length : Int) - 1) = (r : Int) := by rw [IntWalk.i64_in _ (by omega)]; omega
  have s2 : ((t m).length : Int) - 1 = (r : Int) := by omega
  have s3 : IntKind.i64.wrap (r : Int) = (r : Int) := IntWalk.i64_in _ (by omega)
  rw [hr] at k0 k1 k2 k3 k4 k5 k6 k7 k8 k9 k10 FIN HO3
  have hri : (r : Int) < ((t m).length : Int) := by omega
  have hii : (i : Int) < ((t m).length : Int) := by omega
  have hrc : (r : Int) ≤ (c2 : Int) := by omega
  have hm2 : (m : Int) < 32 := by omega
  clear hr hr1 hlast
  replace HB3 := Lib.hid HB3
  replace HO3 := Lib.hid HO3
  go_enter Try.func47, Try.ntmps47
  go_upto_region 2 with (at_builtin; refine wpList_append _ rfl (.tmp 7) (.tmp 13) _ _ rfl _ _ rfl rfl _ _ HR.out ?_)
  go_upto_region 3 with fail
  clear k0 h0 f0 k1 h1 f1 k2 h2 f2 k3 h3 f3 k4 h4 f4 k5 h5 f5 k6 h6 f6 k7 h7 f7 k8 h8 f8 k9 h9 f9 k10 h10 f10 HR hc ho
  generalize ((((((((((w2.setCell ⟨g2, o2 + i * 11, none⟩ (.int .i64 zs)).setCell ⟨g2, o2 + i * 11 + 1, none⟩ (.int .i64 zi)).setCell ⟨g2, o2 + i * 11 + 2, none⟩ (.int .i64 zg)).setCell ⟨g2, o2 + i * 11 + 3, none⟩ (.int .i64 zm)).setCell ⟨g2, o2 + i * 11 + 4, none⟩ (.int .i64 zx)).setCell ⟨g2, o2 + i * 11 + 5, none⟩ (.int .i64 zy)).setCell ⟨g2, o2 + i * 11 + 6, none⟩ (.int .i64 zvx)).setCell ⟨g2, o2 + i * 11 + 7, none⟩ (.int .i64 zvy)).setCell ⟨g2, o2 + i * 11 + 8, none⟩ (.int .i64 zh)).setCell ⟨g2, o2 + i * 11 + 9, none⟩ (.int .i64 zp)).setCell ⟨g2, o2 + i * 11 + 10, none⟩ (.int .i64 zl) = w3 at *
  have HK : ∀ k, k < w.heap.size → w3.heap[k]? = w.heap[k]? := fun k hk => (HB3.out.block k hk).trans (B2.block k hk)
  have hcs3 := (HK p hp).trans hcs
  have cm : w3.drew.cell? ⟨p, m, none⟩ = some u := (Bx.cell hcs3 hu).1
  have fm : w3.drew.frozen? ⟨p, m, none⟩ = false := (Bx.cell hcs3 hu).2
  have F3 := FIN.out w3 (Nat.le_trans B2.size HB3.out.size) HK HO3.out
  have FIN2 : Hid (RS (Gr F w.heap.size (w3.drew.setCell ⟨p, m, none⟩ (.slice (some ⟨g2, o2, none⟩) r c2)).heap.size) p (cut0 t m i) (w3.drew.setCell ⟨p, m, none⟩ (.slice (some ⟨g2, o2, none⟩) r c2))) := Lib.hid (F3.kept (Nat.le_refl _) (fun b _ => rfl))
  have hb3 := B2.trans HB3.out
  have G32 : Hid (w.grownBy (w3.drew.setCell ⟨p, m, none⟩ (.slice (some ⟨g2, o2, none⟩) r c2)) (some p)) := Lib.hid (by
    refine ⟨hb3.os, hb3.tape, hb3.output, by simpa using hb3.size, fun k hk hne => ?_⟩
    exact (Bx.ne (fun e => hne (by rw [e])) _).trans (hb3.block k hk))
  clear FIN F3 hb3 HB3 HO3 HK hcs3 hu hcs K3 h B2
  go_still_tail 10, (by kernel_rfl)
  change wpList _ _ _ _ _ w3.drew
  generalize w3.drew = w4 at *
  go_wp2
  go_end0
  exact ⟨rfl, FIN2.out, G32.out⟩
end Go.Proofs.Yteohkbepefjjlaa
