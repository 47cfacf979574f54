/- The code: what the hits do to each. Written by wip/tools/gentc.py. The code: who is hurt. The code's order of names, told by its draws; names sorted by the library. -/
import Derived.Test.YtljaahemlcaffaaGreatK21
import Derived.Test.YtljaahemlcaffaaGreatK19
import Derived.Test.YtljaahemlcaffaaGreatK08
import Derived.Test.YtljaahemlcaffaaGreatK20
import Derived.Test.YtljaahemlcaffaaGreatK12
import Derived.Test.YtljaahemlcaffaaGreatK06
import Derived.Test.YtljaahemlcaffaaGreatShelf
namespace Go.Proofs.YtljaahemlcaffaaGreat
open Go.RowKit Pz Sp Go.Shelf
set_option linter.unusedVariables false
set_option linter.unusedSimpArgs false

theorem em_h1 : ∀ args w, (callFunc 63 args).run Tryz.prog w = .ok (.enter 63 args) w := enters_of Tryz.func63 (by kernel_rfl) rfl
theorem hit_yes {hs : List HK} (hr : hs.Pairwise fun a b => before a.1 b.1 = true) {k : Nat} (hk : k < hs.length) {id : K3} (he : hs[k].1 = id) : Tk.hit hs id = hs[k].2 := by
  unfold Tk.hit
  cases e : hs.find? fun h => decide (h.1 = id) with
  | none =>
    have := List.find?_eq_none.1 e hs[k] (List.getElem_mem hk)
    simp [he] at this
  | some h =>
    have h1 : h.1 = id := by simpa using List.find?_some e
    obtain ⟨a, ha, rfl⟩ := List.mem_iff_getElem.1 (List.mem_of_find?_eq_some e)
    have hlt : ∀ a b (ha : a < hs.length) (hb : b < hs.length), a < b → before hs[a].1 hs[b].1 = true := fun a b ha hb h => List.pairwise_iff_getElem.1 hr a b ha hb h
    rcases Nat.lt_trichotomy a k with h4 | h4 | h4
    · have := hlt a k ha hk h4
      rw [h1, he, before_irr] at this
      cases this
    · subst h4; rfl
    · have := hlt k a hk ha h4
      rw [h1, he, before_irr] at this
      cases this
theorem hit_no {hs : List HK} {id : K3} (h : ∀ x ∈ hs, x.1 ≠ id) : Tk.hit hs id = 0 := by
  unfold Tk.hit
  have e : hs.find? (fun h => decide (h.1 = id)) = none := List.find?_eq_none.2 fun x hx => by simpa using h x hx
  rw [e]
theorem hurt_zero (b : Bn) : Sy.hurt b 0 = (b, true) := by
  unfold Sy.hurt
  rw [if_neg (fun h => absurd h.2 (by decide))]
set_option maxHeartbeats 16000000 in
set_option maxRecDepth 100000 in
theorem hurt1_any {w : World} {A : Option Addr} {c n : Nat} {hs : List HK} (HO : OwnH w 0 (.slice A n c) hs) (hn : hs.length = n) (hl : n ≤ 1000) (hr : hs.Pairwise fun a b => before a.1 b.1 = true) (hfit : ∀ h ∈ hs, Fit h.2) (bh : Nat) (hbx : w.heap[bh]? = some (.cells #[.slice A n c] 76 (0, 0))) (b : Bn) (hb : Tk.Fi b) :
    Calls Tryz.prog 63 #[b.val, .pointer (some ⟨bh, 0, none⟩)] w fun e w' => e = .returned (.tuple #[(Tk.hurts hs b).1.val, .bool (Tk.hurts hs b).2]) ∧ Below w.heap.size w w' := by
  have YN : Hid ((∀ h ∈ hs, h.1 ≠ b.id) → Tk.hurts hs b = (b, true)) := Lib.hid fun h => by unfold Tk.hurts; rw [hit_no h, hurt_zero]
  have YY : Hid (∀ k (hk : k < hs.length), hs[k].1 = b.id → Tk.hurts hs b = Sy.hurt b hs[k].2) := Lib.hid fun k hk h => by unfold Tk.hurts; rw [hit_yes hr hk h]
  have CH : Hid (∀ x ∈ hs, ∀ W, Calls Tryz.prog 66 #[b.val, .int .i64 x.2] W fun e w' => e = .returned (.tuple #[(Sy.hurt b x.2).1.val, .bool (Sy.hurt b x.2).2]) ∧ Below W.heap.size W w') := Lib.hid fun x hx W => churt_any b.s b.i b.g b.m b.x b.y b.vx b.vy b.h b.p b.l x.2 hb.h (hfit x hx) W
  clear hb hfit
  generalize Tk.hurts hs b = yo at *
  obtain ⟨⟨ys, yi, yg, ym, yx, yy, yvx, yvy, yh, yp, yl⟩, flag⟩ := yo
  obtain ⟨qs, qi, qg, qm, qx, qy, qvx, qvy, qh, qp, ql⟩ := b
  simp only [Bn.val, Bn.id] at *
  have H0 : Hid (Sep w [box (w.heap.size + 1) (.cells #[.int .i64 0, .int .i64 0, .int .i64 0, .int .i64 0, .int .i64 0, .int .i64 0, .int .i64 0, .int .i64 0, .int .i64 0, .int .i64 0, .int .i64 0] 42), box w.heap.size (.cells #[.int .i64 qs, .int .i64 qi, .int .i64 qg, .int .i64 qm, .int .i64 qx, .int .i64 qy, .int .i64 qvx, .int .i64 qvy, .int .i64 qh, .int .i64 qp, .int .i64 ql] 42)] ((w.alloc (.cells #[.int .i64 qs, .int .i64 qi, .int .i64 qg, .int .i64 qm, .int .i64 qx, .int .i64 qy, .int .i64 qvx, .int .i64 qvy, .int .i64 qh, .int .i64 qp, .int .i64 ql] 42)).alloc (.cells #[.int .i64 0, .int .i64 0, .int .i64 0, .int .i64 0, .int .i64 0, .int .i64 0, .int .i64 0, .int .i64 0, .int .i64 0, .int .i64 0, .int .i64 0] 42))) := Lib.hid (by
    have := sep_box (sep_box (sep_new w) (.cells #[.int .i64 qs, .int .i64 qi, .int .i64 qg, .int .i64 qm, .int .i64 qx, .int .i64 qy, .int .i64 qvx, .int .i64 qvy, .int .i64 qh, .int .i64 qp, .int .i64 ql] 42)) (.cells #[.int .i64 0, .int .i64 0, .int .i64 0, .int .i64 0, .int .i64 0, .int .i64 0, .int .i64 0, .int .i64 0, .int .i64 0, .int .i64 0, .int .i64 0] 42)
    rw [size1] at this
    exact this)
  have HC := Lib.hid ((H0.out.bel.block _ (Bx.lt hbx)).trans hbx)
  have HO0 := HO.below H0.out.bel
  have BS := Lib.hid (bs_any HO0 hn hl hr qs qi qg)
  have RD := Lib.hid HO0
  clear hbx HO HO0 hr
  go_enter Tryz.func63, Tryz.ntmps63
  go_upto_region 1 with fail
  generalize (w.alloc (.cells #[.int .i64 qs, .int .i64 qi, .int .i64 qg, .int .i64 qm, .int .i64 qx, .int .i64 qy, .int .i64 qvx, .int .i64 qvy, .int .i64 qh, .int .i64 qp, .int .i64 ql] 42)).alloc (.cells #[.int .i64 0, .int .i64 0, .int .i64 0, .int .i64 0, .int .i64 0, .int .i64 0, .int .i64 0, .int .i64 0, .int .i64 0, .int .i64 0, .int .i64 0] 42) = w0 at *
  obtain ⟨⟨k0, k1, k2, k3, k4, k5, k6, k7, k8, k9, k10⟩, _⟩ := Bx.b11 (H0.out.held 1 rfl)
  obtain ⟨c0, _⟩ := Bx.b1 HC.out
  go_upto_region 2 with (go_at_call 64; with_reducible refine BS.out.mono ?_; rintro e w1 ⟨hF, b1⟩; unfold Found at hF; obtain ⟨k, is, rfl, hk⟩ := hF; clear BS k0 k1 k2 k3 k4 k5 k6 k7 k8 k9 k10 c0; replace RD := Lib.hid (RD.out.below b1); replace HC := Lib.hid ((b1.block _ (Bx.lt HC.out)).trans HC.out); have H1 := Lib.hid (H0.out.below b1); clear H0 b1)
  obtain ⟨⟨k0, k1, k2, k3, k4, k5, k6, k7, k8, k9, k10⟩, _⟩ := Bx.b11 (H1.out.held 1 rfl)
  rcases hk with ⟨rfl, hkl, he⟩ | ⟨rfl, hno⟩
  · have hk2 : k < n := by omega
    have q1 : (k : Int) < (n : Int) := by omega
    obtain ⟨x, hx⟩ : ∃ x, x = hs[k] := ⟨_, rfl⟩
    have EY := YY.out k hkl he
    rw [← hx] at EY
    obtain ⟨gb, o, rfl, lg, _, _, _, d3⟩ := hit_at RD.out (show hs[k]? = some x by rw [hx]; exact List.getElem?_eq_getElem hkl)
    have CX := Lib.hid fun W => CH.out x (by rw [hx]; exact List.getElem_mem hkl) W
    rw [← EY] at CX
    simp only at CX
    clear YN YY CH he hx RD EY
    obtain ⟨c0, _⟩ := Bx.b1 HC.out
    have lc := Bx.lt HC.out
    have lb := Bx.lt (H1.out.held 1 rfl)
    clear HC
    generalize x.2 = sum at *
    go_upto_region 4 with fail
    refine Og.grow 9 (by kernel_rfl) (by kernel_rfl) fun hc hf => ?_
    simp only [List.take_succ_cons, List.take_zero, List.drop_succ_cons, List.drop_zero]
    repeat (refine Og.det [] rfl (fun J hJ => ?_); go_simp; first | (refine hJ _ _ ?_; clear hJ J) | (with_reducible refine ⟨_, fun p => Og.lays (CX.out _), hJ _ _ ?_⟩; clear hJ J))
    refine Og.fin fun w2 hW => ?_
    simp only [Og.opened_nil]
    clear hc hf CX k0 k1 k2 k3 k4 k5 k6 k7 k8 k9 k10 c0 d3
    have H2 := Lib.hid (H1.out.below hW)
    clear H1 hW
    obtain ⟨_, ⟨z0, z1, z2, z3, z4, z5, z6, z7, z8, z9, z10⟩⟩ := Bx.b11 (H2.out.held 0 rfl)
    have HF := Lib.hid (H2.out.set11 (.int .i64 ys) (.int .i64 yi) (.int .i64 yg) (.int .i64 ym) (.int .i64 yx) (.int .i64 yy) (.int .i64 yvx) (.int .i64 yvy) (.int .i64 yh) (.int .i64 yp) (.int .i64 yl))
    go_wp2
    generalize ((((((((((w2.setCell ⟨w.heap.size + 1, 0, none⟩ (.int .i64 ys)).setCell ⟨w.heap.size + 1, 1, none⟩ (.int .i64 yi)).setCell ⟨w.heap.size + 1, 2, none⟩ (.int .i64 yg)).setCell ⟨w.heap.size + 1, 3, none⟩ (.int .i64 ym)).setCell ⟨w.heap.size + 1, 4, none⟩ (.int .i64 yx)).setCell ⟨w.heap.size + 1, 5, none⟩ (.int .i64 yy)).setCell ⟨w.heap.size + 1, 6, none⟩ (.int .i64 yvx)).setCell ⟨w.heap.size + 1, 7, none⟩ (.int .i64 yvy)).setCell ⟨w.heap.size + 1, 8, none⟩ (.int .i64 yh)).setCell ⟨w.heap.size + 1, 9, none⟩ (.int .i64 yp)).setCell ⟨w.heap.size + 1, 10, none⟩ (.int .i64 yl) = wF at *
    obtain ⟨r0, r1, r2, r3, r4, r5, r6, r7, r8, r9, r10⟩ := (Bx.b11 (HF.out.held 0 rfl)).1
    exact bodyPost_ret (v := .tuple #[.agg #[.int .i64 ys, .int .i64 yi, .int .i64 yg, .int .i64 ym, .int .i64 yx, .int .i64 yy, .int .i64 yvx, .int .i64 yvy, .int .i64 yh, .int .i64 yp, .int .i64 yl], .bool flag]) (by simp [results, Tryz.results63, go_sem, r0, r1, r2, r3, r4, r5, r6, r7, r8, r9, r10]) rfl ⟨rfl, HF.out.bel⟩
  · have EY := YN.out hno
    simp only [Prod.mk.injEq, Bn.mk.injEq] at EY
    obtain ⟨⟨rfl, rfl, rfl, rfl, rfl, rfl, rfl, rfl, rfl, rfl, rfl⟩, rfl⟩ := EY
    clear YN YY CH hno RD HC
    obtain ⟨_, ⟨z0, z1, z2, z3, z4, z5, z6, z7, z8, z9, z10⟩⟩ := Bx.b11 (H1.out.held 0 rfl)
    have HF := Lib.hid (H1.out.set11 (.int .i64 ys) (.int .i64 yi) (.int .i64 yg) (.int .i64 ym) (.int .i64 yx) (.int .i64 yy) (.int .i64 yvx) (.int .i64 yvy) (.int .i64 yh) (.int .i64 yp) (.int .i64 yl))
    go_wp2
    generalize ((((((((((w1.setCell ⟨w.heap.size + 1, 0, none⟩ (.int .i64 ys)).setCell ⟨w.heap.size + 1, 1, none⟩ (.int .i64 yi)).setCell ⟨w.heap.size + 1, 2, none⟩ (.int .i64 yg)).setCell ⟨w.heap.size + 1, 3, none⟩ (.int .i64 ym)).setCell ⟨w.heap.size + 1, 4, none⟩ (.int .i64 yx)).setCell ⟨w.heap.size + 1, 5, none⟩ (.int .i64 yy)).setCell ⟨w.heap.size + 1, 6, none⟩ (.int .i64 yvx)).setCell ⟨w.heap.size + 1, 7, none⟩ (.int .i64 yvy)).setCell ⟨w.heap.size + 1, 8, none⟩ (.int .i64 yh)).setCell ⟨w.heap.size + 1, 9, none⟩ (.int .i64 yp)).setCell ⟨w.heap.size + 1, 10, none⟩ (.int .i64 yl) = wF at *
    obtain ⟨r0, r1, r2, r3, r4, r5, r6, r7, r8, r9, r10⟩ := (Bx.b11 (HF.out.held 0 rfl)).1
    exact bodyPost_ret (v := .tuple #[.agg #[.int .i64 ys, .int .i64 yi, .int .i64 yg, .int .i64 ym, .int .i64 yx, .int .i64 yy, .int .i64 yvx, .int .i64 yvy, .int .i64 yh, .int .i64 yp, .int .i64 yl], .bool true]) (by simp [results, Tryz.results63, go_sem, r0, r1, r2, r3, r4, r5, r6, r7, r8, r9, r10]) rfl ⟨rfl, HF.out.bel⟩
end Go.Proofs.YtljaahemlcaffaaGreat
namespace Go.Proofs.YtljaahemlcaffaaGreat
open Go.RowKit Pz Sp Go.Shelf
set_option linter.unusedVariables false
set_option linter.unusedSimpArgs false

set_option maxHeartbeats 8000000 in
set_option maxRecDepth 100000 in
theorem churts_any {w W : World} {L : List Piece} {p q : Nat} {z : Int} {A Ah : Option Addr} {c0 ch nh : Nat} {v2 v3 : Value} {s : Tk.St} {hs : List HK}
    (H : Sep w (Stg p q z A c0 v2 v3 s (row htE 104 4 (.slice Ah nh ch) hs :: L)) W) (hl : s.1.length + s.2.length ≤ 700000) (hn : hs.length = nh) (hnl : nh ≤ 1000) (hr : hs.Pairwise fun a b => before a.1 b.1 = true) (hfit : ∀ h ∈ hs, Fit h.2) (hfi : ∀ b ∈ s.1, Tk.Fi b) :
    Calls Tryz.prog 33 #[.pointer (some ⟨p, 0, none⟩), .slice Ah nh ch] W fun e V => e = .returned (.tuple #[]) ∧ ∃ A' c' v3', Sep w (Stg p q z A' c' v2 v3' (Tk.eachC (Tk.hurts hs) s) (row htE 104 4 (.slice Ah nh ch) hs :: L)) V := by
  obtain ⟨l, d⟩ := s
  have H1 := Lib.hid (show Sep w (Stg p q z A c0 v2 v3 (l, d) (box W.heap.size (.cells #[.slice Ah nh ch] 76) :: row htE 104 4 (.slice Ah nh ch) hs :: L)) (W.alloc (.cells #[.slice Ah nh ch] 76)) from by
    have h1 := sep_box H (.cells #[.slice Ah nh ch] 76)
    have h2 := Sep.pull h1 3 rfl
    have h3 := Sep.pull h2 3 rfl
    exact Sep.pull h3 3 rfl)
  have EAC := Lib.hid (each_any H1.out (fn := 63) (f := Tk.hurts hs) (cb := #[.pointer (some ⟨W.heap.size, 0, none⟩)]) ⟨em_h1, fun b hb V hV => hurt1_any (hV.rows 1 rfl) hn hnl hr hfit W.heap.size (hV.held 0 rfl) b (hfi b hb)⟩ (Nat.le_trans hl (by decide)))
  have NO : Hid (Tk.eachC (Tk.hurts hs) (l, d) = (Tk.kept (Tk.hurts hs) l, d ++ Tk.lost (Tk.hurts hs) l)) := Lib.hid rfl
  clear H hl hn hnl hr hfit hfi
  generalize Tk.eachC (Tk.hurts hs) (l, d) = R at *
  generalize Tk.kept (Tk.hurts hs) l = K at *
  generalize Tk.lost (Tk.hurts hs) l = D at *
  generalize hww : W.alloc (.cells #[.slice Ah nh ch] 76) = w1 at *
  go_enter Tryz.func33, Tryz.ntmps33
  go_wp2_with (go_at_call 36; with_reducible refine EAC.out.mono ?_; rintro e w2 ⟨rfl, A', c', v3', h2⟩; have H2 := Lib.hid h2; clear h2 EAC)
  go_end0
  refine ⟨rfl, A', c', v3', ?_⟩
  rw [NO.out]
  exact (Sep.pull H2.out 3 rfl).drop
end Go.Proofs.YtljaahemlcaffaaGreat
namespace Go.Proofs.YtljaahemlcaffaaGreat
open Go.RowKit Pz Sp Go.Shelf
set_option linter.unusedVariables false
set_option linter.unusedSimpArgs false

/-- of what was there nothing has turned, and no draw was taken back -/
def gd : Rl where
  r w w' := Below w.heap.size w w' ∧ w.drawn ≤ w'.drawn
  refl _ := ⟨Below.refl _ _, Nat.le_refl _⟩
  trans h k := ⟨h.1.trans (k.1.mono h.1.size), Nat.le_trans h.2 k.2⟩
  drew w := ⟨(Below.refl _ w).drew, Nat.le_succ _⟩
namespace Og
variable {P : Program} {w : World} {a : Act}
theorem growd {id : Nat} {Q : Exit → Act → World → Prop} {l : List Oper} (n : Nat) (hm : P.follows .mixedOrders = true) (hB : okB .any l n = true)
    (h : (∀ (p : Lat gd w) b o, b < w.heap.size → p.W.cell? ⟨b, o, none⟩ = w.cell? ⟨b, o, none⟩) → (∀ (p : Lat gd w) b o, b < w.heap.size → p.W.frozen? ⟨b, o, none⟩ = w.frozen? ⟨b, o, none⟩) →
      walk P gd (l.take n).toArray w (fun U A => ∀ W, gd.r w W → opened U W A fun a' => wpList P l.toArray Q (l.drop n) a' W) (l.take n) [] a) : (Code.region id l.toArray true).wp P Q a w := by
  refine region gd n hm hB ?_
  have := h (fun p b o hb => Below.cell (p := ⟨b, o, none⟩) p.h.1 hb) (fun p b o hb => Below.frozen (p := ⟨b, o, none⟩) p.h.1 hb)
  have e : (fun (U : List (Nat × Ph)) (A : Act) => ∀ W, gd.r w W → opened U W A fun a' => wpList P l.toArray Q (l.drop n) a' W) = (fun U A => ∀ p : Lat gd w, opened U p.W A fun a' => wpList P l.toArray Q (l.drop n) a' p.W) := by
    funext U A
    exact propext ⟨fun k p => k p.W p.h, fun k W hW => k ⟨W, hW⟩⟩
  rw [e] at this
  exact this
end Og
theorem or_triod {x y z r : Int} (hr : orI x y z = r) {W : World} {v : Value} (h : Trio x y z v W) : Calls Tryz.prog 88 #[v] W fun e w' => e = .returned (.int .i64 r) ∧ gd.r W w' := by
  obtain ⟨b, rfl, _, _, hb⟩ := h
  obtain ⟨⟨g0, g1, g2⟩, _⟩ := Bx.b3 hb
  subst hr
  exact Og.same (or_any g0 g1 g2)
set_option maxHeartbeats 16000000 in
set_option maxRecDepth 100000 in
theorem compare_d (a1 a2 a3 b1 b2 b3 : Int) (w : World) : Calls Tryz.prog 62 #[.agg #[.int .i64 a1, .int .i64 a2, .int .i64 a3], .agg #[.int .i64 b1, .int .i64 b2, .int .i64 b3]] w fun e w' => e = .returned (.int .i64 (cmpB (a1, a2, a3) (b1, b2, b3))) ∧ gd.r w w' := by
  have BE := Lib.hid (bel2 w (.cells #[.int .i64 a1, .int .i64 a2, .int .i64 a3] 40) (.cells #[.int .i64 b1, .int .i64 b2, .int .i64 b3] 40))
  have HA := at2a w (.cells #[.int .i64 a1, .int .i64 a2, .int .i64 a3] 40) (.cells #[.int .i64 b1, .int .i64 b2, .int .i64 b3] 40)
  have HB := at2b w (.cells #[.int .i64 a1, .int .i64 a2, .int .i64 a3] 40) (.cells #[.int .i64 b1, .int .i64 b2, .int .i64 b3] 40)
  have C1 : Hid (∀ W, Calls Tryz.prog 89 #[.int .i64 a1, .int .i64 b1] W fun e w' => e = .returned (.int .i64 (cmpI a1 b1)) ∧ W = w') := Lib.hid fun W => cmpi_any a1 b1 W
  have C2 : Hid (∀ W, Calls Tryz.prog 89 #[.int .i64 a2, .int .i64 b2] W fun e w' => e = .returned (.int .i64 (cmpI a2 b2)) ∧ W = w') := Lib.hid fun W => cmpi_any a2 b2 W
  have C3 : Hid (∀ W, Calls Tryz.prog 89 #[.int .i64 a3, .int .i64 b3] W fun e w' => e = .returned (.int .i64 (cmpI a3 b3)) ∧ W = w') := Lib.hid fun W => cmpi_any a3 b3 W
  unfold cmpB
  simp only
  generalize cmpI a1 b1 = x at *
  generalize cmpI a2 b2 = y at *
  generalize cmpI a3 b3 = z at *
  obtain ⟨r, hr⟩ : ∃ r, orI x y z = r := ⟨_, rfl⟩
  rw [hr]
  have hdr := Lib.hid (show w.drawn = ((w.alloc (.cells #[.int .i64 a1, .int .i64 a2, .int .i64 a3] 40)).alloc (.cells #[.int .i64 b1, .int .i64 b2, .int .i64 b3] 40)).drawn from rfl)
  go_enter Tryz.func62, Tryz.ntmps62
  go_upto_region 1 with fail
  generalize (w.alloc (.cells #[.int .i64 a1, .int .i64 a2, .int .i64 a3] 40)).alloc (.cells #[.int .i64 b1, .int .i64 b2, .int .i64 b3] 40) = w1 at *
  have PA : ∀ p : Lat gd w1, p.W.cell? ⟨w.heap.size, 0, none⟩ = some (.int .i64 a1) ∧ p.W.cell? ⟨w.heap.size, 1, none⟩ = some (.int .i64 a2) ∧ p.W.cell? ⟨w.heap.size, 2, none⟩ = some (.int .i64 a3) := fun p => (Bx.b3 ((Below.block p.h.1 _ (Bx.lt HA)).trans HA)).1
  have PB : ∀ p : Lat gd w1, p.W.cell? ⟨w.heap.size + 1, 0, none⟩ = some (.int .i64 b1) ∧ p.W.cell? ⟨w.heap.size + 1, 1, none⟩ = some (.int .i64 b2) ∧ p.W.cell? ⟨w.heap.size + 1, 2, none⟩ = some (.int .i64 b3) := fun p => (Bx.b3 ((Below.block p.h.1 _ (Bx.lt HB)).trans HB)).1
  have k0 := fun p => (PA p).1
  have k1 := fun p => (PA p).2.1
  have k2 := fun p => (PA p).2.2
  have m0 := fun p => (PB p).1
  have m1 := fun p => (PB p).2.1
  have m2 := fun p => (PB p).2.2
  clear PA PB HA HB
  replace hr := Lib.hid hr
  refine Og.growd 18 (by kernel_rfl) (by kernel_rfl) fun hc hf => ?_
  clear hc hf
  simp only [List.take_succ_cons, List.take_zero, List.drop_succ_cons, List.drop_zero]
  iterate 4 (refine Og.det [] rfl (fun J hJ => ?_); go_simp; refine hJ _ _ ?_; clear hJ J)
  refine Og.det [] rfl (fun J hJ => ?_)
  go_simp
  with_reducible refine ⟨_, fun p => Og.same (C1.out p.W), hJ _ _ ?_⟩
  clear hJ J
  iterate 4 (refine Og.det [] rfl (fun J hJ => ?_); go_simp; refine hJ _ _ ?_; clear hJ J)
  refine Og.det [] rfl (fun J hJ => ?_)
  go_simp
  with_reducible refine ⟨_, fun p => Og.same (C2.out p.W), hJ _ _ ?_⟩
  clear hJ J
  iterate 4 (refine Og.det [] rfl (fun J hJ => ?_); go_simp; refine hJ _ _ ?_; clear hJ J)
  refine Og.det [] rfl (fun J hJ => ?_)
  go_simp
  with_reducible refine ⟨_, fun p => Og.same (C3.out p.W), hJ _ _ ?_⟩
  clear hJ J
  refine Og.such 20 (Trio x y z) [] rfl (fun _ _ _ h hr => Og.Fresh.lasts _ _ _ _ _ _ _ h hr.1) (Og.Fresh.noBool _ _ _ _) (fun J hJ => ?_)
  go_simp
  refine ⟨fun p => ⟨⟨(Og.Fresh.new p.W 0 (Nat.zero_le _) _ _ 3).1, Nat.le_refl _⟩, (Og.Fresh.new p.W 0 (Nat.zero_le _) _ _ 3).2⟩, hJ _ _ ?_⟩
  clear hJ J
  refine Og.det [(20, Trio x y z)] rfl (fun J hJ => ?_)
  go_simp
  refine ⟨_, fun p v hv => or_triod hr.out hv, hJ _ _ ?_⟩
  clear hJ J
  refine Og.det [] rfl (fun J hJ => ?_); go_simp; refine hJ _ _ ?_; clear hJ J
  refine Og.fin fun W hW => ?_
  simp only [Og.opened_cons, Og.opened_nil]
  intro v20 hv20
  clear hv20
  have FIN := Lib.hid (show gd.r w W from ⟨BE.out.trans (hW.1.mono BE.out.size), Nat.le_trans (Nat.le_of_eq hdr.out) hW.2⟩)
  go_wp2
  go_ret
  exact ⟨rfl, FIN.out⟩
theorem gd_grow {w w' : World} (h : gd.r w w') : ∃ q os', w' = Sort.grow (w.drewN q) os' := by
  obtain ⟨⟨h1, h2, h3, h4, h5⟩, h6⟩ := h
  refine ⟨w'.drawn - w.drawn, w'.heap.extract w.heap.size w'.heap.size, ?_⟩
  obtain ⟨hp, tp, dr, os, out⟩ := w
  obtain ⟨hp', tp', dr', os', out'⟩ := w'
  simp only at h1 h2 h3 h4 h5 h6
  subst h1 h2 h3
  simp only [Sort.grow, World.drewN]
  congr 1
  · apply Array.ext_getElem?
    intro k
    rw [Array.getElem?_append]
    by_cases hk : k < hp.size
    · rw [if_pos hk]; exact h5 k hk
    · rw [if_neg hk, Array.getElem?_extract]
      by_cases hk2 : k < hp'.size
      · rw [if_pos (by omega)]
        congr 1
        omega
      · rw [if_neg (by omega), Array.getElem?_eq_none (by omega)]
  · omega
theorem lt_is (x y : K3) : ltOf cmpB x y = before x y := cmp_lt x y
theorem swo_names : Sort.SWO (ltOf cmpB) where
  irrefl x := by rw [lt_is, before_irr]
  trans x y z h1 h2 := by rw [lt_is] at *; exact before_trans h1 h2
  ntrans x y z h1 h2 := by
    rw [lt_is] at *
    cases h : before x z with
    | false => rfl
    | true =>
      cases h3 : before y x with
      | true =>
        rw [before_trans h3 h] at h2
        cases h2
      | false =>
        have := same_of h1 h3
        subst this
        rw [h] at h2
        cases h2
/-- names sorted -/
def srtN (l : List K3) : List K3 := l.mergeSort fun x y => !(ltOf cmpB) y x
theorem srtN_perm (l : List K3) : (srtN l).Perm l := List.mergeSort_perm _ _
theorem srtN_srt (l : List K3) : (srtN l).Pairwise fun a b => before b a = false := by
  have h := List.pairwise_mergeSort (le := fun x y => !(ltOf cmpB) y x) (fun a b c h1 h2 => by
    simp only [Bool.not_eq_true'] at *
    exact swo_names.ntrans c b a h2 h1) (fun a b => by
    simp only [lt_is]
    cases h : before b a with
    | false => rfl
    | true => rw [before_asym h]; rfl) l
  exact h.imp fun h => by simpa [lt_is] using h
theorem holds_names {W : World} {B g o n c : Nat} {l : List K3} (h : OwnN W B (.slice (some ⟨g, o, none⟩) n c) l) : Sort.HoldsK nkE 3 W g o l.toArray := fun t ht => by
  rw [Sort.size_flatK, List.size_toArray] at ht
  rw [Sort.get_flatK _ _ _ _ (by simpa using ht)]
  have hj : t / 3 < l.length := by omega
  obtain ⟨g', o', c', e, _, hg, hc⟩ := h.at_ (List.getElem?_eq_getElem hj)
  cases e
  have hm : t % 3 < 3 := Nat.mod_lt _ (by decide)
  have e1 : l.toArray[t / 3]! = l[t / 3] := by rw [getElem!_pos l.toArray (t / 3) (by simpa using hj)]; simp
  rw [e1]
  have := hc (t % 3) (nkE l[t / 3])[t % 3]! (by
    rw [getElem!_pos (nkE l[t / 3]) (t % 3) (by rw [nkE_len]; exact hm)]
    exact List.getElem?_eq_getElem _)
  rw [show t / 3 * 3 + t % 3 = t by omega] at this
  exact this
theorem heap_putRow {W : World} {g o T : Nat} {cur : Array Value} (hg : W.heap[g]? = some (.cells cur T (0, 0))) (F : Array Value) : ∃ cur' : Array Value, (Sort.putRow id W g o F).heap[g]? = some (.cells cur' T (0, 0)) ∧ cur'.size = cur.size ∧ Only (fun k => k = g) W (Sort.putRow id W g o F) := by
  refine ⟨Sort.putCells id o F cur, ?_, by simp [Sort.putCells], ⟨rfl, rfl, rfl, by simp, fun k _ hk => ?_⟩⟩
  · simp [Sort.putRow, Sort.mapBlock, Array.getElem?_modify, hg, Sort.onCells]
  · have : ¬ g = k := fun e => hk e.symm
    simp [Sort.putRow, Sort.mapBlock, Array.getElem?_modify, this]
theorem sort_world {W V : World} {B g o n c m : Nat} {l d : List K3} {os : Array Obj} (h : OwnN W B (.slice (some ⟨g, o, none⟩) n c) l) (hn : l.length = n) (hd : d.length = n) (hV : V = sortWorldK nkE 3 W g o m d.toArray os) : OwnN V B (.slice (some ⟨g, o, none⟩) n c) d ∧ Only (fun k => k = g) W V := by
  subst hn
  have hh := holds_names h
  rcases h with ⟨e, _⟩ | ⟨g', o', cap, cur, e, q1, q2, q3, q4, q5, q6⟩
  · cases e
  · cases e
    have q2' : (Sort.ahead W m).heap[g]? = some (.cells cur 40 (0, 0)) := q2
    obtain ⟨cur', a1, a2, a3⟩ := heap_putRow (o := o) q2' (Sort.flatK nkE 3 d.toArray)
    have lt := Bx.lt a1
    have hg : V.heap[g]? = some (.cells cur' 40 (0, 0)) := by
      rw [hV]
      show ((Sort.putRow id (Sort.ahead W m) g o (Sort.flatK nkE 3 d.toArray)).heap ++ os)[g]? = _
      rw [Array.getElem?_append_left lt]
      exact a1
    have hk : Sort.HoldsK nkE 3 V g o d.toArray := by
      rw [hV]
      exact Sort.holdsK_grow nkE 3 _ os g o _ lt (Sort.holdsK_putRowK nkE 3 (Sort.ahead W m) g o l.toArray d.toArray hh (by simp [hd]))
    refine ⟨?_, ⟨by rw [hV]; rfl, by rw [hV]; rfl, by rw [hV]; rfl, by rw [hV]; simp [sortWorldK, Sort.putRowK, Sort.grow], fun k hk' hne => ?_⟩⟩
    · refine .inr ⟨g, o, c, cur', by rw [hd], q1, hg, by omega, q4, by rw [a2]; exact q5, fun j x hj e u hu => ?_⟩
      have hj2 := (List.getElem?_eq_some_iff.1 hj)
      have he : e < 3 := (List.getElem?_eq_some_iff.1 hu).1
      have := (Sort.HoldsK.cell hk (i := j) (c := e) (by simpa using hj2.1) he).1
      have e1 : d.toArray[j]! = x := by rw [getElem!_pos d.toArray j (by simpa using hj2.1)]; simpa using hj2.2
      rw [e1, getElem!_pos (nkE x) e (by rw [nkE_len]; exact he)] at this
      rw [List.getElem?_eq_getElem (by rw [nkE_len]; exact he)] at hu
      rw [Option.some.inj hu] at this
      rw [Nat.add_assoc] at this
      simpa [World.cell?, hg] using this
    · rw [hV]
      show ((Sort.putRow id (Sort.ahead W m) g o (Sort.flatK nkE 3 d.toArray)).heap ++ os)[k]? = _
      rw [Array.getElem?_append_left (by simpa using hk')]
      exact a3.block k hk' hne
/-- names sorted by the library -/
theorem sortn_any {w W : World} {L : List Piece} {A : Option Addr} {c n : Nat} {l : List K3} (H : Sep w (row nkE 40 3 (.slice A n c) l :: L) W) (hn : l.length = n) (hl : n ≤ 1000000) :
    Calls Tryz.prog 77 #[.slice A n c, .func (.func 62) #[] #[]] W fun e V => e = .returned (.tuple #[]) ∧ Sep w (row nkE 40 3 (.slice A n c) (srtN l) :: L) V := by
  obtain ⟨G, ⟨h1, h2⟩, h3, next⟩ := H.one
  rcases h1 with ⟨e, e2⟩ | ⟨g, o, cap, cur, e, q1, q2, q3, q4, q5, q6⟩
  · cases e
    subst e2
    have := AnyF.slices_SortFunc_none { Tryz.sortIds with } none 0 (.func (.func 62) #[] #[]) W
    refine Calls.mono (show Calls Tryz.prog 77 _ _ _ from this) ?_
    rintro e V ⟨rfl, rfl⟩
    have e0 : srtN [] = [] := (srtN_perm []).eq_nil
    rw [e0]
    exact ⟨rfl, H⟩
  · cases e
    have own : OwnN W 0 (.slice (some ⟨g, o, none⟩) l.length c) l := .inr ⟨g, o, c, cur, rfl, q1, q2, q3, q4, q5, q6⟩
    have hcon := AnyQ.slices_SortFunc_total Tryz.sortIds 3 (fun _ => by kernel_rfl) (fun _ => by kernel_rfl) nkE (fun _ => rfl) nkE_one cmpB swo_names 62 #[] g o c l.toArray W (enters_of Tryz.func62 (by kernel_rfl) rfl)
      (fun m os dk hs x y => (compare_d x.1 x.2.1 x.2.2 y.1 y.2.1 y.2.2 _).mono fun e w' h => ⟨h.1, gd_grow h.2⟩) (holds_names own) (Bx.lt q2) (by simp; omega) (fun x y h1 h2 => by rw [lt_is] at *; exact same_of h2 h1)
    rw [List.size_toArray] at hcon
    refine Calls.mono (show Calls Tryz.prog 77 _ _ _ from hcon) ?_
    rintro e V ⟨rfl, m, os, hV⟩
    obtain ⟨k1, k2⟩ := sort_world (d := srtN l) own rfl (srtN_perm l).length_eq hV
    exact ⟨rfl, next V (row nkE 40 3 _ (srtN l)) G ⟨k2.os, k2.tape, k2.output, k2.size, fun k hk hne => k2.block k hk fun e => hne ((h2 k).2 (by rw [e]; rfl))⟩ ⟨k1, h2⟩ fun k hk => .inl hk⟩
end Go.Proofs.YtljaahemlcaffaaGreat
