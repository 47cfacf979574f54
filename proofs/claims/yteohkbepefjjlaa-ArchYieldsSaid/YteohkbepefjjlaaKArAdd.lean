/- The code's store: an entity becomes the last row of its table. -/
import Derived.Test.YteohkbepefjjlaaKArAdd0
import Derived.Test.YteohkbepefjjlaaKBase
namespace Go.Proofs.Yteohkbepefjjlaa
open Go.RowKit Pz Ar
set_option linter.unusedVariables false
set_option linter.unusedSimpArgs false

theorem eqlSome (m : Nat) (w : World) : (binOp .eql 66 (.map (some m)) (.map none)).run Try.prog w = .ok (.bool false) w := by kernel_rfl
theorem eqlNil (w : World) : (binOp .eql 66 (.map none) (.map none)).run Try.prog w = .ok (.bool true) w := by kernel_rfl
set_option maxHeartbeats 8000000 in
set_option maxRecDepth 100000 in
theorem add_any {F : Foot} {p : Nat} {t : Tb} {w : World} (h : CS F p t w) (b : Bn) (hb : may b = true) (hf : Ar.find t b.id = none) (hl : ∀ m, (t m).length + 1 ≤ 100000) : Calls Try.prog 44 #[.pointer (some ⟨p, 0, none⟩), b.val] w fun e w' => e = .returned (.tuple #[]) ∧ CS (Gr F w.heap.size w'.heap.size) p (put0 t b) w' ∧ Only F w w' := by
  obtain ⟨cs, mv, L, h1, h2, h3, h4, h5, h6⟩ := h.head
  have hG := put_good h.good hb hf
  have hR := h6.put h.good hb hf
  have hmm := may_mask hb
  have hF := h.lt
  have hp := h.mine
  have hpw := h.lt p h.mine
  have hnew : ∀ x ∈ L, x.1 ≠ b.id := fun x hx e => by
    obtain ⟨k, y⟩ := x
    simp only at e
    subst e
    have := (h6.is _ _).1 hx
    rw [hf] at this; cases this
  obtain ⟨m, hm⟩ : ∃ m, b.m.toNat = m := ⟨_, rfl⟩
  have hbm : b.m = (m : Int) := by omega
  have hm32 : m < 32 := by omega
  obtain ⟨v, hv, hov, _⟩ := h3.tab m hm32
  obtain ⟨A, c, rfl⟩ := hov.form
  have hlm := hl m
  rw [hm] at hR
  have B1 := bel1 w (bobj b)
  have T1 := at1 w (bobj b)
  have S0 : ∀ q W, mv = .map (some q) → Below w.heap.size w W → W.heap[w.heap.size]? = some (.cells #[.int .i64 b.s, .int .i64 b.i, .int .i64 b.g, .int .i64 b.m, .int .i64 b.x, .int .i64 b.y, .int .i64 b.vx, .int .i64 b.vy, .int .i64 b.h, .int .i64 b.p, .int .i64 b.l] 35 (0, 0)) → AddAt F p t L w b q cs W := fun q W e hW hbox =>
    ⟨.of_below hW, (hW.block p hpw).trans h1, h2, h3.kept fun k hk => hW.block k (hF k hk), e ▸ h4, e ▸ (h5.kept fun k hk => hW.block k (hF k hk)).more fun k hk => .inl hk, hbox⟩
  have S1 : mv = .map none → ∀ W, Below w.heap.size w W → W.heap[w.heap.size]? = some (.cells #[.int .i64 b.s, .int .i64 b.i, .int .i64 b.g, .int .i64 b.m, .int .i64 b.x, .int .i64 b.y, .int .i64 b.vx, .int .i64 b.vy, .int .i64 b.h, .int .i64 b.p, .int .i64 b.l] 35 (0, 0)) →
      AddAt F p t L w b W.heap.size (cs.setIfInBounds 32 (.map (some W.heap.size))) ((W.alloc (.map #[] 0)).setCell ⟨p, 32, none⟩ (.map (some W.heap.size))) := fun e W hW hbox => by
    have hpW : p < W.heap.size := by have := hW.size; omega
    have hl0 : L = [] := by
      rcases h5 with ⟨_, e⟩ | ⟨q, es, c, e1, _⟩
      · exact e
      · rw [e] at e1; cases e1
    subst hl0
    have hs : ((W.alloc (.map #[] 0)).setCell ⟨p, 32, none⟩ (.map (some W.heap.size))).heap.size = W.heap.size + 1 := (World.size_setCell ..).trans (size1 ..)
    have hk : ∀ k, k < W.heap.size → k ≠ p → ((W.alloc (.map #[] 0)).setCell ⟨p, 32, none⟩ (.map (some W.heap.size))).heap[k]? = W.heap[k]? := fun k hk hne =>
      (Bx.ne hne _).trans (Below.heap_alloc _ _ _ hk)
    refine ⟨((Only.of_below hW).tail (bel1 W (.map #[] 0))).set (a := ⟨p, 32, none⟩) (.inl hp) _, ?_, by simpa using h2, ?_, ?_, ?_, (hk _ (Bx.lt hbox) (by omega)).trans hbox⟩
    · exact Bx.set ((Below.heap_alloc _ _ _ hpW).trans ((hW.block p hpw).trans h1)) _
    · refine ⟨fun a ha => ?_, fun a a' x x' g ha ha' hne hx hx' => ?_, h3.few⟩
      · obtain ⟨u, hu, hou, hfu⟩ := h3.tab a ha
        refine ⟨u, by rw [Array.getElem?_setIfInBounds_ne (by omega)]; exact hu, hou.kept fun g hg => ?_, hfu⟩
        obtain ⟨hgF, cur, hc⟩ := h3.other ha hu hg
        have := hF g hgF
        exact (hk g (by have := hW.size; omega) (fun e => by subst e; rw [h1] at hc; injection hc with hc; injection hc with _ hc; exact absurd hc (by decide))).trans (hW.block g this)
      · rw [Array.getElem?_setIfInBounds_ne (by omega)] at hx hx'
        exact h3.apart a a' x x' g ha ha' hne hx hx'
    · rw [Array.getElem?_setIfInBounds_self_of_lt (by omega)]
    · have := mapIs_made (F := Gr F w.heap.size ((W.alloc (.map #[] 0)).setCell ⟨p, 32, none⟩ (.map (some W.heap.size))).heap.size) W (by
        rw [hs]
        exact .inr ⟨hW.size, Nat.lt_succ_self _⟩)
      refine this.kept' fun k hk2 => ?_
      cases Option.some.inj (Value.map.inj hk2)
      exact Bx.ne (by omega) _
  have FIN : Hid (∀ q cs' W W3 v3, AddAt F p t (L ++ [(b.id, m, (t m).length)]) w b q cs' W → cs'[m]? = some (.slice A (t m).length c) → OwnB W3 0 v3 (t m ++ [b]) → W.grownBy W3 (Value.slice A (t m).length c).ownBlock → (∀ g, v3.ownBlock = some g → (Value.slice A (t m).length c).ownBlock = some g ∨ W.heap.size ≤ g) →
      CS (Gr F w.heap.size (W3.setCell ⟨p, m, none⟩ v3).heap.size) p (put0 t b) (W3.setCell ⟨p, m, none⟩ v3) ∧ Only F w (W3.setCell ⟨p, m, none⟩ v3)) := Lib.hid fun q cs' W W3 v3 hS hcs ho hg hrow =>
    hS.fin hp hF hG hR hm32 hm hcs ho hg hrow (hl m)
  have hcs32 : ∀ x, (cs.setIfInBounds 32 x)[m]? = some (.slice A (t m).length c) := fun x => by rw [Array.getElem?_setIfInBounds_ne (by omega)]; exact hv
  have hmv : w.cell? ⟨p, 32, none⟩ = some mv := (Bx.cell h1 h4).1
  have hfz : w.frozen? ⟨p, 32, none⟩ = false := (Bx.cell h1 h4).2
  have hmv2 : mv = .map none ∨ ∃ q, mv = .map (some q) := by
    rcases h5 with ⟨e, _⟩ | ⟨q, _, _, e, _⟩
    · exact .inl e
    · exact .inr ⟨q, e⟩
  have OWN : ∀ q cs' W, AddAt F p t (L ++ [(b.id, m, (t m).length)]) w b q cs' W → cs'[m]? = some (.slice A (t m).length c) → OwnB W 0 (.slice A (t m).length c) (t m) := fun q cs' W hS hc => by
    obtain ⟨u, hu, hou, _⟩ := hS.tabs.tab m hm32
    rw [hc] at hu
    cases Option.some.inj hu
    exact hou
  have UPD : ∀ q cs' W, AddAt F p t L w b q cs' W → ∃ V, (Instr.mapUpdate MT (.map (some q)) (idV b.id) (plV (m, (t m).length))).run Try.prog W = .ok () V ∧ AddAt F p t (L ++ [(b.id, m, (t m).length)]) w b q cs' V := fun q cs' W hS => by
    obtain ⟨V, hrun, hM, hT⟩ := hS.map.new hnew (m, (t m).length)
    exact ⟨V, hrun, hS.turn hF hT hM⟩
  have hlen1 : (t m).length + 1 ≤ 1000000 := by omega
  have APP : Hid (∀ q cs' W, AddAt F p t (L ++ [(b.id, m, (t m).length)]) w b q cs' W → cs'[m]? = some (.slice A (t m).length c) → ∃ A3 n3 c3 w', (Builtin.append_ #[26, 26] 26 #[.slice A (t m).length c, .slice (some ⟨W.heap.size, 0, none⟩) 1 1]).run Try.prog (W.alloc (bobj b)) = .ok (.slice A3 n3 c3) w' ∧ w'.cell? ⟨p, m, none⟩ = some (.slice A (t m).length c) ∧ w'.frozen? ⟨p, m, none⟩ = false ∧ w'.heap[w.heap.size]? = W.heap[w.heap.size]? ∧ Hid (CS (Gr F w.heap.size (w'.setCell ⟨p, m, none⟩ (.slice A3 n3 c3)).heap.size) p (put0 t b) (w'.setCell ⟨p, m, none⟩ (.slice A3 n3 c3)) ∧ Only F w (w'.setCell ⟨p, m, none⟩ (.slice A3 n3 c3)))) := Lib.hid fun q cs' W hS hc => by
    obtain ⟨v', w', hr, ho, hg, hrow⟩ := app_one2 (OWN q cs' W hS hc) b hlen1 26
    obtain ⟨A3, c3, rfl⟩ := ho.form
    have hpn : (Value.slice A (t m).length c).ownBlock ≠ some p := fun e => by
      obtain ⟨_, cur, hcc⟩ := hS.tabs.other hm32 hc e
      exact Bx.ne_type hcc hS.head (by decide) rfl
    have hp3 := (hg.block p (Bx.lt hS.head) (fun e => hpn e.symm)).trans hS.head
    exact ⟨A3, _, c3, w', hr, (Bx.cell hp3 hc).1, (Bx.cell hp3 hc).2, hg.block _ (Bx.lt hS.box) (fun e => Nat.lt_irrefl _ (hF _ (hS.tabs.other hm32 hc e.symm).1)), Lib.hid (FIN.out q cs' W w' _ hS hc ho hg hrow)⟩
  replace S0 := Lib.hid S0
  replace S1 := Lib.hid S1
  replace UPD := Lib.hid UPD
  have hbmI : (m : Int) < 32 := by omega
  have hnI : ((t m).length : Int) ≤ 100000 := by omega
  replace hcs32 := Lib.hid hcs32
  replace hv := Lib.hid hv
  clear OWN FIN h h1 h2 h3 h4 h5 h6 hG hR hmm hF hp hnew hov hl hb hf hlen1 hlm
  generalize (t m).length = n at *
  obtain ⟨bs, bi, bg, bm, bx, bY, bvx, bvy, bh, bp, bl⟩ := b
  simp only at hbm
  subst hbm
  simp only [bobj, Bn.val, Bn.id, idV, plV] at *
  go_enter Try.func44, Try.ntmps44
  go_upto_region 1 with fail
  generalize w.alloc (.cells #[.int .i64 bs, .int .i64 bi, .int .i64 bg, .int .i64 (m : Int), .int .i64 bx, .int .i64 bY, .int .i64 bvx, .int .i64 bvy, .int .i64 bh, .int .i64 bp, .int .i64 bl] 35) = w1 at *
  replace hmv := (B1.cell (p := ⟨p, 32, none⟩) hpw).trans hmv
  replace hfz := (B1.frozen (p := ⟨p, 32, none⟩) hpw).trans hfz
  have mk := @run_makeMap Try.prog
  have e1 := eqlNil
  rcases hmv2 with rfl | ⟨q, rfl⟩
  · have SS := Lib.hid (S1.out rfl w1 B1 T1)
    have SC := Lib.hid (hcs32.out (.map (some w1.heap.size)))
    have hmv2 := (bel1 w1 (.map #[] 0)).cell (p := ⟨p, 32, none⟩) (show p < w1.heap.size by have := B1.size; omega)
    rw [hmv] at hmv2
    have hfz2 := (bel1 w1 (.map #[] 0)).frozen (p := ⟨p, 32, none⟩) (show p < w1.heap.size by have := B1.size; omega)
    rw [hfz] at hfz2
    go_upto_region 3 with fail
    clear hmv2 hfz2
    generalize (w1.alloc (.map #[] 0)).setCell ⟨p, 32, none⟩ (.map (some w1.heap.size)) = w2 at *
    obtain ⟨q, hq⟩ : ∃ q, q = w1.heap.size := ⟨_, rfl⟩
    rw [← hq] at SS SC ⊢
    clear hq
    generalize cs.setIfInBounds 32 (.map (some q)) = cs' at *
    clear mk e1 hmv hfz S0 S1 hcs32 hv B1 T1
    have SD := SS.out.drew
    obtain ⟨k0, k1, k2, k3, k4, k5, k6, k7, k8, k9, k10⟩ := (Bx.b11 SS.out.box).1
    have cq := (Bx.cell SS.out.head SS.out.cell).1
    have cm := (Bx.cell SS.out.head SC.out).1
    obtain ⟨V, hrun, HS⟩ := UPD.out q cs' _ SD
    replace HS := Lib.hid HS
    have z0 : w2.drew.cell? ⟨w.heap.size, 0, none⟩ = some (.int .i64 bs) := k0
    have z1 : w2.drew.cell? ⟨w.heap.size, 1, none⟩ = some (.int .i64 bi) := k1
    have z2 : w2.drew.cell? ⟨w.heap.size, 2, none⟩ = some (.int .i64 bg) := k2
    have z3 : w2.drew.cell? ⟨w.heap.size, 3, none⟩ = some (.int .i64 (m : Int)) := k3
    have cq' : w2.drew.cell? ⟨p, 32, none⟩ = some (.map (some q)) := cq
    have cm' : w2.drew.cell? ⟨p, m, none⟩ = some (.slice A n c) := cm
    clear k0 k1 k2 k3 k4 k5 k6 k7 k8 k9 k10 cq cm SS SD UPD
    go_still_tail 17, (by kernel_rfl)
    change wpList _ _ _ _ _ w2.drew
    generalize w2.drew = w3 at *
    go_upto_region 4 with fail
    clear z0 z1 z2 z3 cq' cm' hrun
    have SD := HS.out.drew
    obtain ⟨k0, k1, k2, k3, k4, k5, k6, k7, k8, k9, k10⟩ := (Bx.b11 HS.out.box).1
    have cm := (Bx.cell HS.out.head SC.out).1
    obtain ⟨A3, n3, c3, w4, hr, hc4, hf4, hb4, FIN⟩ := APP.out q cs' _ SD SC.out
    have AL := bel1 V (.cells #[.int .i64 bs, .int .i64 bi, .int .i64 bg, .int .i64 (m : Int), .int .i64 bx, .int .i64 bY, .int .i64 bvx, .int .i64 bvy, .int .i64 bh, .int .i64 bp, .int .i64 bl] 35)
    have HR := Lib.hid hr
    have k3' := (Bx.b11 ((AL.block _ (Bx.lt HS.out.box)).trans HS.out.box)).1.2.2.2.1
    have k34 := (Bx.b11 (hb4.trans HS.out.box)).1.2.2.2.1
    have cm2 := (AL.cell (p := ⟨p, m, none⟩) (Bx.lt HS.out.head)).trans cm
    clear hr APP HS SD SC AL hb4
    go_region_law (refine step_append rfl (.tmp 39) (.tmp 41) 26 26 rfl (.slice A n c) (.slice (some ⟨V.heap.size, 0, none⟩) 1 1) (by simp [Act.eval]) (by simp [Act.eval]) (.slice A3 n3 c3) w4 HR.out ?_)
    all_goals
      go_wp2
      go_end0
      exact ⟨rfl, FIN.out⟩
  · have SS := Lib.hid (S0.out q w1 rfl B1 T1)
    have SC := hv
    have e2 := eqlSome q
    go_upto_region 3 with fail
    clear e2
    generalize w1 = w2 at *
    generalize cs = cs' at *
    clear mk e1 hmv hfz S0 S1 hcs32 hv B1 T1
    have SD := SS.out.drew
    obtain ⟨k0, k1, k2, k3, k4, k5, k6, k7, k8, k9, k10⟩ := (Bx.b11 SS.out.box).1
    have cq := (Bx.cell SS.out.head SS.out.cell).1
    have cm := (Bx.cell SS.out.head SC.out).1
    obtain ⟨V, hrun, HS⟩ := UPD.out q cs' _ SD
    replace HS := Lib.hid HS
    have z0 : w2.drew.cell? ⟨w.heap.size, 0, none⟩ = some (.int .i64 bs) := k0
    have z1 : w2.drew.cell? ⟨w.heap.size, 1, none⟩ = some (.int .i64 bi) := k1
    have z2 : w2.drew.cell? ⟨w.heap.size, 2, none⟩ = some (.int .i64 bg) := k2
    have z3 : w2.drew.cell? ⟨w.heap.size, 3, none⟩ = some (.int .i64 (m : Int)) := k3
    have cq' : w2.drew.cell? ⟨p, 32, none⟩ = some (.map (some q)) := cq
    have cm' : w2.drew.cell? ⟨p, m, none⟩ = some (.slice A n c) := cm
    clear k0 k1 k2 k3 k4 k5 k6 k7 k8 k9 k10 cq cm SS SD UPD
    go_still_tail 17, (by kernel_rfl)
    change wpList _ _ _ _ _ w2.drew
    generalize w2.drew = w3 at *
    go_upto_region 4 with fail
    clear z0 z1 z2 z3 cq' cm' hrun
    have SD := HS.out.drew
    obtain ⟨k0, k1, k2, k3, k4, k5, k6, k7, k8, k9, k10⟩ := (Bx.b11 HS.out.box).1
    have cm := (Bx.cell HS.out.head SC.out).1
    obtain ⟨A3, n3, c3, w4, hr, hc4, hf4, hb4, FIN⟩ := APP.out q cs' _ SD SC.out
    have AL := bel1 V (.cells #[.int .i64 bs, .int .i64 bi, .int .i64 bg, .int .i64 (m : Int), .int .i64 bx, .int .i64 bY, .int .i64 bvx, .int .i64 bvy, .int .i64 bh, .int .i64 bp, .int .i64 bl] 35)
    have HR := Lib.hid hr
    have k3' := (Bx.b11 ((AL.block _ (Bx.lt HS.out.box)).trans HS.out.box)).1.2.2.2.1
    have k34 := (Bx.b11 (hb4.trans HS.out.box)).1.2.2.2.1
    have cm2 := (AL.cell (p := ⟨p, m, none⟩) (Bx.lt HS.out.head)).trans cm
    clear hr APP HS SD SC AL hb4
    go_region_law (refine step_append rfl (.tmp 39) (.tmp 41) 26 26 rfl (.slice A n c) (.slice (some ⟨V.heap.size, 0, none⟩) 1 1) (by simp [Act.eval]) (by simp [Act.eval]) (.slice A3 n3 c3) w4 HR.out ?_)
    all_goals
      go_wp2
      go_end0
      exact ⟨rfl, FIN.out⟩
end Go.Proofs.Yteohkbepefjjlaa
