/- ArAdd, ArDel0, ArDel, in one text. -/
import Derived.Test.YteollbioeamciaaKCod
import Derived.Test.YteollbioeamciaaKBase
import Derived.BigRegion
namespace Go.Proofs.Yteollbioeamciaa
open Go.RowKit Pz Ar
set_option linter.unusedVariables false
set_option linter.unusedSimpArgs false

theorem eqlSome (m : Nat) (w : World) : (binOp .eql 65 (.map (some m)) (.map none)).run Try.prog w = .ok (.bool false) w := by kernel_rfl
theorem eqlNil (w : World) : (binOp .eql 65 (.map none) (.map none)).run Try.prog w = .ok (.bool true) w := by kernel_rfl
set_option maxHeartbeats 8000000 in
set_option maxRecDepth 100000 in
theorem add_any {F : Foot} {p : Nat} {t : Tb} {w : World} (h : CS F p t w) (b : Bn) (hb : may b = true) (hf : Ar.find t b.id = none) (hl : ∀ m, (t m).length + 1 ≤ 100000) : Calls Try.prog 45 #[.pointer (some ⟨p, 0, none⟩), b.val] w fun e w' => e = .returned (.tuple #[]) ∧ CS (Gr F w.heap.size w'.heap.size) p (put0 t b) w' ∧ Only F w w' := by
  obtain ⟨cs, mv, L, h1, h2, h3, h4, h5, h6⟩ := h.head
  have hG := put_good h.good hb hf
  have hR := h6.put h.good hb hf
  have hmm := may_mask hb
  have hF := h.lt
  have hp := h.mine
  have hpw := h.lt p h.mine
  have hnew : ∀ x ∈ L, x.1 ≠ b.id := fun x hx e => by
    obtain ⟨k, y⟩ := x
    simp only at e
    subst e
    have := (h6.is _ _).1 hx
    rw [hf] at this; cases this
  obtain ⟨m, hm⟩ : ∃ m, b.m.toNat = m := ⟨_, rfl⟩
  have hbm : b.m = (m : Int) := by omega
  have hm32 : m < 32 := by omega
  obtain ⟨v, hv, hov, _⟩ := h3.tab m hm32
  obtain ⟨A, c, rfl⟩ := hov.form
  have hlm := hl m
  rw [hm] at hR
  have B1 := bel1 w (bobj b)
  have T1 := at1 w (bobj b)
  have S0 : ∀ q W, mv = .map (some q) → Below w.heap.size w W → W.heap[w.heap.size]? = some (.cells #[.int .i64 b.s, .int .i64 b.i, .int .i64 b.g, .int .i64 b.m, .int .i64 b.x, .int .i64 b.y, .int .i64 b.vx, .int .i64 b.vy, .int .i64 b.h, .int .i64 b.p, .int .i64 b.l] 36 (0, 0)) → AddAt F p t L w b q cs W := fun q W e hW hbox =>
    ⟨.of_below hW, (hW.block p hpw).trans h1, h2, h3.kept fun k hk => hW.block k (hF k hk), e ▸ h4, e ▸ (h5.kept fun k hk => hW.block k (hF k hk)).more fun k hk => .inl hk, hbox⟩
  have S1 : mv = .map none → ∀ W, Below w.heap.size w W → W.heap[w.heap.size]? = some (.cells #[.int .i64 b.s, .int .i64 b.i, .int .i64 b.g, .int .i64 b.m, .int .i64 b.x, .int .i64 b.y, .int .i64 b.vx, .int .i64 b.vy, .int .i64 b.h, .int .i64 b.p, .int .i64 b.l] 36 (0, 0)) →
      AddAt F p t L w b W.heap.size (cs.setIfInBounds 32 (.map (some W.heap.size))) ((W.alloc (.map #[] 0)).setCell ⟨p, 32, none⟩ (.map (some W.heap.size))) := fun e W hW hbox => by
    have hpW : p < W.heap.size := by have := hW.size; omega
    have hl0 : L = [] := by
      rcases h5 with ⟨_, e⟩ | ⟨q, es, c, e1, _⟩
      · exact e
      · rw [e] at e1; cases e1
    subst hl0
    have hs : ((W.alloc (.map #[] 0)).setCell ⟨p, 32, none⟩ (.map (some W.heap.size))).heap.size = W.heap.size + 1 := (World.size_setCell ..).trans (size1 ..)
    have hk : ∀ k, k < W.heap.size → k ≠ p → ((W.alloc (.map #[] 0)).setCell ⟨p, 32, none⟩ (.map (some W.heap.size))).heap[k]? = W.heap[k]? := fun k hk hne =>
      (Bx.ne hne _).trans (Below.heap_alloc _ _ _ hk)
    refine ⟨((Only.of_below hW).tail (bel1 W (.map #[] 0))).set (a := ⟨p, 32, none⟩) (.inl hp) _, ?_, by simpa using h2, ?_, ?_, ?_, (hk _ (Bx.lt hbox) (by omega)).trans hbox⟩
    · exact Bx.set ((Below.heap_alloc _ _ _ hpW).trans ((hW.block p hpw).trans h1)) _
    · refine ⟨fun a ha => ?_, fun a a' x x' g ha ha' hne hx hx' => ?_, h3.few⟩
      · obtain ⟨u, hu, hou, hfu⟩ := h3.tab a ha
        refine ⟨u, by rw [Array.getElem?_setIfInBounds_ne (by omega)]; exact hu, hou.kept fun g hg => ?_, hfu⟩
        obtain ⟨hgF, cur, hc⟩ := h3.other ha hu hg
        have := hF g hgF
        exact (hk g (by have := hW.size; omega) (fun e => by subst e; rw [h1] at hc; injection hc with hc; injection hc with _ hc; exact absurd hc (by decide))).trans (hW.block g this)
      · rw [Array.getElem?_setIfInBounds_ne (by omega)] at hx hx'
        exact h3.apart a a' x x' g ha ha' hne hx hx'
    · rw [Array.getElem?_setIfInBounds_self_of_lt (by omega)]
    · have := mapIs_made (F := Gr F w.heap.size ((W.alloc (.map #[] 0)).setCell ⟨p, 32, none⟩ (.map (some W.heap.size))).heap.size) W (by
        rw [hs]
        exact .inr ⟨hW.size, Nat.lt_succ_self _⟩)
      refine this.kept' fun k hk2 => ?_
      cases Option.some.inj (Value.map.inj hk2)
      exact Bx.ne (by omega) _
  have FIN : Hid (∀ q cs' W W3 v3, AddAt F p t (L ++ [(b.id, m, (t m).length)]) w b q cs' W → cs'[m]? = some (.slice A (t m).length c) → OwnB W3 0 v3 (t m ++ [b]) → W.grownBy W3 (Value.slice A (t m).length c).ownBlock → (∀ g, v3.ownBlock = some g → (Value.slice A (t m).length c).ownBlock = some g ∨ W.heap.size ≤ g) →
      CS (Gr F w.heap.size (W3.setCell ⟨p, m, none⟩ v3).heap.size) p (put0 t b) (W3.setCell ⟨p, m, none⟩ v3) ∧ Only F w (W3.setCell ⟨p, m, none⟩ v3)) := Lib.hid fun q cs' W W3 v3 hS hcs ho hg hrow =>
    hS.fin hp hF hG hR hm32 hm hcs ho hg hrow (hl m)
  have hcs32 : ∀ x, (cs.setIfInBounds 32 x)[m]? = some (.slice A (t m).length c) := fun x => by rw [Array.getElem?_setIfInBounds_ne (by omega)]; exact hv
  have hmv : w.cell? ⟨p, 32, none⟩ = some mv := (Bx.cell h1 h4).1
  have hfz : w.frozen? ⟨p, 32, none⟩ = false := (Bx.cell h1 h4).2
  have hmv2 : mv = .map none ∨ ∃ q, mv = .map (some q) := by
    rcases h5 with ⟨e, _⟩ | ⟨q, _, _, e, _⟩
    · exact .inl e
    · exact .inr ⟨q, e⟩
  have OWN : ∀ q cs' W, AddAt F p t (L ++ [(b.id, m, (t m).length)]) w b q cs' W → cs'[m]? = some (.slice A (t m).length c) → OwnB W 0 (.slice A (t m).length c) (t m) := fun q cs' W hS hc => by
    obtain ⟨u, hu, hou, _⟩ := hS.tabs.tab m hm32
    rw [hc] at hu
    cases Option.some.inj hu
    exact hou
  have UPD : ∀ q cs' W, AddAt F p t L w b q cs' W → ∃ V, (Instr.mapUpdate MT (.map (some q)) (idV b.id) (plV (m, (t m).length))).run Try.prog W = .ok () V ∧ AddAt F p t (L ++ [(b.id, m, (t m).length)]) w b q cs' V := fun q cs' W hS => by
    obtain ⟨V, hrun, hM, hT⟩ := hS.map.new hnew (m, (t m).length)
    exact ⟨V, hrun, hS.turn hF hT hM⟩
  have hlen1 : (t m).length + 1 ≤ 1000000 := by omega
  have APP : Hid (∀ q cs' W, AddAt F p t (L ++ [(b.id, m, (t m).length)]) w b q cs' W → cs'[m]? = some (.slice A (t m).length c) → ∃ A3 n3 c3 w', (Builtin.append_ #[26, 26] 26 #[.slice A (t m).length c, .slice (some ⟨W.heap.size, 0, none⟩) 1 1]).run Try.prog (W.alloc (bobj b)) = .ok (.slice A3 n3 c3) w' ∧ w'.cell? ⟨p, m, none⟩ = some (.slice A (t m).length c) ∧ w'.frozen? ⟨p, m, none⟩ = false ∧ w'.heap[w.heap.size]? = W.heap[w.heap.size]? ∧ Hid (CS (Gr F w.heap.size (w'.setCell ⟨p, m, none⟩ (.slice A3 n3 c3)).heap.size) p (put0 t b) (w'.setCell ⟨p, m, none⟩ (.slice A3 n3 c3)) ∧ Only F w (w'.setCell ⟨p, m, none⟩ (.slice A3 n3 c3)))) := Lib.hid fun q cs' W hS hc => by
    obtain ⟨v', w', hr, ho, hg, hrow⟩ := app_one2 (OWN q cs' W hS hc) b hlen1 26
    obtain ⟨A3, c3, rfl⟩ := ho.form
    have hpn : (Value.slice A (t m).length c).ownBlock ≠ some p := fun e => by
      obtain ⟨_, cur, hcc⟩ := hS.tabs.other hm32 hc e
      exact Bx.ne_type hcc hS.head (by decide) rfl
    have hp3 := (hg.block p (Bx.lt hS.head) (fun e => hpn e.symm)).trans hS.head
    exact ⟨A3, _, c3, w', hr, (Bx.cell hp3 hc).1, (Bx.cell hp3 hc).2, hg.block _ (Bx.lt hS.box) (fun e => Nat.lt_irrefl _ (hF _ (hS.tabs.other hm32 hc e.symm).1)), Lib.hid (FIN.out q cs' W w' _ hS hc ho hg hrow)⟩
  replace S0 := Lib.hid S0
  replace S1 := Lib.hid S1
  replace UPD := Lib.hid UPD
  have hbmI : (m : Int) < 32 := by omega
  have hnI : ((t m).length : Int) ≤ 100000 := by omega
  replace hcs32 := Lib.hid hcs32
  replace hv := Lib.hid hv
  clear OWN FIN h h1 h2 h3 h4 h5 h6 hG hR hmm hF hp hnew hov hl hb hf hlen1 hlm
  generalize (t m).length = n at *
  obtain ⟨bs, bi, bg, bm, bx, bY, bvx, bvy, bh, bp, bl⟩ := b
  simp only at hbm
  subst hbm
  simp only [bobj, Bn.val, Bn.id, idV, plV] at *
  go_enter Try.func45, Try.ntmps45
  go_upto_region 1 with fail
  generalize w.alloc (.cells #[.int .i64 bs, .int .i64 bi, .int .i64 bg, .int .i64 (m : Int), .int .i64 bx, .int .i64 bY, .int .i64 bvx, .int .i64 bvy, .int .i64 bh, .int .i64 bp, .int .i64 bl] 36) = w1 at *
  replace hmv := (B1.cell (p := ⟨p, 32, none⟩) hpw).trans hmv
  replace hfz := (B1.frozen (p := ⟨p, 32, none⟩) hpw).trans hfz
  have mk := @run_makeMap Try.prog
  have e1 := eqlNil
  rcases hmv2 with rfl | ⟨q, rfl⟩
  · have SS := Lib.hid (S1.out rfl w1 B1 T1)
    have SC := Lib.hid (hcs32.out (.map (some w1.heap.size)))
    have hmv2 := (bel1 w1 (.map #[] 0)).cell (p := ⟨p, 32, none⟩) (show p < w1.heap.size by have := B1.size; omega)
    rw [hmv] at hmv2
    have hfz2 := (bel1 w1 (.map #[] 0)).frozen (p := ⟨p, 32, none⟩) (show p < w1.heap.size by have := B1.size; omega)
    rw [hfz] at hfz2
    go_upto_region 3 with fail
    clear hmv2 hfz2
    generalize (w1.alloc (.map #[] 0)).setCell ⟨p, 32, none⟩ (.map (some w1.heap.size)) = w2 at *
    obtain ⟨q, hq⟩ : ∃ q, q = w1.heap.size := ⟨_, rfl⟩
    rw [← hq] at SS SC ⊢
    clear hq
    generalize cs.setIfInBounds 32 (.map (some q)) = cs' at *
    clear mk e1 hmv hfz S0 S1 hcs32 hv B1 T1
    have SD := SS.out.drew
    obtain ⟨k0, k1, k2, k3, k4, k5, k6, k7, k8, k9, k10⟩ := (Bx.b11 SS.out.box).1
    have cq := (Bx.cell SS.out.head SS.out.cell).1
    have cm := (Bx.cell SS.out.head SC.out).1
    obtain ⟨V, hrun, HS⟩ := UPD.out q cs' _ SD
    replace HS := Lib.hid HS
    have z0 : w2.drew.cell? ⟨w.heap.size, 0, none⟩ = some (.int .i64 bs) := k0
    have z1 : w2.drew.cell? ⟨w.heap.size, 1, none⟩ = some (.int .i64 bi) := k1
    have z2 : w2.drew.cell? ⟨w.heap.size, 2, none⟩ = some (.int .i64 bg) := k2
    have z3 : w2.drew.cell? ⟨w.heap.size, 3, none⟩ = some (.int .i64 (m : Int)) := k3
    have cq' : w2.drew.cell? ⟨p, 32, none⟩ = some (.map (some q)) := cq
    have cm' : w2.drew.cell? ⟨p, m, none⟩ = some (.slice A n c) := cm
    clear k0 k1 k2 k3 k4 k5 k6 k7 k8 k9 k10 cq cm SS SD UPD
    go_still_tail 17, (by kernel_rfl)
    change wpList _ _ _ _ _ w2.drew
    generalize w2.drew = w3 at *
    go_upto_region 4 with fail
    clear z0 z1 z2 z3 cq' cm' hrun
    have SD := HS.out.drew
    obtain ⟨k0, k1, k2, k3, k4, k5, k6, k7, k8, k9, k10⟩ := (Bx.b11 HS.out.box).1
    have cm := (Bx.cell HS.out.head SC.out).1
    obtain ⟨A3, n3, c3, w4, hr, hc4, hf4, hb4, FIN⟩ := APP.out q cs' _ SD SC.out
    have AL := bel1 V (.cells #[.int .i64 bs, .int .i64 bi, .int .i64 bg, .int .i64 (m : Int), .int .i64 bx, .int .i64 bY, .int .i64 bvx, .int .i64 bvy, .int .i64 bh, .int .i64 bp, .int .i64 bl] 36)
    have HR := Lib.hid hr
    have k3' := (Bx.b11 ((AL.block _ (Bx.lt HS.out.box)).trans HS.out.box)).1.2.2.2.1
    have k34 := (Bx.b11 (hb4.trans HS.out.box)).1.2.2.2.1
    have cm2 := (AL.cell (p := ⟨p, m, none⟩) (Bx.lt HS.out.head)).trans cm
    clear hr APP HS SD SC AL hb4
    go_region_law (refine step_append rfl (.tmp 39) (.tmp 41) 26 26 rfl (.slice A n c) (.slice (some ⟨V.heap.size, 0, none⟩) 1 1) (by simp [Act.eval]) (by simp [Act.eval]) (.slice A3 n3 c3) w4 HR.out ?_)
    all_goals
      go_wp2
      go_end0
      exact ⟨rfl, FIN.out⟩
  · have SS := Lib.hid (S0.out q w1 rfl B1 T1)
    have SC := hv
    have e2 := eqlSome q
    go_upto_region 3 with fail
    clear e2
    generalize w1 = w2 at *
    generalize cs = cs' at *
    clear mk e1 hmv hfz S0 S1 hcs32 hv B1 T1
    have SD := SS.out.drew
    obtain ⟨k0, k1, k2, k3, k4, k5, k6, k7, k8, k9, k10⟩ := (Bx.b11 SS.out.box).1
    have cq := (Bx.cell SS.out.head SS.out.cell).1
    have cm := (Bx.cell SS.out.head SC.out).1
    obtain ⟨V, hrun, HS⟩ := UPD.out q cs' _ SD
    replace HS := Lib.hid HS
    have z0 : w2.drew.cell? ⟨w.heap.size, 0, none⟩ = some (.int .i64 bs) := k0
    have z1 : w2.drew.cell? ⟨w.heap.size, 1, none⟩ = some (.int .i64 bi) := k1
    have z2 : w2.drew.cell? ⟨w.heap.size, 2, none⟩ = some (.int .i64 bg) := k2
    have z3 : w2.drew.cell? ⟨w.heap.size, 3, none⟩ = some (.int .i64 (m : Int)) := k3
    have cq' : w2.drew.cell? ⟨p, 32, none⟩ = some (.map (some q)) := cq
    have cm' : w2.drew.cell? ⟨p, m, none⟩ = some (.slice A n c) := cm
    clear k0 k1 k2 k3 k4 k5 k6 k7 k8 k9 k10 cq cm SS SD UPD
    go_still_tail 17, (by kernel_rfl)
    change wpList _ _ _ _ _ w2.drew
    generalize w2.drew = w3 at *
    go_upto_region 4 with fail
    clear z0 z1 z2 z3 cq' cm' hrun
    have SD := HS.out.drew
    obtain ⟨k0, k1, k2, k3, k4, k5, k6, k7, k8, k9, k10⟩ := (Bx.b11 HS.out.box).1
    have cm := (Bx.cell HS.out.head SC.out).1
    obtain ⟨A3, n3, c3, w4, hr, hc4, hf4, hb4, FIN⟩ := APP.out q cs' _ SD SC.out
    have AL := bel1 V (.cells #[.int .i64 bs, .int .i64 bi, .int .i64 bg, .int .i64 (m : Int), .int .i64 bx, .int .i64 bY, .int .i64 bvx, .int .i64 bvy, .int .i64 bh, .int .i64 bp, .int .i64 bl] 36)
    have HR := Lib.hid hr
    have k3' := (Bx.b11 ((AL.block _ (Bx.lt HS.out.box)).trans HS.out.box)).1.2.2.2.1
    have k34 := (Bx.b11 (hb4.trans HS.out.box)).1.2.2.2.1
    have cm2 := (AL.cell (p := ⟨p, m, none⟩) (Bx.lt HS.out.head)).trans cm
    clear hr APP HS SD SC AL hb4
    go_region_law (refine step_append rfl (.tmp 39) (.tmp 41) 26 26 rfl (.slice A n c) (.slice (some ⟨V.heap.size, 0, none⟩) 1 1) (by simp [Act.eval]) (by simp [Act.eval]) (.slice A3 n3 c3) w4 HR.out ?_)
    all_goals
      go_wp2
      go_end0
      exact ⟨rfl, FIN.out⟩
end Go.Proofs.Yteollbioeamciaa
namespace Go.Proofs.Yteollbioeamciaa
open Go.RowKit Pz Ar
set_option linter.unusedVariables false
set_option linter.unusedSimpArgs false

/-- an entity's cells at a place -/
abbrev Cells11 (W : World) (g o : Nat) (x : Bn) : Prop := W.cell? ⟨g, o, none⟩ = some (.int .i64 x.s) ∧ W.cell? ⟨g, o + 1, none⟩ = some (.int .i64 x.i) ∧ W.cell? ⟨g, o + 2, none⟩ = some (.int .i64 x.g) ∧ W.cell? ⟨g, o + 3, none⟩ = some (.int .i64 x.m) ∧ W.cell? ⟨g, o + 4, none⟩ = some (.int .i64 x.x) ∧ W.cell? ⟨g, o + 5, none⟩ = some (.int .i64 x.y) ∧ W.cell? ⟨g, o + 6, none⟩ = some (.int .i64 x.vx) ∧ W.cell? ⟨g, o + 7, none⟩ = some (.int .i64 x.vy) ∧ W.cell? ⟨g, o + 8, none⟩ = some (.int .i64 x.h) ∧ W.cell? ⟨g, o + 9, none⟩ = some (.int .i64 x.p) ∧ W.cell? ⟨g, o + 10, none⟩ = some (.int .i64 x.l)
abbrev Froz11 (W : World) (g o : Nat) : Prop := W.frozen? ⟨g, o, none⟩ = false ∧ W.frozen? ⟨g, o + 1, none⟩ = false ∧ W.frozen? ⟨g, o + 2, none⟩ = false ∧ W.frozen? ⟨g, o + 3, none⟩ = false ∧ W.frozen? ⟨g, o + 4, none⟩ = false ∧ W.frozen? ⟨g, o + 5, none⟩ = false ∧ W.frozen? ⟨g, o + 6, none⟩ = false ∧ W.frozen? ⟨g, o + 7, none⟩ = false ∧ W.frozen? ⟨g, o + 8, none⟩ = false ∧ W.frozen? ⟨g, o + 9, none⟩ = false ∧ W.frozen? ⟨g, o + 10, none⟩ = false
/-- on the way -/
structure RemAt (F : Foot) (p : Nat) (t : Tb) (L : List (NK × Nat × Nat)) (w : World) (k1 k2 k3 : Int) (b2 m i : Nat) (q : Nat) (cs : Array Value) (W : World) : Prop where
  bel : Only F w W
  head : W.heap[p]? = some (.cells cs AT (0, 0))
  size : cs.size = 33
  tabs : Tabs F cs t W
  cell : cs[32]? = some (.map (some q))
  map : MapIs F W (.map (some q)) L
  idb : W.heap[w.heap.size]? = some (.cells #[.int .i64 k1, .int .i64 k2, .int .i64 k3] 34 (0, 0))
  plb : W.heap[b2]? = some (.cells #[.int .i64 (m : Int), .int .i64 (i : Int)] 84 (0, 0))
section
variable {F : Foot} {p : Nat} {t : Tb} {L L' : List (NK × Nat × Nat)} {w W V : World} {k1 k2 k3 : Int} {b2 m i q : Nat} {cs : Array Value}
theorem RemAt.heap (h : RemAt F p t L w k1 k2 k3 b2 m i q cs W) (e : V.heap = W.heap) (e1 : V.os = W.os) (e2 : V.tape = W.tape) (e3 : V.output = W.output) : RemAt F p t L w k1 k2 k3 b2 m i q cs V :=
  ⟨⟨e1.trans h.bel.os, e2.trans h.bel.tape, e3.trans h.bel.output, by rw [e]; exact h.bel.size, fun b hb hn => by rw [e]; exact h.bel.block b hb hn⟩, by rw [e]; exact h.head, h.size, h.tabs.kept (fun _ _ => by rw [e]), h.cell, h.map.kept (fun _ _ => by rw [e]), by rw [e]; exact h.idb, by rw [e]; exact h.plb⟩
theorem RemAt.drew (h : RemAt F p t L w k1 k2 k3 b2 m i q cs W) : RemAt F p t L w k1 k2 k3 b2 m i q cs W.drew := h.heap rfl rfl rfl rfl
theorem RemAt.ne_q (h : RemAt F p t L w k1 k2 k3 b2 m i q cs W) {k : Nat} {c : Array Value} {T : TypeId} (hk : W.heap[k]? = some (.cells c T (0, 0))) : k ≠ q := fun e => by
  obtain ⟨_, es, c', hq⟩ := h.map.own
  rw [e, hq] at hk
  cases hk
theorem RemAt.turn (h : RemAt F p t L w k1 k2 k3 b2 m i q cs W) (hT : Turned q W V) (hM : MapIs F V (.map (some q)) L') : RemAt F p t L' w k1 k2 k3 b2 m i q cs V := by
  have hq := h.map.own.1
  refine ⟨h.bel.trans ((hT.only hq).more fun b hb => .inl hb), (hT.block p (h.ne_q h.head)).trans h.head, h.size, ?_, h.cell, hM, (hT.block _ (h.ne_q h.idb)).trans h.idb, (hT.block _ (h.ne_q h.plb)).trans h.plb⟩
  refine ⟨fun m hm => ?_, h.tabs.apart, h.tabs.few⟩
  obtain ⟨v, h1, h2, h3⟩ := h.tabs.tab m hm
  refine ⟨v, h1, h2.kept fun g hg => hT.block g ?_, h3⟩
  obtain ⟨_, cur, hc⟩ := h.tabs.other hm h1 hg
  exact h.ne_q hc
theorem RemAt.row (h : RemAt F p t L w k1 k2 k3 b2 m i q cs W) {a : Nat} (ha : a < 32) {g o n c : Nat} (hv : cs[a]? = some (.slice (some ⟨g, o, none⟩) n c)) {j : Nat} (hj : j < (t a).length) (z : Bn) :
    RemAt F p (Ar.up t a ((t a).set j z)) L w k1 k2 k3 b2 m i q cs (setRow11 W g (o + j * 11) z) := by
  obtain ⟨u, hu, hou, huF⟩ := h.tabs.tab a ha
  rw [hv] at hu
  cases Option.some.inj hu
  obtain ⟨s1, _⟩ := own_set hou hj z
  obtain ⟨hgF, cur, hc⟩ := h.tabs.other ha hv (b := g) rfl
  have ne : ∀ k, k ≠ g → (setRow11 W g (o + j * 11) z).heap[k]? = W.heap[k]? := fun k hk => setRow11_ne _ _ _ hk
  refine ⟨setRow11_only h.bel hgF _ _, (ne p (Bx.ne_type h.head hc (by decide))).trans h.head, h.size, tabs_set h.tabs ha hv (fun k hk => ne k (fun e => hk (by rw [e]; rfl))) s1 (by rw [List.length_set]; exact h.tabs.few a), h.cell, h.map.kept' (fun k hk => ne k ?_), (ne _ (Bx.ne_type h.idb hc (by decide))).trans h.idb, (ne _ (Bx.ne_type h.plb hc (by decide))).trans h.plb⟩
  cases Option.some.inj (Value.map.inj hk)
  exact fun e => h.ne_q hc e.symm
theorem RemAt.cut (h : RemAt F p t L w k1 k2 k3 b2 m i q cs W) (hp : F p) {a : Nat} (ha : a < 32) {v : Value} {l : List Bn} (ho : OwnB W 0 v l) (hl : l.length ≤ 100000) (hv : ∀ g, v.ownBlock = some g → ∃ u, cs[a]? = some u ∧ u.ownBlock = some g) :
    RemAt F p (Ar.up t a l) L w k1 k2 k3 b2 m i q (cs.setIfInBounds a v) (W.setCell ⟨p, a, none⟩ v) := by
  obtain ⟨a1, a2⟩ := tabs_store (W := W) (v := v) (l := l) (by decide) h.tabs h.head (fun _ hb => hb) ha (fun _ _ _ _ _ _ _ => rfl) ho hl (fun g hg => by
    obtain ⟨u, hu, hug⟩ := hv g hg
    exact ⟨(h.tabs.other ha hu hug).1, fun x y hx hne hy e => h.tabs.apart x a y u g hx ha hne hy hu e hug⟩)
  refine ⟨h.bel.set (a := ⟨p, a, none⟩) (.inl hp) _, a1, by simpa using h.size, a2, ?_, h.map.kept' (fun k hk => Bx.ne ?_ _), (Bx.ne (Bx.ne_type h.idb h.head (by decide)) _).trans h.idb, (Bx.ne (Bx.ne_type h.plb h.head (by decide)) _).trans h.plb⟩
  · rw [Array.getElem?_setIfInBounds_ne (by omega)]
    exact h.cell
  · cases Option.some.inj (Value.map.inj hk)
    exact fun e => h.ne_q h.head e.symm
theorem RemAt.fin (h : RemAt F p t L w k1 k2 k3 b2 m i q cs W) (hp : F p) (hF : ∀ b, F b → b < w.heap.size) (hG : Ar.Good t) (hR : Rep L t) : CS (Gr F w.heap.size W.heap.size) p t W ∧ Only F w W := by
  refine ⟨⟨⟨cs, _, L, h.head, h.size, h.tabs.more (fun _ hb => .inl hb), h.cell, h.map.more (fun _ hb => .inl hb), hR⟩, hG, .inl hp, fun b hb => ?_⟩, h.bel⟩
  rcases hb with hb | hb
  · have := hF b hb; have := h.bel.size; omega
  · exact hb.2
end
end Go.Proofs.Yteollbioeamciaa
namespace Go.Proofs.Yteollbioeamciaa
open Go.RowKit Pz Ar
set_option linter.unusedVariables false
set_option linter.unusedSimpArgs false

theorem wpList_delete2 {P : Program} (w : World) {ops : Array Oper} {rest : List Oper} {o : Oper} {a : Act} {Q : Exit → Act → World → Prop} (hg : o.guard = none) (s x : Operand) (t t' : TypeId) (hop : o.op = Op.call { callee := Callee.builtin Builtin.delete, args := #[s, x], argTypes := #[t, t'] })
    (v xv : Value) (hs : a.eval s = v) (hx : a.eval x = xv) (v' : Value) (w' : World) (hrun : (Builtin.delete_ #[t, t'] o.type #[v, xv]).run P w = .ok v' w') (hK : wpList P ops Q rest (a.put o.dst v') w') :
    wpList P ops Q (o :: rest) a w := by
  refine wpList_plain hg fun K' hK' => ?_
  unfold Oper.wp
  simp [execOp, hop, resolve, invoke, builtin, hs, hx, hrun, Result.andThen]
  exact hK' _ _ hK
set_option maxHeartbeats 8000000 in
set_option maxRecDepth 100000 in
theorem remove_none {P : Value} {w : World} {k1 k2 k3 : Int} (h : FindIs P none k1 k2 k3 w) : Calls Try.prog 49 #[P, .agg #[.int .i64 k1, .int .i64 k2, .int .i64 k3]] w fun e w' => e = .returned (.bool false) ∧ Below w.heap.size w w' := by
  have HF := Lib.hid h
  have T1 := Lib.hid (at1 w (.cells #[.int .i64 k1, .int .i64 k2, .int .i64 k3] 34))
  have BE := Lib.hid (bel1 w (.cells #[.int .i64 k1, .int .i64 k2, .int .i64 k3] 34))
  clear h
  go_enter Try.func49, Try.ntmps49
  go_upto_region 1 with fail
  generalize w.alloc (.cells #[.int .i64 k1, .int .i64 k2, .int .i64 k3] 34) = w1 at *
  obtain ⟨⟨q0, q1, q2⟩, _⟩ := Bx.b3 T1.out
  go_wp2_with fail
  refine (HF.out w1 BE.out).mono ?_
  rintro e w2 ⟨rfl, hb⟩
  replace BE := Lib.hid (BE.out.trans (hb.mono BE.out.size))
  clear hb HF q0 q1 q2 T1
  simp only [lookV]
  have HQ := Lib.hid (BE.out.alloc BE.out.size (.cells #[.int .i64 0, .int .i64 0] 84))
  clear BE
  go_wp2
  go_ret
  exact ⟨rfl, HQ.out⟩
set_option maxHeartbeats 16000000 in
set_option maxRecDepth 100000 in
theorem remove_some {F : Foot} {p : Nat} {t : Tb} {w : World} (h : CS F p t w) {k1 k2 k3 : Int} {m i : Nat} (hf : Ar.find t (k1, k2, k3) = some (m, i)) : Calls Try.prog 49 #[.pointer (some ⟨p, 0, none⟩), .agg #[.int .i64 k1, .int .i64 k2, .int .i64 k3]] w fun e w' => e = .returned (.bool true) ∧ CS (Gr F w.heap.size w'.heap.size) p (cut0 t m i) w' ∧ Only F w w' := by
  have HA := Lib.hid (h.finds k1 k2 k3)
  rw [hf] at HA
  obtain ⟨hm, x, hx, hxid⟩ := find_at hf
  have hi := (List.getElem?_eq_some_iff.1 hx).1
  obtain ⟨cs, mv, L, h1, h2, h3, h4, h5, h6⟩ := h.head
  have hlast : (t m).length - 1 < (t m).length := by omega
  have hz : (t m)[(t m).length - 1]? = some (t m)[(t m).length - 1] := List.getElem?_eq_getElem hlast
  generalize (t m)[(t m).length - 1] = z at *
  have hxL : ((k1, k2, k3), m, i) ∈ L := (h6.is _ _).2 hf
  have hzL : (z.id, m, (t m).length - 1) ∈ L := (h6.is _ _).2 (find_is h.good hz)
  obtain ⟨q, rfl⟩ : ∃ q, mv = .map (some q) := by
    rcases h5 with ⟨_, e⟩ | ⟨q, _, _, e, _⟩
    · rw [e] at hxL; cases hxL
    · exact ⟨q, e⟩
  obtain ⟨v, hv, hov, hvF⟩ := h3.tab m hm
  obtain ⟨A, c, rfl⟩ := hov.form
  obtain ⟨g, o, c', e, _, _⟩ := hov.at_ hx
  cases e
  have hp := h.mine
  have hF := h.lt
  have hpw := h.lt p hp
  have hfew := h.few m
  have hcap : (t m).length ≤ c := by
    rcases hov with ⟨e, _⟩ | ⟨_, _, _, _, e, _, _, e3, _⟩
    · cases e
    · cases e; exact e3
  have hn1 := h6.apart
  have hzL2 : (z.id, m, (t m).length - 1) ∈ L := hzL
  have hxid' : x.id = (k1, k2, k3) := hxid
  have hR := h6.cut h.good hx hz
  rw [hxid'] at hR
  have hG := cut_good h.good hi
  -- what holds from place to place
  have A0 : ∀ W b2, Below w.heap.size w W → W.heap[w.heap.size]? = some (.cells #[.int .i64 k1, .int .i64 k2, .int .i64 k3] 34 (0, 0)) → W.heap[b2]? = some (.cells #[.int .i64 (m : Int), .int .i64 (i : Int)] 84 (0, 0)) → RemAt F p t L w k1 k2 k3 b2 m i q cs W := fun W b2 hW e1 e2 =>
    ⟨.of_below hW, (hW.block p hpw).trans h1, h2, h3.kept (fun b hb => hW.block b (hF b hb)), h4, h5.kept (fun b hb => hW.block b (hF b hb)), e1, e2⟩
  have A1 : ∀ W b2, RemAt F p t L w k1 k2 k3 b2 m i q cs W → RemAt F p (Ar.up t m ((t m).set i z)) L w k1 k2 k3 b2 m i q cs (setRow11 W g (o + i * 11) z) := fun W b2 hS => hS.row hm hv hi z
  have A2 : ∀ W b2, RemAt F p (Ar.up t m ((t m).set i z)) L w k1 k2 k3 b2 m i q cs W → ∃ V, (Instr.mapUpdate MT (.map (some q)) (idV z.id) (plV (m, i))).run Try.prog W = .ok () V ∧ RemAt F p (Ar.up t m ((t m).set i z)) (setK L z.id (m, i)) w k1 k2 k3 b2 m i q cs V := fun W b2 hS => by
    obtain ⟨V, hr, hM, hT⟩ := hS.map.set hn1 hzL2 (m, i)
    exact ⟨V, hr, hS.turn hT hM⟩
  have hset : (Ar.up t m ((t m).set i z)) m = (t m).set i z := up_same _ _ _
  have ROWS : ∀ W b2 L', RemAt F p (Ar.up t m ((t m).set i z)) L' w k1 k2 k3 b2 m i q cs W → OwnB W 0 (.slice (some ⟨g, o, none⟩) (t m).length c) ((t m).set i z) := fun W b2 L' hS => by
    obtain ⟨u, hu, hou, _⟩ := hS.tabs.tab m hm
    rw [hv] at hu
    cases Option.some.inj hu
    rwa [hset] at hou
  have hzz : ((t m).set i z)[(t m).length - 1]? = some z := by
    by_cases e : (t m).length - 1 = i
    · rw [e, List.getElem?_set_self hi]
    · rw [List.getElem?_set_ne (fun e' => e e'.symm), hz]
  have hcut : ((t m).set i z).take ((t m).length - 1) = cutL (t m) i := by unfold cutL; rw [hz]
  have htab : ∀ l, Ar.up (Ar.up t m ((t m).set i z)) m l = Ar.up t m l := fun l => by
    funext a; unfold Ar.up; split <;> rfl
  have A3 : ∀ W b2, RemAt F p (Ar.up t m ((t m).set i z)) (setK L z.id (m, i)) w k1 k2 k3 b2 m i q cs W → RemAt F p (cut0 t m i) (setK L z.id (m, i)) w k1 k2 k3 b2 m i q (cs.setIfInBounds m (.slice (some ⟨g, o, none⟩) ((t m).length - 1) c)) (W.setCell ⟨p, m, none⟩ (.slice (some ⟨g, o, none⟩) ((t m).length - 1) c)) := fun W b2 hS => by
    have ho := own_take (ROWS W b2 _ hS) (k := (t m).length - 1) (by simp)
    rw [hcut] at ho
    have := hS.cut hp hm ho (by rw [cutL_len]; omega) (fun g' hg' => ⟨_, hv, hg'⟩)
    rw [htab] at this
    exact this
  have A4 : ∀ W b2 cs', RemAt F p (cut0 t m i) (setK L z.id (m, i)) w k1 k2 k3 b2 m i q cs' W → ∃ V, (Builtin.delete_ #[MT, 34] 0 #[.map (some q), idV (k1, k2, k3)]).run Try.prog W = .ok (.tuple #[]) V ∧ CS (Gr F w.heap.size V.heap.size) p (cut0 t m i) V ∧ Only F w V := fun W b2 cs' hS => by
    have hk : ∃ y, ((k1, k2, k3), y) ∈ setK L z.id (m, i) := by
      by_cases e : (k1, k2, k3) = z.id
      · exact ⟨(m, i), mem_setK.2 (.inl ⟨e, rfl, _, hzL⟩)⟩
      · exact ⟨_, mem_setK.2 (.inr ⟨e, hxL⟩)⟩
    obtain ⟨y, hy⟩ := hk
    obtain ⟨V, hr, hM, hT⟩ := hS.map.del (by rw [keys_setK]; exact hn1) hy 0
    exact ⟨V, hr, (hS.turn hT hM).fin hp hF hG hR⟩
  -- what is read
  have RD0 : ∀ W b2, RemAt F p t L w k1 k2 k3 b2 m i q cs W → W.cell? ⟨p, m, none⟩ = some (.slice (some ⟨g, o, none⟩) (t m).length c) ∧ Cells11 W g (o + ((t m).length - 1) * 11) z ∧ Cells11 W g (o + i * 11) x ∧ Froz11 W g (o + i * 11) := fun W b2 hS => by
    obtain ⟨u, hu, hou, _⟩ := hS.tabs.tab m hm
    rw [hv] at hu
    cases Option.some.inj hu
    obtain ⟨g1, o1, e1, _, c1, _⟩ := own_at hou hz
    cases e1
    obtain ⟨g1, o1, e1, _, c2, f2⟩ := own_at hou hx
    cases e1
    exact ⟨(Bx.cell hS.head hv).1, c1, c2, f2⟩
  have RD1 : ∀ W b2 L', RemAt F p (Ar.up t m ((t m).set i z)) L' w k1 k2 k3 b2 m i q cs W → W.cell? ⟨p, 32, none⟩ = some (.map (some q)) ∧ Cells11 W g (o + ((t m).length - 1) * 11) z := fun W b2 L' hS => by
    have ho := ROWS W b2 L' hS
    obtain ⟨g1, o1, e1, _, c1, _⟩ := own_at (c := c) (A := some ⟨g, o, none⟩) (l := (t m).set i z) (by rw [List.length_set]; exact ho) hzz
   
    cases e1
    exact ⟨(Bx.cell hS.head hS.cell).1, c1⟩
  clear h h1 h2 h3 h4 h5 h6 hov hvF hxL hzL hzL2 hn1 hxid hxid' hR hG hf hset hzz hcut htab ROWS
  replace A0 := Lib.hid A0
  replace A1 := Lib.hid A1
  replace A2 := Lib.hid A2
  replace A3 := Lib.hid A3
  replace A4 := Lib.hid A4
  replace RD0 := Lib.hid RD0
  replace RD1 := Lib.hid RD1
  replace hv := Lib.hid hv
  obtain ⟨r, hr⟩ : ∃ r : Nat, (t m).length - 1 = r := ⟨_, rfl⟩
  rw [hr] at A3 RD0 RD1
  have hr1 : (t m).length = r + 1 := by omega
  generalize (t m).length = n at *
  have s1 : IntKind.i64.wrap ((n : Int) - 1) = (r : Int) := by rw [IntWalk.i64_in _ (by omega)]; omega
  have s2 : (n : Int) - 1 = (r : Int) := by omega
  have s3 : IntKind.i64.wrap (r : Int) = (r : Int) := IntWalk.i64_in _ (by omega)
  have hri : (r : Int) < (n : Int) := by omega
  have hii : (i : Int) < (n : Int) := by omega
  have hrc : (r : Int) ≤ (c : Int) := by omega
  have hm2 : (m : Int) < 32 := by omega
  clear hr hr1 hlast hz hx
  have T1 := Lib.hid (at1 w (.cells #[.int .i64 k1, .int .i64 k2, .int .i64 k3] 34))
  have BE := Lib.hid (bel1 w (.cells #[.int .i64 k1, .int .i64 k2, .int .i64 k3] 34))
  obtain ⟨xs, xi, xg, xm, xx, xy, xvx, xvy, xh, xp, xl⟩ := x
  obtain ⟨zs, zi, zg, zm, zx, zy, zvx, zvy, zh, zp, zl⟩ := z
  simp only [setRow11, Cells11, Froz11, idV, plV, Bn.id] at *
  go_enter Try.func49, Try.ntmps49
  go_upto_region 1 with fail
  generalize w.alloc (.cells #[.int .i64 k1, .int .i64 k2, .int .i64 k3] 34) = w1 at *
  obtain ⟨⟨q0, q1, q2⟩, _⟩ := Bx.b3 T1.out
  go_wp2_with fail
  refine (HA.out w1 BE.out).mono ?_
  rintro e w2 ⟨rfl, hb⟩
  have B3 := bel1 w2 (.cells #[.int .i64 (m : Int), .int .i64 (i : Int)] 84)
  have T3 := at1 w2 (.cells #[.int .i64 (m : Int), .int .i64 (i : Int)] 84)
  have B23 := BE.out.trans (hb.mono BE.out.size)
  have S3 := Lib.hid (A0.out _ _ (B23.trans (B3.mono B23.size)) ((B3.block _ (by have := Bx.lt T1.out; have := hb.size; omega)).trans ((hb.block _ (Bx.lt T1.out)).trans T1.out)) T3)
  clear hb HA q0 q1 q2 T1 B3 T3 B23 BE A0
  simp only [lookV, plV]
  go_upto_region 2 with fail
  obtain ⟨b2, hb2⟩ : ∃ b2, b2 = w2.heap.size := ⟨_, rfl⟩
  rw [← hb2] at S3 ⊢
  clear hb2
  generalize w2.alloc (.cells #[.int .i64 (m : Int), .int .i64 (i : Int)] 84) = w3 at *
  obtain ⟨p0, p1⟩ := (Bx.b2 S3.out.plb).1
  obtain ⟨hc, ⟨z0, z1, z2, z3, z4, z5, z6, z7, z8, z9, z10⟩, ⟨x0, x1, x2, x3, x4, x5, x6, x7, x8, x9, x10⟩, ⟨f0, f1, f2, f3, f4, f5, f6, f7, f8, f9, f10⟩⟩ := RD0.out w3 b2 S3.out
  clear RD0
  go_upto_region 4 with fail
  go_quiet (fail)
  go_upto_region 6 with fail
  go_big_region
  have S4 := Lib.hid (A1.out _ b2 (S3.out.heap (V := w3.drewN (nq + 1)) rfl rfl rfl rfl))
  clear S3 p0 p1 hc z0 z1 z2 z3 z4 z5 z6 z7 z8 z9 z10 x0 x1 x2 x3 x4 x5 x6 x7 x8 x9 x10 f0 f1 f2 f3 f4 f5 f6 f7 f8 f9 f10 A1
  go_upto_region 7 with fail
  generalize ((((((((((((w3.drewN (nq + 1)).setCell ⟨g, o + i * 11, none⟩ (.int .i64 zs)).setCell ⟨g, o + i * 11 + 1, none⟩ (.int .i64 zi)).setCell ⟨g, o + i * 11 + 2, none⟩ (.int .i64 zg)).setCell ⟨g, o + i * 11 + 3, none⟩ (.int .i64 zm)).setCell ⟨g, o + i * 11 + 4, none⟩ (.int .i64 zx)).setCell ⟨g, o + i * 11 + 5, none⟩ (.int .i64 zy)).setCell ⟨g, o + i * 11 + 6, none⟩ (.int .i64 zvx)).setCell ⟨g, o + i * 11 + 7, none⟩ (.int .i64 zvy)).setCell ⟨g, o + i * 11 + 8, none⟩ (.int .i64 zh)).setCell ⟨g, o + i * 11 + 9, none⟩ (.int .i64 zp)).setCell ⟨g, o + i * 11 + 10, none⟩ (.int .i64 zl)) = w4 at *
  have SD := S4.out.drew
  have hplb : w4.drew.heap[b2]? = some (.cells #[.int .i64 (m : Int), .int .i64 (i : Int)] 84 (0, 0)) := SD.plb
  obtain ⟨p0, p1⟩ := (Bx.b2 hplb).1
  obtain ⟨hq, z0, z1, z2, z3, z4, z5, z6, z7, z8, z9, z10⟩ := RD1.out w4.drew b2 _ SD
  obtain ⟨V, hrun, S5⟩ := A2.out w4.drew b2 SD
  replace S5 := Lib.hid S5
  clear A2 SD S4 hplb RD1
  go_still_tail 10, (by kernel_rfl)
  change wpList _ _ _ _ _ w4.drew
  generalize w4.drew = w5 at *
  go_upto_region 8 with fail
  clear hrun p0 p1 hq z0 z1 z2 z3 z4 z5 z6 z7 z8 z9 z10
  have SD := S5.out.drew
  have hplb : V.drew.heap[b2]? = some (.cells #[.int .i64 (m : Int), .int .i64 (i : Int)] 84 (0, 0)) := SD.plb
  obtain ⟨p0, p1⟩ := (Bx.b2 hplb).1
  have cm : V.drew.cell? ⟨p, m, none⟩ = some (.slice (some ⟨g, o, none⟩) n c) := (Bx.cell SD.head hv.out).1
  have fm : V.drew.frozen? ⟨p, m, none⟩ = false := (Bx.cell SD.head hv.out).2
  have S6 := Lib.hid (A3.out V.drew b2 SD)
  clear A3 SD S5 hplb
  go_still_tail 9, (by kernel_rfl)
  change wpList _ _ _ _ _ V.drew
  generalize V.drew = w6 at *
  go_upto_region 9 with fail
  clear cm fm p0 p1
  generalize w6.setCell ⟨p, m, none⟩ (.slice (some ⟨g, o, none⟩) r c) = w7 at *
  have SD := S6.out.drew
  have hidb : w7.drew.heap[w.heap.size]? = some (.cells #[.int .i64 k1, .int .i64 k2, .int .i64 k3] 34 (0, 0)) := SD.idb
  obtain ⟨i0, i1, i2⟩ := (Bx.b3 hidb).1
  have hq : w7.drew.cell? ⟨p, 32, none⟩ = some (.map (some q)) := (Bx.cell SD.head SD.cell).1
  obtain ⟨V2, hdel, FIN⟩ := A4.out w7.drew b2 _ SD
  replace FIN := Lib.hid FIN
  have HD := Lib.hid hdel
  clear A4 SD S6 hidb hdel
  go_still_tail 5, (by kernel_rfl)
  change wpList _ _ _ _ _ w7.drew
  generalize w7.drew = w8 at *
  go_wp2_with (refine wpList_delete2 _ rfl (.tmp 57) (.tmp 58) _ _ rfl _ _ rfl rfl _ _ HD.out ?_)
  go_ret
  exact ⟨rfl, FIN.out⟩
theorem remove_any {F : Foot} {p : Nat} {t : Tb} {w : World} (h : CS F p t w) (k1 k2 k3 : Int) : Calls Try.prog 49 #[.pointer (some ⟨p, 0, none⟩), .agg #[.int .i64 k1, .int .i64 k2, .int .i64 k3]] w fun e w' => e = .returned (.bool (Ar.remove t (k1, k2, k3)).2) ∧ CS (Gr F w.heap.size w'.heap.size) p (Ar.remove t (k1, k2, k3)).1 w' ∧ Only F w w' := by
  unfold Ar.remove
  cases hf : Ar.find t (k1, k2, k3) with
  | none =>
    have := h.finds k1 k2 k3
    rw [hf] at this
    refine (remove_none this).mono ?_
    rintro e w' ⟨rfl, hb⟩
    exact ⟨rfl, (h.below hb).gr, .of_below hb⟩
  | some pr =>
    obtain ⟨m, i⟩ := pr
    exact remove_some h hf
theorem remove_nil (w : World) (k1 k2 k3 : Int) : Calls Try.prog 49 #[.pointer none, .agg #[.int .i64 k1, .int .i64 k2, .int .i64 k3]] w fun e w' => e = .returned (.bool false) ∧ Below w.heap.size w w' := remove_none (nil_finds w k1 k2 k3)
end Go.Proofs.Yteollbioeamciaa
