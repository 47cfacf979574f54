/- The law QueryEach, walked. Written by wip/tools/genquL10.py. -/
import Derived.Test.YtgmgenggboicnaaKQuF
import Derived.Test.YtgmgenggboicnaaKQuE
import Derived.Test.YtgmgenggboicnaaKQuEc
import Derived.Stop.RegionWithIn
import Derived.Sort.CutIn
import Derived.Lib.MinMax
namespace Go.Proofs.Ytgmgenggboicnaa
open Go.RowKit Go.Shelf Pz Ar Qu
set_option linter.unusedVariables false
set_option linter.unusedSimpArgs false

attribute [local go_sem] Oper.semAt_some
theorem withAct {F : Fence} {n : Nat} {P : Program} {c : Code} {Q : Exit → Act → World → Prop} {a : Act} {w : World} (h : ∀ a0, a0 = a → c.wpIn F n P Q a w) : c.wpIn F n P Q a w := h a rfl
theorem read_take {w : World} {A : Option Addr} {l : List Bn} (h : RdB w w.heap.size A l) (k : Nat) : RdB w w.heap.size A (l.take k) := fun j x hx => h j x (by
  by_cases hj : j < k
  · rwa [List.getElem?_take_of_lt hj] at hx
  · have := (List.getElem?_eq_some_iff.1 hx).1
    rw [List.length_take] at this
    omega)
/-- a row of one's own: whose addresses -/
theorem own_form {W : World} {B : Nat} {v : Value} {l : List Bn} (h : OwnB W B v l) : ∃ A c, v = .slice A l.length c ∧ (A = none ∨ ∃ g o, A = some ⟨g, o, none⟩) ∧ l.length ≤ c ∧ c ≤ 9223372036854775807 := by
  rcases h with ⟨e, e2⟩ | ⟨g, o, cap, cur, e, hB, hg, h3, h4, h5, h6⟩
  · exact ⟨none, 0, by rw [e, e2]; rfl, .inl rfl, by rw [e2]; exact Nat.le_refl _, by decide⟩
  · exact ⟨_, _, e, .inr ⟨g, o, rfl⟩, h3, h4⟩
abbrev KX (sb s : Nat) (v : Value) : List (Nat × Value × TypeId) := [(sb, .pointer (some ⟨s, 0, none⟩), PST), (sb + 1, v, LTY)]
/-- within a round: so many of one's row taken from the store -/
def EJ (w : World) (D gb s : Nat) (K : List (Nat × Value × TypeId)) (v : Value) (P pre : List Bn) (W' : World) (j : Nat) (V : World) : Prop :=
  ∃ Q, EI w D gb s K v P Q pre V ∧ (Q = P.drop j ∨ Q = []) ∧ KpM [gb, s] W' V ∧ V.heap[D]? = W'.heap[D]? ∧ V.heap[D + 1]? = W'.heap[D + 1]? ∧ D + 1 < V.heap.size
theorem EJ.step {w : World} {D gb s : Nat} {K : List (Nat × Value × TypeId)} {v : Value} {P pre : List Bn} {W' : World} {j : Nat} {V : World} (h : EJ w D gb s K v P pre W' j V) (hn : (P.map Bn.id).Nodup) {y : Bn} (hy : P[j]? = some y) :
    Calls Try.prog 23 #[.pointer (some ⟨s, 0, none⟩), .agg #[.int .i64 y.s, .int .i64 y.i, .int .i64 y.g]] V.drew fun e V2 => ∃ b, e = .returned (.bool b) ∧ EJ w D gb s K v P pre W' (j + 1) V2 := by
  obtain ⟨Q, hE, hQ, hk, e1, e2, hD⟩ := h
  have hb : Below V.heap.size V V.drew := (Below.refl _ _).drew
  have hj := (List.getElem?_eq_some_iff.1 hy).1
  have eD : P.drop j = y :: P.drop (j + 1) := by
    rw [List.drop_eq_getElem_cons hj]
    rw [List.getElem?_eq_getElem hj] at hy
    injection hy with hy
    rw [hy]
  have hny : ∀ z ∈ P.drop (j + 1), z.id ≠ y.id := fun z hz e => by
    have h1 : ((P.drop j).map Bn.id).Nodup := hn.sublist ((List.drop_sublist j P).map _)
    rw [eD, List.map_cons, List.nodup_cons] at h1
    exact h1.1 (by rw [← e]; exact List.mem_map.2 ⟨z, hz, rfl⟩)
  have fin : ∀ {Q'}, (Q' = P.drop (j + 1) ∨ Q' = []) → ∀ {V2}, EI w D gb s K v P Q' pre V2 → KpM [gb, s] V.drew V2 → V2.heap[D]? = V.drew.heap[D]? → V2.heap[D + 1]? = V.drew.heap[D + 1]? → V.drew.heap.size ≤ V2.heap.size → EJ w D gb s K v P pre W' (j + 1) V2 := fun hQ' V2 h1 h2 h3 h4 h5 =>
    ⟨_, h1, hQ', (hk.trans (KpM.of_below hE.rlt hb)).trans h2, h3.trans e1, h4.trans e2, Nat.lt_of_lt_of_le hD h5⟩
  rcases hQ with rfl | rfl
  · refine ((hE.below hb).rem (Q' := P.drop (j + 1)) hD y.s y.i y.g fun t ht => (by rw [eD] at ht; exact ht.gone hny)).mono ?_
    rintro e V2 ⟨⟨b, rfl⟩, h1, h2, h3, h4, h5⟩
    exact ⟨b, rfl, fin (.inl rfl) h1 h2 h3 h4 h5⟩
  · refine ((hE.below hb).rem (Q' := []) hD y.s y.i y.g fun t ht => ht.empty _).mono ?_
    rintro e V2 ⟨⟨b, rfl⟩, h1, h2, h3, h4, h5⟩
    exact ⟨b, rfl, fin (.inr rfl) h1 h2 h3 h4 h5⟩
set_option maxHeartbeats 16000000 in
set_option maxRecDepth 100000 in
theorem law_each (w : World) (A : Option Addr) (c : Nat) (l : List Bn) (hc : l.length ≤ c) (hcap : c ≤ 140737488351232) (R : RdB w w.heap.size A l) (q0 q1 : Int) (h0 : Fit q0) (h1 : Fit q1) (a : Int) :
    Calls Try.prog 12 #[.slice A l.length c, qV q0 q1, .int .i64 a] w fun e w' => e = .returned (.bool true) ∧ Below w.heap.size w w' := by
  have BE0 := bel1 w (.cells #[.int .i64 q0, .int .i64 q1] QTY)
  have T0 := at1 w (.cells #[.int .i64 q0, .int .i64 q1] QTY)
  have MD : Hid (∀ V, Below w.heap.size w V → Calls Try.prog 31 #[.slice A l.length c] V fun e W => ∃ (s : Nat) (P : List Bn) (A' : Option Addr) (c' : Nat), e = .returned (.tuple #[.pointer (some ⟨s, 0, none⟩), .slice A' P.length c']) ∧ Mk s P A' c' V W) := Lib.hid fun V hV => made_mk (c := c) ((R.below hV).more hV.size) (by omega)
  have AW := Lib.hid qawake_any
  have H0 := Lib.hid h0
  have EQF := fun b c V => eql_each 72 b c V
  have q1' := ymod_lo a (n := 70) (by decide)
  have q2 := ymod_is a (n := 70) (by decide)
  obtain ⟨k, hk⟩ : ∃ k : Nat, a % 70 = (k : Int) := ⟨(a % 70).toNat, by have := Int.emod_nonneg a (b := 70) (by decide); omega⟩
  have hk70 : k < 70 := by have := Int.emod_lt_of_pos a (b := 70) (by decide); omega
  rw [hk] at q2
  have s0 : IntKind.i64.wrap (a.tmod 70 + 70) = a.tmod 70 + 70 := IntWalk.i64_in _ ⟨by omega, by omega⟩
  clear R hc hcap h0 h1 q1' hk
  generalize l.length = n0 at *
  refine (callsIn_wide (n := 9)).1 ?_
  refine callsIn_of_wp_marks Try.func12 rfl trivial ?_ rfl
  simp only [Try.ntmps12, List.size_toArray, List.length_cons, List.length_nil, Nat.reduceAdd, Nat.reduceSub, Array.replicate_succ, Array.replicate_zero, List.push_toArray, List.append_toArray, List.nil_append, List.cons_append]
  refine wpIn_wide.2 ?_
  go_upto_region 1 with fail
  generalize w.alloc (.cells #[.int .i64 q0, .int .i64 q1] QTY) = w0 at *
  have BE1 := Lib.hid BE0
  have T1 := Lib.hid T0
  clear BE0 T0
  go_upto_region 3 with (go_at_call 30; refine (AW.out _).mono ?_; rintro e w1 ⟨rfl, b1⟩; have BE2 := Lib.hid (BE1.out.trans (b1.mono BE1.out.size)); have T2 := Lib.hid ((b1.block _ (Bx.lt T1.out)).trans T1.out); have MD2 := Lib.hid (MD.out _ BE2.out); clear MD BE1 T1 b1)
  go_upto_region 4 with (go_at_call 31; refine MD2.out.mono ?_; rintro e w2 ⟨s, P, A2, c2, rfl, hk⟩; have MK := Lib.hid hk; clear MD2 hk)
  have b23 := bel2 w2 (.cells #[.pointer (some ⟨s, 0, none⟩)] PST) (.cells #[.slice A2 P.length c2] LTY)
  have sbx := Lib.hid (at2a w2 (.cells #[.pointer (some ⟨s, 0, none⟩)] PST) (.cells #[.slice A2 P.length c2] LTY))
  have tbx := Lib.hid (at2b w2 (.cells #[.pointer (some ⟨s, 0, none⟩)] PST) (.cells #[.slice A2 P.length c2] LTY))
  generalize (w2.alloc (.cells #[.pointer (some ⟨s, 0, none⟩)] PST)).alloc (.cells #[.slice A2 P.length c2] LTY) = w3 at *
  have B23 := Lib.hid b23
  have qbx := Lib.hid ((b23.block _ (Bx.lt ((MK.out.bel.block _ (Bx.lt T2.out)).trans T2.out))).trans ((MK.out.bel.block _ (Bx.lt T2.out)).trans T2.out))
  have BE3 := Lib.hid (BE2.out.trans ((MK.out.bel.trans (b23.mono MK.out.bel.size)).mono BE2.out.size))
  have QB : Hid (∀ V, Below w3.heap.size w3 V → V.cell? ⟨w.heap.size, 0, none⟩ = some (.int .i64 q0) ∧ V.cell? ⟨w.heap.size, 1, none⟩ = some (.int .i64 q1) ∧ V.cell? ⟨w2.heap.size, 0, none⟩ = some (.pointer (some ⟨s, 0, none⟩)) ∧ V.cell? ⟨w2.heap.size + 1, 0, none⟩ = some (.slice A2 P.length c2)) := Lib.hid fun V hV => ⟨(Bx.b2 ((hV.block _ (Bx.lt qbx.out)).trans qbx.out)).1.1, (Bx.b2 ((hV.block _ (Bx.lt qbx.out)).trans qbx.out)).1.2, (Bx.b1 ((hV.block _ (Bx.lt sbx.out)).trans sbx.out)).1, (Bx.b1 ((hV.block _ (Bx.lt tbx.out)).trans tbx.out)).1⟩
  have hw1 := BE2.out.size
  clear b23 T2 BE2
  have SRC : Hid (∀ V, Below w3.heap.size w3 V → Src (.pointer (some ⟨s, 0, none⟩)) (all (addAll P)) V) := Lib.hid fun V hV => MK.out.src V (B23.out.trans (hV.mono B23.out.size))
  obtain ⟨G, hG⟩ : ∃ G, G = told q0 q1 yes P := ⟨_, rfl⟩
  have hsame : told q0 q1 yes (all (addAll P)) = G := by rw [hG]; exact told_same q0 q1 yes MK.out.apart.1 MK.out.apart.2.1 MK.out.apart.2.2
  have hfew : G.length ≤ 60 := by rw [hG]; exact Nat.le_trans (told_le _ _ _ _) MK.out.few
  have hPf := MK.out.few
  have C0 : Hid (Calls Try.prog 32 #[.slice A2 P.length c2, qV q0 q1] w3 fun e w' => ∃ v, e = .returned v ∧ OwnB w' w3.heap.size v G ∧ Below w3.heap.size w3 w') := Lib.hid (by
    rw [hG]
    refine (rof_any (MK.out.rd w3 B23.out) (Nat.le_trans MK.out.few (by decide)) MK.out.ok.may H0.out q1).mono ?_
    rintro e W ⟨A', c', rfl, h1, h2⟩
    exact ⟨_, rfl, h1, h2⟩)
  have HS := Lib.hid hsame
  obtain ⟨k0, k1, k2, k3⟩ := QB.out w3 (Below.refl _ _)
  clear hG hsame H0
  go_upto_region 5 with (go_at_call 32; refine C0.out.mono ?_; rintro e w4 ⟨v, rfl, o4', b4'⟩; have o4 := Lib.hid o4'; have B4 := Lib.hid b4'; clear C0 k0 k1 k2 k3 o4' b4')
  obtain ⟨A3, c3, hv, hA3, h3, h4⟩ := own_form o4.out
  subst hv
  go_upto_region 6 with fail
  clear s0 q2
  obtain ⟨L, hL⟩ : ∃ L, L = G.take k := ⟨_, rfl⟩
  have hlk : L.length = min k G.length := by rw [hL, List.length_take]
  have mn : min (k : Int) (G.length : Int) = (L.length : Int) := by omega
  have le1 : (L.length : Int) ≤ (c3 : Int) := by omega
  have le2 : L.length ≤ c3 := by omega
  have le3 : (0 : Int) ≤ (L.length : Int) := by omega
  have CA : Hid (∀ p : Lat grows w4, Calls Try.prog 38 #[.pointer (some ⟨s, 0, none⟩), qV q0 q1, .int .i64 (k : Int)] p.W fun e w' => ∃ v, e = .returned v ∧ grows.r p.W w' ∧ BnP L v w') := Lib.hid fun p => by
    have := bn_call (qall_any (fun V hV => SRC.out V ((B4.out.trans (p.h.mono B4.out.size)).trans (hV.mono (B4.out.trans (p.h.mono B4.out.size)).size))) q0 q1 k (by omega))
    rwa [HS.out, ← hL] at this
  have CS2 : Hid (∀ (p : Lat grows w4) v31, BnP L v31 p.W → Calls Try.prog 37 #[v31, .slice A3 L.length c3] p.W fun e w' => e = .returned (.bool true) ∧ grows.r p.W w') := Lib.hid fun p v31 h31 => by
    obtain ⟨A', c', rfl⟩ := Rw.form h31
    refine rsame_yes (RdB.of_own h31) ?_ (by omega)
    rw [hL]
    exact read_take (RdB.of_own (o4.out.below p.h)) k
  have e0 := fun p : Lat grows w4 => (QB.out p.W (B4.out.trans (p.h.mono B4.out.size))).1
  have e1 := fun p : Lat grows w4 => (QB.out p.W (B4.out.trans (p.h.mono B4.out.size))).2.1
  have e2 := fun p : Lat grows w4 => (QB.out p.W (B4.out.trans (p.h.mono B4.out.size))).2.2.1
  have KG : Hid (k < 70 ∧ L = G.take k) := Lib.hid ⟨hk70, hL⟩
  have CC : Hid ((A3 = none ∨ ∃ g o, A3 = some ⟨g, o, none⟩) ∧ G.length ≤ c3 ∧ c3 ≤ 9223372036854775807) := Lib.hid ⟨hA3, h3, h4⟩
  clear hL hlk hk70
  rcases hA3 with rfl | ⟨g3, o3, rfl⟩
  · refine Og.grow 12 (by kernel_rfl) (by kernel_rfl) fun hc hf => ?_
    clear hc hf
    simp only [List.take_succ_cons, List.take_zero, List.drop_succ_cons, List.drop_zero]
    iterate 3 (refine Og.det [] rfl (fun J hJ => ?_); go_simp; refine hJ _ _ ?_; clear hJ J)
    refine Og.such 31 (BnP L) [] rfl (bnP_lasts _) (bnP_noBool _) (fun J hJ => ?_)
    go_simp
    refine ⟨fun p => CA.out p, hJ _ _ ?_⟩
    clear hJ J
    iterate 6 (refine Og.det [] rfl (fun J hJ => ?_); go_simp; refine hJ _ _ ?_; clear hJ J)
    refine Og.det [(31, BnP L)] rfl (fun J hJ => ?_)
    go_simp
    refine ⟨.bool true, fun p v31 h31 => CS2.out p v31 h31, hJ _ _ ?_⟩
    clear hJ J
    (refine Og.det [] rfl (fun J hJ => ?_); go_simp; refine hJ _ _ ?_; clear hJ J)
    refine Og.fin fun W hW => ?_
    simp only [Og.opened_cons, Og.opened_nil]
    intro u31 hu31
    clear e0 e1 e2 mn le1 le2 le3 CA CS2 hu31
    have o5 := Lib.hid (o4.out.below hW)
    have B5 := Lib.hid (B4.out.trans (hW.mono B4.out.size))
    clear o4 B4
    obtain ⟨kk0, kk1, kk2, kk3⟩ := QB.out W B5.out
    go_upto_region 9 with fail
    have bg := bel1 W (.cells #[.slice none 0 0] LTY)
    have gbx := at1 W (.cells #[.slice none 0 0] LTY)
    have B6 := Lib.hid (B5.out.trans (bg.mono B5.out.size))
    have o6 := Lib.hid (o5.out.below bg)
    have hgz : W.heap.size < (W.alloc (.cells #[.slice none 0 0] LTY)).heap.size := by simp
    have hW5 : w3.heap.size ≤ W.heap.size := B5.out.size
    have EC := Lib.hid (each_call (W.alloc (.cells #[.slice none 0 0] LTY)) (Pv := .pointer (some ⟨s, 0, none⟩)) (.inr ⟨s, rfl⟩) q0 q1)
    generalize W.alloc (.cells #[.slice none 0 0] LTY) = w5 at *
    generalize W.heap.size = gb at *
    clear kk0 kk1 kk2 kk3 bg B5 o5 hW
    obtain ⟨k0, k1, k2, k3⟩ := QB.out w5 B6.out
    go_wp2_with (go_at_call 45; refine EC.out.mono ?_; rintro e w6 ⟨Pb, Qb, rfl, hP, hQ, be⟩; clear EC k0 k1 k2 k3)
    refine (wpIn_wide (n := 9)).1 ?_
    refine withAct fun a0 ha0 => ?_
    have hs6 := be.size
    have B36 := B6.out.trans (be.mono B6.out.size)
    have B26 := B23.out.trans (B36.mono B23.out.size)
    have BW := BE3.out.trans (B36.mono BE3.out.size)
    have gb6 := (be.block _ (Bx.lt gbx)).trans gbx
    have sb6 := (B36.block _ (Bx.lt sbx.out)).trans sbx.out
    have tb6 := (B36.block _ (Bx.lt tbx.out)).trans tbx.out
    have h23 := Bx.lt tbx.out
    have hw3 := BE3.out.size
    obtain ⟨_, F, hC, hF, hown, hnF⟩ := MK.out.own
    obtain ⟨hN, hNF⟩ := (hC.below B26).narrow
    have hFl : ∀ b, Mine [s] w6 b → b < w2.heap.size := fun b hb => hC.lt b (hNF b hb)
    have hnil : ∀ (u : Value) (g : Nat), w6.heap[gb]? = some (.cells #[u] LTY (0, 0)) → u.ownBlock ≠ some g ∧ u ≠ .map (some g) := fun u g hu => by
      rw [gb6] at hu
      injection hu with hu
      injection hu with hu
      injection hu with hu
      injection hu with hu
      subst hu
      exact ⟨fun h => (by cases h), fun h => (by cases h)⟩
    have hE0 : EI w w6.heap.size gb s (KX w2.heap.size s (.slice A2 P.length c2)) (.slice A2 P.length c2) P P [] w6 := by
      refine ⟨⟨BW, by omega, ⟨_, gb6, .inl ⟨rfl, rfl⟩⟩, fun x hx => ?_⟩, ⟨_, hN, addAll_good MK.out.ok, all_addAll MK.out.ok, total_addAll MK.out.ok.may⟩, fun b hb => ?_, (hown.below B26).base (Nat.zero_le _), fun u g hu hg => absurd hg (hnil u g hu).1⟩
      · rcases List.mem_cons.1 hx with rfl | hx
        · exact ⟨sb6, (by decide : PST ≠ BTY), by show w2.heap.size ≠ gb; omega⟩
        · rw [List.mem_singleton] at hx
          subst hx
          exact ⟨tb6, (by decide : LTY ≠ BTY), by show w2.heap.size + 1 ≠ gb; omega⟩
      · have g1 := hFl b hb
        have g2 := hF b (hNF b hb)
        refine ⟨by omega, by omega, fun x hx e => ?_, fun u hu => (hnil u b hu).1, fun e => hnF b e (hNF b hb), by omega, by omega⟩
        rcases List.mem_cons.1 hx with rfl | hx
        · have e' : w2.heap.size = b := e
          omega
        · rw [List.mem_singleton] at hx
          subst hx
          have e' : w2.heap.size + 1 = b := e
          omega
    have own6 := o6.out.below be
    have gone : ∀ b, Mine [gb] w6 b → b = gb := fun b hb => by
      rcases hb with h | ⟨r', f0, cs, T, u, f1, f2, f3⟩
      · exact List.mem_singleton.1 h
      · rw [List.mem_singleton] at f0
        subst f0
        rw [gb6] at f1
        injection f1 with f1
        injection f1 with f1
        subst f1
        rw [Array.mem_singleton] at f2
        subst f2
        rcases f3 with f3 | f3 <;> cases f3
    have hRW0 : RowM [gb, s] 0 (.slice none G.length c3) G w6 := ⟨own6.base (Nat.zero_le _), fun g hg hm => by
      obtain ⟨r, hr, hm1⟩ := hm.one
      obtain ⟨f1, cur, f2⟩ := own6.blk hg
      rcases List.mem_cons.1 hr with rfl | hr
      · exact Bx.ne_type f2 gb6 (by decide) (gone g hm1)
      · rw [List.mem_singleton] at hr
        subst hr
        have := hFl g hm1
        omega, hE0.rlt⟩
    have hR : ∀ b, Mine [gb, s] w6 b → b < w6.heap.size := fun b hb => by
      obtain ⟨r, hr, hm1⟩ := hb.one
      rcases List.mem_cons.1 hr with rfl | hr
      · rw [gone b hm1]; exact hE0.glt
      · rw [List.mem_singleton] at hr
        subst hr
        have := hFl b hm1
        omega
    have HSEQ := each_seq (fun V hV => SRC.out V (B36.trans (hV.mono B36.size))) hP hQ hR 8 (by omega) (q0 := q0) (q1 := q1)
    rw [HS.out] at HSEQ
    have HN := Lib.hid MK.out.ok.apart
    have hgl := hE0.glt
    have hsl := hE0.slt
    have hW3 : ∀ {k : Nat} {A : World}, Rg.Turn w6.heap.size A k → (k = w6.heap.size ∨ k = w6.heap.size + 1) ∧ ∃ o, A.heap[k]? = some o ∧ o.isCells = false := fun {k A} h => ⟨h.1, by obtain ⟨o, h1, h2, _⟩ := h.2; exact ⟨o, h1, h2⟩⟩
    have hBW := BW.size
    clear hR hP hQ SRC HS MK hC hF hown hnF hN hNF hFl hnil gone own6 o6 B6 B23 B36 B26 sb6 tb6 gb6 gbx sbx tbx qbx be BE3 h23 hw3 QB KG CC h3 h4 hW5 hgz hs6 hw1
    refine Rg.range (w := w6) rfl (by omega) (gf := 72) (lb := #[.pointer (some ⟨Pb, 0, none⟩), .pointer (some ⟨Qb, 0, none⟩)]) rfl trivial (enters_of Try.func72 (by kernel_rfl) rfl) (encs := encB) (fun _ => rfl) (Kp := KpM [gb, s]) (full := G)
      (fun pre V => (∃ Q, EI w w6.heap.size gb s (KX w2.heap.size s (.slice A2 P.length c2)) (.slice A2 P.length c2) P Q pre V ∧ ((pre = [] ∧ Q = P) ∨ Q = [])) ∧ RowM [gb, s] 0 (.slice none G.length c3) G V) (fun _ _ _ => False)
      (fun x a' V => ∃ b, V.heap[b]? = some (.cells #[.int .i64 x.s, .int .i64 x.i, .int .i64 x.g, .int .i64 x.m, .int .i64 x.x, .int .i64 x.y, .int .i64 x.vx, .int .i64 x.vy, .int .i64 x.h, .int .i64 x.p, .int .i64 x.l] BTY (0, 0)) ∧ a' = (a0.put (some 46) x.val).put (some 12) (.pointer (some ⟨b, 0, none⟩)))
      (fun h k => h.trans k) (fun xs A B hI hb => KpM.of_below hI.2.lt hb) (fun A k o' hT => ?kp)
      (fun xs A B hI hb => ⟨?ib, hI.2.below hb⟩) (fun xs A k o' hT hI => ?ip) (fun c xs A k o' hT hX => hX) (fun x a' A k o' hT hA => ?ap) HSEQ ?assign ?body ⟨⟨P, hE0, .inl ⟨rfl, rfl⟩⟩, hRW0⟩ ?done ?stop
    case kp =>
      obtain ⟨g1, o, g2, g3⟩ := hW3 hT
      exact KpM.put g2 g3 (by simp only [List.mem_cons, List.not_mem_nil, or_false]; omega)
    case ib =>
      obtain ⟨⟨Q, hE, hq⟩, _⟩ := hI
      exact ⟨Q, hE.below hb, hq⟩
    case ip =>
      obtain ⟨g1, o, g2, g3⟩ := hW3 hT
      obtain ⟨⟨Q, hE, hq⟩, hr⟩ := hI
      exact ⟨⟨Q, hE.put g1 (by omega) g2 g3, hq⟩, hr.kept (KpM.put g2 g3 (by simp only [List.mem_cons, List.not_mem_nil, or_false]; omega))⟩
    case ap =>
      obtain ⟨g1, o, g2, g3⟩ := hW3 hT
      obtain ⟨b, e1, e2⟩ := hA
      exact ⟨b, cells_put e1 g2 g3, e2⟩
    case stop => exact fun c pre W h => h.elim
    case assign =>
      intro l x W K hK
      have HK := Lib.hid (hK ((a0.put (some 46) x.val).put (some 12) (.pointer (some ⟨W.heap.size, 0, none⟩))) _ (bel1 W (bobj x)) ⟨W.heap.size, at1 W (bobj x), rfl⟩)
      clear hK HSEQ hE0 hRW0 hW3
      subst ha0
      simp only [encB, Bn.val, bobj] at *
      gi_wp2
      exact HK.out
    case body =>
      rintro pre x W' a' ⟨⟨Q, hE, hq⟩, hr⟩ hpre ⟨bx, hbx, rfl⟩ ⟨rl, hl⟩ hd
      have hlt : pre.length < 100000 := by
        have h1 := hpre.length_le
        simp only [List.length_append, List.length_singleton] at h1
        omega
      obtain ⟨k0, k1, k2, k3, k4, k5, k6, k7, k8, k9, k10⟩ := (Bx.b11 hbx).1
      obtain ⟨A, c, kl, A', n', c', V, hrr, hc4, hf4, FIN⟩ := hE.add x hlt
      have EJ0 : Hid (EJ w w6.heap.size gb s (KX w2.heap.size s (.slice A2 P.length c2)) (.slice A2 P.length c2) P (pre ++ [x]) W' 0 (V.setCell ⟨gb, 0, none⟩ (.slice A' n' c'))) := Lib.hid ⟨Q, FIN.out.1, by
        rcases hq with ⟨_, rfl⟩ | rfl
        · exact .inl (by rw [List.drop_zero])
        · exact .inr rfl, FIN.out.2.1, FIN.out.2.2 _ _ hd rfl, FIN.out.2.2 _ _ hl rfl, by have g1 := FIN.out.2.1.1; have g2 := Bx.lt hl; omega⟩
      have HRW := Lib.hid hr
      have HR := Lib.hid hrr
      clear hE hq hr hpre hbx hl hd hrr FIN HSEQ hE0 hRW0 hW3 hlt
      subst ha0
      simp only [bobj, Bn.val] at *
      gi_upto_region 15 with (gi_at_builtin; refine wpListIn_append rfl (.tmp 47) (.tmp 49) _ _ rfl _ _ rfl rfl _ _ HR.out ?_)
      clear HR kl hc4 hf4 k0 k1 k2 k3 k4 k5 k6 k7 k8 k9 k10
      generalize V.setCell ⟨gb, 0, none⟩ (.slice A' n' c') = V1 at *
      gi_wp2
      gi_loopw [13] (fun ix wr => ∃ j : Nat, j ≤ P.length ∧ ix = .int .i64 j ∧ Hid (EJ w w6.heap.size gb s (KX w2.heap.size s (.slice A2 P.length c2)) (.slice A2 P.length c2) P (pre ++ [x]) W' j wr)) (fun ix _ => P.length - (intOf ix).toNat)
      case atStart => exact ⟨0, Nat.zero_le _, rfl, EJ0⟩
      case round =>
        obtain ⟨j, hj, rfl, HJ⟩ := hrel
        clear EJ0
        obtain ⟨Q', hE', -⟩ := HJ.out
        have ks := (Bx.b1 (hE'.acc.held _ (.head _)).1).1
        have kt := (Bx.b1 (hE'.acc.held _ (.tail _ (.head _))).1).1
        by_cases hjl : j < P.length
        · have t1 : (j : Int) < (P.length : Int) := by omega
          have hPi : (P.length : Int) ≤ 60 := by omega
          obtain ⟨y, hy⟩ : ∃ y, P[j]? = some y := ⟨_, List.getElem?_eq_getElem hjl⟩
          obtain ⟨g2, o2, hA2, _, ⟨y0, y1, y2, _⟩, _⟩ := own_at hE'.row hy
          subst hA2
          have ST := Lib.hid (HJ.out.step HN.out hy)
          clear HJ hE' hy HRW HN
          gi_upto_region 18 with fail
          gi_region_with (refine ⟨trivial, ?_⟩; gi_at_call 23; refine (CallsIn.inRound (w6.heap.size + 1) (callsIn_wide.2 ST.out)).mono ?_; rintro e V2 ⟨bv, rfl, HJ2⟩)
          all_goals
            gi_wp2
            go_roundw
            case rel => exact ⟨j + 1, by omega, by go_num, Lib.hid HJ2⟩
            case measure => simp [intOf]; omega
        · obtain rfl : j = P.length := by omega
          have t1 : ¬ (P.length : Int) < (P.length : Int) := by omega
          clear hE' Q'
          have FX : Hid (wr.heap[w6.heap.size]? = W'.heap[w6.heap.size]? ∧ wr.heap[w6.heap.size + 1]? = W'.heap[w6.heap.size + 1]? ∧ KpM [gb, s] W' wr ∧ (∃ Q, EI w w6.heap.size gb s (KX w2.heap.size s (.slice A2 P.length c2)) (.slice A2 P.length c2) P Q (pre ++ [x]) wr ∧ ((pre ++ [x] = [] ∧ Q = P) ∨ Q = [])) ∧ RowM [gb, s] 0 (.slice none G.length c3) G wr) := Lib.hid (by
            obtain ⟨Q', hE', hq, hk, g1, g2, _⟩ := HJ.out
            refine ⟨g1, g2, hk, ⟨Q', hE', .inr ?_⟩, HRW.out.kept hk⟩
            rcases hq with rfl | rfl
            · rw [List.drop_length]
            · rfl)
          clear HJ HRW HN
          gi_wp2
          exact FX.out
    case done =>
      rintro W' ⟨⟨Q, hE, hq⟩, hr⟩ hd
      obtain ⟨u, e1, e2⟩ := hE.acc.bl
      obtain ⟨A4, c4, hu, _, _, _⟩ := own_form e2
      subst hu
      have kl := (Bx.b1 e1).1
      have SM := Lib.hid (rsame_yes (c1 := c4) (c2 := c3) (RdB.of_own e2) (RdB.of_own hr.own) (by omega))
      have LN : Hid (G.length ≠ 0 → ∀ V, Below W'.heap.size W' V → Calls Try.prog 20 #[.pointer (some ⟨s, 0, none⟩)] V fun e U => e = .returned (.int .i64 0) ∧ V = U) := Lib.hid fun hne V hV => by
        rcases hq with ⟨h, _⟩ | rfl
        · exact absurd (by rw [h]; rfl) hne
        · obtain ⟨t, hs, hm⟩ := hE.sto
          have := len_any (hs.below hV)
          rw [hm.tot] at this
          exact this
      have KSB : Hid (∀ V, Below W'.heap.size W' V → V.cell? ⟨w2.heap.size, 0, none⟩ = some (.pointer (some ⟨s, 0, none⟩))) := Lib.hid fun V hV => (Bx.b1 ((hV.block _ (Bx.lt (hE.acc.held _ (.head _)).1)).trans (hE.acc.held _ (.head _)).1)).1
      have FINB : Hid (∀ V, Below W'.heap.size W' V → V.heap[w6.heap.size]? = some (.deferred (some [])) ∧ Below w.heap.size w (V.putObj w6.heap.size (.deferred none))) := Lib.hid fun V hV => ⟨(hV.block _ (Bx.lt hd)).trans hd, below_put (hE.acc.bel.trans (hV.mono hE.acc.bel.size)) (by omega)⟩
      clear hE hq hr hd e1 e2 HSEQ hE0 hRW0 hW3 ha0 HN
      by_cases hG0 : G.length = 0
      · have t1 : ((G.length : Int) == 0) = true := by rw [hG0]; rfl
        clear LN KSB
        generalize hGn : G.length = nG at *
        clear hGn
        subst hG0
        go_wp2_with (first
          | (go_at_call 37; refine SM.out.mono ?_; rintro e w7 ⟨rfl, b7⟩; clear SM)
          | (go_at_call 30; refine (AW.out _).mono ?_; rintro e w9 ⟨rfl, b9⟩; have b79 := b7.trans (b9.mono b7.size); clear AW))
        refine ⟨by simp, .inl ⟨_, _, rfl, run_takeDeferred (FINB.out _ b79).1, ?_⟩⟩
        exact ⟨_, results_tmp rfl _ _ _, rfl, (FINB.out _ b79).2⟩
      · have t1 : ((G.length : Int) == 0) = false := by rw [beq_eq_false_iff_ne]; omega
        have t2 : ((G.length : Int) = 0) = False := eq_false (by omega)
        have LN2 := Lib.hid (LN.out hG0)
        clear LN hG0
        generalize hGn : G.length = nG at *
        clear hGn
        go_wp2_with (first
          | (go_at_call 37; refine SM.out.mono ?_; rintro e w7 ⟨rfl, b7⟩; have k7 := KSB.out _ b7; clear SM)
          | (go_at_call 20; refine (LN2.out _ b7).mono ?_; rintro e w8 ⟨rfl, rfl⟩; clear LN2)
          | (go_at_call 30; refine (AW.out _).mono ?_; rintro e w9 ⟨rfl, b9⟩; have b79 := b7.trans (b9.mono b7.size); clear AW))
        refine ⟨by simp, .inl ⟨_, _, rfl, run_takeDeferred (FINB.out _ b79).1, ?_⟩⟩
        exact ⟨_, results_tmp rfl _ _ _, rfl, (FINB.out _ b79).2⟩
  · refine Og.grow 12 (by kernel_rfl) (by kernel_rfl) fun hc hf => ?_
    clear hc hf
    simp only [List.take_succ_cons, List.take_zero, List.drop_succ_cons, List.drop_zero]
    iterate 3 (refine Og.det [] rfl (fun J hJ => ?_); go_simp; refine hJ _ _ ?_; clear hJ J)
    refine Og.such 31 (BnP L) [] rfl (bnP_lasts _) (bnP_noBool _) (fun J hJ => ?_)
    go_simp
    refine ⟨fun p => CA.out p, hJ _ _ ?_⟩
    clear hJ J
    iterate 6 (refine Og.det [] rfl (fun J hJ => ?_); go_simp; refine hJ _ _ ?_; clear hJ J)
    refine Og.det [(31, BnP L)] rfl (fun J hJ => ?_)
    go_simp
    refine ⟨.bool true, fun p v31 h31 => CS2.out p v31 h31, hJ _ _ ?_⟩
    clear hJ J
    (refine Og.det [] rfl (fun J hJ => ?_); go_simp; refine hJ _ _ ?_; clear hJ J)
    refine Og.fin fun W hW => ?_
    simp only [Og.opened_cons, Og.opened_nil]
    intro u31 hu31
    clear e0 e1 e2 mn le1 le2 le3 CA CS2 hu31
    have o5 := Lib.hid (o4.out.below hW)
    have B5 := Lib.hid (B4.out.trans (hW.mono B4.out.size))
    clear o4 B4
    obtain ⟨kk0, kk1, kk2, kk3⟩ := QB.out W B5.out
    go_upto_region 9 with fail
    have bg := bel1 W (.cells #[.slice none 0 0] LTY)
    have gbx := at1 W (.cells #[.slice none 0 0] LTY)
    have B6 := Lib.hid (B5.out.trans (bg.mono B5.out.size))
    have o6 := Lib.hid (o5.out.below bg)
    have hgz : W.heap.size < (W.alloc (.cells #[.slice none 0 0] LTY)).heap.size := by simp
    have hW5 : w3.heap.size ≤ W.heap.size := B5.out.size
    have EC := Lib.hid (each_call (W.alloc (.cells #[.slice none 0 0] LTY)) (Pv := .pointer (some ⟨s, 0, none⟩)) (.inr ⟨s, rfl⟩) q0 q1)
    generalize W.alloc (.cells #[.slice none 0 0] LTY) = w5 at *
    generalize W.heap.size = gb at *
    clear kk0 kk1 kk2 kk3 bg B5 o5 hW
    obtain ⟨k0, k1, k2, k3⟩ := QB.out w5 B6.out
    go_wp2_with (go_at_call 45; refine EC.out.mono ?_; rintro e w6 ⟨Pb, Qb, rfl, hP, hQ, be⟩; clear EC k0 k1 k2 k3)
    refine (wpIn_wide (n := 9)).1 ?_
    refine withAct fun a0 ha0 => ?_
    have hs6 := be.size
    have B36 := B6.out.trans (be.mono B6.out.size)
    have B26 := B23.out.trans (B36.mono B23.out.size)
    have BW := BE3.out.trans (B36.mono BE3.out.size)
    have gb6 := (be.block _ (Bx.lt gbx)).trans gbx
    have sb6 := (B36.block _ (Bx.lt sbx.out)).trans sbx.out
    have tb6 := (B36.block _ (Bx.lt tbx.out)).trans tbx.out
    have h23 := Bx.lt tbx.out
    have hw3 := BE3.out.size
    obtain ⟨_, F, hC, hF, hown, hnF⟩ := MK.out.own
    obtain ⟨hN, hNF⟩ := (hC.below B26).narrow
    have hFl : ∀ b, Mine [s] w6 b → b < w2.heap.size := fun b hb => hC.lt b (hNF b hb)
    have hnil : ∀ (u : Value) (g : Nat), w6.heap[gb]? = some (.cells #[u] LTY (0, 0)) → u.ownBlock ≠ some g ∧ u ≠ .map (some g) := fun u g hu => by
      rw [gb6] at hu
      injection hu with hu
      injection hu with hu
      injection hu with hu
      injection hu with hu
      subst hu
      exact ⟨fun h => (by cases h), fun h => (by cases h)⟩
    have hE0 : EI w w6.heap.size gb s (KX w2.heap.size s (.slice A2 P.length c2)) (.slice A2 P.length c2) P P [] w6 := by
      refine ⟨⟨BW, by omega, ⟨_, gb6, .inl ⟨rfl, rfl⟩⟩, fun x hx => ?_⟩, ⟨_, hN, addAll_good MK.out.ok, all_addAll MK.out.ok, total_addAll MK.out.ok.may⟩, fun b hb => ?_, (hown.below B26).base (Nat.zero_le _), fun u g hu hg => absurd hg (hnil u g hu).1⟩
      · rcases List.mem_cons.1 hx with rfl | hx
        · exact ⟨sb6, (by decide : PST ≠ BTY), by show w2.heap.size ≠ gb; omega⟩
        · rw [List.mem_singleton] at hx
          subst hx
          exact ⟨tb6, (by decide : LTY ≠ BTY), by show w2.heap.size + 1 ≠ gb; omega⟩
      · have g1 := hFl b hb
        have g2 := hF b (hNF b hb)
        refine ⟨by omega, by omega, fun x hx e => ?_, fun u hu => (hnil u b hu).1, fun e => hnF b e (hNF b hb), by omega, by omega⟩
        rcases List.mem_cons.1 hx with rfl | hx
        · have e' : w2.heap.size = b := e
          omega
        · rw [List.mem_singleton] at hx
          subst hx
          have e' : w2.heap.size + 1 = b := e
          omega
    have own6 := o6.out.below be
    have gone : ∀ b, Mine [gb] w6 b → b = gb := fun b hb => by
      rcases hb with h | ⟨r', f0, cs, T, u, f1, f2, f3⟩
      · exact List.mem_singleton.1 h
      · rw [List.mem_singleton] at f0
        subst f0
        rw [gb6] at f1
        injection f1 with f1
        injection f1 with f1
        subst f1
        rw [Array.mem_singleton] at f2
        subst f2
        rcases f3 with f3 | f3 <;> cases f3
    have hRW0 : RowM [gb, s] 0 (.slice (some ⟨g3, o3, none⟩) G.length c3) G w6 := ⟨own6.base (Nat.zero_le _), fun g hg hm => by
      obtain ⟨r, hr, hm1⟩ := hm.one
      obtain ⟨f1, cur, f2⟩ := own6.blk hg
      rcases List.mem_cons.1 hr with rfl | hr
      · exact Bx.ne_type f2 gb6 (by decide) (gone g hm1)
      · rw [List.mem_singleton] at hr
        subst hr
        have := hFl g hm1
        omega, hE0.rlt⟩
    have hR : ∀ b, Mine [gb, s] w6 b → b < w6.heap.size := fun b hb => by
      obtain ⟨r, hr, hm1⟩ := hb.one
      rcases List.mem_cons.1 hr with rfl | hr
      · rw [gone b hm1]; exact hE0.glt
      · rw [List.mem_singleton] at hr
        subst hr
        have := hFl b hm1
        omega
    have HSEQ := each_seq (fun V hV => SRC.out V (B36.trans (hV.mono B36.size))) hP hQ hR 8 (by omega) (q0 := q0) (q1 := q1)
    rw [HS.out] at HSEQ
    have HN := Lib.hid MK.out.ok.apart
    have hgl := hE0.glt
    have hsl := hE0.slt
    have hW3 : ∀ {k : Nat} {A : World}, Rg.Turn w6.heap.size A k → (k = w6.heap.size ∨ k = w6.heap.size + 1) ∧ ∃ o, A.heap[k]? = some o ∧ o.isCells = false := fun {k A} h => ⟨h.1, by obtain ⟨o, h1, h2, _⟩ := h.2; exact ⟨o, h1, h2⟩⟩
    have hBW := BW.size
    clear hR hP hQ SRC HS MK hC hF hown hnF hN hNF hFl hnil gone own6 o6 B6 B23 B36 B26 sb6 tb6 gb6 gbx sbx tbx qbx be BE3 h23 hw3 QB KG CC h3 h4 hW5 hgz hs6 hw1
    refine Rg.range (w := w6) rfl (by omega) (gf := 72) (lb := #[.pointer (some ⟨Pb, 0, none⟩), .pointer (some ⟨Qb, 0, none⟩)]) rfl trivial (enters_of Try.func72 (by kernel_rfl) rfl) (encs := encB) (fun _ => rfl) (Kp := KpM [gb, s]) (full := G)
      (fun pre V => (∃ Q, EI w w6.heap.size gb s (KX w2.heap.size s (.slice A2 P.length c2)) (.slice A2 P.length c2) P Q pre V ∧ ((pre = [] ∧ Q = P) ∨ Q = [])) ∧ RowM [gb, s] 0 (.slice (some ⟨g3, o3, none⟩) G.length c3) G V) (fun _ _ _ => False)
      (fun x a' V => ∃ b, V.heap[b]? = some (.cells #[.int .i64 x.s, .int .i64 x.i, .int .i64 x.g, .int .i64 x.m, .int .i64 x.x, .int .i64 x.y, .int .i64 x.vx, .int .i64 x.vy, .int .i64 x.h, .int .i64 x.p, .int .i64 x.l] BTY (0, 0)) ∧ a' = (a0.put (some 46) x.val).put (some 12) (.pointer (some ⟨b, 0, none⟩)))
      (fun h k => h.trans k) (fun xs A B hI hb => KpM.of_below hI.2.lt hb) (fun A k o' hT => ?kp)
      (fun xs A B hI hb => ⟨?ib, hI.2.below hb⟩) (fun xs A k o' hT hI => ?ip) (fun c xs A k o' hT hX => hX) (fun x a' A k o' hT hA => ?ap) HSEQ ?assign ?body ⟨⟨P, hE0, .inl ⟨rfl, rfl⟩⟩, hRW0⟩ ?done ?stop
    case kp =>
      obtain ⟨g1, o, g2, g3⟩ := hW3 hT
      exact KpM.put g2 g3 (by simp only [List.mem_cons, List.not_mem_nil, or_false]; omega)
    case ib =>
      obtain ⟨⟨Q, hE, hq⟩, _⟩ := hI
      exact ⟨Q, hE.below hb, hq⟩
    case ip =>
      obtain ⟨g1, o, g2, g3⟩ := hW3 hT
      obtain ⟨⟨Q, hE, hq⟩, hr⟩ := hI
      exact ⟨⟨Q, hE.put g1 (by omega) g2 g3, hq⟩, hr.kept (KpM.put g2 g3 (by simp only [List.mem_cons, List.not_mem_nil, or_false]; omega))⟩
    case ap =>
      obtain ⟨g1, o, g2, g3⟩ := hW3 hT
      obtain ⟨b, e1, e2⟩ := hA
      exact ⟨b, cells_put e1 g2 g3, e2⟩
    case stop => exact fun c pre W h => h.elim
    case assign =>
      intro l x W K hK
      have HK := Lib.hid (hK ((a0.put (some 46) x.val).put (some 12) (.pointer (some ⟨W.heap.size, 0, none⟩))) _ (bel1 W (bobj x)) ⟨W.heap.size, at1 W (bobj x), rfl⟩)
      clear hK HSEQ hE0 hRW0 hW3
      subst ha0
      simp only [encB, Bn.val, bobj] at *
      gi_wp2
      exact HK.out
    case body =>
      rintro pre x W' a' ⟨⟨Q, hE, hq⟩, hr⟩ hpre ⟨bx, hbx, rfl⟩ ⟨rl, hl⟩ hd
      have hlt : pre.length < 100000 := by
        have h1 := hpre.length_le
        simp only [List.length_append, List.length_singleton] at h1
        omega
      obtain ⟨k0, k1, k2, k3, k4, k5, k6, k7, k8, k9, k10⟩ := (Bx.b11 hbx).1
      obtain ⟨A, c, kl, A', n', c', V, hrr, hc4, hf4, FIN⟩ := hE.add x hlt
      have EJ0 : Hid (EJ w w6.heap.size gb s (KX w2.heap.size s (.slice A2 P.length c2)) (.slice A2 P.length c2) P (pre ++ [x]) W' 0 (V.setCell ⟨gb, 0, none⟩ (.slice A' n' c'))) := Lib.hid ⟨Q, FIN.out.1, by
        rcases hq with ⟨_, rfl⟩ | rfl
        · exact .inl (by rw [List.drop_zero])
        · exact .inr rfl, FIN.out.2.1, FIN.out.2.2 _ _ hd rfl, FIN.out.2.2 _ _ hl rfl, by have g1 := FIN.out.2.1.1; have g2 := Bx.lt hl; omega⟩
      have HRW := Lib.hid hr
      have HR := Lib.hid hrr
      clear hE hq hr hpre hbx hl hd hrr FIN HSEQ hE0 hRW0 hW3 hlt
      subst ha0
      simp only [bobj, Bn.val] at *
      gi_upto_region 15 with (gi_at_builtin; refine wpListIn_append rfl (.tmp 47) (.tmp 49) _ _ rfl _ _ rfl rfl _ _ HR.out ?_)
      clear HR kl hc4 hf4 k0 k1 k2 k3 k4 k5 k6 k7 k8 k9 k10
      generalize V.setCell ⟨gb, 0, none⟩ (.slice A' n' c') = V1 at *
      gi_wp2
      gi_loopw [13] (fun ix wr => ∃ j : Nat, j ≤ P.length ∧ ix = .int .i64 j ∧ Hid (EJ w w6.heap.size gb s (KX w2.heap.size s (.slice A2 P.length c2)) (.slice A2 P.length c2) P (pre ++ [x]) W' j wr)) (fun ix _ => P.length - (intOf ix).toNat)
      case atStart => exact ⟨0, Nat.zero_le _, rfl, EJ0⟩
      case round =>
        obtain ⟨j, hj, rfl, HJ⟩ := hrel
        clear EJ0
        obtain ⟨Q', hE', -⟩ := HJ.out
        have ks := (Bx.b1 (hE'.acc.held _ (.head _)).1).1
        have kt := (Bx.b1 (hE'.acc.held _ (.tail _ (.head _))).1).1
        by_cases hjl : j < P.length
        · have t1 : (j : Int) < (P.length : Int) := by omega
          have hPi : (P.length : Int) ≤ 60 := by omega
          obtain ⟨y, hy⟩ : ∃ y, P[j]? = some y := ⟨_, List.getElem?_eq_getElem hjl⟩
          obtain ⟨g2, o2, hA2, _, ⟨y0, y1, y2, _⟩, _⟩ := own_at hE'.row hy
          subst hA2
          have ST := Lib.hid (HJ.out.step HN.out hy)
          clear HJ hE' hy HRW HN
          gi_upto_region 18 with fail
          gi_region_with (refine ⟨trivial, ?_⟩; gi_at_call 23; refine (CallsIn.inRound (w6.heap.size + 1) (callsIn_wide.2 ST.out)).mono ?_; rintro e V2 ⟨bv, rfl, HJ2⟩)
          all_goals
            gi_wp2
            go_roundw
            case rel => exact ⟨j + 1, by omega, by go_num, Lib.hid HJ2⟩
            case measure => simp [intOf]; omega
        · obtain rfl : j = P.length := by omega
          have t1 : ¬ (P.length : Int) < (P.length : Int) := by omega
          clear hE' Q'
          have FX : Hid (wr.heap[w6.heap.size]? = W'.heap[w6.heap.size]? ∧ wr.heap[w6.heap.size + 1]? = W'.heap[w6.heap.size + 1]? ∧ KpM [gb, s] W' wr ∧ (∃ Q, EI w w6.heap.size gb s (KX w2.heap.size s (.slice A2 P.length c2)) (.slice A2 P.length c2) P Q (pre ++ [x]) wr ∧ ((pre ++ [x] = [] ∧ Q = P) ∨ Q = [])) ∧ RowM [gb, s] 0 (.slice (some ⟨g3, o3, none⟩) G.length c3) G wr) := Lib.hid (by
            obtain ⟨Q', hE', hq, hk, g1, g2, _⟩ := HJ.out
            refine ⟨g1, g2, hk, ⟨Q', hE', .inr ?_⟩, HRW.out.kept hk⟩
            rcases hq with rfl | rfl
            · rw [List.drop_length]
            · rfl)
          clear HJ HRW HN
          gi_wp2
          exact FX.out
    case done =>
      rintro W' ⟨⟨Q, hE, hq⟩, hr⟩ hd
      obtain ⟨u, e1, e2⟩ := hE.acc.bl
      obtain ⟨A4, c4, hu, _, _, _⟩ := own_form e2
      subst hu
      have kl := (Bx.b1 e1).1
      have SM := Lib.hid (rsame_yes (c1 := c4) (c2 := c3) (RdB.of_own e2) (RdB.of_own hr.own) (by omega))
      have LN : Hid (G.length ≠ 0 → ∀ V, Below W'.heap.size W' V → Calls Try.prog 20 #[.pointer (some ⟨s, 0, none⟩)] V fun e U => e = .returned (.int .i64 0) ∧ V = U) := Lib.hid fun hne V hV => by
        rcases hq with ⟨h, _⟩ | rfl
        · exact absurd (by rw [h]; rfl) hne
        · obtain ⟨t, hs, hm⟩ := hE.sto
          have := len_any (hs.below hV)
          rw [hm.tot] at this
          exact this
      have KSB : Hid (∀ V, Below W'.heap.size W' V → V.cell? ⟨w2.heap.size, 0, none⟩ = some (.pointer (some ⟨s, 0, none⟩))) := Lib.hid fun V hV => (Bx.b1 ((hV.block _ (Bx.lt (hE.acc.held _ (.head _)).1)).trans (hE.acc.held _ (.head _)).1)).1
      have FINB : Hid (∀ V, Below W'.heap.size W' V → V.heap[w6.heap.size]? = some (.deferred (some [])) ∧ Below w.heap.size w (V.putObj w6.heap.size (.deferred none))) := Lib.hid fun V hV => ⟨(hV.block _ (Bx.lt hd)).trans hd, below_put (hE.acc.bel.trans (hV.mono hE.acc.bel.size)) (by omega)⟩
      clear hE hq hr hd e1 e2 HSEQ hE0 hRW0 hW3 ha0 HN
      by_cases hG0 : G.length = 0
      · have t1 : ((G.length : Int) == 0) = true := by rw [hG0]; rfl
        clear LN KSB
        generalize hGn : G.length = nG at *
        clear hGn
        subst hG0
        go_wp2_with (first
          | (go_at_call 37; refine SM.out.mono ?_; rintro e w7 ⟨rfl, b7⟩; clear SM)
          | (go_at_call 30; refine (AW.out _).mono ?_; rintro e w9 ⟨rfl, b9⟩; have b79 := b7.trans (b9.mono b7.size); clear AW))
        refine ⟨by simp, .inl ⟨_, _, rfl, run_takeDeferred (FINB.out _ b79).1, ?_⟩⟩
        exact ⟨_, results_tmp rfl _ _ _, rfl, (FINB.out _ b79).2⟩
      · have t1 : ((G.length : Int) == 0) = false := by rw [beq_eq_false_iff_ne]; omega
        have t2 : ((G.length : Int) = 0) = False := eq_false (by omega)
        have LN2 := Lib.hid (LN.out hG0)
        clear LN hG0
        generalize hGn : G.length = nG at *
        clear hGn
        go_wp2_with (first
          | (go_at_call 37; refine SM.out.mono ?_; rintro e w7 ⟨rfl, b7⟩; have k7 := KSB.out _ b7; clear SM)
          | (go_at_call 20; refine (LN2.out _ b7).mono ?_; rintro e w8 ⟨rfl, rfl⟩; clear LN2)
          | (go_at_call 30; refine (AW.out _).mono ?_; rintro e w9 ⟨rfl, b9⟩; have b79 := b7.trans (b9.mono b7.size); clear AW))
        refine ⟨by simp, .inl ⟨_, _, rfl, run_takeDeferred (FINB.out _ b79).1, ?_⟩⟩
        exact ⟨_, results_tmp rfl _ _ _, rfl, (FINB.out _ b79).2⟩
end Go.Proofs.Ytgmgenggboicnaa
