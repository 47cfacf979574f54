/- A function that compares entities by a key; the one that sorts by names. Written by wip/tools/genso.py. The code's Find. Written out of wip/parts. -/
import Derived.Test.YtljaahemlcaffaaGreatK11
import Derived.Shelf.Abstract
import Derived.Test.YtljaahemlcaffaaGreatK08
import Derived.Test.YtljaahemlcaffaaGreatK02
import Derived.Test.YtljaahemlcaffaaGreatK04
import Derived.Deep.DeepCutAuto
namespace Go.Proofs.YtljaahemlcaffaaGreat
open Go.RowKit Pz Go.Shelf
set_option linter.unusedVariables false

namespace Pz
theorem cmpB_cases (a b : K3) : (before a b = true ∧ cmpB a b = -1) ∨ (before b a = true ∧ cmpB a b = 1) ∨ (a = b ∧ cmpB a b = 0) := by
  obtain ⟨a1, a2, a3⟩ := a
  obtain ⟨b1, b2, b3⟩ := b
  rw [before_iff, before_iff]
  unfold cmpB orI cmpI
  simp only
  by_cases h1 : a1 < b1
  · refine .inl ⟨.inl h1, ?_⟩
    rw [if_pos h1]; rfl
  · by_cases h2 : a1 > b1
    · refine .inr (.inl ⟨.inl h2, ?_⟩)
      rw [if_neg h1, if_pos h2]; rfl
    · have e1 : a1 = b1 := by omega
      subst e1
      by_cases h3 : a2 < b2
      · refine .inl ⟨.inr ⟨rfl, .inl h3⟩, ?_⟩
        rw [if_neg h1, if_neg h2, if_pos h3]; rfl
      · by_cases h4 : a2 > b2
        · refine .inr (.inl ⟨.inr ⟨rfl, .inl h4⟩, ?_⟩)
          rw [if_neg h1, if_neg h2, if_neg h3, if_pos h4]; rfl
        · have e2 : a2 = b2 := by omega
          subst e2
          by_cases h5 : a3 < b3
          · refine .inl ⟨.inr ⟨rfl, .inr ⟨rfl, h5⟩⟩, ?_⟩
            rw [if_neg h1, if_neg h2, if_neg h3, if_neg h4, if_pos h5]; rfl
          · by_cases h6 : a3 > b3
            · refine .inr (.inl ⟨.inr ⟨rfl, .inr ⟨rfl, h6⟩⟩, ?_⟩)
              rw [if_neg h1, if_neg h2, if_neg h3, if_neg h4, if_neg h5, if_pos h6]; rfl
            · have e3 : a3 = b3 := by omega
              subst e3
              refine .inr (.inr ⟨rfl, ?_⟩)
              rw [if_neg h1, if_neg h2, if_neg h3, if_neg h4, if_neg h5, if_neg h6]; rfl
theorem cmp_lt (a b : K3) : decide (cmpB a b < 0) = before a b := by
  rcases cmpB_cases a b with ⟨h, e⟩ | ⟨h, e⟩ | ⟨h, e⟩
  · rw [e, h]; rfl
  · rw [e, before_asym h]; rfl
  · rw [e, h, before_irr]; rfl
theorem cmp_ge (a b : K3) : decide (cmpB a b ≥ 0) = !before a b := by
  rcases cmpB_cases a b with ⟨h, e⟩ | ⟨h, e⟩ | ⟨h, e⟩
  · rw [e, h]; rfl
  · rw [e, before_asym h]; rfl
  · rw [e, h, before_irr]; rfl
end Pz
/-- a function that compares by a key, as long as what lies below a bound stays -/
structure CmpAt (κ : Bn → K3) (fn : Nat) (cap : Array Value) (B : Nat) (w : World) : Prop where
  ent : ∀ args W, (callFunc fn args).run Tryz.prog W = .ok (.enter fn args) W
  less : ∀ (x y : Bn) (W : World), Below B w W → Calls Tryz.prog fn (#[x.val, y.val] ++ cap) W fun e w' => e = .returned (.int .i64 (cmpB (κ x) (κ y))) ∧ Below W.heap.size W w'
theorem CmpAt.below {κ : Bn → K3} {fn : Nat} {cap : Array Value} {B : Nat} {w W : World} (h : CmpAt κ fn cap B w) (hb : Below B w W) : CmpAt κ fn cap B W :=
  ⟨h.ent, fun x y V hV => h.less x y V (hb.trans hV)⟩
theorem enters42 : ∀ args w, (callFunc 61 args).run Tryz.prog w = .ok (.enter 61 args) w := enters_of Tryz.func61 (by kernel_rfl) rfl
set_option maxHeartbeats 16000000 in
set_option maxRecDepth 100000 in
/-- the comparison that sorts -/
theorem less_any (b c : Bn) (w : World) : Calls Tryz.prog 61 #[b.val, c.val] w fun e w' => e = .returned (.int .i64 (cmpB b.id c.id)) ∧ Below w.heap.size w w' := by
  have C1 : Hid (∀ W, Calls Tryz.prog 62 #[.agg #[.int .i64 b.s, .int .i64 b.i, .int .i64 b.g], .agg #[.int .i64 c.s, .int .i64 c.i, .int .i64 c.g]] W fun e w' => e = .returned (.int .i64 (cmpB b.id c.id)) ∧ Below W.heap.size W w') := Lib.hid fun W => compare_any _ _ _ _ _ _ W
  generalize cmpB b.id c.id = r at *
  obtain ⟨ubs, ubi, ubg, ubm, ubx, uby, ubvx, ubvy, ubh, ubp, ubl⟩ := b
  obtain ⟨ucs, uci, ucg, ucm, ucx, ucy, ucvx, ucvy, uch, ucp, ucl⟩ := c
  simp only [Bn.val] at *
  have FIN := Lib.hid (bel2 w (.cells #[.int .i64 ubs, .int .i64 ubi, .int .i64 ubg, .int .i64 ubm, .int .i64 ubx, .int .i64 uby, .int .i64 ubvx, .int .i64 ubvy, .int .i64 ubh, .int .i64 ubp, .int .i64 ubl] 42) (.cells #[.int .i64 ucs, .int .i64 uci, .int .i64 ucg, .int .i64 ucm, .int .i64 ucx, .int .i64 ucy, .int .i64 ucvx, .int .i64 ucvy, .int .i64 uch, .int .i64 ucp, .int .i64 ucl] 42))
  obtain ⟨⟨k0, k1, k2, _⟩, _⟩ := Bx.b11 (at2a w (.cells #[.int .i64 ubs, .int .i64 ubi, .int .i64 ubg, .int .i64 ubm, .int .i64 ubx, .int .i64 uby, .int .i64 ubvx, .int .i64 ubvy, .int .i64 ubh, .int .i64 ubp, .int .i64 ubl] 42) (.cells #[.int .i64 ucs, .int .i64 uci, .int .i64 ucg, .int .i64 ucm, .int .i64 ucx, .int .i64 ucy, .int .i64 ucvx, .int .i64 ucvy, .int .i64 uch, .int .i64 ucp, .int .i64 ucl] 42))
  obtain ⟨⟨m0, m1, m2, _⟩, _⟩ := Bx.b11 (at2b w (.cells #[.int .i64 ubs, .int .i64 ubi, .int .i64 ubg, .int .i64 ubm, .int .i64 ubx, .int .i64 uby, .int .i64 ubvx, .int .i64 ubvy, .int .i64 ubh, .int .i64 ubp, .int .i64 ubl] 42) (.cells #[.int .i64 ucs, .int .i64 uci, .int .i64 ucg, .int .i64 ucm, .int .i64 ucx, .int .i64 ucy, .int .i64 ucvx, .int .i64 ucvy, .int .i64 uch, .int .i64 ucp, .int .i64 ucl] 42))
  generalize hww : (w.alloc (.cells #[.int .i64 ubs, .int .i64 ubi, .int .i64 ubg, .int .i64 ubm, .int .i64 ubx, .int .i64 uby, .int .i64 ubvx, .int .i64 ubvy, .int .i64 ubh, .int .i64 ubp, .int .i64 ubl] 42)).alloc (.cells #[.int .i64 ucs, .int .i64 uci, .int .i64 ucg, .int .i64 ucm, .int .i64 ucx, .int .i64 ucy, .int .i64 ucvx, .int .i64 ucvy, .int .i64 uch, .int .i64 ucp, .int .i64 ucl] 42) = w1 at *
  go_enter Tryz.func61, Tryz.ntmps61
  go_wp2_with (go_at_call 62; with_reducible refine (C1.out _).mono ?_; rintro e w' ⟨rfl, hb2⟩; replace FIN := Lib.hid (FIN.out.trans (hb2.mono FIN.out.size)))
  go_ret
  exact ⟨rfl, FIN.out⟩
theorem cmp_names (B : Nat) (w : World) : CmpAt Bn.id 61 #[] B w :=
  ⟨enters42, fun x y W _ => by simpa using less_any x y W⟩
end Go.Proofs.YtljaahemlcaffaaGreat
namespace Go.Proofs.YtljaahemlcaffaaGreat
open Go.RowKit Pz Go.Shelf
set_option linter.unusedVariables false

theorem enters44 : ∀ args w, (callFunc 110 args).run Tryz.prog w = .ok (.enter 110 args) w := enters_of Tryz.func110 (by kernel_rfl) rfl
set_option maxHeartbeats 16000000 in
set_option maxRecDepth 100000 in
/-- the test that finds -/
theorem finds_any (b : Bn) (s i g : Int) (q : Nat) (w : World) (h0 : w.cell? ⟨q, 0, none⟩ = some (.int .i64 s)) (h1 : w.cell? ⟨q, 1, none⟩ = some (.int .i64 i)) (h2 : w.cell? ⟨q, 2, none⟩ = some (.int .i64 g)) :
    Calls Tryz.prog 110 #[b.val, .pointer (some ⟨q, 0, none⟩)] w fun e w' => e = .returned (.bool (!before b.id (s, i, g))) ∧ Below w.heap.size w w' := by
  have C1 : Hid (∀ W, Calls Tryz.prog 62 #[.agg #[.int .i64 b.s, .int .i64 b.i, .int .i64 b.g], .agg #[.int .i64 s, .int .i64 i, .int .i64 g]] W fun e w' => e = .returned (.int .i64 (cmpB b.id (s, i, g))) ∧ Below W.heap.size W w') := Lib.hid fun W => compare_any _ _ _ _ _ _ W
  have E := cmp_ge b.id (s, i, g)
  generalize cmpB b.id (s, i, g) = r at *
  rw [← E]
  obtain ⟨t, ht⟩ : ∃ t, decide (r ≥ 0) = t := ⟨_, rfl⟩
  rw [ht]
  clear E
  obtain ⟨ubs, ubi, ubg, ubm, ubx, uby, ubvx, ubvy, ubh, ubp, ubl⟩ := b
  simp only [Bn.val] at *
  have FIN := Lib.hid (bel1 w (.cells #[.int .i64 ubs, .int .i64 ubi, .int .i64 ubg, .int .i64 ubm, .int .i64 ubx, .int .i64 uby, .int .i64 ubvx, .int .i64 ubvy, .int .i64 ubh, .int .i64 ubp, .int .i64 ubl] 42))
  obtain ⟨⟨k0, k1, k2, _⟩, _⟩ := Bx.b11 (at1 w (.cells #[.int .i64 ubs, .int .i64 ubi, .int .i64 ubg, .int .i64 ubm, .int .i64 ubx, .int .i64 uby, .int .i64 ubvx, .int .i64 ubvy, .int .i64 ubh, .int .i64 ubp, .int .i64 ubl] 42))
  have m0 := ((bel1 w (.cells #[.int .i64 ubs, .int .i64 ubi, .int .i64 ubg, .int .i64 ubm, .int .i64 ubx, .int .i64 uby, .int .i64 ubvx, .int .i64 ubvy, .int .i64 ubh, .int .i64 ubp, .int .i64 ubl] 42)).cell (p := ⟨q, 0, none⟩) (World.block_lt_of_cell? _ _ h0)).trans h0
  have m1 := ((bel1 w (.cells #[.int .i64 ubs, .int .i64 ubi, .int .i64 ubg, .int .i64 ubm, .int .i64 ubx, .int .i64 uby, .int .i64 ubvx, .int .i64 ubvy, .int .i64 ubh, .int .i64 ubp, .int .i64 ubl] 42)).cell (p := ⟨q, 1, none⟩) (World.block_lt_of_cell? _ _ h1)).trans h1
  have m2 := ((bel1 w (.cells #[.int .i64 ubs, .int .i64 ubi, .int .i64 ubg, .int .i64 ubm, .int .i64 ubx, .int .i64 uby, .int .i64 ubvx, .int .i64 ubvy, .int .i64 ubh, .int .i64 ubp, .int .i64 ubl] 42)).cell (p := ⟨q, 2, none⟩) (World.block_lt_of_cell? _ _ h2)).trans h2
  clear h0 h1 h2
  generalize hww : w.alloc (.cells #[.int .i64 ubs, .int .i64 ubi, .int .i64 ubg, .int .i64 ubm, .int .i64 ubx, .int .i64 uby, .int .i64 ubvx, .int .i64 ubvy, .int .i64 ubh, .int .i64 ubp, .int .i64 ubl] 42) = w1 at *
  go_enter Tryz.func110, Tryz.ntmps110
  go_wp2_with (go_at_call 62; with_reducible refine (C1.out _).mono ?_; rintro e w' ⟨rfl, hb2⟩; replace FIN := Lib.hid (FIN.out.trans (hb2.mono FIN.out.size)))
  go_ret
  exact ⟨rfl, FIN.out⟩
namespace Pz
def idxOf (l : List Bn) (id : K3) : Int := if findAt l id < l.length then (findAt l id : Int) else -1
end Pz
set_option maxHeartbeats 16000000 in
set_option maxRecDepth 100000 in
theorem index_any {w : World} {A : Option Addr} {cap : Nat} {l : List Bn} (R : RdB w w.heap.size A l) (hl : l.length ≤ 140737488351232) {s i g : Int} {q : Nat} (h0 : w.cell? ⟨q, 0, none⟩ = some (.int .i64 s)) (h1 : w.cell? ⟨q, 1, none⟩ = some (.int .i64 i)) (h2 : w.cell? ⟨q, 2, none⟩ = some (.int .i64 g)) :
    Calls Tryz.prog 108 #[.slice A l.length cap, .func (.func 110) #[] #[.pointer (some ⟨q, 0, none⟩)]] w fun e w' => e = .returned (.int .i64 (idxOf l (s, i, g))) ∧ Below w.heap.size w w' := by
  have ID : Hid (∀ W, Below w.heap.size w W → W.cell? ⟨q, 0, none⟩ = some (.int .i64 s) ∧ W.cell? ⟨q, 1, none⟩ = some (.int .i64 i) ∧ W.cell? ⟨q, 2, none⟩ = some (.int .i64 g)) := Lib.hid fun W hW => ⟨(hW.cell (p := ⟨q, 0, none⟩) (World.block_lt_of_cell? _ _ h0)).trans h0, (hW.cell (p := ⟨q, 1, none⟩) (World.block_lt_of_cell? _ _ h1)).trans h1, (hW.cell (p := ⟨q, 2, none⟩) (World.block_lt_of_cell? _ _ h2)).trans h2⟩
  have AT : Hid (∀ W, Below w.heap.size w W → ∀ j (hj : j < l.length), ∃ ga oa, A = some ⟨ga, oa, none⟩ ∧ (W.cell? ⟨ga, oa + j * 11, none⟩ = some (.int .i64 l[j].s) ∧ W.cell? ⟨ga, oa + j * 11 + 1, none⟩ = some (.int .i64 l[j].i) ∧ W.cell? ⟨ga, oa + j * 11 + 2, none⟩ = some (.int .i64 l[j].g) ∧ W.cell? ⟨ga, oa + j * 11 + 3, none⟩ = some (.int .i64 l[j].m) ∧ W.cell? ⟨ga, oa + j * 11 + 4, none⟩ = some (.int .i64 l[j].x) ∧ W.cell? ⟨ga, oa + j * 11 + 5, none⟩ = some (.int .i64 l[j].y) ∧ W.cell? ⟨ga, oa + j * 11 + 6, none⟩ = some (.int .i64 l[j].vx) ∧ W.cell? ⟨ga, oa + j * 11 + 7, none⟩ = some (.int .i64 l[j].vy) ∧ W.cell? ⟨ga, oa + j * 11 + 8, none⟩ = some (.int .i64 l[j].h) ∧ W.cell? ⟨ga, oa + j * 11 + 9, none⟩ = some (.int .i64 l[j].p) ∧ W.cell? ⟨ga, oa + j * 11 + 10, none⟩ = some (.int .i64 l[j].l))) := Lib.hid fun W hW j hj => by
    obtain ⟨ga, oa, e, _, k1⟩ := (R.below hW) j _ (List.getElem?_eq_getElem hj)
    exact ⟨ga, oa, e, k1⟩
  have FE : Hid (∀ k, (∀ j y, j < k → l[j]? = some y → before y.id (s, i, g) = true) → k ≤ l.length → (k = l.length ∨ ∃ y, l[k]? = some y ∧ before y.id (s, i, g) = false) → findAt l (s, i, g) = k) := Lib.hid fun k => findAt_end l (s, i, g) k
  have IO : Hid (idxOf l (s, i, g) = if findAt l (s, i, g) < l.length then (findAt l (s, i, g) : Int) else -1) := Lib.hid rfl
  generalize idxOf l (s, i, g) = res at *
  have EG := enters44
  clear h0 h1 h2 R
  go_enter Tryz.func108, Tryz.ntmps108
  go_wp2
  go_loopw [8] (fun ix wr => ∃ k : Nat, k ≤ l.length ∧ ix = .int .i64 k ∧ Hid (Below w.heap.size w wr) ∧ Hid (∀ j y, j < k → l[j]? = some y → before y.id (s, i, g) = true)) (fun ix _ => l.length - (intOf ix).toNat)
  case atStart => exact ⟨0, Nat.zero_le _, rfl, Lib.hid (Below.refl _ _), Lib.hid fun j y hj => by omega⟩
  case round =>
    obtain ⟨k, hk, rfl, HB, HI⟩ := hrel
    by_cases hkl : k < l.length
    · have t1 : (k : Int) < (l.length : Int) := by omega
      obtain ⟨ga, oa, rfl, c0, c1, c2, c3, c4, c5, c6, c7, c8, c9, c10⟩ := AT.out wr HB.out k hkl
      obtain ⟨d0, d1, d2⟩ := ID.out wr HB.out
      have FF := Lib.hid (finds_any l[k] s i g q wr d0 d1 d2)
      clear d0 d1 d2 ID AT
      cases hbf : before l[k].id (s, i, g) with
      | true =>
        rw [hbf] at FF
        have NX : Hid (∀ j y, j < k + 1 → l[j]? = some y → before y.id (s, i, g) = true) := Lib.hid fun j y hj hy => by
          by_cases e : j = k
          · subst e
            rw [List.getElem?_eq_getElem hkl] at hy
            rw [← Option.some.inj hy]
            exact hbf
          · exact HI.out j y (by omega) hy
        clear hbf HI FE IO
        generalize l[k] = x at *
        generalize l.length = n at *
        obtain ⟨xs, xi, xg, xm, xx, xy, xvx, xvy, xh, xp, xl⟩ := x
        simp only [Bn.val] at *
        go_wp2_with (go_at_call 110; with_reducible refine (FF.out).mono ?_; rintro e w' ⟨rfl, hb2⟩; replace HB := Lib.hid (HB.out.trans (hb2.mono HB.out.size)); clear hb2 FF c0 c1 c2 c3 c4 c5 c6 c7 c8 c9 c10)
        go_roundw
        case rel => exact ⟨k + 1, by omega, by go_num, HB, NX⟩
        case measure => simp [intOf]; omega
      | false =>
        rw [hbf] at FF
        have E1 := FE.out k HI.out hk (.inr ⟨_, List.getElem?_eq_getElem hkl, hbf⟩)
        have EE : Hid (res = (k : Int)) := Lib.hid (by rw [IO.out, E1, if_pos hkl])
        clear hbf HI FE IO E1
        generalize l[k] = x at *
        generalize l.length = n at *
        obtain ⟨xs, xi, xg, xm, xx, xy, xvx, xvy, xh, xp, xl⟩ := x
        simp only [Bn.val] at *
        go_wp2_with (go_at_call 110; with_reducible refine (FF.out).mono ?_; rintro e w' ⟨rfl, hb2⟩; replace HB := Lib.hid (HB.out.trans (hb2.mono HB.out.size)); clear hb2 FF c0 c1 c2 c3 c4 c5 c6 c7 c8 c9 c10)
        go_ret
        rw [EE.out]
        exact ⟨rfl, HB.out⟩
    · have t1 : ¬ (k : Int) < (l.length : Int) := by omega
      have E1 := FE.out k HI.out hk (.inl (by omega))
      have EE : Hid (res = -1) := Lib.hid (by rw [IO.out, E1, if_neg hkl])
      clear E1 AT ID FE IO HI
      generalize l.length = n at *
      go_wp2
      go_ret
      rw [EE.out]
      exact ⟨rfl, HB.out⟩
set_option maxHeartbeats 16000000 in
set_option maxRecDepth 100000 in
theorem find_any {w : World} {A : Option Addr} {cap : Nat} {l : List Bn} (R : RdB w w.heap.size A l) (hl : l.length ≤ 140737488351232) (s i g : Int) :
    Calls Tryz.prog 93 #[.slice A l.length cap, .agg #[.int .i64 s, .int .i64 i, .int .i64 g]] w fun e w' => e = .returned (.tuple #[.int .i64 (findAt l (s, i, g) : Int), .bool (foundAt l (s, i, g))]) ∧ Below w.heap.size w w' := by
  have B1 := bel1 w (.cells #[.int .i64 s, .int .i64 i, .int .i64 g] 40)
  have H1 := at1 w (.cells #[.int .i64 s, .int .i64 i, .int .i64 g] 40)
  have ID : Hid (∀ W, Below (w.alloc (.cells #[.int .i64 s, .int .i64 i, .int .i64 g] 40)).heap.size (w.alloc (.cells #[.int .i64 s, .int .i64 i, .int .i64 g] 40)) W → (W.cell? ⟨w.heap.size, 0, none⟩ = some (.int .i64 s) ∧ W.cell? ⟨w.heap.size, 1, none⟩ = some (.int .i64 i) ∧ W.cell? ⟨w.heap.size, 2, none⟩ = some (.int .i64 g)) ∧ Below w.heap.size w W) := Lib.hid fun W hW => ⟨(Bx.b3 ((hW.block _ (Bx.lt H1)).trans H1)).1, B1.trans (hW.mono B1.size)⟩
  have AT : Hid (∀ W, Below w.heap.size w W → ∀ j (hj : j < l.length), ∃ ga oa, A = some ⟨ga, oa, none⟩ ∧ (W.cell? ⟨ga, oa + j * 11, none⟩ = some (.int .i64 l[j].s) ∧ W.cell? ⟨ga, oa + j * 11 + 1, none⟩ = some (.int .i64 l[j].i) ∧ W.cell? ⟨ga, oa + j * 11 + 2, none⟩ = some (.int .i64 l[j].g))) := Lib.hid fun W hW j hj => by
    obtain ⟨ga, oa, e, _, q0, q1, q2, _⟩ := (R.below hW) j _ (List.getElem?_eq_getElem hj)
    exact ⟨ga, oa, e, q0, q1, q2⟩
  have IX := Lib.hid (index_any (w := w.alloc (.cells #[.int .i64 s, .int .i64 i, .int .i64 g] 40)) (cap := cap) (RdB.more (R.below B1) B1.size) hl (Bx.b3 H1).1.1 (Bx.b3 H1).1.2.1 (Bx.b3 H1).1.2.2)
  have BB := Lib.hid (Below.refl (w.alloc (.cells #[.int .i64 s, .int .i64 i, .int .i64 g] 40)).heap.size (w.alloc (.cells #[.int .i64 s, .int .i64 i, .int .i64 g] 40)))
  have LE := findAt_le l (s, i, g)
  have IO : Hid (idxOf l (s, i, g) = if findAt l (s, i, g) < l.length then (findAt l (s, i, g) : Int) else -1) := Lib.hid rfl
  have FO : Hid (foundAt l (s, i, g) = match l[findAt l (s, i, g)]? with | some b => sameID b.id (s, i, g) | none => false) := Lib.hid rfl
  generalize idxOf l (s, i, g) = res at *
  generalize foundAt l (s, i, g) = fo at *
  generalize findAt l (s, i, g) = k at *
  clear H1 B1 R
  go_enter Tryz.func93, Tryz.ntmps93
  go_upto_region 1 with fail
  generalize w.alloc (.cells #[.int .i64 s, .int .i64 i, .int .i64 g] 40) = w1 at *
  by_cases hk : k < l.length
  · have e1 : res = (k : Int) := by rw [IO.out, if_pos hk]
    have e2 : fo = sameID l[k].id (s, i, g) := by rw [FO.out, List.getElem?_eq_getElem hk]
    subst e1
    have t1 : decide ((k : Int) < 0) = false := decide_eq_false (by omega)
    have t2 : (k : Int) < (l.length : Int) := by omega
    have EQ : ∀ W : World, (Op.equalIn 10000 40 (.agg #[.int .i64 l[k].s, .int .i64 l[k].i, .int .i64 l[k].g]) (.agg #[.int .i64 s, .int .i64 i, .int .i64 g])).run Tryz.prog W = .ok (sameID l[k].id (s, i, g)) W := fun W => eq_id 9998 l[k].s l[k].i l[k].g s i g W
    rw [← e2] at EQ
    clear e2 FO IO LE
    have AK : Hid (∀ W, Below w.heap.size w W → ∃ ga oa, A = some ⟨ga, oa, none⟩ ∧ (W.cell? ⟨ga, oa + k * 11, none⟩ = some (.int .i64 l[k].s) ∧ W.cell? ⟨ga, oa + k * 11 + 1, none⟩ = some (.int .i64 l[k].i) ∧ W.cell? ⟨ga, oa + k * 11 + 2, none⟩ = some (.int .i64 l[k].g))) := Lib.hid fun W hW => AT.out W hW k hk
    clear AT
    generalize l[k].s = x0 at *
    generalize l[k].i = x1 at *
    generalize l[k].g = x2 at *
    generalize l.length = n at *
    go_upto_region 4 with (go_at_call 108; refine (IX.out).mono ?_; rintro e w2 ⟨rfl, hb2⟩; replace BB := Lib.hid hb2; clear hb2 IX)
    obtain ⟨⟨d0, d1, d2⟩, HB⟩ := ID.out w2 BB.out
    obtain ⟨ga, oa, rfl, c0, c1, c2⟩ := AK.out w2 HB
    clear AK ID BB
    replace HB := Lib.hid HB
    go_quiet (fail)
    rename_i nq
    have FB := Lib.hid (Below.dn' HB.out nq)
    go_wp2
    go_ret2
    exact ⟨rfl, FB.out⟩
  · have e1 : res = -1 := by rw [IO.out, if_neg hk]
    have e2 : fo = false := by rw [FO.out, List.getElem?_eq_none (by omega)]
    have e3 : k = l.length := by omega
    subst e1 e2
    replace e3 := Lib.hid e3
    clear FO IO LE AT hk
    go_wp2_with (go_at_call 108; refine (IX.out).mono ?_; rintro e w2 ⟨rfl, hb2⟩; replace BB := Lib.hid hb2; clear hb2 IX)
    obtain ⟨_, HB⟩ := ID.out w2 BB.out
    go_ret2
    rw [e3.out]
    exact ⟨rfl, HB⟩
end Go.Proofs.YtljaahemlcaffaaGreat
