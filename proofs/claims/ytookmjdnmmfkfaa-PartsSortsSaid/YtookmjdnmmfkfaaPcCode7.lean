/- The code's closures, IndexFunc, Find. Written by wip/tools/genpc7.py. -/
import Derived.Test.YtookmjdnmmfkfaaPcCode6
import Derived.Test.YtookmjdnmmfkfaaPzSt
import Derived.Shelf.Abstract
namespace Go.Proofs.Ytookmjdnmmfkfaa
open Go.RowKit Pz Go.Shelf
set_option linter.unusedVariables false

namespace Pz
theorem cmpB_cases (a b : NK) : (before a b = true ∧ cmpB a b = -1) ∨ (before b a = true ∧ cmpB a b = 1) ∨ (a = b ∧ cmpB a b = 0) := by
  obtain ⟨a1, a2, a3⟩ := a
  obtain ⟨b1, b2, b3⟩ := b
  rw [before_iff, before_iff]
  unfold cmpB orI cmpI
  simp only
  by_cases h1 : a1 < b1
  · refine .inl ⟨.inl h1, ?_⟩
    rw [if_pos h1]; rfl
  · by_cases h2 : a1 > b1
    · refine .inr (.inl ⟨.inl h2, ?_⟩)
      rw [if_neg h1, if_pos h2]; rfl
    · have e1 : a1 = b1 := by omega
      subst e1
      by_cases h3 : a2 < b2
      · refine .inl ⟨.inr ⟨rfl, .inl h3⟩, ?_⟩
        rw [if_neg h1, if_neg h2, if_pos h3]; rfl
      · by_cases h4 : a2 > b2
        · refine .inr (.inl ⟨.inr ⟨rfl, .inl h4⟩, ?_⟩)
          rw [if_neg h1, if_neg h2, if_neg h3, if_pos h4]; rfl
        · have e2 : a2 = b2 := by omega
          subst e2
          by_cases h5 : a3 < b3
          · refine .inl ⟨.inr ⟨rfl, .inr ⟨rfl, h5⟩⟩, ?_⟩
            rw [if_neg h1, if_neg h2, if_neg h3, if_neg h4, if_pos h5]; rfl
          · by_cases h6 : a3 > b3
            · refine .inr (.inl ⟨.inr ⟨rfl, .inr ⟨rfl, h6⟩⟩, ?_⟩)
              rw [if_neg h1, if_neg h2, if_neg h3, if_neg h4, if_neg h5, if_pos h6]; rfl
            · have e3 : a3 = b3 := by omega
              subst e3
              refine .inr (.inr ⟨rfl, ?_⟩)
              rw [if_neg h1, if_neg h2, if_neg h3, if_neg h4, if_neg h5, if_neg h6]; rfl
theorem cmp_lt (a b : NK) : decide (cmpB a b < 0) = before a b := by
  rcases cmpB_cases a b with ⟨h, e⟩ | ⟨h, e⟩ | ⟨h, e⟩
  · rw [e, h]; rfl
  · rw [e, before_asym h]; rfl
  · rw [e, h, before_irr]; rfl
theorem cmp_ge (a b : NK) : decide (cmpB a b ≥ 0) = !before a b := by
  rcases cmpB_cases a b with ⟨h, e⟩ | ⟨h, e⟩ | ⟨h, e⟩
  · rw [e, h]; rfl
  · rw [e, before_asym h]; rfl
  · rw [e, h, before_irr]; rfl
end Pz
theorem enters42 : ∀ args w, (callFunc 42 args).run Try.prog w = .ok (.enter 42 args) w := enters_of Try.func42 (by kernel_rfl) rfl
theorem enters44 : ∀ args w, (callFunc 44 args).run Try.prog w = .ok (.enter 44 args) w := enters_of Try.func44 (by kernel_rfl) rfl
set_option maxHeartbeats 16000000 in
set_option maxRecDepth 100000 in
/-- the comparison that sorts -/
theorem less_any (b c : Bn) (w : World) : Calls Try.prog 42 #[b.val, c.val] w fun e w' => e = .returned (.int .i64 (cmpB b.id c.id)) ∧ Below w.heap.size w w' := by
  have C1 : Hid (∀ W, Calls Try.prog 24 #[.agg #[.int .i64 b.s, .int .i64 b.i, .int .i64 b.g], .agg #[.int .i64 c.s, .int .i64 c.i, .int .i64 c.g]] W fun e w' => e = .returned (.int .i64 (cmpB b.id c.id)) ∧ Below W.heap.size W w') := Lib.hid fun W => compare_any _ _ _ _ _ _ W
  generalize cmpB b.id c.id = r at *
  obtain ⟨ubs, ubi, ubg, ubm, ubx, uby, ubvx, ubvy, ubh, ubp, ubl⟩ := b
  obtain ⟨ucs, uci, ucg, ucm, ucx, ucy, ucvx, ucvy, uch, ucp, ucl⟩ := c
  simp only [Bn.val] at *
  have FIN := Lib.hid (bel2 w (.cells #[.int .i64 ubs, .int .i64 ubi, .int .i64 ubg, .int .i64 ubm, .int .i64 ubx, .int .i64 uby, .int .i64 ubvx, .int .i64 ubvy, .int .i64 ubh, .int .i64 ubp, .int .i64 ubl] 25) (.cells #[.int .i64 ucs, .int .i64 uci, .int .i64 ucg, .int .i64 ucm, .int .i64 ucx, .int .i64 ucy, .int .i64 ucvx, .int .i64 ucvy, .int .i64 uch, .int .i64 ucp, .int .i64 ucl] 25))
  obtain ⟨⟨k0, k1, k2, _⟩, _⟩ := Bx.b11 (at2a w (.cells #[.int .i64 ubs, .int .i64 ubi, .int .i64 ubg, .int .i64 ubm, .int .i64 ubx, .int .i64 uby, .int .i64 ubvx, .int .i64 ubvy, .int .i64 ubh, .int .i64 ubp, .int .i64 ubl] 25) (.cells #[.int .i64 ucs, .int .i64 uci, .int .i64 ucg, .int .i64 ucm, .int .i64 ucx, .int .i64 ucy, .int .i64 ucvx, .int .i64 ucvy, .int .i64 uch, .int .i64 ucp, .int .i64 ucl] 25))
  obtain ⟨⟨m0, m1, m2, _⟩, _⟩ := Bx.b11 (at2b w (.cells #[.int .i64 ubs, .int .i64 ubi, .int .i64 ubg, .int .i64 ubm, .int .i64 ubx, .int .i64 uby, .int .i64 ubvx, .int .i64 ubvy, .int .i64 ubh, .int .i64 ubp, .int .i64 ubl] 25) (.cells #[.int .i64 ucs, .int .i64 uci, .int .i64 ucg, .int .i64 ucm, .int .i64 ucx, .int .i64 ucy, .int .i64 ucvx, .int .i64 ucvy, .int .i64 uch, .int .i64 ucp, .int .i64 ucl] 25))
  generalize hww : (w.alloc (.cells #[.int .i64 ubs, .int .i64 ubi, .int .i64 ubg, .int .i64 ubm, .int .i64 ubx, .int .i64 uby, .int .i64 ubvx, .int .i64 ubvy, .int .i64 ubh, .int .i64 ubp, .int .i64 ubl] 25)).alloc (.cells #[.int .i64 ucs, .int .i64 uci, .int .i64 ucg, .int .i64 ucm, .int .i64 ucx, .int .i64 ucy, .int .i64 ucvx, .int .i64 ucvy, .int .i64 uch, .int .i64 ucp, .int .i64 ucl] 25) = w1 at *
  go_enter Try.func42, Try.ntmps42
  go_wp2_with (go_at_call 24; with_reducible refine (C1.out _).mono ?_; rintro e w' ⟨rfl, hb2⟩; replace FIN := Lib.hid (FIN.out.trans (hb2.mono FIN.out.size)))
  go_ret
  exact ⟨rfl, FIN.out⟩
set_option maxHeartbeats 16000000 in
set_option maxRecDepth 100000 in
/-- the test that finds -/
theorem finds_any (b : Bn) (s i g : Int) (q : Nat) (w : World) (h0 : w.cell? ⟨q, 0, none⟩ = some (.int .i64 s)) (h1 : w.cell? ⟨q, 1, none⟩ = some (.int .i64 i)) (h2 : w.cell? ⟨q, 2, none⟩ = some (.int .i64 g)) :
    Calls Try.prog 44 #[b.val, .pointer (some ⟨q, 0, none⟩)] w fun e w' => e = .returned (.bool (!before b.id (s, i, g))) ∧ Below w.heap.size w w' := by
  have C1 : Hid (∀ W, Calls Try.prog 24 #[.agg #[.int .i64 b.s, .int .i64 b.i, .int .i64 b.g], .agg #[.int .i64 s, .int .i64 i, .int .i64 g]] W fun e w' => e = .returned (.int .i64 (cmpB b.id (s, i, g))) ∧ Below W.heap.size W w') := Lib.hid fun W => compare_any _ _ _ _ _ _ W
  have E := cmp_ge b.id (s, i, g)
  generalize cmpB b.id (s, i, g) = r at *
  rw [← E]
  obtain ⟨t, ht⟩ : ∃ t, decide (r ≥ 0) = t := ⟨_, rfl⟩
  rw [ht]
  clear E
  obtain ⟨ubs, ubi, ubg, ubm, ubx, uby, ubvx, ubvy, ubh, ubp, ubl⟩ := b
  simp only [Bn.val] at *
  have FIN := Lib.hid (bel1 w (.cells #[.int .i64 ubs, .int .i64 ubi, .int .i64 ubg, .int .i64 ubm, .int .i64 ubx, .int .i64 uby, .int .i64 ubvx, .int .i64 ubvy, .int .i64 ubh, .int .i64 ubp, .int .i64 ubl] 25))
  obtain ⟨⟨k0, k1, k2, _⟩, _⟩ := Bx.b11 (at1 w (.cells #[.int .i64 ubs, .int .i64 ubi, .int .i64 ubg, .int .i64 ubm, .int .i64 ubx, .int .i64 uby, .int .i64 ubvx, .int .i64 ubvy, .int .i64 ubh, .int .i64 ubp, .int .i64 ubl] 25))
  have m0 := ((bel1 w (.cells #[.int .i64 ubs, .int .i64 ubi, .int .i64 ubg, .int .i64 ubm, .int .i64 ubx, .int .i64 uby, .int .i64 ubvx, .int .i64 ubvy, .int .i64 ubh, .int .i64 ubp, .int .i64 ubl] 25)).cell (p := ⟨q, 0, none⟩) (World.block_lt_of_cell? _ _ h0)).trans h0
  have m1 := ((bel1 w (.cells #[.int .i64 ubs, .int .i64 ubi, .int .i64 ubg, .int .i64 ubm, .int .i64 ubx, .int .i64 uby, .int .i64 ubvx, .int .i64 ubvy, .int .i64 ubh, .int .i64 ubp, .int .i64 ubl] 25)).cell (p := ⟨q, 1, none⟩) (World.block_lt_of_cell? _ _ h1)).trans h1
  have m2 := ((bel1 w (.cells #[.int .i64 ubs, .int .i64 ubi, .int .i64 ubg, .int .i64 ubm, .int .i64 ubx, .int .i64 uby, .int .i64 ubvx, .int .i64 ubvy, .int .i64 ubh, .int .i64 ubp, .int .i64 ubl] 25)).cell (p := ⟨q, 2, none⟩) (World.block_lt_of_cell? _ _ h2)).trans h2
  clear h0 h1 h2
  generalize hww : w.alloc (.cells #[.int .i64 ubs, .int .i64 ubi, .int .i64 ubg, .int .i64 ubm, .int .i64 ubx, .int .i64 uby, .int .i64 ubvx, .int .i64 ubvy, .int .i64 ubh, .int .i64 ubp, .int .i64 ubl] 25) = w1 at *
  go_enter Try.func44, Try.ntmps44
  go_wp2_with (go_at_call 24; with_reducible refine (C1.out _).mono ?_; rintro e w' ⟨rfl, hb2⟩; replace FIN := Lib.hid (FIN.out.trans (hb2.mono FIN.out.size)))
  go_ret
  exact ⟨rfl, FIN.out⟩
namespace Pz
def idxOf (l : List Bn) (id : NK) : Int := if findAt l id < l.length then (findAt l id : Int) else -1
end Pz
set_option maxHeartbeats 16000000 in
set_option maxRecDepth 100000 in
theorem index_any {w : World} {A : Option Addr} {cap : Nat} {l : List Bn} (R : RdB w w.heap.size A l) (hl : l.length ≤ 140737488351232) {s i g : Int} {q : Nat} (h0 : w.cell? ⟨q, 0, none⟩ = some (.int .i64 s)) (h1 : w.cell? ⟨q, 1, none⟩ = some (.int .i64 i)) (h2 : w.cell? ⟨q, 2, none⟩ = some (.int .i64 g)) :
    Calls Try.prog 43 #[.slice A l.length cap, .func (.func 44) #[] #[.pointer (some ⟨q, 0, none⟩)]] w fun e w' => e = .returned (.int .i64 (idxOf l (s, i, g))) ∧ Below w.heap.size w w' := by
  have ID : Hid (∀ W, Below w.heap.size w W → W.cell? ⟨q, 0, none⟩ = some (.int .i64 s) ∧ W.cell? ⟨q, 1, none⟩ = some (.int .i64 i) ∧ W.cell? ⟨q, 2, none⟩ = some (.int .i64 g)) := Lib.hid fun W hW => ⟨(hW.cell (p := ⟨q, 0, none⟩) (World.block_lt_of_cell? _ _ h0)).trans h0, (hW.cell (p := ⟨q, 1, none⟩) (World.block_lt_of_cell? _ _ h1)).trans h1, (hW.cell (p := ⟨q, 2, none⟩) (World.block_lt_of_cell? _ _ h2)).trans h2⟩
  have AT : Hid (∀ W, Below w.heap.size w W → ∀ j (hj : j < l.length), ∃ ga oa, A = some ⟨ga, oa, none⟩ ∧ (W.cell? ⟨ga, oa + j * 11, none⟩ = some (.int .i64 l[j].s) ∧ W.cell? ⟨ga, oa + j * 11 + 1, none⟩ = some (.int .i64 l[j].i) ∧ W.cell? ⟨ga, oa + j * 11 + 2, none⟩ = some (.int .i64 l[j].g) ∧ W.cell? ⟨ga, oa + j * 11 + 3, none⟩ = some (.int .i64 l[j].m) ∧ W.cell? ⟨ga, oa + j * 11 + 4, none⟩ = some (.int .i64 l[j].x) ∧ W.cell? ⟨ga, oa + j * 11 + 5, none⟩ = some (.int .i64 l[j].y) ∧ W.cell? ⟨ga, oa + j * 11 + 6, none⟩ = some (.int .i64 l[j].vx) ∧ W.cell? ⟨ga, oa + j * 11 + 7, none⟩ = some (.int .i64 l[j].vy) ∧ W.cell? ⟨ga, oa + j * 11 + 8, none⟩ = some (.int .i64 l[j].h) ∧ W.cell? ⟨ga, oa + j * 11 + 9, none⟩ = some (.int .i64 l[j].p) ∧ W.cell? ⟨ga, oa + j * 11 + 10, none⟩ = some (.int .i64 l[j].l))) := Lib.hid fun W hW j hj => by
    obtain ⟨ga, oa, e, _, k1⟩ := (R.below hW) j _ (List.getElem?_eq_getElem hj)
    exact ⟨ga, oa, e, k1⟩
  have FE : Hid (∀ k, (∀ j y, j < k → l[j]? = some y → before y.id (s, i, g) = true) → k ≤ l.length → (k = l.length ∨ ∃ y, l[k]? = some y ∧ before y.id (s, i, g) = false) → findAt l (s, i, g) = k) := Lib.hid fun k => findAt_end l (s, i, g) k
  have IO : Hid (idxOf l (s, i, g) = if findAt l (s, i, g) < l.length then (findAt l (s, i, g) : Int) else -1) := Lib.hid rfl
  generalize idxOf l (s, i, g) = res at *
  have EG := enters44
  clear h0 h1 h2 R
  go_enter Try.func43, Try.ntmps43
  go_wp2
  go_loopw [8] (fun ix wr => ∃ k : Nat, k ≤ l.length ∧ ix = .int .i64 k ∧ Hid (Below w.heap.size w wr) ∧ Hid (∀ j y, j < k → l[j]? = some y → before y.id (s, i, g) = true)) (fun ix _ => l.length - (intOf ix).toNat)
  case atStart => exact ⟨0, Nat.zero_le _, rfl, Lib.hid (Below.refl _ _), Lib.hid fun j y hj => by omega⟩
  case round =>
    obtain ⟨k, hk, rfl, HB, HI⟩ := hrel
    by_cases hkl : k < l.length
    · have t1 : (k : Int) < (l.length : Int) := by omega
      obtain ⟨ga, oa, rfl, c0, c1, c2, c3, c4, c5, c6, c7, c8, c9, c10⟩ := AT.out wr HB.out k hkl
      obtain ⟨d0, d1, d2⟩ := ID.out wr HB.out
      have FF := Lib.hid (finds_any l[k] s i g q wr d0 d1 d2)
      clear d0 d1 d2 ID AT
      cases hbf : before l[k].id (s, i, g) with
      | true =>
        rw [hbf] at FF
        have NX : Hid (∀ j y, j < k + 1 → l[j]? = some y → before y.id (s, i, g) = true) := Lib.hid fun j y hj hy => by
          by_cases e : j = k
          · subst e
            rw [List.getElem?_eq_getElem hkl] at hy
            rw [← Option.some.inj hy]
            exact hbf
          · exact HI.out j y (by omega) hy
        clear hbf HI FE IO
        generalize l[k] = x at *
        generalize l.length = n at *
        obtain ⟨xs, xi, xg, xm, xx, xy, xvx, xvy, xh, xp, xl⟩ := x
        simp only [Bn.val] at *
        go_wp2_with (go_at_call 44; with_reducible refine (FF.out).mono ?_; rintro e w' ⟨rfl, hb2⟩; replace HB := Lib.hid (HB.out.trans (hb2.mono HB.out.size)); clear hb2 FF c0 c1 c2 c3 c4 c5 c6 c7 c8 c9 c10)
        go_roundw
        case rel => exact ⟨k + 1, by omega, by go_num, HB, NX⟩
        case measure => simp [intOf]; omega
      | false =>
        rw [hbf] at FF
        have E1 := FE.out k HI.out hk (.inr ⟨_, List.getElem?_eq_getElem hkl, hbf⟩)
        have EE : Hid (res = (k : Int)) := Lib.hid (by rw [IO.out, E1, if_pos hkl])
        clear hbf HI FE IO E1
        generalize l[k] = x at *
        generalize l.length = n at *
        obtain ⟨xs, xi, xg, xm, xx, xy, xvx, xvy, xh, xp, xl⟩ := x
        simp only [Bn.val] at *
        go_wp2_with (go_at_call 44; with_reducible refine (FF.out).mono ?_; rintro e w' ⟨rfl, hb2⟩; replace HB := Lib.hid (HB.out.trans (hb2.mono HB.out.size)); clear hb2 FF c0 c1 c2 c3 c4 c5 c6 c7 c8 c9 c10)
        go_ret
        rw [EE.out]
        exact ⟨rfl, HB.out⟩
    · have t1 : ¬ (k : Int) < (l.length : Int) := by omega
      have E1 := FE.out k HI.out hk (.inl (by omega))
      have EE : Hid (res = -1) := Lib.hid (by rw [IO.out, E1, if_neg hkl])
      clear E1 AT ID FE IO HI
      generalize l.length = n at *
      go_wp2
      go_ret
      rw [EE.out]
      exact ⟨rfl, HB.out⟩
end Go.Proofs.Ytookmjdnmmfkfaa
