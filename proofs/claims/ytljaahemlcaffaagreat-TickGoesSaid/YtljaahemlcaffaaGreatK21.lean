/- The code: a hit of a name, by halves. -/
import Derived.Test.YtljaahemlcaffaaGreatK09
import Derived.Test.YtljaahemlcaffaaGreatK12
import Derived.Test.YtljaahemlcaffaaGreatK20
import Derived.Test.YtljaahemlcaffaaGreatK13
import Derived.Shelf.Abstract
namespace Go.Proofs.YtljaahemlcaffaaGreat
open Go.RowKit Pz Sp Go.Shelf
set_option linter.unusedVariables false
set_option linter.unusedSimpArgs false

theorem em_h11 : ∀ args w, (callFunc 65 args).run Tryz.prog w = .ok (.enter 65 args) w := enters_of Tryz.func65 (by kernel_rfl) rfl
set_option maxHeartbeats 8000000 in
set_option maxRecDepth 100000 in
theorem h11_any (h : HK) (s i g : Int) (w : World) : Calls Tryz.prog 65 #[.agg #[.int .i64 h.1.1, .int .i64 h.1.2.1, .int .i64 h.1.2.2, .int .i64 h.2], .agg #[.int .i64 s, .int .i64 i, .int .i64 g]] w fun e w' => e = .returned (.int .i64 (cmpB h.1 (s, i, g))) ∧ Below w.heap.size w w' := by
  have C1 : Hid (∀ W, Calls Tryz.prog 62 #[.agg #[.int .i64 h.1.1, .int .i64 h.1.2.1, .int .i64 h.1.2.2], .agg #[.int .i64 s, .int .i64 i, .int .i64 g]] W fun e w' => e = .returned (.int .i64 (cmpB h.1 (s, i, g))) ∧ Below W.heap.size W w') := Lib.hid fun W => compare_any _ _ _ _ _ _ W
  generalize cmpB h.1 (s, i, g) = r at *
  obtain ⟨⟨h0, h1, h2⟩, h3⟩ := h
  simp only at *
  have FIN := Lib.hid (bel2 w (.cells #[.int .i64 h0, .int .i64 h1, .int .i64 h2, .int .i64 h3] 104) (.cells #[.int .i64 s, .int .i64 i, .int .i64 g] 40))
  have T0 := at2a w (.cells #[.int .i64 h0, .int .i64 h1, .int .i64 h2, .int .i64 h3] 104) (.cells #[.int .i64 s, .int .i64 i, .int .i64 g] 40)
  have k0 := (Bx.cell T0 (o := 0) (v := .int .i64 h0) rfl).1
  have k1 := (Bx.cell T0 (o := 1) (v := .int .i64 h1) rfl).1
  have k2 := (Bx.cell T0 (o := 2) (v := .int .i64 h2) rfl).1
  obtain ⟨⟨m0, m1, m2⟩, _⟩ := Bx.b3 (at2b w (.cells #[.int .i64 h0, .int .i64 h1, .int .i64 h2, .int .i64 h3] 104) (.cells #[.int .i64 s, .int .i64 i, .int .i64 g] 40))
  clear T0
  generalize hww : (w.alloc (.cells #[.int .i64 h0, .int .i64 h1, .int .i64 h2, .int .i64 h3] 104)).alloc (.cells #[.int .i64 s, .int .i64 i, .int .i64 g] 40) = w1 at *
  go_enter Tryz.func65, Tryz.ntmps65
  go_wp2_with (go_at_call 62; with_reducible refine (C1.out _).mono ?_; rintro e w' ⟨rfl, hb2⟩; replace FIN := Lib.hid (FIN.out.trans (hb2.mono FIN.out.size)))
  go_ret
  exact ⟨rfl, FIN.out⟩
/-- a hit of a name was sought: where it stands, and whether there is one -/
def Found (hs : List HK) (id : K3) (e : Ending) : Prop := ∃ (k : Nat) (is : Bool), e = .returned (.tuple #[.int .i64 k, .bool is]) ∧ ((is = true ∧ ∃ hk : k < hs.length, hs[k].1 = id) ∨ (is = false ∧ ∀ h ∈ hs, h.1 ≠ id))
theorem cmp_eq (a b : K3) : (cmpB a b == 0) = decide (a = b) := by
  rcases cmpB_cases a b with ⟨h, e⟩ | ⟨h, e⟩ | ⟨h, e⟩
  · have : a ≠ b := fun e2 => by rw [e2, before_irr] at h; cases h
    rw [e, decide_eq_false this]; rfl
  · have : a ≠ b := fun e2 => by rw [e2, before_irr] at h; cases h
    rw [e, decide_eq_false this]; rfl
  · rw [e, decide_eq_true h]; rfl
set_option maxHeartbeats 16000000 in
set_option maxRecDepth 100000 in
theorem bs_any {w : World} {A : Option Addr} {c n : Nat} {hs : List HK} (R : OwnH w 0 (.slice A n c) hs) (hn : hs.length = n) (hl : n ≤ 1000) (hr : hs.Pairwise fun a b => before a.1 b.1 = true) (s i g : Int) :
    Calls Tryz.prog 64 #[.slice A n c, .agg #[.int .i64 s, .int .i64 i, .int .i64 g], .func (.func 65) #[] #[]] w fun e w' => Found hs (s, i, g) e ∧ Below w.heap.size w w' := by
  have EG := em_h11
  have H0 : Hid (Sep w [box w.heap.size (.cells #[.int .i64 s, .int .i64 i, .int .i64 g] 40)] (w.alloc (.cells #[.int .i64 s, .int .i64 i, .int .i64 g] 40))) := Lib.hid (sep_box (sep_new w) _)
  have RD := Lib.hid fun V (hV : Below w.heap.size w V) => R.below hV
  have hlt : ∀ a b (ha : a < hs.length) (hb : b < hs.length), a < b → before hs[a].1 hs[b].1 = true := fun a b ha hb h => List.pairwise_iff_getElem.1 hr a b ha hb h
  have UP : Hid (∀ a b (ha : a < hs.length) (hb : b < hs.length), a ≤ b → before hs[b].1 (s, i, g) = true → before hs[a].1 (s, i, g) = true) := Lib.hid fun a b ha hb h h1 => by
    rcases Nat.lt_or_eq_of_le h with h2 | h2
    · exact before_trans (hlt a b ha hb h2) h1
    · subst h2; exact h1
  have EN : Hid (∀ k : Nat, k ≤ hs.length → (∀ a (ha : a < hs.length), a < k → before hs[a].1 (s, i, g) = true) → (∀ a (ha : a < hs.length), k ≤ a → before hs[a].1 (s, i, g) = false) → (∀ hk : k < hs.length, hs[k].1 ≠ (s, i, g)) → ∀ h ∈ hs, h.1 ≠ (s, i, g)) := Lib.hid fun k hk h1 h2 h3 h hh e => by
    obtain ⟨a, ha, rfl⟩ := List.mem_iff_getElem.1 hh
    rcases Nat.lt_trichotomy a k with h4 | h4 | h4
    · have := h1 a ha h4
      rw [e, before_irr] at this
      cases this
    · subst h4; exact h3 ha e
    · have h5 := h2 k (by omega) (Nat.le_refl _)
      have h6 := hlt k a (by omega) ha h4
      rw [e, h5] at h6
      cases h6
  clear R hr hlt
  have hn' := Lib.hid hn
  go_enter Tryz.func64, Tryz.ntmps64
  go_upto_region 1 with fail
  generalize w.alloc (.cells #[.int .i64 s, .int .i64 i, .int .i64 g] 40) = w0 at *
  go_wp2
  go_loopw [9, 10] (fun ix jx wr => ∃ a b : Nat, ix = .int .i64 a ∧ jx = .int .i64 b ∧ a ≤ b ∧ b ≤ n ∧ Hid (Sep w [box w.heap.size (.cells #[.int .i64 s, .int .i64 i, .int .i64 g] 40)] wr) ∧ Hid (∀ m (hm : m < hs.length), m < a → before hs[m].1 (s, i, g) = true) ∧ Hid (∀ m (hm : m < hs.length), b ≤ m → before hs[m].1 (s, i, g) = false)) (fun ix jx _ => (intOf jx).toNat - (intOf ix).toNat)
  case atStart => exact ⟨0, n, rfl, rfl, Nat.zero_le _, Nat.le_refl _, H0, Lib.hid fun m _ h => by omega, Lib.hid fun m hm h => by omega⟩
  case round =>
    clear H0
    obtain ⟨a, b, rfl, rfl, hab, hbn, HS, HL, HH⟩ := hrel
    obtain ⟨⟨m0, m1, m2⟩, _⟩ := Bx.b3 (HS.out.held 0 rfl)
    have lw := Bx.lt (HS.out.held 0 rfl)
    have B0 := HS.out.bel
    by_cases hlt : a < b
    · have t1 : (a : Int) < (b : Int) := by omega
      obtain ⟨h, hh⟩ : ∃ h, h = (a + b) / 2 := ⟨_, rfl⟩
      have eh : ((a : Int) + (b : Int)) / 2 = (h : Int) := by omega
      have h1 : a ≤ h := by omega
      have h2 : h < b := by omega
      clear hh
      have lh : (h : Int) < (n : Int) := by omega
      have hhn : h < hs.length := by omega
      obtain ⟨x, hx⟩ : ∃ x, x = hs[h] := ⟨_, rfl⟩
      have RX := RD.out wr B0
      obtain ⟨gb, o, rfl, lg, c0, c1, c2, c3⟩ := hit_at RX (show hs[h]? = some x by rw [hx]; exact List.getElem?_eq_getElem hhn)
      have LESS : Hid (∀ W, Calls Tryz.prog 65 #[.agg #[.int .i64 x.1.1, .int .i64 x.1.2.1, .int .i64 x.1.2.2, .int .i64 x.2], .agg #[.int .i64 s, .int .i64 i, .int .i64 g]] W fun e w' => e = .returned (.int .i64 (cmpB x.1 (s, i, g))) ∧ Below W.heap.size W w') := Lib.hid fun W => h11_any x s i g W
      have NL : Hid (before x.1 (s, i, g) = true → ∀ m (hm : m < hs.length), m < h + 1 → before hs[m].1 (s, i, g) = true) := Lib.hid fun e m hm hle => UP.out m h hm hhn (by omega) (by rw [← hx]; exact e)
      have NR : Hid (before x.1 (s, i, g) = false → ∀ m (hm : m < hs.length), h ≤ m → before hs[m].1 (s, i, g) = false) := Lib.hid fun e m hm hle => by
        cases e2 : before hs[m].1 (s, i, g) with
        | false => rfl
        | true =>
          have := UP.out h m hhn hm hle e2
          rw [← hx, e] at this
          cases this
      have CL := cmp_lt x.1 (s, i, g)
      generalize cmpB x.1 (s, i, g) = r at *
      generalize before x.1 (s, i, g) = bf at *
      clear hx RX UP EN RD
      obtain ⟨⟨x0, x1, x2⟩, x3⟩ := x
      simp only at *
      go_upto_region 5 with fail
      refine Og.grow 8 (by kernel_rfl) (by kernel_rfl) fun hc hf => ?_
      simp only [List.take_succ_cons, List.take_zero, List.drop_succ_cons, List.drop_zero]
      iterate 6 (refine Og.det [] rfl (fun J hJ => ?_); go_simp; refine hJ _ _ ?_; clear hJ J)
      refine Og.det [] rfl (fun J hJ => ?_)
      go_simp
      with_reducible refine ⟨_, fun p => Og.lays (LESS.out _), hJ _ _ ?_⟩
      clear hJ J
      iterate 1 (refine Og.det [] rfl (fun J hJ => ?_); go_simp; refine hJ _ _ ?_; clear hJ J)
      refine Og.fin fun W hW => ?_
      simp only [Og.opened_nil]
      clear c0 c1 c2 c3 m0 m1 m2 LESS hc hf
      replace HS := Lib.hid (HS.out.below hW)
      clear hW B0
      cases bf with
      | false =>
        have NX := Lib.hid (NR.out rfl)
        clear NL NR
        go_wp2
        go_roundw
        case rel => exact ⟨a, h, rfl, rfl, h1, by omega, HS, HL, NX⟩
        case measure => simp [intOf]; omega
      | true =>
        have NX := Lib.hid (NL.out rfl)
        clear NL NR
        go_wp2
        go_roundw
        case rel => exact ⟨h + 1, b, by go_num, rfl, by omega, hbn, HS, NX, HH⟩
        case measure => simp [intOf]; omega
    · obtain rfl : b = a := by omega
      have t1 : ¬ (b : Int) < (b : Int) := by omega
      by_cases hbl : b < n
      · have t2 : (b : Int) < (n : Int) := by omega
        have hhn : b < hs.length := by omega
        obtain ⟨x, hx⟩ : ∃ x, x = hs[b] := ⟨_, rfl⟩
        have RX := RD.out wr B0
        obtain ⟨gb, o, rfl, lg, c0, c1, c2, c3⟩ := hit_at RX (show hs[b]? = some x by rw [hx]; exact List.getElem?_eq_getElem hhn)
        have LESS : Hid (∀ W, Calls Tryz.prog 65 #[.agg #[.int .i64 x.1.1, .int .i64 x.1.2.1, .int .i64 x.1.2.2, .int .i64 x.2], .agg #[.int .i64 s, .int .i64 i, .int .i64 g]] W fun e w' => e = .returned (.int .i64 (cmpB x.1 (s, i, g))) ∧ Below W.heap.size W w') := Lib.hid fun W => h11_any x s i g W
        have RES : Hid ((decide (x.1 = (s, i, g)) = true ∧ ∃ hk : b < hs.length, hs[b].1 = (s, i, g)) ∨ (decide (x.1 = (s, i, g)) = false ∧ ∀ h ∈ hs, h.1 ≠ (s, i, g))) := Lib.hid (by
          by_cases e : x.1 = (s, i, g)
          · exact .inl ⟨decide_eq_true e, hhn, by rw [← hx]; exact e⟩
          · exact .inr ⟨decide_eq_false e, EN.out b (by omega) HL.out HH.out fun hk => by rw [← hx]; exact e⟩)
        have CE := cmp_eq x.1 (s, i, g)
        generalize decide (x.1 = (s, i, g)) = is at *
        generalize cmpB x.1 (s, i, g) = r at *
        have CE2 : decide (r = 0) = is := CE
        clear hx RX UP EN RD HL HH
        obtain ⟨⟨x0, x1, x2⟩, x3⟩ := x
        simp only at *
        go_upto_region 8 with fail
        refine Og.grow 16 (by kernel_rfl) (by kernel_rfl) fun hc hf => ?_
        simp only [List.take_succ_cons, List.take_zero, List.drop_succ_cons, List.drop_zero]
        repeat (refine Og.det [] rfl (fun J hJ => ?_); go_simp; first | (refine hJ _ _ ?_; clear hJ J) | (with_reducible refine ⟨_, fun p => Og.lays (LESS.out _), hJ _ _ ?_⟩; clear hJ J))
        refine Og.fin fun W hW => ?_
        simp only [Og.opened_nil]
        clear c0 c1 c2 c3 m0 m1 m2 LESS hc hf
        replace HS := Lib.hid (HS.out.below hW).bel
        clear hW B0
        go_wp2
        go_ret2
        exact ⟨⟨b, is, rfl, RES.out⟩, HS.out⟩
      · have e : b = n := by omega
        have t2 : ¬ (b : Int) < (n : Int) := by omega
        have RES : Hid (∀ h ∈ hs, h.1 ≠ (s, i, g)) := Lib.hid (EN.out b (by omega) HL.out HH.out fun hk => absurd hk (by omega))
        clear UP EN RD HL HH
        replace e := Lib.hid e
        have HB := Lib.hid HS.out.bel
        clear B0
        go_upto_region 8 with fail
        go_quiet (fail)
        rename_i nq
        have FB := Lib.hid (Below.dn' HB.out nq)
        go_wp2
        go_ret2
        exact ⟨⟨b, false, rfl, .inr ⟨rfl, RES.out⟩⟩, FB.out⟩
end Go.Proofs.YtljaahemlcaffaaGreat
