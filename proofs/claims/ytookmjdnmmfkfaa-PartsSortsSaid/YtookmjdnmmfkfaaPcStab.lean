/- The library's stableCmpFunc, SortStableFunc, over a row of one's own. -/
import Derived.Test.YtookmjdnmmfkfaaPcPass
namespace Go.Proofs.Ytookmjdnmmfkfaa
open Go.RowKit Pz
set_option linter.unusedVariables false

set_option maxHeartbeats 16000000 in
set_option maxRecDepth 100000 in
theorem stable_any {B : Nat} {A : Option Addr} {N c : Nat} {d : List Bn} {w : World} (h : Rs B A N c d w w) (hN : N ≤ 1000000) (hBw : B ≤ w.heap.size) :
    Calls Try.prog 51 #[.slice A N c, .int .i64 (N : Int), .func (.func 42) #[] #[]] w fun e w' => e = .returned (.tuple #[]) ∧ Rs B A N c (sortL d) w w' := by
  have H0 := Lib.hid h
  have P0 := Lib.hid (Pass.first d)
  have INSC : Hid (∀ (R : List Bn) (W : World) (a b : Nat), Rs B A N c R w W → Pass d 1 20 a R → a + 20 = b → b ≤ N → Calls Try.prog 54 #[.slice A N c, .int .i64 (a : Int), .int .i64 (b : Int), .func (.func 42) #[] #[]] W fun e w' => e = .returned (.tuple #[]) ∧ ∃ R2, Rs B A N c R2 w w' ∧ Pass d 1 20 b R2) := Lib.hid fun R W a b h hp h1 h2 => ins_block hN hBw h hp h1 h2
  have INSE : Hid (∀ (R : List Bn) (W : World) (a : Nat), Rs B A N c R w W → Pass d 1 20 a R → a ≤ N → N < a + 20 → Calls Try.prog 54 #[.slice A N c, .int .i64 (a : Int), .int .i64 (N : Int), .func (.func 42) #[] #[]] W fun e w' => e = .returned (.tuple #[]) ∧ ∃ R2, Rs B A N c R2 w w' ∧ Full d 20 R2) := Lib.hid fun R W a h hp h1 h2 => ins_last hN hBw h hp h1 h2
  have SYC : Hid (∀ (R : List Bn) (W : World) (s a m b : Nat), Rs B A N c R w W → 0 < s → Pass d s (2 * s) a R → a + s = m → a + 2 * s = b → b ≤ N → Calls Try.prog 55 #[.slice A N c, .int .i64 (a : Int), .int .i64 (m : Int), .int .i64 (b : Int), .func (.func 42) #[] #[]] W fun e w' => e = .returned (.tuple #[]) ∧ ∃ R2, Rs B A N c R2 w w' ∧ Pass d s (2 * s) b R2) := Lib.hid fun R W s a m b h h0 hp h1 h2 h3 => sym_block hN hBw h h0 hp h1 h2 h3
  have SYE : Hid (∀ (R : List Bn) (W : World) (s a m : Nat), Rs B A N c R w W → 0 < s → Pass d s (2 * s) a R → a + s = m → m < N → N < a + 2 * s → Calls Try.prog 55 #[.slice A N c, .int .i64 (a : Int), .int .i64 (m : Int), .int .i64 (N : Int), .func (.func 42) #[] #[]] W fun e w' => e = .returned (.tuple #[]) ∧ ∃ R2, Rs B A N c R2 w w' ∧ Full d (2 * s) R2) := Lib.hid fun R W s a m h h0 hp h1 h2 h3 => sym_last hN hBw h h0 hp h1 h2 h3
  have SY0 : Hid (∀ (R : List Bn) (W : World) (s a m : Nat), Rs B A N c R w W → 0 < s → Pass d s (2 * s) a R → a + s = m → ¬ m < N → Full d (2 * s) R) := Lib.hid fun R W s a m h h0 hp h1 h2 => hp.rest (by rw [h.len]; omega) (by omega) (by omega)
  have FIN : Hid (∀ (R : List Bn) (W : World) (s : Nat), Rs B A N c R w W → Full d s R → ¬ s < N → Rs B A N c (sortL d) w W) := Lib.hid fun R W s h hf hs => by
    have := hf.sorted (by rw [h.len]; omega)
    rw [← this]
    exact h
  generalize sortL d = G at *
  clear h hBw
  go_enter Try.func51, Try.ntmps51
  go_wp2
  go_loopw [7, 8] (fun ax bx wr => ∃ (a b : Nat) (R : List Bn), ax = .int .i64 a ∧ bx = .int .i64 b ∧ a + 20 = b ∧ a ≤ N ∧ Hid (Rs B A N c R w wr) ∧ Hid (Pass d 1 20 a R)) (fun ax _ _ => N - (intOf ax).toNat)
  case atStart => exact ⟨0, 20, d, rfl, rfl, rfl, Nat.zero_le _, H0, P0⟩
  case round =>
    obtain ⟨a, b, R, rfl, rfl, hab, haN, HR, HP⟩ := hrel
    clear H0 P0
    by_cases hbN : b ≤ N
    · have t1 : (b : Int) ≤ (N : Int) := by omega
      obtain ⟨b2, hb2⟩ : ∃ b2, b2 = b + 20 := ⟨_, rfl⟩
      have wb : IntKind.i64.wrap ((b : Int) + 20) = (b2 : Int) := by rw [IntWalk.i64_in _ (by omega)]; omega
      have C1 := Lib.hid (INSC.out R wr a b HR.out HP.out hab hbN)
      have hab2 : a < b := by omega
      have e2 : b + 20 = b2 := hb2.symm
      replace e2 := Lib.hid e2
      clear hb2 INSC INSE SYC SYE SY0 FIN HR HP
      go_wp2_with (go_at_call 54; with_reducible refine (C1.out).mono ?_; rintro e w' ⟨rfl, R2, hr, hp⟩; have HR2 := Lib.hid hr; have HP2 := Lib.hid hp; clear hr hp C1)
      go_roundw
      case rel => exact ⟨b, b2, R2, rfl, rfl, e2.out, hbN, HR2, HP2⟩
      case measure => simp [intOf]; omega
    · have t1 : ¬ (b : Int) ≤ (N : Int) := by omega
      have C1 := Lib.hid (INSE.out R wr a HR.out HP.out haN (by omega))
      clear INSC INSE HR HP
      go_wp2_with (go_at_call 54; with_reducible refine (C1.out).mono ?_; rintro e w' ⟨rfl, R2, hr, hp⟩; have HR2 := Lib.hid hr; have HF2 := Lib.hid hp; clear hr hp C1)
      go_loopw [6] (fun sx wr => ∃ (s : Nat) (R : List Bn), sx = .int .i64 s ∧ 20 ≤ s ∧ s ≤ 2000000 ∧ Hid (Rs B A N c R w wr) ∧ Hid (Full d s R)) (fun sx _ => N - (intOf sx).toNat)
      case atStart => exact ⟨20, R2, rfl, by omega, by omega, HR2, HF2⟩
      case round =>
        clear HR2 HF2
        obtain ⟨s, R, rfl, h20, hs6, HR, HF⟩ := hrel
        by_cases hsN : s < N
        · have t2 : (s : Int) < (N : Int) := by omega
          obtain ⟨s2, hs2⟩ : ∃ s2, s2 = 2 * s := ⟨_, rfl⟩
          have ws : IntKind.i64.wrap (2 * (s : Int)) = (s2 : Int) := by rw [IntWalk.i64_in _ (by omega)]; omega
          have ws' : IntKind.i64.wrap ((s : Int) * 2) = (s2 : Int) := by rw [IntWalk.i64_in _ (by omega)]; omega
          have P1 := HF.out.pass
          rw [← hs2] at P1
          replace P1 := Lib.hid P1
          have e2 := Lib.hid hs2
          have h2s : s2 ≤ 2000000 := by omega
          have h1s : s < s2 := by omega
          clear HF hs2 FIN
          go_wp2
          go_loopw [7, 8] (fun ax bx wr => ∃ (a b : Nat) (R : List Bn), ax = .int .i64 a ∧ bx = .int .i64 b ∧ Hid (a + s2 = b) ∧ a ≤ N ∧ b ≤ 4000000 ∧ a < b ∧ Hid (Rs B A N c R w wr) ∧ Hid (Pass d s s2 a R)) (fun ax _ _ => N - (intOf ax).toNat)
          case atStart => exact ⟨0, s2, R, rfl, rfl, Lib.hid (by omega), Nat.zero_le _, by omega, by omega, HR, P1⟩
          case round =>
            clear HR P1
            obtain ⟨a, b, R, rfl, rfl, hab, haN, hb6, hab2, HR, HP⟩ := hrel
            obtain ⟨m, hm⟩ : ∃ m, m = a + s := ⟨_, rfl⟩
            have wm : IntKind.i64.wrap ((a : Int) + (s : Int)) = (m : Int) := by rw [IntWalk.i64_in _ (by omega)]; omega
            have hm6 : m ≤ 4000000 := by omega
            by_cases hbN : b ≤ N
            · have t3 : (b : Int) ≤ (N : Int) := by omega
              obtain ⟨b2, hb2⟩ : ∃ b2, b2 = b + s2 := ⟨_, rfl⟩
              have wb : IntKind.i64.wrap ((b : Int) + (s2 : Int)) = (b2 : Int) := by rw [IntWalk.i64_in _ (by omega)]; omega
              have C1 := SYC.out R wr s a m b HR.out (by omega) (by rw [← e2.out]; exact HP.out) hm.symm (by have := hab.out; have := e2.out; omega) hbN
              rw [← e2.out] at C1
              replace C1 := Lib.hid C1
              have e3 : Hid (b + s2 = b2) := Lib.hid hb2.symm
              have hb7 : b2 ≤ 4000000 := by omega
              have hb8 : b < b2 := by omega
              replace hm := Lib.hid hm
              clear hb2 SYC SYE SY0 HR HP
              go_wp2_with (go_at_call 55; with_reducible refine (C1.out).mono ?_; rintro e w' ⟨rfl, R2, hr, hp⟩; have HR2 := Lib.hid hr; have HP2 := Lib.hid hp; clear hr hp C1)
              go_roundw
              case rel => exact ⟨b, b2, R2, rfl, rfl, e3, hbN, hb7, hb8, HR2, HP2⟩
              case measure => simp [intOf]; omega
            · have t3 : ¬ (b : Int) ≤ (N : Int) := by omega
              have HPP : Pass d s (2 * s) a R := by rw [← e2.out]; exact HP.out
              by_cases hmN : m < N
              · have t4 : (m : Int) < (N : Int) := by omega
                have C1 := SYE.out R wr s a m HR.out (by omega) HPP hm.symm hmN (by have := hab.out; have := e2.out; omega)
                rw [← e2.out] at C1
                replace C1 := Lib.hid C1
                replace hm := Lib.hid hm
                clear HPP SYC SYE SY0 HR HP
                go_wp2_with (go_at_call 55; with_reducible refine (C1.out).mono ?_; rintro e w' ⟨rfl, R2, hr, hp⟩; have HR2 := Lib.hid hr; have HF2 := Lib.hid hp; clear hr hp C1)
                go_roundw
                case rel => exact ⟨s2, R2, rfl, by omega, h2s, HR2, HF2⟩
                case measure => simp [intOf]; omega
              · have t4 : ¬ (m : Int) < (N : Int) := by omega
                have C1 := SY0.out R wr s a m HR.out (by omega) HPP hm.symm hmN
                rw [← e2.out] at C1
                have HF2 := Lib.hid C1
                replace hm := Lib.hid hm
                clear C1 HPP SYC SYE SY0 HP
                go_wp2
                go_roundw
                case rel => exact ⟨s2, R, rfl, by omega, h2s, HR, HF2⟩
                case measure => simp [intOf]; omega
        · have t2 : ¬ (s : Int) < (N : Int) := by omega
          have HG := Lib.hid (FIN.out R wr s HR.out HF.out hsN)
          clear HR HF SYC SYE SY0 FIN
          go_wp2
          go_end0
          exact ⟨rfl, HG.out⟩
set_option maxHeartbeats 16000000 in
theorem sortstable_any {B : Nat} {A : Option Addr} {N c : Nat} {d : List Bn} {w : World} (h : Rs B A N c d w w) (hN : N ≤ 1000000) (hBw : B ≤ w.heap.size) :
    Calls Try.prog 41 #[.slice A N c, .func (.func 42) #[] #[]] w fun e w' => e = .returned (.tuple #[]) ∧ Rs B A N c (sortL d) w w' := by
  have C1 := Lib.hid (stable_any h hN hBw)
  generalize sortL d = G at *
  clear h hN hBw
  go_enter Try.func41, Try.ntmps41
  go_wp2_with (go_at_call 51; with_reducible refine (C1.out).mono ?_; rintro e w' ⟨rfl, hr⟩; have HR2 := Lib.hid hr; clear hr C1)
  go_end0
  exact ⟨rfl, HR2.out⟩
end Go.Proofs.Ytookmjdnmmfkfaa
