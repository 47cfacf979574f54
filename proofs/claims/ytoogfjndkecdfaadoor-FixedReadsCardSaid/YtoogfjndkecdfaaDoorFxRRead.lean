/- The document's Read. -/
import Derived.Test.YtoogfjndkecdfaaDoorFxRShow
import Derived.Test.YtoogfjndkecdfaaDoorFxRead
namespace Go.Proofs.YtoogfjndkecdfaaDoor
open Go.RowKit

namespace Fx
/-- what the reader's loop comes to from place i on: none where it refuses -/
def run : List UInt8 → Nat → Int → Int → Int → Bool → Option (Int × Int × Int × Bool)
  | [], _, n, f, u, p => some (n, f, u, p)
  | c :: r, i, n, f, u, p =>
    if c.toNat = 46 ∧ p = false then run r (i + 1) n f u true
    else if c.toNat < 48 ∨ 57 < c.toNat ∨ 16 < i then none
    else if p = false then run r (i + 1) (wrap64 (wrap64 (10 * n) + 256 * ((c.toNat : Int) - 48))) f u p
    else run r (i + 1) n (10 * f + ((c.toNat : Int) - 48) * 256) (u * 10) p
theorem decFrom_ge : ∀ (l : List UInt8) (acc m : Nat), Lib.decFrom acc l = some m → acc ≤ m
  | [], acc, m, h => by simp only [Lib.decFrom, Option.some.injEq] at h; omega
  | a :: t, acc, m, h => by
    simp only [Lib.decFrom] at h
    cases ha : Lib.digitVal a with
    | none => simp [ha] at h
    | some d =>
      simp only [ha] at h
      have := decFrom_ge t _ m h
      omega
theorem run_digits (r : List UInt8) : ∀ (l : List UInt8) (i N m : Nat) (f u : Int), Lib.decFrom N l = some m → m ≤ 1000000000000 → i + l.length ≤ 17 →
    run (l ++ r) i (256 * (N : Int)) f u false = run r (i + l.length) (256 * (m : Int)) f u false
  | [], i, N, m, f, u, h, _, _ => by
    simp only [Lib.decFrom, Option.some.injEq] at h
    subst h; rfl
  | c :: l, i, N, m, f, u, h, hm, hi => by
    simp only [Lib.decFrom] at h
    cases hd : Lib.digitVal c with
    | none => simp [hd] at h
    | some d =>
      simp only [hd] at h
      have hg := decFrom_ge l _ m h
      unfold Lib.digitVal at hd
      split at hd
      · rename_i hc
        have hd : c.toNat - 48 = d := Option.some.inj hd
        simp only [List.length_cons] at hi
        rw [List.cons_append, run, if_neg (by omega), if_neg (by omega), if_pos rfl]
        have e : wrap64 (wrap64 (10 * (256 * (N : Int))) + 256 * ((c.toNat : Int) - 48)) = 256 * ((N * 10 + d : Nat) : Int) := by
          rw [wrap64_of (n := 10 * (256 * (N : Int))) (by omega) (by omega), wrap64_of (by omega) (by omega)]
          omega
        rw [e, run_digits r l (i + 1) (N * 10 + d) m f u h hm (by omega), List.length_cons]
        congr 1; omega
      · cases hd
/-- the digits behind the point -/
def runT : List UInt8 → Int → Int → Int × Int
  | [], f, u => (f, u)
  | c :: r, f, u => runT r (10 * f + ((c.toNat : Int) - 48) * 256) (u * 10)
theorem run_tail (n : Int) : ∀ (l : List UInt8) (i : Nat) (f u : Int), (∀ c ∈ l, 48 ≤ c.toNat ∧ c.toNat ≤ 57) → i + l.length ≤ 17 → run l i n f u true = some (n, (runT l f u).1, (runT l f u).2, true)
  | [], _, _, _, _, _ => rfl
  | c :: l, i, f, u, h, hi => by
    have hc := h c (List.mem_cons_self ..)
    simp only [List.length_cons] at hi
    rw [run, if_neg (by simp), if_neg (by omega), if_neg (by simp), run_tail n l (i + 1) _ _ (fun x hx => h x (List.mem_cons_of_mem _ hx)) (by omega)]
    rfl
theorem tail_runT : ∀ r : Nat, r < 256 → (runT (tail r) 0 256).1 / ((runT (tail r) 0 256).2 / 256) = r ∧ ((tail r).all fun c => decide (48 ≤ c.toNat ∧ c.toNat ≤ 57)) = true := by decide +kernel
/-- what the loop's outcome is read as -/
def candR (R : Option (Int × Int × Int × Bool)) (neg : Bool) : Option Int := match R with
  | none => none
  | some (n, f, u, _) => if 1073741824 < n then none else some (if neg then wrap64 (-(n + f / (u / 256))) else n + f / (u / 256))
theorem run_showP (m : Nat) (hm : m ≤ 1073741824) (neg : Bool) : candR (run (showP m) 0 0 0 256 false) neg = some (if neg then -(m : Int) else m) := by
  have hd := decFrom_digF 6 (m / 256) (by omega)
  have hl := digF_len 7 (m / 256)
  have h0 : run (showP m) 0 0 0 256 false = run (if m % 256 = 0 then [] else 46 :: tail (m % 256)) (0 + (digF 7 (m / 256)).length) (256 * ((m / 256 : Nat) : Int)) 0 256 false :=
    run_digits _ (digF 7 (m / 256)) 0 0 (m / 256) 0 256 hd (by omega) (by omega)
  obtain ⟨t1, t2⟩ := tail_runT (m % 256) (by omega)
  have t3 := (tail_all (m % 256) (by omega)).2.2.2.1
  rw [h0]
  have fin : ∀ x : Int, x = ((m % 256 : Nat) : Int) → (if 1073741824 < 256 * ((m / 256 : Nat) : Int) then (none : Option Int) else some (if neg then wrap64 (-(256 * ((m / 256 : Nat) : Int) + x)) else 256 * ((m / 256 : Nat) : Int) + x)) = some (if neg then -(m : Int) else m) := by
    intro x hx
    rw [if_neg (by omega), wrap64_of (by omega) (by omega)]
    cases neg <;> simp only [Bool.false_eq_true, if_false, if_true] <;> (congr 1; omega)
  by_cases hz : m % 256 = 0
  · rw [if_pos hz]
    exact fin _ (by rw [hz]; rfl)
  · rw [if_neg hz]
    have h1 : run (46 :: tail (m % 256)) (0 + (digF 7 (m / 256)).length) (256 * ((m / 256 : Nat) : Int)) 0 256 false = run (tail (m % 256)) (0 + (digF 7 (m / 256)).length + 1) (256 * ((m / 256 : Nat) : Int)) 0 256 true := by
      rw [run, if_pos ⟨rfl, rfl⟩]
    rw [h1, run_tail _ _ _ _ _ (fun c hc => by simpa using List.all_eq_true.1 t2 c hc) (by omega)]
    exact fin _ t1
/-- the text behind the sign, and whether there is one -/
def unsigned (l : List UInt8) : List UInt8 := if l.head? = some 45 then l.tail else l
def candD (l : List UInt8) : Option Int := candR (run (unsigned l) 0 0 0 256 false) (decide (l.head? = some 45))
theorem candD_back (n : Int) (h : Fixed n) : candD (showL n) = some n := by
  have hh : ∀ m, (showP m).head? ≠ some 45 := fun m e => by
    have := head_showP m
    revert this e
    cases showP m with
    | nil => intro e; cases e
    | cons c r =>
      intro e
      simp only [List.head?_cons, Option.some.injEq] at e
      subst e
      simp [Lib.hasPrefix, List.isPrefixOf]
  unfold candD unsigned showL
  rw [clamp_of h]
  unfold Fixed at h
  by_cases h0 : n < 0
  · rw [if_pos h0]
    simp only [List.head?_cons, decide_true, if_true, List.tail_cons]
    rw [run_showP _ (by omega) true]
    simp; omega
  · rw [if_neg h0, if_neg (hh _), decide_eq_false (hh _), run_showP _ (by omega) false]
    simp; omega
end Fx

theorem Fx.pow_bd : ∀ j : Nat, j ≤ 15 → (256 : Int) * 10 ^ j ≤ 256000000000000000 := by decide

set_option maxHeartbeats 8000000 in
set_option maxRecDepth 100000 in
theorem rread_any (l : List UInt8) (w : World) (hl : l.length ≤ 9223372036854775807) :
    Calls Tryd.prog 25 #[.string ⟨l.toArray⟩] w fun e w' => ∃ n bad : Int, Fx.ReadsAs l n bad ∧ e = .returned (.tuple #[.int .i64 n, .int .i64 bad]) ∧ w = w' := by
  have S := Lib.hid (fun (n : Int) W (h0 : -9223372036854775808 ≤ n) (h1 : n ≤ 9223372036854775807) => rshow_any n W h0 h1)
  by_cases hs : l.head? = some 45
  · obtain ⟨t, ht⟩ : ∃ t, l = 45 :: t := by
      cases l with
      | nil => cases hs
      | cons c r => simp only [List.head?_cons, Option.some.injEq] at hs; exact ⟨r, by rw [hs]⟩
    have h0 : 0 < l.length := by rw [ht]; simp
    have hlt0 : t.length < l.length := by rw [ht]; simp
    have g0 : ∀ h, (((ByteArray.mk l.toArray)[0]'h).toNat : Int) = 45 := fun h => by subst ht; rfl
    have HT := Lib.hid (show l.drop 1 = t by rw [ht]; rfl)
    obtain ⟨R, hR0⟩ : ∃ R, R = Fx.run t 0 0 0 256 false := ⟨_, rfl⟩
    have hR := Lib.hid hR0.symm
    have hF := Lib.hid (show Fx.candD l = Fx.candR R true by rw [hR0, ht]; rfl)
    clear hs ht hR0
    go_enter Tryd.func25, Tryd.ntmps25
    go_wp2_with fail
    rw [ext_drop, HT.out]
    clear g0 HT
    go_loop [5, 6, 7, 8, 9] (fun n f u p i => ∃ (k j : Nat) (a b c : Int) (q : Bool), n = .int .i64 a ∧ f = .int .i64 b ∧ u = .int .i64 c ∧ p = .bool q ∧ i = .int .i64 k ∧ k ≤ t.length ∧ -9223372036854775808 ≤ a ∧ a ≤ 9223372036854775807 ∧ 0 ≤ b ∧ b + 256 ≤ c ∧ c ≤ 2560000000000000000 ∧ Hid (c = 256 * 10 ^ j) ∧ (q = true → j + 1 ≤ k) ∧ (q = false → j = 0) ∧ Hid (Fx.run (t.drop k) k a b c q = R)) (fun _ _ _ _ i => t.length - (intOf i).toNat)
    case atStart => exact ⟨0, 0, 0, 0, 256, false, rfl, rfl, rfl, rfl, rfl, by omega, by omega, by omega, by omega, by omega, by omega, Lib.hid (by simp), (fun h => by cases h), (fun _ => rfl), Lib.hid (by rw [List.drop_zero]; exact hR.out)⟩
    case round =>
      obtain ⟨k, j, a, b, c, q, rfl, rfl, rfl, rfl, rfl, hk, ha0, ha1, hb0, hbc, hc1, hc, hqj, hq0, hr⟩ := hrel
      by_cases hlt : k < t.length
      · obtain ⟨y, hy⟩ : ∃ y, y = t[k] := ⟨_, rfl⟩
        obtain ⟨x, hx⟩ : ∃ x : Int, x = (y.toNat : Int) := ⟨_, rfl⟩
        have x0 : 0 ≤ x := by omega
        have x1 : x ≤ 255 := by have := y.toNat_lt; omega
        have gx : ∀ h, (((ByteArray.mk t.toArray)[k]'h).toNat : Int) = x := fun h => by rw [hx, hy]; rfl
        have hd : t.drop k = y :: t.drop (k + 1) := by rw [hy]; exact List.drop_eq_getElem_cons hlt
        have HR := hr.out
        have hyn : y.toNat = x.toNat := by omega
        have hxi : ((x.toNat : Nat) : Int) = x := by omega
        rw [hd, Fx.run, hyn, hxi] at HR
        clear hr hd hy hyn hx hxi
        by_cases hp : x = 46 ∧ q = false
        · rw [if_pos ⟨by omega, hp.2⟩] at HR
          obtain ⟨rfl, rfl⟩ := hp
          have HR2 := Lib.hid HR
          clear HR
          go_wp2
          go_round
          case rel => exact ⟨k + 1, j, a, b, c, true, rfl, rfl, rfl, rfl, by go_num, by omega, ha0, ha1, hb0, hbc, hc1, hc, (fun _ => by have := hq0 rfl; omega), (fun h => by cases h), HR2⟩
          case measure => simp [intOf]; omega
        · rw [if_neg (fun h => hp ⟨by omega, h.2⟩)] at HR
          have tp : (x == 46) = false ∨ q = true := by
            cases q
            · left; simp; intro e; exact hp ⟨e, rfl⟩
            · right; rfl
          clear hp
          by_cases hx48 : x < 48
          · rw [if_pos (.inl (by omega))] at HR
            have HN := Lib.hid (show Fx.candD l = none by rw [hF.out, ← HR]; rfl)
            have RN := Lib.hid (Fx.reads_none (l := l) (fun m hm hs => by have := HN.out; rw [← hs, Fx.candD_back m hm] at this; cases this))
            clear HR HN
            have t1 : decide (x < 48) = true := by simp; omega
            rcases tp with t3 | rfl
            all_goals go_wp2
            all_goals
              go_ret2
              exact ⟨_, _, RN.out, rfl, rfl⟩
          · by_cases hx57 : 57 < x
            · rw [if_pos (.inr (.inl (by omega)))] at HR
              have HN := Lib.hid (show Fx.candD l = none by rw [hF.out, ← HR]; rfl)
              have RN := Lib.hid (Fx.reads_none (l := l) (fun m hm hs => by have := HN.out; rw [← hs, Fx.candD_back m hm] at this; cases this))
              clear HR HN
              have t1 : decide (x < 48) = false := by simp; omega
              have t2 : decide (57 < x) = true := by simp; omega
              have t3 : (x == 46) = false := by simp; omega
              go_wp2
              go_ret2
              exact ⟨_, _, RN.out, rfl, rfl⟩
            · by_cases hk16 : 16 < k
              · rw [if_pos (.inr (.inr hk16))] at HR
                have HN := Lib.hid (show Fx.candD l = none by rw [hF.out, ← HR]; rfl)
                have RN := Lib.hid (Fx.reads_none (l := l) (fun m hm hs => by have := HN.out; rw [← hs, Fx.candD_back m hm] at this; cases this))
                clear HR HN
                have t1 : decide (x < 48) = false := by simp; omega
                have t2 : decide (57 < x) = false := by simp; omega
                have t3 : (x == 46) = false := by simp; omega
                go_wp2
                go_ret2
                exact ⟨_, _, RN.out, rfl, rfl⟩
              · rw [if_neg (by omega)] at HR
                have t1 : decide (x < 48) = false := by simp; omega
                have t2 : decide (57 < x) = false := by simp; omega
                have t3 : (x == 46) = false := by simp; omega
                cases q
                · rw [if_pos rfl] at HR
                  have HR2 := Lib.hid HR
                  clear HR tp
                  go_wp2
                  go_round
                  case rel => exact ⟨k + 1, j, _, b, c, false, rfl, rfl, rfl, rfl, by go_num, by omega, by unfold wrap64; omega, by unfold wrap64; omega, hb0, hbc, hc1, hc, (fun h => by cases h), hq0, HR2⟩
                  case measure => simp [intOf]; omega
                · rw [if_neg (by simp)] at HR
                  have HR2 := Lib.hid HR
                  have hj15 : j + 1 ≤ k := hqj rfl
                  have hc2 : c ≤ 256000000000000000 := by rw [hc.out]; exact Fx.pow_bd j (by omega)
                  have HC := Lib.hid (show c * 10 = 256 * 10 ^ (j + 1) by rw [hc.out, Int.pow_succ, Int.mul_assoc])
                  clear HR tp hc
                  go_wp2
                  go_round
                  case rel => exact ⟨k + 1, j + 1, a, _, _, true, rfl, rfl, rfl, rfl, by go_num, by omega, ha0, ha1, by omega, by omega, by omega, HC, (fun _ => by omega), (fun h => by cases h), HR2⟩
                  case measure => simp [intOf]; omega
      · have HR := hr.out
        rw [List.drop_eq_nil_of_le (by omega), Fx.run] at HR
        by_cases hM : 1073741824 < a
        · have HN := Lib.hid (show Fx.candD l = none by rw [hF.out, ← HR]; exact if_pos hM)
          have RN := Lib.hid (Fx.reads_none (l := l) (fun m hm hs => by have := HN.out; rw [← hs, Fx.candD_back m hm] at this; cases this))
          clear HR HN hr
          go_wp2
          go_ret2
          exact ⟨_, _, RN.out, rfl, rfl⟩
        · have d0 : 1 ≤ c / 256 := by omega
          have d1 : 0 ≤ b / (c / 256) := Int.ediv_nonneg hb0 (by omega)
          have d2 : b / (c / 256) ≤ b := Int.ediv_le_self _ hb0
          have HV := Lib.hid (show Fx.candD l = some (wrap64 (-(a + b / (c / 256)))) by rw [hF.out, ← HR]; exact if_neg hM)
          have wb : -9223372036854775808 ≤ wrap64 (-(a + b / (c / 256))) ∧ wrap64 (-(a + b / (c / 256))) ≤ 9223372036854775807 := by unfold wrap64; omega
          clear HR hr hc
          obtain ⟨k1, hk1⟩ : ∃ k, k = Fx.showL (wrap64 (-(a + b / (c / 256)))) := ⟨_, rfl⟩
          have SX : Hid (∀ W, Calls Tryd.prog 23 #[.int .i64 (wrap64 (-(a + b / (c / 256))))] W fun e w' => e = .returned (.string ⟨k1.toArray⟩) ∧ W = w') := Lib.hid (fun W => by rw [hk1]; exact S.out _ W (by omega) (by omega))
          obtain ⟨ry, rn⟩ := Fx.reads_cand (l := l) (c := wrap64 (-(a + b / (c / 256)))) (fun m hm hs => by
            have e1 := hF.out
            rw [← hs, Fx.candD_back m hm] at e1
            have e2 := HV.out
            rw [hF.out] at e2
            rw [e2] at e1
            exact (Option.some.inj e1).symm)
          rw [← hk1] at ry rn
          clear hk1
          by_cases hq : k1 = l
          · have RY := Lib.hid (ry hq)
            have heq : (k1 == l) = true := by simpa using hq
            clear ry rn hq
            go_wp2_with (go_at_call 23; refine (SX.out _).mono ?_; rintro e w' ⟨rfl, rfl⟩)
            go_ret2
            exact ⟨_, _, RY.out, rfl, rfl⟩
          · have RN := Lib.hid (rn hq)
            have hne : (k1 == l) = false := by simpa using hq
            clear ry rn hq
            go_wp2_with (go_at_call 23; refine (SX.out _).mono ?_; rintro e w' ⟨rfl, rfl⟩)
            go_ret2
            exact ⟨_, _, RN.out, rfl, rfl⟩
  · obtain ⟨R, hR0⟩ : ∃ R, R = Fx.run l 0 0 0 256 false := ⟨_, rfl⟩
    have hR := Lib.hid hR0.symm
    have hF := Lib.hid (show Fx.candD l = Fx.candR R false by unfold Fx.candD Fx.unsigned; rw [hR0, if_neg hs, decide_eq_false hs])
    clear hR0
    by_cases h0 : 0 < l.length
    · have g1 : ∀ h, (((ByteArray.mk l.toArray)[0]'h).toNat : Int) = (l[0].toNat : Int) := fun h => rfl
      obtain ⟨z, hz⟩ : ∃ z : Int, z = (l[0].toNat : Int) := ⟨_, rfl⟩
      have g0 : ∀ h, (((ByteArray.mk l.toArray)[0]'h).toNat : Int) = z := fun h => by rw [hz]; rfl
      have z1 : (z == 45) = false := by
        rw [beq_eq_false_iff_ne]
        intro e
        refine hs ?_
        have e1 : l[0] = 45 := by apply UInt8.toNat_inj.1; show l[0].toNat = 45; omega
        rw [List.head?_eq_getElem?, List.getElem?_eq_getElem h0, e1]
      clear hs g1 hz
      go_enter Tryd.func25, Tryd.ntmps25
      go_wp2_with fail
      clear g0
      go_loop [5, 6, 7, 8, 9] (fun n f u p i => ∃ (k j : Nat) (a b c : Int) (q : Bool), n = .int .i64 a ∧ f = .int .i64 b ∧ u = .int .i64 c ∧ p = .bool q ∧ i = .int .i64 k ∧ k ≤ l.length ∧ -9223372036854775808 ≤ a ∧ a ≤ 9223372036854775807 ∧ 0 ≤ b ∧ b + 256 ≤ c ∧ c ≤ 2560000000000000000 ∧ Hid (c = 256 * 10 ^ j) ∧ (q = true → j + 1 ≤ k) ∧ (q = false → j = 0) ∧ Hid (Fx.run (l.drop k) k a b c q = R)) (fun _ _ _ _ i => l.length - (intOf i).toNat)
      case atStart => exact ⟨0, 0, 0, 0, 256, false, rfl, rfl, rfl, rfl, rfl, by omega, by omega, by omega, by omega, by omega, by omega, Lib.hid (by simp), (fun h => by cases h), (fun _ => rfl), Lib.hid (by rw [List.drop_zero]; exact hR.out)⟩
      case round =>
        obtain ⟨k, j, a, b, c, q, rfl, rfl, rfl, rfl, rfl, hk, ha0, ha1, hb0, hbc, hc1, hc, hqj, hq0, hr⟩ := hrel
        by_cases hlt : k < l.length
        · obtain ⟨y, hy⟩ : ∃ y, y = l[k] := ⟨_, rfl⟩
          obtain ⟨x, hx⟩ : ∃ x : Int, x = (y.toNat : Int) := ⟨_, rfl⟩
          have x0 : 0 ≤ x := by omega
          have x1 : x ≤ 255 := by have := y.toNat_lt; omega
          have gx : ∀ h, (((ByteArray.mk l.toArray)[k]'h).toNat : Int) = x := fun h => by rw [hx, hy]; rfl
          have hd : l.drop k = y :: l.drop (k + 1) := by rw [hy]; exact List.drop_eq_getElem_cons hlt
          have HR := hr.out
          have hyn : y.toNat = x.toNat := by omega
          have hxi : ((x.toNat : Nat) : Int) = x := by omega
          rw [hd, Fx.run, hyn, hxi] at HR
          clear hr hd hy hyn hx hxi
          by_cases hp : x = 46 ∧ q = false
          · rw [if_pos ⟨by omega, hp.2⟩] at HR
            obtain ⟨rfl, rfl⟩ := hp
            have HR2 := Lib.hid HR
            clear HR
            go_wp2
            go_round
            case rel => exact ⟨k + 1, j, a, b, c, true, rfl, rfl, rfl, rfl, by go_num, by omega, ha0, ha1, hb0, hbc, hc1, hc, (fun _ => by have := hq0 rfl; omega), (fun h => by cases h), HR2⟩
            case measure => simp [intOf]; omega
          · rw [if_neg (fun h => hp ⟨by omega, h.2⟩)] at HR
            have tp : (x == 46) = false ∨ q = true := by
              cases q
              · left; simp; intro e; exact hp ⟨e, rfl⟩
              · right; rfl
            clear hp
            by_cases hx48 : x < 48
            · rw [if_pos (.inl (by omega))] at HR
              have HN := Lib.hid (show Fx.candD l = none by rw [hF.out, ← HR]; rfl)
              have RN := Lib.hid (Fx.reads_none (l := l) (fun m hm hs => by have := HN.out; rw [← hs, Fx.candD_back m hm] at this; cases this))
              clear HR HN
              have t1 : decide (x < 48) = true := by simp; omega
              rcases tp with t3 | rfl
              all_goals go_wp2
              all_goals
                go_ret2
                exact ⟨_, _, RN.out, rfl, rfl⟩
            · by_cases hx57 : 57 < x
              · rw [if_pos (.inr (.inl (by omega)))] at HR
                have HN := Lib.hid (show Fx.candD l = none by rw [hF.out, ← HR]; rfl)
                have RN := Lib.hid (Fx.reads_none (l := l) (fun m hm hs => by have := HN.out; rw [← hs, Fx.candD_back m hm] at this; cases this))
                clear HR HN
                have t1 : decide (x < 48) = false := by simp; omega
                have t2 : decide (57 < x) = true := by simp; omega
                have t3 : (x == 46) = false := by simp; omega
                go_wp2
                go_ret2
                exact ⟨_, _, RN.out, rfl, rfl⟩
              · by_cases hk16 : 16 < k
                · rw [if_pos (.inr (.inr hk16))] at HR
                  have HN := Lib.hid (show Fx.candD l = none by rw [hF.out, ← HR]; rfl)
                  have RN := Lib.hid (Fx.reads_none (l := l) (fun m hm hs => by have := HN.out; rw [← hs, Fx.candD_back m hm] at this; cases this))
                  clear HR HN
                  have t1 : decide (x < 48) = false := by simp; omega
                  have t2 : decide (57 < x) = false := by simp; omega
                  have t3 : (x == 46) = false := by simp; omega
                  go_wp2
                  go_ret2
                  exact ⟨_, _, RN.out, rfl, rfl⟩
                · rw [if_neg (by omega)] at HR
                  have t1 : decide (x < 48) = false := by simp; omega
                  have t2 : decide (57 < x) = false := by simp; omega
                  have t3 : (x == 46) = false := by simp; omega
                  cases q
                  · rw [if_pos rfl] at HR
                    have HR2 := Lib.hid HR
                    clear HR tp
                    go_wp2
                    go_round
                    case rel => exact ⟨k + 1, j, _, b, c, false, rfl, rfl, rfl, rfl, by go_num, by omega, by unfold wrap64; omega, by unfold wrap64; omega, hb0, hbc, hc1, hc, (fun h => by cases h), hq0, HR2⟩
                    case measure => simp [intOf]; omega
                  · rw [if_neg (by simp)] at HR
                    have HR2 := Lib.hid HR
                    have hj15 : j + 1 ≤ k := hqj rfl
                    have hc2 : c ≤ 256000000000000000 := by rw [hc.out]; exact Fx.pow_bd j (by omega)
                    have HC := Lib.hid (show c * 10 = 256 * 10 ^ (j + 1) by rw [hc.out, Int.pow_succ, Int.mul_assoc])
                    clear HR tp hc
                    go_wp2
                    go_round
                    case rel => exact ⟨k + 1, j + 1, a, _, _, true, rfl, rfl, rfl, rfl, by go_num, by omega, ha0, ha1, by omega, by omega, by omega, HC, (fun _ => by omega), (fun h => by cases h), HR2⟩
                    case measure => simp [intOf]; omega
        · have HR := hr.out
          rw [List.drop_eq_nil_of_le (by omega), Fx.run] at HR
          by_cases hM : 1073741824 < a
          · have HN := Lib.hid (show Fx.candD l = none by rw [hF.out, ← HR]; exact if_pos hM)
            have RN := Lib.hid (Fx.reads_none (l := l) (fun m hm hs => by have := HN.out; rw [← hs, Fx.candD_back m hm] at this; cases this))
            clear HR HN hr
            go_wp2
            go_ret2
            exact ⟨_, _, RN.out, rfl, rfl⟩
          · have d0 : 1 ≤ c / 256 := by omega
            have d1 : 0 ≤ b / (c / 256) := Int.ediv_nonneg hb0 (by omega)
            have d2 : b / (c / 256) ≤ b := Int.ediv_le_self _ hb0
            have HV := Lib.hid (show Fx.candD l = some (a + b / (c / 256)) by rw [hF.out, ← HR]; exact if_neg hM)
            skip
            clear HR hr hc
            obtain ⟨k1, hk1⟩ : ∃ k, k = Fx.showL (a + b / (c / 256)) := ⟨_, rfl⟩
            have SX : Hid (∀ W, Calls Tryd.prog 23 #[.int .i64 (a + b / (c / 256))] W fun e w' => e = .returned (.string ⟨k1.toArray⟩) ∧ W = w') := Lib.hid (fun W => by rw [hk1]; exact S.out _ W (by omega) (by omega))
            obtain ⟨ry, rn⟩ := Fx.reads_cand (l := l) (c := a + b / (c / 256)) (fun m hm hs => by
              have e1 := hF.out
              rw [← hs, Fx.candD_back m hm] at e1
              have e2 := HV.out
              rw [hF.out] at e2
              rw [e2] at e1
              exact (Option.some.inj e1).symm)
            rw [← hk1] at ry rn
            clear hk1
            by_cases hq : k1 = l
            · have RY := Lib.hid (ry hq)
              have heq : (k1 == l) = true := by simpa using hq
              clear ry rn hq
              go_wp2_with (go_at_call 23; refine (SX.out _).mono ?_; rintro e w' ⟨rfl, rfl⟩)
              go_ret2
              exact ⟨_, _, RY.out, rfl, rfl⟩
            · have RN := Lib.hid (rn hq)
              have hne : (k1 == l) = false := by simpa using hq
              clear ry rn hq
              go_wp2_with (go_at_call 23; refine (SX.out _).mono ?_; rintro e w' ⟨rfl, rfl⟩)
              go_ret2
              exact ⟨_, _, RN.out, rfl, rfl⟩
    · have h1 : l.length ≤ 0 := by omega
      have h2 : decide (0 < l.length) = false := by simpa using h0
      clear hs h0
      go_enter Tryd.func25, Tryd.ntmps25
      go_wp2_with fail
      go_loop [5, 6, 7, 8, 9] (fun n f u p i => ∃ (k j : Nat) (a b c : Int) (q : Bool), n = .int .i64 a ∧ f = .int .i64 b ∧ u = .int .i64 c ∧ p = .bool q ∧ i = .int .i64 k ∧ k ≤ l.length ∧ -9223372036854775808 ≤ a ∧ a ≤ 9223372036854775807 ∧ 0 ≤ b ∧ b + 256 ≤ c ∧ c ≤ 2560000000000000000 ∧ Hid (c = 256 * 10 ^ j) ∧ (q = true → j + 1 ≤ k) ∧ (q = false → j = 0) ∧ Hid (Fx.run (l.drop k) k a b c q = R)) (fun _ _ _ _ i => l.length - (intOf i).toNat)
      case atStart => exact ⟨0, 0, 0, 0, 256, false, rfl, rfl, rfl, rfl, rfl, by omega, by omega, by omega, by omega, by omega, by omega, Lib.hid (by simp), (fun h => by cases h), (fun _ => rfl), Lib.hid (by rw [List.drop_zero]; exact hR.out)⟩
      case round =>
        obtain ⟨k, j, a, b, c, q, rfl, rfl, rfl, rfl, rfl, hk, ha0, ha1, hb0, hbc, hc1, hc, hqj, hq0, hr⟩ := hrel
        by_cases hlt : k < l.length
        · exact absurd hlt (by omega)
        · have HR := hr.out
          rw [List.drop_eq_nil_of_le (by omega), Fx.run] at HR
          by_cases hM : 1073741824 < a
          · have HN := Lib.hid (show Fx.candD l = none by rw [hF.out, ← HR]; exact if_pos hM)
            have RN := Lib.hid (Fx.reads_none (l := l) (fun m hm hs => by have := HN.out; rw [← hs, Fx.candD_back m hm] at this; cases this))
            clear HR HN hr
            go_wp2
            go_ret2
            exact ⟨_, _, RN.out, rfl, rfl⟩
          · have d0 : 1 ≤ c / 256 := by omega
            have d1 : 0 ≤ b / (c / 256) := Int.ediv_nonneg hb0 (by omega)
            have d2 : b / (c / 256) ≤ b := Int.ediv_le_self _ hb0
            have HV := Lib.hid (show Fx.candD l = some (a + b / (c / 256)) by rw [hF.out, ← HR]; exact if_neg hM)
            skip
            clear HR hr hc
            obtain ⟨k1, hk1⟩ : ∃ k, k = Fx.showL (a + b / (c / 256)) := ⟨_, rfl⟩
            have SX : Hid (∀ W, Calls Tryd.prog 23 #[.int .i64 (a + b / (c / 256))] W fun e w' => e = .returned (.string ⟨k1.toArray⟩) ∧ W = w') := Lib.hid (fun W => by rw [hk1]; exact S.out _ W (by omega) (by omega))
            obtain ⟨ry, rn⟩ := Fx.reads_cand (l := l) (c := a + b / (c / 256)) (fun m hm hs => by
              have e1 := hF.out
              rw [← hs, Fx.candD_back m hm] at e1
              have e2 := HV.out
              rw [hF.out] at e2
              rw [e2] at e1
              exact (Option.some.inj e1).symm)
            rw [← hk1] at ry rn
            clear hk1
            by_cases hq : k1 = l
            · have RY := Lib.hid (ry hq)
              have heq : (k1 == l) = true := by simpa using hq
              clear ry rn hq
              go_wp2_with (go_at_call 23; refine (SX.out _).mono ?_; rintro e w' ⟨rfl, rfl⟩)
              go_ret2
              exact ⟨_, _, RY.out, rfl, rfl⟩
            · have RN := Lib.hid (rn hq)
              have hne : (k1 == l) = false := by simpa using hq
              clear ry rn hq
              go_wp2_with (go_at_call 23; refine (SX.out _).mono ?_; rintro e w' ⟨rfl, rfl⟩)
              go_ret2
              exact ⟨_, _, RN.out, rfl, rfl⟩
end Go.Proofs.YtoogfjndkecdfaaDoor
