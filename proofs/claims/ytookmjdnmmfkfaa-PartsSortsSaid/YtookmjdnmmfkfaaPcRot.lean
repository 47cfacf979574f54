/- The library's rotateCmpFunc, over a row of one's own. -/
import Derived.Test.YtookmjdnmmfkfaaPcSw
namespace Go.Proofs.Ytookmjdnmmfkfaa
open Go.RowKit Pz
set_option linter.unusedVariables false

namespace Pz
/-- two parts that are to be exchanged, partly done: T is what shall stand between P and Q -/
def Rot (P Q T : List Bn) (m : Nat) (R : List Bn) (i j : Nat) : Prop :=
  ∃ A X Y C : List Bn, R = P ++ (A ++ (X ++ (Y ++ (C ++ Q)))) ∧ X.length = i ∧ Y.length = j ∧ P.length + A.length + i = m ∧ A ++ (Y ++ (X ++ C)) = T
theorem Rot.start (P X Y Q : List Bn) : Rot P Q (Y ++ X) (P.length + X.length) (P ++ (X ++ (Y ++ Q))) X.length Y.length :=
  ⟨[], X, Y, [], by simp, rfl, rfl, by simp, by simp⟩
theorem Rot.bds {P Q T R : List Bn} {m i j : Nat} (h : Rot P Q T m R i j) : i ≤ m ∧ m + j ≤ R.length := by
  obtain ⟨A, X, Y, C, rfl, h1, h2, h3, _⟩ := h
  simp only [List.length_append]
  omega
theorem Rot.gt {P Q T R : List Bn} {m i j : Nat} (h : Rot P Q T m R i j) (hij : j < i) : Rot P Q T m (swr R (m - i) m j) (i - j) j := by
  obtain ⟨A, X, Y, C, rfl, h1, h2, h3, h4⟩ := h
  have hl : (X.take j).length = j := by rw [List.length_take]; omega
  refine ⟨A ++ Y, X.drop j, X.take j, C, ?_, by rw [List.length_drop, h1], hl, by rw [List.length_append]; omega, ?_⟩
  · have := swr_parts (X.take j) Y (P ++ A) (X.drop j) (C ++ Q) (by rw [hl, h2])
    rw [hl, List.length_append, List.length_drop] at this
    rw [show m - i = P.length + A.length by omega]
    rw [show P.length + A.length + j + (X.length - j) = m by omega] at this
    rw [← List.append_assoc (X.take j), List.take_append_drop] at this
    simpa [List.append_assoc] using this
  · rw [← h4, List.append_assoc, ← List.append_assoc (X.take j), List.take_append_drop]
theorem Rot.lt {P Q T R : List Bn} {m i j : Nat} (h : Rot P Q T m R i j) (hij : i < j) : Rot P Q T m (swr R (m - i) (m + j - i) i) i (j - i) := by
  obtain ⟨A, X, Y, C, rfl, h1, h2, h3, h4⟩ := h
  have hl : (Y.drop (j - i)).length = i := by rw [List.length_drop]; omega
  have ht : (Y.take (j - i)).length = j - i := by rw [List.length_take]; omega
  refine ⟨A, Y.drop (j - i), Y.take (j - i), X ++ C, ?_, hl, ht, h3, ?_⟩
  · have := swr_parts X (Y.drop (j - i)) (P ++ A) (Y.take (j - i)) (C ++ Q) (by rw [hl, h1])
    rw [List.length_append, ht, h1] at this
    rw [show m - i = P.length + A.length by omega]
    rw [show P.length + A.length + i + (j - i) = m + j - i by omega] at this
    rw [← List.append_assoc (Y.take (j - i)), List.take_append_drop] at this
    simpa using this
  · rw [← h4, ← List.append_assoc (Y.take (j - i)), List.take_append_drop]
theorem Rot.eq {P Q T R : List Bn} {m i : Nat} (h : Rot P Q T m R i i) : swr R (m - i) m i = P ++ (T ++ Q) := by
  obtain ⟨A, X, Y, C, rfl, h1, h2, h3, h4⟩ := h
  have := swr_parts X Y (P ++ A) [] (C ++ Q) (by omega)
  rw [List.length_append, List.length_nil, h1] at this
  rw [show m - i = P.length + A.length by omega, ← h4]
  rw [show P.length + A.length + i + 0 = m by omega] at this
  simpa [List.append_assoc] using this
end Pz
set_option maxHeartbeats 16000000 in
set_option maxRecDepth 100000 in
theorem rotate_any {B : Nat} {A : Option Addr} {N c : Nat} {P X Y Q : List Bn} {w : World} (h : Rs B A N c (P ++ (X ++ (Y ++ Q))) w w) (hN : N ≤ 1000000) (hX : 0 < X.length) (hY : 0 < Y.length) {a m b : Nat} (ha : P.length = a) (hm : a + X.length = m) (hb : m + Y.length = b) :
    Calls Try.prog 56 #[.slice A N c, .int .i64 (a : Int), .int .i64 (m : Int), .int .i64 (b : Int), .func (.func 42) #[] #[]] w fun e w' => e = .returned (.tuple #[]) ∧ Rs B A N c (P ++ (Y ++ (X ++ Q))) w w' := by
  have H0 := Lib.hid h
  have R0 := Rot.start P X Y Q
  rw [ha, hm] at R0
  have RB := R0.bds
  rw [h.len] at RB
  have mN : (m : Int) ≤ 1000000 := by omega
  have bN : (b : Int) ≤ 1000000 := by omega
  have w1 : IntKind.i64.wrap ((m : Int) - (a : Int)) = (X.length : Int) := by rw [IntWalk.i64_in _ (by omega)]; omega
  have w2 : IntKind.i64.wrap ((b : Int) - (m : Int)) = (Y.length : Int) := by rw [IntWalk.i64_in _ (by omega)]; omega
  have TT : Hid (∀ Z : List Bn, Z = P ++ ((Y ++ X) ++ Q) → Z = P ++ (Y ++ (X ++ Q))) := Lib.hid fun Z e => by rw [e]; simp [List.append_assoc]
  have R1 := Lib.hid R0
  generalize P ++ (Y ++ (X ++ Q)) = G at *
  generalize Y ++ X = T at *
  generalize P ++ (X ++ (Y ++ Q)) = D at *
  generalize X.length = i0 at *
  generalize Y.length = j0 at *
  replace ha := Lib.hid ha
  replace hm := Lib.hid hm
  replace hb := Lib.hid hb
  clear R0 RB h
  have SWP : Hid (∀ (W : World) (R : List Bn), Rs B A N c R W W → ∀ a b n : Nat, a + n ≤ b → b + n ≤ N → Calls Try.prog 57 #[.slice A N c, .int .i64 (a : Int), .int .i64 (b : Int), .int .i64 (n : Int), .func (.func 42) #[] #[]] W fun e w' => e = .returned (.tuple #[]) ∧ Rs B A N c (swr R a b n) W w') := Lib.hid fun W R h a b n h1 h2 => swaprange_any h hN a b n h1 h2
  have SELF : Hid (∀ (R : List Bn) (W : World), Rs B A N c R w W → Rs B A N c R W W) := Lib.hid fun R W h => ⟨h.own, h.len, Below.refl _ _⟩
  go_enter Try.func56, Try.ntmps56
  go_wp2
  go_loopw [10, 11] (fun ix jx wr => ∃ (i j : Nat) (R : List Bn), ix = .int .i64 i ∧ jx = .int .i64 j ∧ 0 < i ∧ 0 < j ∧ Hid (Rs B A N c R w wr) ∧ Hid (Rot P Q T m R i j)) (fun ix jx _ => (intOf ix).toNat + (intOf jx).toNat)
  case atStart => exact ⟨i0, j0, D, rfl, rfl, hX, hY, H0, R1⟩
  case round =>
    obtain ⟨i, j, R, rfl, rfl, hi, hj, HR, HT⟩ := hrel
    clear H0 R1 w1 w2
    obtain ⟨b1, b2⟩ := HT.out.bds
    rw [HR.out.len] at b2
    obtain ⟨mi, hmi⟩ : ∃ x, x = m - i := ⟨_, rfl⟩
    have wm : IntKind.i64.wrap ((m : Int) - (i : Int)) = (mi : Int) := by rw [IntWalk.i64_in _ (by omega)]; omega
    have HMI := Lib.hid hmi
    by_cases hij : i = j
    · subst hij
      have t1 : ((i : Int) != (i : Int)) = false := by simp
      have e := TT.out _ HT.out.eq
      have S := SWP.out wr R (SELF.out R wr HR.out) mi m i (by omega) (by omega)
      rw [hmi, e] at S
      rw [← hmi] at S
      replace S := Lib.hid S
      clear e hmi SWP TT HT
      go_wp2_with (go_at_call 57; with_reducible refine (S.out).mono ?_; rintro e w' ⟨rfl, hs⟩; replace HR := Lib.hid (HR.out.again hs); clear hs S)
      go_end0
      exact ⟨rfl, HR.out⟩
    · have t1 : ((i : Int) != (j : Int)) = true := bne_iff_ne.2 (by omega)
      by_cases hgt : j < i
      · have t2 : (i : Int) > (j : Int) := by omega
        obtain ⟨ij, hd⟩ : ∃ x, x = i - j := ⟨_, rfl⟩
        have wd : IntKind.i64.wrap ((i : Int) - (j : Int)) = (ij : Int) := by rw [IntWalk.i64_in _ (by omega)]; omega
        have S := SWP.out wr R (SELF.out R wr HR.out) mi m j (by omega) (by omega)
        have NT := HT.out.gt hgt
        rw [← hmi, ← hd] at NT
        generalize swr R mi m j = R2 at *
        replace S := Lib.hid S
        replace NT := Lib.hid NT
        have h0 : 0 < ij := by omega
        have hlt : ij < i := by omega
        replace hd := Lib.hid hd
        clear hmi SWP TT HT hij
        go_wp2_with (go_at_call 57; with_reducible refine (S.out).mono ?_; rintro e w' ⟨rfl, hs⟩; replace HR := Lib.hid (HR.out.again hs); clear hs S)
        go_roundw
        case rel => exact ⟨ij, j, R2, rfl, rfl, h0, hj, HR, NT⟩
        case measure => simp [intOf]; omega
      · have t2 : ¬ (i : Int) > (j : Int) := by omega
        obtain ⟨ij, hd⟩ : ∃ x, x = j - i := ⟨_, rfl⟩
        have wd : IntKind.i64.wrap ((j : Int) - (i : Int)) = (ij : Int) := by rw [IntWalk.i64_in _ (by omega)]; omega
        obtain ⟨mj, hmj⟩ : ∃ x, x = m + j := ⟨_, rfl⟩
        have we : IntKind.i64.wrap ((m : Int) + (j : Int)) = (mj : Int) := by rw [IntWalk.i64_in _ (by omega)]; omega
        obtain ⟨mk, hmk⟩ : ∃ x, x = m + j - i := ⟨_, rfl⟩
        have wf : IntKind.i64.wrap ((mj : Int) - (i : Int)) = (mk : Int) := by rw [IntWalk.i64_in _ (by omega)]; omega
        have S := SWP.out wr R (SELF.out R wr HR.out) mi mk i (by omega) (by omega)
        have NT := HT.out.lt (by omega)
        rw [← hmi, ← hd, ← hmk] at NT
        generalize swr R mi mk i = R2 at *
        replace S := Lib.hid S
        replace NT := Lib.hid NT
        have h0 : 0 < ij := by omega
        have hlt : ij < j := by omega
        replace hd := Lib.hid hd
        replace hmj := Lib.hid hmj
        replace hmk := Lib.hid hmk
        clear hmi SWP TT HT hij
        go_wp2_with (go_at_call 57; with_reducible refine (S.out).mono ?_; rintro e w' ⟨rfl, hs⟩; replace HR := Lib.hid (HR.out.again hs); clear hs S)
        go_roundw
        case rel => exact ⟨i, ij, R2, rfl, rfl, hi, h0, HR, NT⟩
        case measure => simp [intOf]; omega
end Go.Proofs.Ytookmjdnmmfkfaa
