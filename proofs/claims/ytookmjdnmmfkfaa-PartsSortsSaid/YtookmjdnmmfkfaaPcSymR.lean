/- The library's symMergeCmpFunc, over a row of one's own: what is done behind the search. Written by wip/tools/gensym.py. -/
import Derived.Test.YtookmjdnmmfkfaaPcSymA
import Derived.Test.YtookmjdnmmfkfaaPcRot
import Derived.Deep.DeepCutAuto
import Derived.BigRegion
namespace Go.Proofs.Ytookmjdnmmfkfaa
open Go.RowKit Pz Go.Shelf
set_option linter.unusedVariables false

def SymAt (n : Nat) : Prop := ∀ (B : Nat) (A : Option Addr) (N c : Nat) (P X Y Q : List Bn) (W : World) (a m b : Nat), Rs B A N c (P ++ (X ++ (Y ++ Q))) W W → N ≤ 1000000 → B ≤ W.heap.size → 0 < X.length → 0 < Y.length → Srt X → Srt Y → P.length = a → a + X.length = m → m + Y.length = b → X.length + Y.length ≤ n →
  Calls Try.prog 55 #[.slice A N c, .int .i64 (a : Int), .int .i64 (m : Int), .int .i64 (b : Int), .func (.func 42) #[] #[]] W fun e w' => e = .returned (.tuple #[]) ∧ ∃ Z, Srt Z ∧ Pz.Alike Z (X ++ Y) ∧ Rs B A N c (P ++ (Z ++ Q)) W w'
def STail (D X Y : List Bn) (a m n p lo hi : Nat) : Prop := ∀ s, lo ≤ s → s ≤ hi → (s = lo ∨ (lo < s ∧ Ls D (p - (s - 1)) (s - 1) false)) → (s = hi ∨ (s < hi ∧ Ls D (p - s) s true)) →
      ∃ X1 X2 Y1 Y2, X = X1 ++ X2 ∧ Y = Y1 ++ Y2 ∧ a + X1.length = s ∧ m + Y1.length = n - s ∧ (∀ x ∈ X1, ∀ y ∈ Y2, before y.id x.id = false) ∧ (∀ x ∈ X2, ∀ y ∈ Y1, before y.id x.id = true)
theorem stail {P X Y Q : List Bn} {a m b n p mid lo hi : Nat} (ha : P.length = a) (hm : a + X.length = m) (hb : m + Y.length = b) (sX : Srt X) (sY : Srt Y) (hX : 1 < X.length) (hY : 1 < Y.length) (hmid : mid = (a + b) / 2) (hn : n = mid + m) (hp : n = p + 1) (hcase : (mid < m ∧ lo = n - b ∧ hi = mid) ∨ (¬ mid < m ∧ lo = a ∧ hi = m)) (B1 : a ≤ lo) (B2 : lo ≤ hi) (B3 : hi ≤ m) (B4 : hi ≤ mid) (B5 : n ≤ lo + b) : STail (P ++ (X ++ (Y ++ Q))) X Y a m n p lo hi := by
    intro s h1 h2 h3 h4
    refine cut (P := P) (Q := Q) (s := s) (e := n - s) ha hm hb sX sY (by omega) (by omega) (by omega) (by omega) ?_ ?_
    · rcases h3 with h3 | ⟨h3, u, v, hu, hv, hb'⟩
      · rcases hcase with ⟨_, _, _⟩ | ⟨_, _, _⟩
        · exact .inr (.inl (by omega))
        · exact .inl (by omega)
      · exact .inr (.inr ⟨v, u, hv, by rw [show n - s = p - (s - 1) by omega]; exact hu, by omega, hb'⟩)
    · rcases h4 with h4 | ⟨h4, u, v, hu, hv, hb'⟩
      · rcases hcase with ⟨_, _, _⟩ | ⟨_, _, _⟩
        · exact .inr (.inl (by omega))
        · exact .inl (by omega)
      · exact .inr (.inr ⟨v, u, hv, by rw [show n - s - 1 = p - s by omega]; exact hu, by omega, hb'⟩)
def SRest (B g0 o0 N c : Nat) (P X Y Q D : List Bn) (w : World) (a m b n mid lo hi : Nat) : Prop := ∀ (s : Nat) (X1 X2 Y1 Y2 : List Bn), lo ≤ s → s ≤ hi → X = X1 ++ X2 → Y = Y1 ++ Y2 → a + X1.length = s → m + Y1.length = n - s → (∀ x ∈ X1, ∀ y ∈ Y2, before y.id x.id = false) → (∀ x ∈ X2, ∀ y ∈ Y1, before y.id x.id = true) →
      (∀ W, s < m → m < n - s → Rs B (some ⟨g0, o0, none⟩) N c D w W → Calls Try.prog 56 #[.slice (some ⟨g0, o0, none⟩) N c, .int .i64 (s : Int), .int .i64 (m : Int), .int .i64 ((n - s : Nat) : Int), .func (.func 42) #[] #[]] W fun e w' => e = .returned (.tuple #[]) ∧ Rs B (some ⟨g0, o0, none⟩) N c (P ++ (X1 ++ (Y1 ++ (X2 ++ (Y2 ++ Q))))) w w') ∧
      (¬ (s < m ∧ m < n - s) → D = P ++ (X1 ++ (Y1 ++ (X2 ++ (Y2 ++ Q))))) ∧
      (∀ W, a < s → s < mid → Rs B (some ⟨g0, o0, none⟩) N c (P ++ (X1 ++ (Y1 ++ (X2 ++ (Y2 ++ Q))))) w W → Calls Try.prog 55 #[.slice (some ⟨g0, o0, none⟩) N c, .int .i64 (a : Int), .int .i64 (s : Int), .int .i64 (mid : Int), .func (.func 42) #[] #[]] W fun e w' => e = .returned (.tuple #[]) ∧ ∃ Z, Srt Z ∧ Pz.Alike Z (X1 ++ Y1) ∧ Rs B (some ⟨g0, o0, none⟩) N c (P ++ (Z ++ (X2 ++ (Y2 ++ Q)))) w w') ∧
      (∀ W, ¬ (a < s ∧ s < mid) → Rs B (some ⟨g0, o0, none⟩) N c (P ++ (X1 ++ (Y1 ++ (X2 ++ (Y2 ++ Q))))) w W → ∃ Z, Srt Z ∧ Pz.Alike Z (X1 ++ Y1) ∧ Rs B (some ⟨g0, o0, none⟩) N c (P ++ (Z ++ (X2 ++ (Y2 ++ Q)))) w W) ∧
      (∀ Z, Srt Z → Pz.Alike Z (X1 ++ Y1) → (∀ W, mid < n - s → n - s < b → Rs B (some ⟨g0, o0, none⟩) N c (P ++ (Z ++ (X2 ++ (Y2 ++ Q)))) w W → Calls Try.prog 55 #[.slice (some ⟨g0, o0, none⟩) N c, .int .i64 (mid : Int), .int .i64 ((n - s : Nat) : Int), .int .i64 (b : Int), .func (.func 42) #[] #[]] W fun e w' => e = .returned (.tuple #[]) ∧ ∃ Z, Srt Z ∧ Pz.Alike Z (X ++ Y) ∧ Rs B (some ⟨g0, o0, none⟩) N c (P ++ (Z ++ Q)) w w') ∧
        (∀ W, ¬ (mid < n - s ∧ n - s < b) → Rs B (some ⟨g0, o0, none⟩) N c (P ++ (Z ++ (X2 ++ (Y2 ++ Q)))) w W → ∃ Z, Srt Z ∧ Pz.Alike Z (X ++ Y) ∧ Rs B (some ⟨g0, o0, none⟩) N c (P ++ (Z ++ Q)) w W))
set_option maxHeartbeats 4000000 in
theorem srest {n0 : Nat} (IH : SymAt n0) {B g0 o0 N c : Nat} {P X Y Q : List Bn} {w : World} {a m b n mid lo hi : Nat} (hN : N ≤ 1000000) (hBw : B ≤ w.heap.size) (sX : Srt X) (sY : Srt Y) (ha : P.length = a) (hm : a + X.length = m) (hb : m + Y.length = b) (hn0 : X.length + Y.length ≤ n0 + 1) (hX : 1 < X.length) (hY : 1 < Y.length) (hlen : P.length + (X.length + (Y.length + Q.length)) = N) (hmid : mid = (a + b) / 2) (hn : n = mid + m) (hcase : (mid < m ∧ lo = n - b ∧ hi = mid) ∨ (¬ mid < m ∧ lo = a ∧ hi = m)) (B1 : a ≤ lo) (B2 : lo ≤ hi) (B3 : hi ≤ m) (B4 : hi ≤ mid) (B5 : n ≤ lo + b) : SRest B g0 o0 N c P X Y Q (P ++ (X ++ (Y ++ Q))) w a m b n mid lo hi := by
    have SELF : Hid (∀ (R : List Bn) (W : World), Rs B (some ⟨g0, o0, none⟩) N c R w W → Rs B (some ⟨g0, o0, none⟩) N c R W W ∧ B ≤ W.heap.size) := Lib.hid fun R W h => ⟨⟨h.own, h.len, Below.refl _ _⟩, Nat.le_trans hBw h.bel.size⟩
    intro s X1 X2 Y1 Y2 h1 h2 eX eY l1 l2 k1 k2
    have lX : X.length = X1.length + X2.length := by rw [eX, List.length_append]
    have lY : Y.length = Y1.length + Y2.length := by rw [eY, List.length_append]
    have sX' := sX
    have sY' := sY
    rw [eX] at sX'
    rw [eY] at sY'
    obtain ⟨a1, a2, a3⟩ := srt_app.1 sX'
    obtain ⟨c1, c2, c3⟩ := srt_app.1 sY'
    have eD : (P ++ (X ++ (Y ++ Q))) = (P ++ X1) ++ (X2 ++ (Y1 ++ (Y2 ++ Q))) := by rw [eX, eY]; simp [List.append_assoc]
    refine ⟨fun W q1 q2 hW => ?_, fun q => ?_, fun W q1 q2 hW => ?_, fun W q hW => ?_, fun Z z1 z2 => ⟨fun W q1 q2 hW => ?_, fun W q hW => ?_⟩⟩
    · have hW' := (SELF.out _ _ hW).1
      rw [eD] at hW'
      refine (rotate_any (P := P ++ X1) (X := X2) (Y := Y1) (Q := Y2 ++ Q) (a := s) (m := m) (b := n - s) hW' hN (by omega) (by omega) (by rw [List.length_append]; omega) (by omega) (by omega)).mono ?_
      rintro e w' ⟨he, hr⟩
      have := hW.again hr
      rw [List.append_assoc] at this
      exact ⟨he, this⟩
    · rw [eD]
      by_cases hs : s < m
      · have : Y1 = [] := List.length_eq_zero_iff.1 (by omega)
        subst this
        simp [List.append_assoc]
      · have : X2 = [] := List.length_eq_zero_iff.1 (by omega)
        subst this
        simp [List.append_assoc]
    · obtain ⟨hW', hB'⟩ := SELF.out _ _ hW
      refine (IH B _ N c P X1 Y1 (X2 ++ (Y2 ++ Q)) W a s mid hW' hN hB' (by omega) (by omega) a1 c1 ha (by omega) (by omega) (by omega)).mono ?_
      rintro e w' ⟨he, Z, y1, y2, hr⟩
      exact ⟨he, Z, y1, y2, hW.again hr⟩
    · refine ⟨X1 ++ Y1, ?_, Alike.refl _, by rw [List.append_assoc]; exact hW⟩
      by_cases hs : a < s
      · have : Y1 = [] := List.length_eq_zero_iff.1 (by omega)
        rw [this, List.append_nil]
        exact a1
      · have : X1 = [] := List.length_eq_zero_iff.1 (by omega)
        rw [this, List.nil_append]
        exact c1
    · obtain ⟨hW', hB'⟩ := SELF.out _ _ hW
      have lZ : P.length + Z.length = mid := by
        have := hW.len
        simp only [List.length_append] at this
        omega
      rw [← List.append_assoc] at hW'
      refine (IH B _ N c (P ++ Z) X2 Y2 Q W mid (n - s) b hW' hN hB' (by omega) (by omega) a2 c2 (by rw [List.length_append]; exact lZ) (by omega) (by omega) (by omega)).mono ?_
      rintro e w' ⟨he, Z2, y1, y2, hr⟩
      obtain ⟨m1, m2⟩ := merge_parts sX' sY' k1 k2 z1 z2 y1 y2
      refine ⟨he, Z ++ Z2, m1, by rw [eX, eY]; exact m2, ?_⟩
      have := hW.again hr
      simpa [List.append_assoc] using this
    · have s2 : Srt (X2 ++ Y2) := by
        by_cases hs : mid < n - s
        · have : Y2 = [] := List.length_eq_zero_iff.1 (by omega)
          rw [this, List.append_nil]
          exact a2
        · have : X2 = [] := List.length_eq_zero_iff.1 (by omega)
          rw [this, List.nil_append]
          exact c2
      obtain ⟨m1, m2⟩ := merge_parts sX' sY' k1 k2 z1 z2 s2 (Alike.refl _)
      refine ⟨Z ++ (X2 ++ Y2), m1, by rw [eX, eY]; exact m2, ?_⟩
      simpa [List.append_assoc] using hW
end Go.Proofs.Ytookmjdnmmfkfaa
