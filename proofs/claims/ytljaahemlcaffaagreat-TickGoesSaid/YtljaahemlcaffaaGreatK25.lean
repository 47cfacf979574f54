/- The library's symMergeCmpFunc, over a row of one's own: what is done behind the search. Written by wip/tools/gensym.py. The library's symMergeCmpFunc, over a row of one's own: both rows have more. Written by wip/tools/gensym.py. The library's symMergeCmpFunc, over a row of one's own: both rows have more. Written by wip/tools/gensym.py. The library's insertionSortCmpFunc, over a row of one's own. Written by wip/tools/genins.py. -/
import Derived.Test.YtljaahemlcaffaaGreatK24
import Derived.Deep.DeepCutAuto
import Derived.BigRegion
import Derived.Test.YtljaahemlcaffaaGreatK23
namespace Go.Proofs.YtljaahemlcaffaaGreat
open Go.RowKit Pz Go.Shelf
set_option linter.unusedVariables false
variable {κ : Bn → K3} {fn : Nat} {cap : Array Value}

def SymAt (κ : Bn → K3) (fn : Nat) (cap : Array Value) (n : Nat) : Prop := ∀ (B : Nat) (A : Option Addr) (N c : Nat) (P X Y Q : List Bn) (W : World) (a m b : Nat), Rs B A N c (P ++ (X ++ (Y ++ Q))) W W → N ≤ 1000000 → B ≤ W.heap.size → CmpAt κ fn cap B W → 0 < X.length → 0 < Y.length → Srt κ X → Srt κ Y → P.length = a → a + X.length = m → m + Y.length = b → X.length + Y.length ≤ n →
  Calls Tryz.prog 106 #[.slice A N c, .int .i64 (a : Int), .int .i64 (m : Int), .int .i64 (b : Int), .func (.func fn) #[] cap] W fun e w' => e = .returned (.tuple #[]) ∧ ∃ Z, Srt κ Z ∧ Pz.Alike κ Z (X ++ Y) ∧ Rs B A N c (P ++ (Z ++ Q)) W w'
def STail (κ : Bn → K3) (D X Y : List Bn) (a m n p lo hi : Nat) : Prop := ∀ s, lo ≤ s → s ≤ hi → (s = lo ∨ (lo < s ∧ Ls κ D (p - (s - 1)) (s - 1) false)) → (s = hi ∨ (s < hi ∧ Ls κ D (p - s) s true)) →
      ∃ X1 X2 Y1 Y2, X = X1 ++ X2 ∧ Y = Y1 ++ Y2 ∧ a + X1.length = s ∧ m + Y1.length = n - s ∧ (∀ x ∈ X1, ∀ y ∈ Y2, before (κ y) (κ x) = false) ∧ (∀ x ∈ X2, ∀ y ∈ Y1, before (κ y) (κ x) = true)
theorem stail {P X Y Q : List Bn} {a m b n p mid lo hi : Nat} (ha : P.length = a) (hm : a + X.length = m) (hb : m + Y.length = b) (sX : Srt κ X) (sY : Srt κ Y) (hX : 1 < X.length) (hY : 1 < Y.length) (hmid : mid = (a + b) / 2) (hn : n = mid + m) (hp : n = p + 1) (hcase : (mid < m ∧ lo = n - b ∧ hi = mid) ∨ (¬ mid < m ∧ lo = a ∧ hi = m)) (B1 : a ≤ lo) (B2 : lo ≤ hi) (B3 : hi ≤ m) (B4 : hi ≤ mid) (B5 : n ≤ lo + b) : STail κ (P ++ (X ++ (Y ++ Q))) X Y a m n p lo hi := by
    intro s h1 h2 h3 h4
    refine cut (P := P) (Q := Q) (s := s) (e := n - s) ha hm hb sX sY (by omega) (by omega) (by omega) (by omega) ?_ ?_
    · rcases h3 with h3 | ⟨h3, u, v, hu, hv, hb'⟩
      · rcases hcase with ⟨_, _, _⟩ | ⟨_, _, _⟩
        · exact .inr (.inl (by omega))
        · exact .inl (by omega)
      · exact .inr (.inr ⟨v, u, hv, by rw [show n - s = p - (s - 1) by omega]; exact hu, by omega, hb'⟩)
    · rcases h4 with h4 | ⟨h4, u, v, hu, hv, hb'⟩
      · rcases hcase with ⟨_, _, _⟩ | ⟨_, _, _⟩
        · exact .inr (.inl (by omega))
        · exact .inl (by omega)
      · exact .inr (.inr ⟨v, u, hv, by rw [show n - s - 1 = p - s by omega]; exact hu, by omega, hb'⟩)
def SRest (κ : Bn → K3) (fn : Nat) (cap : Array Value) (B g0 o0 N c : Nat) (P X Y Q D : List Bn) (w : World) (a m b n mid lo hi : Nat) : Prop := ∀ (s : Nat) (X1 X2 Y1 Y2 : List Bn), lo ≤ s → s ≤ hi → X = X1 ++ X2 → Y = Y1 ++ Y2 → a + X1.length = s → m + Y1.length = n - s → (∀ x ∈ X1, ∀ y ∈ Y2, before (κ y) (κ x) = false) → (∀ x ∈ X2, ∀ y ∈ Y1, before (κ y) (κ x) = true) →
      (∀ W, s < m → m < n - s → Rs B (some ⟨g0, o0, none⟩) N c D w W → Calls Tryz.prog 123 #[.slice (some ⟨g0, o0, none⟩) N c, .int .i64 (s : Int), .int .i64 (m : Int), .int .i64 ((n - s : Nat) : Int), .func (.func fn) #[] cap] W fun e w' => e = .returned (.tuple #[]) ∧ Rs B (some ⟨g0, o0, none⟩) N c (P ++ (X1 ++ (Y1 ++ (X2 ++ (Y2 ++ Q))))) w w') ∧
      (¬ (s < m ∧ m < n - s) → D = P ++ (X1 ++ (Y1 ++ (X2 ++ (Y2 ++ Q))))) ∧
      (∀ W, a < s → s < mid → Rs B (some ⟨g0, o0, none⟩) N c (P ++ (X1 ++ (Y1 ++ (X2 ++ (Y2 ++ Q))))) w W → Calls Tryz.prog 106 #[.slice (some ⟨g0, o0, none⟩) N c, .int .i64 (a : Int), .int .i64 (s : Int), .int .i64 (mid : Int), .func (.func fn) #[] cap] W fun e w' => e = .returned (.tuple #[]) ∧ ∃ Z, Srt κ Z ∧ Pz.Alike κ Z (X1 ++ Y1) ∧ Rs B (some ⟨g0, o0, none⟩) N c (P ++ (Z ++ (X2 ++ (Y2 ++ Q)))) w w') ∧
      (∀ W, ¬ (a < s ∧ s < mid) → Rs B (some ⟨g0, o0, none⟩) N c (P ++ (X1 ++ (Y1 ++ (X2 ++ (Y2 ++ Q))))) w W → ∃ Z, Srt κ Z ∧ Pz.Alike κ Z (X1 ++ Y1) ∧ Rs B (some ⟨g0, o0, none⟩) N c (P ++ (Z ++ (X2 ++ (Y2 ++ Q)))) w W) ∧
      (∀ Z, Srt κ Z → Pz.Alike κ Z (X1 ++ Y1) → (∀ W, mid < n - s → n - s < b → Rs B (some ⟨g0, o0, none⟩) N c (P ++ (Z ++ (X2 ++ (Y2 ++ Q)))) w W → Calls Tryz.prog 106 #[.slice (some ⟨g0, o0, none⟩) N c, .int .i64 (mid : Int), .int .i64 ((n - s : Nat) : Int), .int .i64 (b : Int), .func (.func fn) #[] cap] W fun e w' => e = .returned (.tuple #[]) ∧ ∃ Z, Srt κ Z ∧ Pz.Alike κ Z (X ++ Y) ∧ Rs B (some ⟨g0, o0, none⟩) N c (P ++ (Z ++ Q)) w w') ∧
        (∀ W, ¬ (mid < n - s ∧ n - s < b) → Rs B (some ⟨g0, o0, none⟩) N c (P ++ (Z ++ (X2 ++ (Y2 ++ Q)))) w W → ∃ Z, Srt κ Z ∧ Pz.Alike κ Z (X ++ Y) ∧ Rs B (some ⟨g0, o0, none⟩) N c (P ++ (Z ++ Q)) w W))
set_option maxHeartbeats 4000000 in
theorem srest {n0 : Nat} (IH : SymAt κ fn cap n0) {B g0 o0 N c : Nat} {P X Y Q : List Bn} {w : World} {a m b n mid lo hi : Nat} (hN : N ≤ 1000000) (hBw : B ≤ w.heap.size) (HC : CmpAt κ fn cap B w) (sX : Srt κ X) (sY : Srt κ Y) (ha : P.length = a) (hm : a + X.length = m) (hb : m + Y.length = b) (hn0 : X.length + Y.length ≤ n0 + 1) (hX : 1 < X.length) (hY : 1 < Y.length) (hlen : P.length + (X.length + (Y.length + Q.length)) = N) (hmid : mid = (a + b) / 2) (hn : n = mid + m) (hcase : (mid < m ∧ lo = n - b ∧ hi = mid) ∨ (¬ mid < m ∧ lo = a ∧ hi = m)) (B1 : a ≤ lo) (B2 : lo ≤ hi) (B3 : hi ≤ m) (B4 : hi ≤ mid) (B5 : n ≤ lo + b) : SRest κ fn cap B g0 o0 N c P X Y Q (P ++ (X ++ (Y ++ Q))) w a m b n mid lo hi := by
    have SELF : Hid (∀ (R : List Bn) (W : World), Rs B (some ⟨g0, o0, none⟩) N c R w W → Rs B (some ⟨g0, o0, none⟩) N c R W W ∧ B ≤ W.heap.size) := Lib.hid fun R W h => ⟨⟨h.own, h.len, Below.refl _ _⟩, Nat.le_trans hBw h.bel.size⟩
    intro s X1 X2 Y1 Y2 h1 h2 eX eY l1 l2 k1 k2
    have lX : X.length = X1.length + X2.length := by rw [eX, List.length_append]
    have lY : Y.length = Y1.length + Y2.length := by rw [eY, List.length_append]
    have sX' := sX
    have sY' := sY
    rw [eX] at sX'
    rw [eY] at sY'
    obtain ⟨a1, a2, a3⟩ := srt_app.1 sX'
    obtain ⟨c1, c2, c3⟩ := srt_app.1 sY'
    have eD : (P ++ (X ++ (Y ++ Q))) = (P ++ X1) ++ (X2 ++ (Y1 ++ (Y2 ++ Q))) := by rw [eX, eY]; simp [List.append_assoc]
    refine ⟨fun W q1 q2 hW => ?_, fun q => ?_, fun W q1 q2 hW => ?_, fun W q hW => ?_, fun Z z1 z2 => ⟨fun W q1 q2 hW => ?_, fun W q hW => ?_⟩⟩
    · have hW' := (SELF.out _ _ hW).1
      rw [eD] at hW'
      refine (rotate_any (P := P ++ X1) (X := X2) (Y := Y1) (Q := Y2 ++ Q) (a := s) (m := m) (b := n - s) hW' hN (by omega) (by omega) (by rw [List.length_append]; omega) (by omega) (by omega)).mono ?_
      rintro e w' ⟨he, hr⟩
      have := hW.again hr
      rw [List.append_assoc] at this
      exact ⟨he, this⟩
    · rw [eD]
      by_cases hs : s < m
      · have : Y1 = [] := List.length_eq_zero_iff.1 (by omega)
        subst this
        simp [List.append_assoc]
      · have : X2 = [] := List.length_eq_zero_iff.1 (by omega)
        subst this
        simp [List.append_assoc]
    · obtain ⟨hW', hB'⟩ := SELF.out _ _ hW
      refine (IH B _ N c P X1 Y1 (X2 ++ (Y2 ++ Q)) W a s mid hW' hN hB' (HC.below hW.bel) (by omega) (by omega) a1 c1 ha (by omega) (by omega) (by omega)).mono ?_
      rintro e w' ⟨he, Z, y1, y2, hr⟩
      exact ⟨he, Z, y1, y2, hW.again hr⟩
    · refine ⟨X1 ++ Y1, ?_, Alike.refl _, by rw [List.append_assoc]; exact hW⟩
      by_cases hs : a < s
      · have : Y1 = [] := List.length_eq_zero_iff.1 (by omega)
        rw [this, List.append_nil]
        exact a1
      · have : X1 = [] := List.length_eq_zero_iff.1 (by omega)
        rw [this, List.nil_append]
        exact c1
    · obtain ⟨hW', hB'⟩ := SELF.out _ _ hW
      have lZ : P.length + Z.length = mid := by
        have := hW.len
        simp only [List.length_append] at this
        omega
      rw [← List.append_assoc] at hW'
      refine (IH B _ N c (P ++ Z) X2 Y2 Q W mid (n - s) b hW' hN hB' (HC.below hW.bel) (by omega) (by omega) a2 c2 (by rw [List.length_append]; exact lZ) (by omega) (by omega) (by omega)).mono ?_
      rintro e w' ⟨he, Z2, y1, y2, hr⟩
      obtain ⟨m1, m2⟩ := merge_parts sX' sY' k1 k2 z1 z2 y1 y2
      refine ⟨he, Z ++ Z2, m1, by rw [eX, eY]; exact m2, ?_⟩
      have := hW.again hr
      simpa [List.append_assoc] using this
    · have s2 : Srt κ (X2 ++ Y2) := by
        by_cases hs : mid < n - s
        · have : Y2 = [] := List.length_eq_zero_iff.1 (by omega)
          rw [this, List.append_nil]
          exact a2
        · have : X2 = [] := List.length_eq_zero_iff.1 (by omega)
          rw [this, List.nil_append]
          exact c2
      obtain ⟨m1, m2⟩ := merge_parts sX' sY' k1 k2 z1 z2 s2 (Alike.refl _)
      refine ⟨Z ++ (X2 ++ Y2), m1, by rw [eX, eY]; exact m2, ?_⟩
      simpa [List.append_assoc] using hW
end Go.Proofs.YtljaahemlcaffaaGreat
namespace Go.Proofs.YtljaahemlcaffaaGreat
open Go.RowKit Pz Go.Shelf
set_option linter.unusedVariables false
variable {κ : Bn → K3} {fn : Nat} {cap : Array Value}

set_option maxHeartbeats 16000000 in
set_option maxRecDepth 100000 in
theorem symc1_any {n0 : Nat} (IH : SymAt κ fn cap n0) {B : Nat} {A : Option Addr} {N c : Nat} {P X Y Q : List Bn} {w : World} (h : Rs B A N c (P ++ (X ++ (Y ++ Q))) w w) (hN : N ≤ 1000000) (hBw : B ≤ w.heap.size) (HC : CmpAt κ fn cap B w) (hX : 1 < X.length) (hY : 1 < Y.length) (sX : Srt κ X) (sY : Srt κ Y) {a m b : Nat} (ha : P.length = a) (hm : a + X.length = m) (hb : m + Y.length = b) (hn0 : X.length + Y.length ≤ n0 + 1) (hmm : (a + b) / 2 < m) :
    Calls Tryz.prog 106 #[.slice A N c, .int .i64 (a : Int), .int .i64 (m : Int), .int .i64 (b : Int), .func (.func fn) #[] cap] w fun e w' => e = .returned (.tuple #[]) ∧ ∃ Z, Srt κ Z ∧ Pz.Alike κ Z (X ++ Y) ∧ Rs B A N c (P ++ (Z ++ Q)) w w' := by
  have hlen := h.len
  simp only [List.length_append] at hlen
  have bN : b ≤ N := by omega
  have b6 : b ≤ 1000000 := by omega
  obtain ⟨x1, hx1⟩ : ∃ x, (P ++ (X ++ (Y ++ Q)))[a]? = some x := ⟨_, List.getElem?_eq_getElem (by simp only [List.length_append]; omega)⟩
  obtain ⟨g0, o0, rfl, _⟩ := h.get hx1
  clear hx1
  have H0 := Lib.hid h
  obtain ⟨mid, hmid⟩ : ∃ mid, mid = (a + b) / 2 := ⟨_, rfl⟩
  obtain ⟨n, hn⟩ : ∃ n, n = mid + m := ⟨_, rfl⟩
  obtain ⟨p, hp⟩ : ∃ p, n = p + 1 := ⟨n - 1, by omega⟩
  have emid : ((a : Int) + (b : Int)) / 2 = (mid : Int) := by omega
  obtain ⟨lo, hi, hcase⟩ : ∃ lo hi, (mid < m ∧ lo = n - b ∧ hi = mid) ∨ (¬ mid < m ∧ lo = a ∧ hi = m) := by
    by_cases hc : mid < m
    · exact ⟨_, _, .inl ⟨hc, rfl, rfl⟩⟩
    · exact ⟨_, _, .inr ⟨hc, rfl, rfl⟩⟩
  have B1 : a ≤ lo := by rcases hcase with ⟨_, _, _⟩ | ⟨_, _, _⟩ <;> omega
  have B2 : lo ≤ hi := by rcases hcase with ⟨_, _, _⟩ | ⟨_, _, _⟩ <;> omega
  have B3 : hi ≤ m := by rcases hcase with ⟨_, _, _⟩ | ⟨_, _, _⟩ <;> omega
  have B4 : hi ≤ mid := by rcases hcase with ⟨_, _, _⟩ | ⟨_, _, _⟩ <;> omega
  have B5 : n ≤ lo + b := by rcases hcase with ⟨_, _, _⟩ | ⟨_, _, _⟩ <;> omega
  have PB : Hid (∀ h, lo ≤ h → h < hi → p - h < N ∧ h < N ∧ h ≤ p) := Lib.hid fun h h1 h2 => by omega
  have TAIL : Hid (STail κ (P ++ (X ++ (Y ++ Q))) X Y a m n p lo hi) := Lib.hid (stail ha hm hb sX sY hX hY hmid hn hp hcase B1 B2 B3 B4 B5)
  have REST : Hid (SRest κ fn cap B g0 o0 N c P X Y Q (P ++ (X ++ (Y ++ Q))) w a m b n mid lo hi) := Lib.hid (srest IH hN hBw HC sX sY ha hm hb hn0 hX hY hlen hmid hn hcase B1 B2 B3 B4 B5)
  have w1 : IntKind.i64.wrap ((m : Int) - (a : Int)) = (X.length : Int) := by rw [IntWalk.i64_in _ (by omega)]; omega
  have w1' : ((X.length : Int) == 1) = false := beq_eq_false_iff_ne.2 (by omega)
  have w2 : IntKind.i64.wrap ((b : Int) - (m : Int)) = (Y.length : Int) := by rw [IntWalk.i64_in _ (by omega)]; omega
  have w2' : ((Y.length : Int) == 1) = false := beq_eq_false_iff_ne.2 (by omega)
  have w3 : IntKind.i64.wrap ((mid : Int) + (m : Int)) = (n : Int) := by rw [IntWalk.i64_in _ (by omega)]; omega
  have w4 : IntKind.i64.wrap ((n : Int) - 1) = (p : Int) := by rw [IntWalk.i64_in _ (by omega)]; omega
  have n6 : n ≤ 2000000 := by omega
  have pn : p < n := by omega
  have m6 : mid ≤ 1000000 := by omega
  have nlo : Hid (∀ s, s ≤ hi → s ≤ n) := Lib.hid fun s h => by omega
  clear sX sY IH ha hm hb
  generalize hD : (P ++ (X ++ (Y ++ Q))) = D at *
  generalize hlx : X.length = lx at *
  generalize hly : Y.length = ly at *
  clear hlx hly hD hlen h hX hY hn0
  have hBB := Lib.hid hBw
  have EG := HC.ent
  have HLS := Lib.hid HC
  clear HC
  rcases hcase with ⟨hcm, elo, ehi⟩ | ⟨hcm, elo, ehi⟩
  · have t0 : (m : Int) > (mid : Int) := by omega
    have w5 : IntKind.i64.wrap ((n : Int) - (b : Int)) = (lo : Int) := by rw [IntWalk.i64_in _ (by omega)]; omega
    have ehi' : (mid : Int) = (hi : Int) := by omega
    replace hmid := Lib.hid hmid
    replace hn := Lib.hid hn
    replace hp := Lib.hid hp
    replace elo := Lib.hid elo
    replace ehi := Lib.hid ehi
    clear ehi'
    go_enter Tryz.func106, Tryz.ntmps106
    go_upto_region 33 with fail
    go_loopw [20, 21] (fun ix jx wr => ∃ i j : Nat, ix = .int .i64 i ∧ jx = .int .i64 j ∧ lo ≤ i ∧ i ≤ j ∧ j ≤ hi ∧ Hid (Rs B (some ⟨g0, o0, none⟩) N c D w wr) ∧ Hid (i = lo ∨ (lo < i ∧ Ls κ D (p - (i - 1)) ((i - 1)) false)) ∧ Hid (j = hi ∨ (j < hi ∧ Ls κ D (p - j) (j) true))) (fun ix jx _ => (intOf jx).toNat - (intOf ix).toNat)
    case atStart => exact ⟨lo, hi, rfl, (by rw [ehi.out]), Nat.le_refl _, B2, Nat.le_refl _, H0, Lib.hid (.inl rfl), Lib.hid (.inl rfl)⟩
    case round =>
      obtain ⟨i, j, rfl, rfl, hlo, hij, hhi, HR, HL, HH⟩ := hrel
      clear H0
      by_cases hlt : i < j
      · as_aux_lemma =>
        have t1 : (i : Int) < (j : Int) := by omega
        obtain ⟨h, hh⟩ : ∃ h, h = (i + j) / 2 := ⟨_, rfl⟩
        have eh : ((i : Int) + (j : Int)) / 2 = (h : Int) := by omega
        have h1 : i ≤ h := by omega
        have h2 : h < j := by omega
        clear hh
        have hl2 := HR.out.len
        obtain ⟨q1, q2, q3⟩ := PB.out h (by omega) (by omega)
        obtain ⟨x, hx⟩ : ∃ x, D[p - h]? = some x := ⟨_, List.getElem?_eq_getElem (by omega)⟩
        obtain ⟨y, hy⟩ : ∃ y, D[h]? = some y := ⟨_, List.getElem?_eq_getElem (by omega)⟩
        have NL : Hid (before (κ x) (κ y) = false → h + 1 = lo ∨ (lo < h + 1 ∧ Ls κ D (p - (h + 1 - 1)) ((h + 1 - 1)) false)) := Lib.hid fun hb => .inr ⟨by omega, x, y, by first | exact hx | (rw [Nat.add_sub_cancel]; exact hx), by first | exact hy | (rw [Nat.add_sub_cancel]; exact hy), hb⟩
        have NR : Hid (before (κ x) (κ y) = true → h = hi ∨ (h < hi ∧ Ls κ D (p - h) (h) true)) := Lib.hid fun hb => .inr ⟨by omega, x, y, hx, hy, hb⟩
        obtain ⟨ph, hph⟩ : ∃ ph, ph = p - h := ⟨_, rfl⟩
        have wq : IntKind.i64.wrap ((p : Int) - (h : Int)) = (ph : Int) := by rw [IntWalk.i64_in _ (by omega)]; omega
        have lp : (ph : Int) < (N : Int) := by omega
        have lh : (h : Int) < (N : Int) := by omega
        rw [← hph] at hx
        replace hph := Lib.hid hph
        have LESS : Hid (∀ p : Lat grows wr, Calls Tryz.prog fn (#[x.val, y.val] ++ cap) p.W fun e w' => e = .returned (.int .i64 (cmpB (κ x) (κ y))) ∧ Below p.W.heap.size p.W w') := Lib.hid fun p => HLS.out.less x y p.W (HR.out.bel.trans ((lat_below p).mono (Nat.le_trans hBB.out HR.out.bel.size)))
        have CL := cmp_lt (κ x) (κ y)
        generalize cmpB (κ x) (κ y) = r at *
        generalize before (κ x) (κ y) = bf at *
        have hroom := HR.out.room (k := p - h) (by omega)
        obtain ⟨g, o, e, px⟩ := HR.out.get hx
        cases e
        obtain ⟨g', o', e, py⟩ := HR.out.get hy
        cases e
        clear hx hy hl2
        obtain ⟨xs, xi, xg, xm, xx, xy, xvx, xvy, xh, xp, xl⟩ := x
        obtain ⟨ys, yi, yg, ym, yx, yy, yvx, yvy, yh, yp, yl⟩ := y
        simp only [Bn.val] at *
        have c0 := fun p => (px p).1
        have e0 := fun p => (py p).1
        have c1 := fun p => (px p).2.1
        have e1 := fun p => (py p).2.1
        have c2 := fun p => (px p).2.2.1
        have e2 := fun p => (py p).2.2.1
        have c3 := fun p => (px p).2.2.2.1
        have e3 := fun p => (py p).2.2.2.1
        have c4 := fun p => (px p).2.2.2.2.1
        have e4 := fun p => (py p).2.2.2.2.1
        have c5 := fun p => (px p).2.2.2.2.2.1
        have e5 := fun p => (py p).2.2.2.2.2.1
        have c6 := fun p => (px p).2.2.2.2.2.2.1
        have e6 := fun p => (py p).2.2.2.2.2.2.1
        have c7 := fun p => (px p).2.2.2.2.2.2.2.1
        have e7 := fun p => (py p).2.2.2.2.2.2.2.1
        have c8 := fun p => (px p).2.2.2.2.2.2.2.2.1
        have e8 := fun p => (py p).2.2.2.2.2.2.2.2.1
        have c9 := fun p => (px p).2.2.2.2.2.2.2.2.2.1
        have e9 := fun p => (py p).2.2.2.2.2.2.2.2.2.1
        have c10 := fun p => (px p).2.2.2.2.2.2.2.2.2.2
        have e10 := fun p => (py p).2.2.2.2.2.2.2.2.2.2
        clear px py
        have HL2 := HL
        have HH2 := HH
        clear HL HH TAIL
        go_upto_region 35 with fail
        refine Og.grow 14 (by kernel_rfl) (by kernel_rfl) fun hc hf => ?_
        clear hc hf
        simp only [List.take_succ_cons, List.take_zero, List.drop_succ_cons, List.drop_zero]
        iterate 11 (refine Og.det [] rfl (fun J hJ => ?_); go_simp; refine hJ _ _ ?_; clear hJ J)
        refine Og.det [] rfl (fun J hJ => ?_)
        go_simp
        with_reducible refine ⟨_, fun p => Og.lays (LESS.out p), hJ _ _ ?_⟩
        clear hJ J
        iterate 2 (refine Og.det [] rfl (fun J hJ => ?_); go_simp; refine hJ _ _ ?_; clear hJ J)
        refine Og.fin fun W hW => ?_
        simp only [Og.opened_nil]
        clear c0 c1 c2 c3 c4 c5 c6 c7 c8 c9 c10 e0 e1 e2 e3 e4 e5 e6 e7 e8 e9 e10 LESS
        replace HR := Lib.hid (HR.out.grown (Nat.le_of_lt hroom) hW)
        clear hW
        cases bf with
        | false =>
          have NX := Lib.hid (NL.out rfl)
          clear NL NR
          go_wp2
          go_roundw
          case rel => exact ⟨h + 1, j, by go_num, rfl, by omega, by omega, hhi, HR, NX, HH2⟩
          case measure => simp [intOf]; omega
        | true =>
          have NX := Lib.hid (NR.out rfl)
          clear NL NR
          go_wp2
          go_roundw
          case rel => exact ⟨i, h, rfl, rfl, hlo, h1, by omega, HR, HL2, NX⟩
          case measure => simp [intOf]; omega
      · have e : j = i := by omega
        subst e
        have t1 : ¬ (j : Int) < (j : Int) := by omega
        obtain ⟨X1, X2, Y1, Y2, eX, eY, l1, l2, k1, k2⟩ := TAIL.out j hlo hhi HL.out HH.out
        obtain ⟨RT, ST, R1, E1, R2⟩ := REST.out j X1 X2 Y1 Y2 hlo hhi eX eY l1 l2 k1 k2
        clear REST TAIL eX eY l1 l2 k1 k2 HL HH PB
        have jn := nlo.out j hhi
        obtain ⟨e, he⟩ : ∃ e, e = n - j := ⟨_, rfl⟩
        rw [← he] at RT ST R2
        replace RT := Lib.hid RT
        replace ST := Lib.hid ST
        replace R1 := Lib.hid R1
        replace E1 := Lib.hid E1
        replace R2 := Lib.hid R2
        have w6 : IntKind.i64.wrap ((n : Int) - (j : Int)) = (e : Int) := by rw [IntWalk.i64_in _ (by omega)]; omega
        replace he := Lib.hid he
        clear jn nlo
        go_upto_region 39 with fail
        go_cut [185] (fun v wx => v = .bool (decide (j < m ∧ m < e)) ∧ wx = wr)
        case first =>
         as_aux_lemma =>
          by_cases g1 : j < m
          · have t3 : (j : Int) < (m : Int) := by omega
            by_cases g2 : m < e
            · have t4 : (m : Int) < (e : Int) := by omega
              go_wp2
              go_meet
              exact ⟨by rw [decide_eq_true (And.intro g1 g2)], rfl⟩
            · have t4 : ¬ (m : Int) < (e : Int) := by omega
              go_wp2
              go_meet
              exact ⟨by rw [decide_eq_false (fun h : j < m ∧ m < e => g2 h.2)], rfl⟩
          · have t3 : ¬ (j : Int) < (m : Int) := by omega
            go_wp2
            go_meet
            exact ⟨by rw [decide_eq_false (fun h : j < m ∧ m < e => g1 h.1)], rfl⟩
        obtain ⟨hv, hw⟩ := hcut
        subst hv hw
        have G1 : Hid (decide (j < m ∧ m < e) = true → j < m ∧ m < e) := Lib.hid of_decide_eq_true
        have G2 : Hid (decide (j < m ∧ m < e) = false → ¬ (j < m ∧ m < e)) := Lib.hid of_decide_eq_false
        generalize decide (j < m ∧ m < e) = dd at *
        go_upto_if 185 with fail
        go_cut [] (fun wx => Rs B (some ⟨g0, o0, none⟩) N c (P ++ (X1 ++ (Y1 ++ (X2 ++ (Y2 ++ Q))))) w wx)
        case first =>
         as_aux_lemma =>
          cases dd with
          | false =>
            have er := ST.out (G2.out rfl)
            have HF : Hid (Rs B (some ⟨g0, o0, none⟩) N c (P ++ (X1 ++ (Y1 ++ (X2 ++ (Y2 ++ Q))))) w wc) := Lib.hid (by rw [← er]; exact HR.out)
            clear er ST RT R1 E1 R2 G1 G2
            go_wp2
            go_meet
            exact HF.out
          | true =>
            have q := G1.out rfl
            have CA := Lib.hid (RT.out wc q.1 q.2 HR.out)
            clear q ST RT R1 E1 R2 G1 G2
            go_wp2_with (go_at_call 123; with_reducible refine (CA.out).mono ?_; rintro e w' ⟨rfl, hs⟩; replace hs := Lib.hid hs)
            go_meet
            exact hs.out
        clear HR G1 G2 RT ST
        have HR := Lib.hid hcut
        clear hcut
        go_upto_region 41 with fail
        go_cut [199] (fun v wx => v = .bool (decide (a < j ∧ j < mid)) ∧ wx = wc)
        case first =>
         as_aux_lemma =>
          by_cases g1 : a < j
          · have t3 : (a : Int) < (j : Int) := by omega
            by_cases g2 : j < mid
            · have t4 : (j : Int) < (mid : Int) := by omega
              go_wp2
              go_meet
              exact ⟨by rw [decide_eq_true (And.intro g1 g2)], rfl⟩
            · have t4 : ¬ (j : Int) < (mid : Int) := by omega
              go_wp2
              go_meet
              exact ⟨by rw [decide_eq_false (fun h : a < j ∧ j < mid => g2 h.2)], rfl⟩
          · have t3 : ¬ (a : Int) < (j : Int) := by omega
            go_wp2
            go_meet
            exact ⟨by rw [decide_eq_false (fun h : a < j ∧ j < mid => g1 h.1)], rfl⟩
        obtain ⟨hv, hw⟩ := hcut
        subst hv hw
        have G1 : Hid (decide (a < j ∧ j < mid) = true → a < j ∧ j < mid) := Lib.hid of_decide_eq_true
        have G2 : Hid (decide (a < j ∧ j < mid) = false → ¬ (a < j ∧ j < mid)) := Lib.hid of_decide_eq_false
        generalize decide (a < j ∧ j < mid) = dd at *
        go_upto_if 199 with fail
        go_cut [] (fun wx => ∃ Z, Srt κ Z ∧ Pz.Alike κ Z (X1 ++ Y1) ∧ Rs B (some ⟨g0, o0, none⟩) N c (P ++ (Z ++ (X2 ++ (Y2 ++ Q)))) w wx)
        case first =>
         as_aux_lemma =>
          cases dd with
          | false =>
            have HF := Lib.hid (E1.out wc (G2.out rfl) HR.out)
            clear R1 E1 R2 G1 G2
            go_wp2
            go_meet
            exact HF.out
          | true =>
            have q := G1.out rfl
            have CA := Lib.hid (R1.out wc q.1 q.2 HR.out)
            clear q R1 E1 R2 G1 G2
            go_wp2_with (go_at_call 106; with_reducible refine (CA.out).mono ?_; rintro e w' ⟨rfl, hs⟩; replace hs := Lib.hid hs)
            go_meet
            exact hs.out
        clear HR G1 G2 R1 E1
        obtain ⟨Z, z1, z2, HR⟩ := hcut
        replace HR := Lib.hid HR
        obtain ⟨R3, E3⟩ := R2.out Z z1 z2
        replace R3 := Lib.hid R3
        replace E3 := Lib.hid E3
        clear z1 z2 R2
        by_cases g1 : mid < e ∧ e < b
        · as_aux_lemma =>
          have t3 : (mid : Int) < (e : Int) := by omega
          have t4 : (e : Int) < (b : Int) := by omega
          have CA := Lib.hid (R3.out wc g1.1 g1.2 HR.out)
          clear R3 E3 g1
          go_wp2_with (go_at_call 106; with_reducible refine (CA.out).mono ?_; rintro e w' ⟨rfl, hs⟩; replace hs := Lib.hid hs)
          go_end0
          exact ⟨rfl, hs.out⟩
        · as_aux_lemma =>
          have HF := Lib.hid (E3.out wc g1 HR.out)
          clear R3 E3
          by_cases g2 : mid < e
          · have t3 : (mid : Int) < (e : Int) := by omega
            have t4 : ¬ (e : Int) < (b : Int) := by omega
            clear g1
            go_wp2
            go_end0
            exact ⟨rfl, HF.out⟩
          · have t3 : ¬ (mid : Int) < (e : Int) := by omega
            clear g1
            go_wp2
            go_end0
            exact ⟨rfl, HF.out⟩
  · exfalso; omega
end Go.Proofs.YtljaahemlcaffaaGreat
namespace Go.Proofs.YtljaahemlcaffaaGreat
open Go.RowKit Pz Go.Shelf
set_option linter.unusedVariables false
variable {κ : Bn → K3} {fn : Nat} {cap : Array Value}

set_option maxHeartbeats 16000000 in
set_option maxRecDepth 100000 in
theorem symc2_any {n0 : Nat} (IH : SymAt κ fn cap n0) {B : Nat} {A : Option Addr} {N c : Nat} {P X Y Q : List Bn} {w : World} (h : Rs B A N c (P ++ (X ++ (Y ++ Q))) w w) (hN : N ≤ 1000000) (hBw : B ≤ w.heap.size) (HC : CmpAt κ fn cap B w) (hX : 1 < X.length) (hY : 1 < Y.length) (sX : Srt κ X) (sY : Srt κ Y) {a m b : Nat} (ha : P.length = a) (hm : a + X.length = m) (hb : m + Y.length = b) (hn0 : X.length + Y.length ≤ n0 + 1) (hmm : ¬ (a + b) / 2 < m) :
    Calls Tryz.prog 106 #[.slice A N c, .int .i64 (a : Int), .int .i64 (m : Int), .int .i64 (b : Int), .func (.func fn) #[] cap] w fun e w' => e = .returned (.tuple #[]) ∧ ∃ Z, Srt κ Z ∧ Pz.Alike κ Z (X ++ Y) ∧ Rs B A N c (P ++ (Z ++ Q)) w w' := by
  have hlen := h.len
  simp only [List.length_append] at hlen
  have bN : b ≤ N := by omega
  have b6 : b ≤ 1000000 := by omega
  obtain ⟨x1, hx1⟩ : ∃ x, (P ++ (X ++ (Y ++ Q)))[a]? = some x := ⟨_, List.getElem?_eq_getElem (by simp only [List.length_append]; omega)⟩
  obtain ⟨g0, o0, rfl, _⟩ := h.get hx1
  clear hx1
  have H0 := Lib.hid h
  obtain ⟨mid, hmid⟩ : ∃ mid, mid = (a + b) / 2 := ⟨_, rfl⟩
  obtain ⟨n, hn⟩ : ∃ n, n = mid + m := ⟨_, rfl⟩
  obtain ⟨p, hp⟩ : ∃ p, n = p + 1 := ⟨n - 1, by omega⟩
  have emid : ((a : Int) + (b : Int)) / 2 = (mid : Int) := by omega
  obtain ⟨lo, hi, hcase⟩ : ∃ lo hi, (mid < m ∧ lo = n - b ∧ hi = mid) ∨ (¬ mid < m ∧ lo = a ∧ hi = m) := by
    by_cases hc : mid < m
    · exact ⟨_, _, .inl ⟨hc, rfl, rfl⟩⟩
    · exact ⟨_, _, .inr ⟨hc, rfl, rfl⟩⟩
  have B1 : a ≤ lo := by rcases hcase with ⟨_, _, _⟩ | ⟨_, _, _⟩ <;> omega
  have B2 : lo ≤ hi := by rcases hcase with ⟨_, _, _⟩ | ⟨_, _, _⟩ <;> omega
  have B3 : hi ≤ m := by rcases hcase with ⟨_, _, _⟩ | ⟨_, _, _⟩ <;> omega
  have B4 : hi ≤ mid := by rcases hcase with ⟨_, _, _⟩ | ⟨_, _, _⟩ <;> omega
  have B5 : n ≤ lo + b := by rcases hcase with ⟨_, _, _⟩ | ⟨_, _, _⟩ <;> omega
  have PB : Hid (∀ h, lo ≤ h → h < hi → p - h < N ∧ h < N ∧ h ≤ p) := Lib.hid fun h h1 h2 => by omega
  have TAIL : Hid (STail κ (P ++ (X ++ (Y ++ Q))) X Y a m n p lo hi) := Lib.hid (stail ha hm hb sX sY hX hY hmid hn hp hcase B1 B2 B3 B4 B5)
  have REST : Hid (SRest κ fn cap B g0 o0 N c P X Y Q (P ++ (X ++ (Y ++ Q))) w a m b n mid lo hi) := Lib.hid (srest IH hN hBw HC sX sY ha hm hb hn0 hX hY hlen hmid hn hcase B1 B2 B3 B4 B5)
  have w1 : IntKind.i64.wrap ((m : Int) - (a : Int)) = (X.length : Int) := by rw [IntWalk.i64_in _ (by omega)]; omega
  have w1' : ((X.length : Int) == 1) = false := beq_eq_false_iff_ne.2 (by omega)
  have w2 : IntKind.i64.wrap ((b : Int) - (m : Int)) = (Y.length : Int) := by rw [IntWalk.i64_in _ (by omega)]; omega
  have w2' : ((Y.length : Int) == 1) = false := beq_eq_false_iff_ne.2 (by omega)
  have w3 : IntKind.i64.wrap ((mid : Int) + (m : Int)) = (n : Int) := by rw [IntWalk.i64_in _ (by omega)]; omega
  have w4 : IntKind.i64.wrap ((n : Int) - 1) = (p : Int) := by rw [IntWalk.i64_in _ (by omega)]; omega
  have n6 : n ≤ 2000000 := by omega
  have pn : p < n := by omega
  have m6 : mid ≤ 1000000 := by omega
  have nlo : Hid (∀ s, s ≤ hi → s ≤ n) := Lib.hid fun s h => by omega
  clear sX sY IH ha hm hb
  generalize hD : (P ++ (X ++ (Y ++ Q))) = D at *
  generalize hlx : X.length = lx at *
  generalize hly : Y.length = ly at *
  clear hlx hly hD hlen h hX hY hn0
  have hBB := Lib.hid hBw
  have EG := HC.ent
  have HLS := Lib.hid HC
  clear HC
  rcases hcase with ⟨hcm, elo, ehi⟩ | ⟨hcm, elo, ehi⟩
  · exfalso; omega
  · have t0 : ¬ (m : Int) > (mid : Int) := by omega
    replace hmid := Lib.hid hmid
    replace hn := Lib.hid hn
    replace hp := Lib.hid hp
    replace elo := Lib.hid elo
    replace ehi := Lib.hid ehi
    skip
    go_enter Tryz.func106, Tryz.ntmps106
    go_upto_region 33 with fail
    go_loopw [20, 21] (fun ix jx wr => ∃ i j : Nat, ix = .int .i64 i ∧ jx = .int .i64 j ∧ lo ≤ i ∧ i ≤ j ∧ j ≤ hi ∧ Hid (Rs B (some ⟨g0, o0, none⟩) N c D w wr) ∧ Hid (i = lo ∨ (lo < i ∧ Ls κ D (p - (i - 1)) ((i - 1)) false)) ∧ Hid (j = hi ∨ (j < hi ∧ Ls κ D (p - j) (j) true))) (fun ix jx _ => (intOf jx).toNat - (intOf ix).toNat)
    case atStart => exact ⟨lo, hi, (by rw [elo.out]), (by rw [ehi.out]), Nat.le_refl _, B2, Nat.le_refl _, H0, Lib.hid (.inl rfl), Lib.hid (.inl rfl)⟩
    case round =>
      obtain ⟨i, j, rfl, rfl, hlo, hij, hhi, HR, HL, HH⟩ := hrel
      clear H0
      by_cases hlt : i < j
      · as_aux_lemma =>
        have t1 : (i : Int) < (j : Int) := by omega
        obtain ⟨h, hh⟩ : ∃ h, h = (i + j) / 2 := ⟨_, rfl⟩
        have eh : ((i : Int) + (j : Int)) / 2 = (h : Int) := by omega
        have h1 : i ≤ h := by omega
        have h2 : h < j := by omega
        clear hh
        have hl2 := HR.out.len
        obtain ⟨q1, q2, q3⟩ := PB.out h (by omega) (by omega)
        obtain ⟨x, hx⟩ : ∃ x, D[p - h]? = some x := ⟨_, List.getElem?_eq_getElem (by omega)⟩
        obtain ⟨y, hy⟩ : ∃ y, D[h]? = some y := ⟨_, List.getElem?_eq_getElem (by omega)⟩
        have NL : Hid (before (κ x) (κ y) = false → h + 1 = lo ∨ (lo < h + 1 ∧ Ls κ D (p - (h + 1 - 1)) ((h + 1 - 1)) false)) := Lib.hid fun hb => .inr ⟨by omega, x, y, by first | exact hx | (rw [Nat.add_sub_cancel]; exact hx), by first | exact hy | (rw [Nat.add_sub_cancel]; exact hy), hb⟩
        have NR : Hid (before (κ x) (κ y) = true → h = hi ∨ (h < hi ∧ Ls κ D (p - h) (h) true)) := Lib.hid fun hb => .inr ⟨by omega, x, y, hx, hy, hb⟩
        obtain ⟨ph, hph⟩ : ∃ ph, ph = p - h := ⟨_, rfl⟩
        have wq : IntKind.i64.wrap ((p : Int) - (h : Int)) = (ph : Int) := by rw [IntWalk.i64_in _ (by omega)]; omega
        have lp : (ph : Int) < (N : Int) := by omega
        have lh : (h : Int) < (N : Int) := by omega
        rw [← hph] at hx
        replace hph := Lib.hid hph
        have LESS : Hid (∀ p : Lat grows wr, Calls Tryz.prog fn (#[x.val, y.val] ++ cap) p.W fun e w' => e = .returned (.int .i64 (cmpB (κ x) (κ y))) ∧ Below p.W.heap.size p.W w') := Lib.hid fun p => HLS.out.less x y p.W (HR.out.bel.trans ((lat_below p).mono (Nat.le_trans hBB.out HR.out.bel.size)))
        have CL := cmp_lt (κ x) (κ y)
        generalize cmpB (κ x) (κ y) = r at *
        generalize before (κ x) (κ y) = bf at *
        have hroom := HR.out.room (k := p - h) (by omega)
        obtain ⟨g, o, e, px⟩ := HR.out.get hx
        cases e
        obtain ⟨g', o', e, py⟩ := HR.out.get hy
        cases e
        clear hx hy hl2
        obtain ⟨xs, xi, xg, xm, xx, xy, xvx, xvy, xh, xp, xl⟩ := x
        obtain ⟨ys, yi, yg, ym, yx, yy, yvx, yvy, yh, yp, yl⟩ := y
        simp only [Bn.val] at *
        have c0 := fun p => (px p).1
        have e0 := fun p => (py p).1
        have c1 := fun p => (px p).2.1
        have e1 := fun p => (py p).2.1
        have c2 := fun p => (px p).2.2.1
        have e2 := fun p => (py p).2.2.1
        have c3 := fun p => (px p).2.2.2.1
        have e3 := fun p => (py p).2.2.2.1
        have c4 := fun p => (px p).2.2.2.2.1
        have e4 := fun p => (py p).2.2.2.2.1
        have c5 := fun p => (px p).2.2.2.2.2.1
        have e5 := fun p => (py p).2.2.2.2.2.1
        have c6 := fun p => (px p).2.2.2.2.2.2.1
        have e6 := fun p => (py p).2.2.2.2.2.2.1
        have c7 := fun p => (px p).2.2.2.2.2.2.2.1
        have e7 := fun p => (py p).2.2.2.2.2.2.2.1
        have c8 := fun p => (px p).2.2.2.2.2.2.2.2.1
        have e8 := fun p => (py p).2.2.2.2.2.2.2.2.1
        have c9 := fun p => (px p).2.2.2.2.2.2.2.2.2.1
        have e9 := fun p => (py p).2.2.2.2.2.2.2.2.2.1
        have c10 := fun p => (px p).2.2.2.2.2.2.2.2.2.2
        have e10 := fun p => (py p).2.2.2.2.2.2.2.2.2.2
        clear px py
        have HL2 := HL
        have HH2 := HH
        clear HL HH TAIL
        go_upto_region 35 with fail
        refine Og.grow 14 (by kernel_rfl) (by kernel_rfl) fun hc hf => ?_
        clear hc hf
        simp only [List.take_succ_cons, List.take_zero, List.drop_succ_cons, List.drop_zero]
        iterate 11 (refine Og.det [] rfl (fun J hJ => ?_); go_simp; refine hJ _ _ ?_; clear hJ J)
        refine Og.det [] rfl (fun J hJ => ?_)
        go_simp
        with_reducible refine ⟨_, fun p => Og.lays (LESS.out p), hJ _ _ ?_⟩
        clear hJ J
        iterate 2 (refine Og.det [] rfl (fun J hJ => ?_); go_simp; refine hJ _ _ ?_; clear hJ J)
        refine Og.fin fun W hW => ?_
        simp only [Og.opened_nil]
        clear c0 c1 c2 c3 c4 c5 c6 c7 c8 c9 c10 e0 e1 e2 e3 e4 e5 e6 e7 e8 e9 e10 LESS
        replace HR := Lib.hid (HR.out.grown (Nat.le_of_lt hroom) hW)
        clear hW
        cases bf with
        | false =>
          have NX := Lib.hid (NL.out rfl)
          clear NL NR
          go_wp2
          go_roundw
          case rel => exact ⟨h + 1, j, by go_num, rfl, by omega, by omega, hhi, HR, NX, HH2⟩
          case measure => simp [intOf]; omega
        | true =>
          have NX := Lib.hid (NR.out rfl)
          clear NL NR
          go_wp2
          go_roundw
          case rel => exact ⟨i, h, rfl, rfl, hlo, h1, by omega, HR, HL2, NX⟩
          case measure => simp [intOf]; omega
      · have e : j = i := by omega
        subst e
        have t1 : ¬ (j : Int) < (j : Int) := by omega
        obtain ⟨X1, X2, Y1, Y2, eX, eY, l1, l2, k1, k2⟩ := TAIL.out j hlo hhi HL.out HH.out
        obtain ⟨RT, ST, R1, E1, R2⟩ := REST.out j X1 X2 Y1 Y2 hlo hhi eX eY l1 l2 k1 k2
        clear REST TAIL eX eY l1 l2 k1 k2 HL HH PB
        have jn := nlo.out j hhi
        obtain ⟨e, he⟩ : ∃ e, e = n - j := ⟨_, rfl⟩
        rw [← he] at RT ST R2
        replace RT := Lib.hid RT
        replace ST := Lib.hid ST
        replace R1 := Lib.hid R1
        replace E1 := Lib.hid E1
        replace R2 := Lib.hid R2
        have w6 : IntKind.i64.wrap ((n : Int) - (j : Int)) = (e : Int) := by rw [IntWalk.i64_in _ (by omega)]; omega
        replace he := Lib.hid he
        clear jn nlo
        go_upto_region 39 with fail
        go_cut [185] (fun v wx => v = .bool (decide (j < m ∧ m < e)) ∧ wx = wr)
        case first =>
         as_aux_lemma =>
          by_cases g1 : j < m
          · have t3 : (j : Int) < (m : Int) := by omega
            by_cases g2 : m < e
            · have t4 : (m : Int) < (e : Int) := by omega
              go_wp2
              go_meet
              exact ⟨by rw [decide_eq_true (And.intro g1 g2)], rfl⟩
            · have t4 : ¬ (m : Int) < (e : Int) := by omega
              go_wp2
              go_meet
              exact ⟨by rw [decide_eq_false (fun h : j < m ∧ m < e => g2 h.2)], rfl⟩
          · have t3 : ¬ (j : Int) < (m : Int) := by omega
            go_wp2
            go_meet
            exact ⟨by rw [decide_eq_false (fun h : j < m ∧ m < e => g1 h.1)], rfl⟩
        obtain ⟨hv, hw⟩ := hcut
        subst hv hw
        have G1 : Hid (decide (j < m ∧ m < e) = true → j < m ∧ m < e) := Lib.hid of_decide_eq_true
        have G2 : Hid (decide (j < m ∧ m < e) = false → ¬ (j < m ∧ m < e)) := Lib.hid of_decide_eq_false
        generalize decide (j < m ∧ m < e) = dd at *
        go_upto_if 185 with fail
        go_cut [] (fun wx => Rs B (some ⟨g0, o0, none⟩) N c (P ++ (X1 ++ (Y1 ++ (X2 ++ (Y2 ++ Q))))) w wx)
        case first =>
         as_aux_lemma =>
          cases dd with
          | false =>
            have er := ST.out (G2.out rfl)
            have HF : Hid (Rs B (some ⟨g0, o0, none⟩) N c (P ++ (X1 ++ (Y1 ++ (X2 ++ (Y2 ++ Q))))) w wc) := Lib.hid (by rw [← er]; exact HR.out)
            clear er ST RT R1 E1 R2 G1 G2
            go_wp2
            go_meet
            exact HF.out
          | true =>
            have q := G1.out rfl
            have CA := Lib.hid (RT.out wc q.1 q.2 HR.out)
            clear q ST RT R1 E1 R2 G1 G2
            go_wp2_with (go_at_call 123; with_reducible refine (CA.out).mono ?_; rintro e w' ⟨rfl, hs⟩; replace hs := Lib.hid hs)
            go_meet
            exact hs.out
        clear HR G1 G2 RT ST
        have HR := Lib.hid hcut
        clear hcut
        go_upto_region 41 with fail
        go_cut [199] (fun v wx => v = .bool (decide (a < j ∧ j < mid)) ∧ wx = wc)
        case first =>
         as_aux_lemma =>
          by_cases g1 : a < j
          · have t3 : (a : Int) < (j : Int) := by omega
            by_cases g2 : j < mid
            · have t4 : (j : Int) < (mid : Int) := by omega
              go_wp2
              go_meet
              exact ⟨by rw [decide_eq_true (And.intro g1 g2)], rfl⟩
            · have t4 : ¬ (j : Int) < (mid : Int) := by omega
              go_wp2
              go_meet
              exact ⟨by rw [decide_eq_false (fun h : a < j ∧ j < mid => g2 h.2)], rfl⟩
          · have t3 : ¬ (a : Int) < (j : Int) := by omega
            go_wp2
            go_meet
            exact ⟨by rw [decide_eq_false (fun h : a < j ∧ j < mid => g1 h.1)], rfl⟩
        obtain ⟨hv, hw⟩ := hcut
        subst hv hw
        have G1 : Hid (decide (a < j ∧ j < mid) = true → a < j ∧ j < mid) := Lib.hid of_decide_eq_true
        have G2 : Hid (decide (a < j ∧ j < mid) = false → ¬ (a < j ∧ j < mid)) := Lib.hid of_decide_eq_false
        generalize decide (a < j ∧ j < mid) = dd at *
        go_upto_if 199 with fail
        go_cut [] (fun wx => ∃ Z, Srt κ Z ∧ Pz.Alike κ Z (X1 ++ Y1) ∧ Rs B (some ⟨g0, o0, none⟩) N c (P ++ (Z ++ (X2 ++ (Y2 ++ Q)))) w wx)
        case first =>
         as_aux_lemma =>
          cases dd with
          | false =>
            have HF := Lib.hid (E1.out wc (G2.out rfl) HR.out)
            clear R1 E1 R2 G1 G2
            go_wp2
            go_meet
            exact HF.out
          | true =>
            have q := G1.out rfl
            have CA := Lib.hid (R1.out wc q.1 q.2 HR.out)
            clear q R1 E1 R2 G1 G2
            go_wp2_with (go_at_call 106; with_reducible refine (CA.out).mono ?_; rintro e w' ⟨rfl, hs⟩; replace hs := Lib.hid hs)
            go_meet
            exact hs.out
        clear HR G1 G2 R1 E1
        obtain ⟨Z, z1, z2, HR⟩ := hcut
        replace HR := Lib.hid HR
        obtain ⟨R3, E3⟩ := R2.out Z z1 z2
        replace R3 := Lib.hid R3
        replace E3 := Lib.hid E3
        clear z1 z2 R2
        by_cases g1 : mid < e ∧ e < b
        · as_aux_lemma =>
          have t3 : (mid : Int) < (e : Int) := by omega
          have t4 : (e : Int) < (b : Int) := by omega
          have CA := Lib.hid (R3.out wc g1.1 g1.2 HR.out)
          clear R3 E3 g1
          go_wp2_with (go_at_call 106; with_reducible refine (CA.out).mono ?_; rintro e w' ⟨rfl, hs⟩; replace hs := Lib.hid hs)
          go_end0
          exact ⟨rfl, hs.out⟩
        · as_aux_lemma =>
          have HF := Lib.hid (E3.out wc g1 HR.out)
          clear R3 E3
          by_cases g2 : mid < e
          · have t3 : (mid : Int) < (e : Int) := by omega
            have t4 : ¬ (e : Int) < (b : Int) := by omega
            clear g1
            go_wp2
            go_end0
            exact ⟨rfl, HF.out⟩
          · have t3 : ¬ (mid : Int) < (e : Int) := by omega
            clear g1
            go_wp2
            go_end0
            exact ⟨rfl, HF.out⟩
end Go.Proofs.YtljaahemlcaffaaGreat
namespace Go.Proofs.YtljaahemlcaffaaGreat
open Go.RowKit Pz Go.Shelf
set_option linter.unusedVariables false
variable {κ : Bn → K3} {fn : Nat} {cap : Array Value}

namespace Pz
/-- X, of which the part ahead of place i is sorted -/
def InsO (κ : Bn → K3) (P X Q R : List Bn) (i : Nat) : Prop := (X = [] ∧ R = P ++ (X ++ Q)) ∨ ∃ Z Y : List Bn, 0 < Z.length ∧ P.length + Z.length = i ∧ R = P ++ (Z ++ (Y ++ Q)) ∧ Srt κ Z ∧ Alike κ (Z ++ Y) X ∧ Z.length + Y.length = X.length
/-- and the one that stood at i is at j -/
def InsI (κ : Bn → K3) (P X Q R : List Bn) (i j : Nat) : Prop := ∃ (Z1 : List Bn) (y : Bn) (Z2 Y : List Bn), P.length + Z1.length = j ∧ j + Z2.length = i ∧ R = P ++ (Z1 ++ (y :: (Z2 ++ (Y ++ Q)))) ∧ Srt κ (Z1 ++ Z2) ∧ (∀ z ∈ Z2, before (κ y) (κ z) = true) ∧ Alike κ ((Z1 ++ Z2) ++ (y :: Y)) X ∧ Z1.length + Z2.length + 1 + Y.length = X.length
theorem InsO.start (P X Q : List Bn) : InsO κ P X Q (P ++ (X ++ Q)) (P.length + 1) := by
  cases X with
  | nil => exact .inl ⟨rfl, rfl⟩
  | cons x r => exact .inr ⟨[x], r, by simp, rfl, by simp, List.pairwise_singleton _ _, Alike.refl _, by simp; omega⟩
theorem InsO.done {P X Q R : List Bn} {i : Nat} (h : InsO κ P X Q R i) (hi : ¬ i < P.length + X.length) : ∃ Z, Srt κ Z ∧ Alike κ Z X ∧ R = P ++ (Z ++ Q) := by
  rcases h with ⟨rfl, rfl⟩ | ⟨Z, Y, h0, h1, rfl, h2, h3, h4⟩
  · exact ⟨[], List.Pairwise.nil, Alike.refl _, rfl⟩
  · have : Y = [] := List.length_eq_zero_iff.1 (by omega)
    subst this
    rw [List.append_nil] at h3
    exact ⟨Z, h2, h3, by simp⟩
theorem InsO.begin_ {P X Q R : List Bn} {i : Nat} (h : InsO κ P X Q R i) (h0 : P.length < i) (hi : i < P.length + X.length) : InsI κ P X Q R i i := by
  rcases h with ⟨rfl, rfl⟩ | ⟨Z, Y, _, h1, rfl, h2, h3, h4⟩
  · simp at hi; omega
  · cases Y with
    | nil => simp at h4; omega
    | cons y Y => exact ⟨Z, y, [], Y, h1, rfl, by simp, by rw [List.append_nil]; exact h2, fun z hz => by simp at hz, by rw [List.append_nil]; exact h3, by simp only [List.length_cons, List.length_nil] at h4 ⊢; omega⟩
theorem InsI.bds {P X Q R : List Bn} {i j : Nat} (h : InsI κ P X Q R i j) : P.length ≤ j ∧ j ≤ i ∧ i < R.length := by
  obtain ⟨Z1, y, Z2, Y, h1, h2, rfl, _⟩ := h
  simp only [List.length_append, List.length_cons]
  omega
theorem InsI.end_ {P X Q R : List Bn} {i j : Nat} (h : InsI κ P X Q R i j) (hs : j = P.length ∨ ∃ x y, R[j]? = some x ∧ R[j - 1]? = some y ∧ P.length < j ∧ before (κ x) (κ y) = false) : InsO κ P X Q R (i + 1) := by
  obtain ⟨Z1, x, Z2, Y, h1, h2, rfl, h3, h4, h5, h6⟩ := h
  have hz : ∀ z ∈ Z1, before (κ x) (κ z) = false := fun z hz => by
    rcases hs with e | ⟨x', y, hx, hy, hj, hb⟩
    · have : Z1 = [] := List.length_eq_zero_iff.1 (by omega)
      rw [this] at hz
      cases hz
    · rw [List.getElem?_append_right (by omega), List.getElem?_append_right (by omega), show j - P.length - Z1.length = 0 by omega] at hx
      simp only [List.getElem?_cons_zero, Option.some.injEq] at hx
      subst hx
      rcases List.eq_nil_or_concat Z1 with e | ⟨Z0, z0, e⟩
      · rw [e] at hz
        cases hz
      · rw [List.concat_eq_append] at e
        subst e
        simp only [List.length_append, List.length_cons, List.length_nil] at h1
        rw [List.getElem?_append_right (by omega), List.append_assoc, List.getElem?_append_right (by omega), show j - 1 - P.length - Z0.length = 0 by omega] at hy
        simp only [List.cons_append, List.getElem?_cons_zero, Option.some.injEq] at hy
        subst hy
        rcases List.mem_append.1 hz with hz | hz
        · exact le_trans' ((srt_app.1 (srt_app.1 h3).1).2.2 z hz z0 (List.mem_singleton.2 rfl)) hb
        · rw [List.mem_singleton.1 hz]
          exact hb
  obtain ⟨q1, q2⟩ := srt_mid h3 hz h4
  refine .inr ⟨Z1 ++ x :: Z2, Y, by simp only [List.length_append, List.length_cons]; omega, by simp only [List.length_append, List.length_cons]; omega, by simp [List.append_assoc], q1, ?_, by simp only [List.length_append, List.length_cons]; omega⟩
  refine Alike.trans (Alike.app q2 (Alike.refl Y)) ?_
  rw [List.append_assoc]
  exact h5
theorem InsI.down {P X Q R : List Bn} {i j : Nat} (h : InsI κ P X Q R i (j + 1)) {x y : Bn} (hx : R[j + 1]? = some x) (hy : R[j]? = some y) (hj : P.length ≤ j) (hb : before (κ x) (κ y) = true) : InsI κ P X Q ((R.set (j + 1) y).set j x) i j := by
  have e0 := sw_is hy hx
  rw [List.set_comm _ _ (by omega)] at e0
  obtain ⟨Z1, x', Z2, Y, h1, h2, rfl, h3, h4, h5, h6⟩ := h
  rw [← e0]
  clear e0
  rw [List.getElem?_append_right (by omega), List.getElem?_append_right (by omega), show j + 1 - P.length - Z1.length = 0 by omega] at hx
  simp only [List.getElem?_cons_zero, Option.some.injEq] at hx
  subst hx
  rcases List.eq_nil_or_concat Z1 with e | ⟨Z0, z0, e⟩
  · rw [e] at h1
    simp at h1
    omega
  · rw [List.concat_eq_append] at e
    subst e
    simp only [List.length_append, List.length_cons, List.length_nil] at h1 h6
    rw [List.getElem?_append_right (by omega), List.append_assoc, List.getElem?_append_right (by omega), show j - P.length - Z0.length = 0 by omega] at hy
    simp only [List.cons_append, List.getElem?_cons_zero, Option.some.injEq] at hy
    subst hy
    refine ⟨Z0, x', z0 :: Z2, Y, by omega, by simp only [List.length_cons]; omega, ?_, by simpa using h3, fun z hz => ?_, by simpa using h5, by simp only [List.length_cons]; omega⟩
    · have := sw_parts (P ++ Z0) [] (Z2 ++ (Y ++ Q)) z0 x'
      simp only [List.length_append, List.length_nil, Nat.add_zero, List.nil_append] at this
      rw [show P.length + Z0.length = j by omega] at this
      simpa [List.append_assoc] using this
    · rcases List.mem_cons.1 hz with rfl | hz
      · exact hb
      · exact h4 z hz
end Pz
set_option maxHeartbeats 16000000 in
set_option maxRecDepth 100000 in
theorem insertion_any {B : Nat} {A : Option Addr} {N c : Nat} {P X Q : List Bn} {w : World} (h : Rs B A N c (P ++ (X ++ Q)) w w) (hN : N ≤ 1000000) (hBw : B ≤ w.heap.size) (HC : CmpAt κ fn cap B w) {a b : Nat} (ha : P.length = a) (hb : a + X.length = b) :
    Calls Tryz.prog 105 #[.slice A N c, .int .i64 (a : Int), .int .i64 (b : Int), .func (.func fn) #[] cap] w fun e w' => e = .returned (.tuple #[]) ∧ ∃ Z, Srt κ Z ∧ Pz.Alike κ Z X ∧ Rs B A N c (P ++ (Z ++ Q)) w w' := by
  have H0 := Lib.hid h
  have hlen := h.len
  simp only [List.length_append] at hlen
  have bN : b ≤ N := by omega
  have aN : a ≤ 1000000 := by omega
  have O0 := Lib.hid (InsO.start (κ := κ) P X Q)
  rw [ha] at O0
  have DONE : Hid (∀ (R : List Bn) (i : Nat), InsO κ P X Q R i → ¬ i < b → ∃ Z, Srt κ Z ∧ Pz.Alike κ Z X ∧ R = P ++ (Z ++ Q)) := Lib.hid fun R i h hi => h.done (by omega)
  have BEG : Hid (∀ (R : List Bn) (i : Nat), InsO κ P X Q R i → a < i → i < b → InsI κ P X Q R i i) := Lib.hid fun R i h h0 hi => h.begin_ (by omega) (by omega)
  have BDS : Hid (∀ (R : List Bn) (i j : Nat), InsI κ P X Q R i j → a ≤ j ∧ j ≤ i ∧ i < R.length) := Lib.hid fun R i j h => by have := h.bds; omega
  have STOP : Hid (∀ (R : List Bn) (i j : Nat), InsI κ P X Q R i j → (j = a ∨ ∃ x y, R[j]? = some x ∧ R[j - 1]? = some y ∧ a < j ∧ before (κ x) (κ y) = false) → InsO κ P X Q R (i + 1)) := Lib.hid fun R i j h hs => h.end_ (by rw [ha]; exact hs)
  have DOWN : Hid (∀ (R : List Bn) (i j : Nat), InsI κ P X Q R i (j + 1) → ∀ x y : Bn, R[j + 1]? = some x → R[j]? = some y → a ≤ j → before (κ x) (κ y) = true → InsI κ P X Q ((R.set (j + 1) y).set j x) i j) := Lib.hid fun R i j h x y hx hy hj hb => h.down hx hy (by omega) hb
  generalize hD : P ++ (X ++ Q) = D at *
  clear hD hlen h ha hb
  have EG := HC.ent
  have HLS := Lib.hid HC
  clear HC
  have hBB := Lib.hid hBw
  go_enter Tryz.func105, Tryz.ntmps105
  go_wp2
  go_loopw [8] (fun ix wr => ∃ (i : Nat) (R : List Bn), ix = .int .i64 i ∧ a < i ∧ i ≤ 1000001 ∧ Hid (Rs B A N c R w wr) ∧ Hid (InsO κ P X Q R i)) (fun ix _ => b - (intOf ix).toNat)
  case atStart => exact ⟨a + 1, D, by go_num, by omega, by omega, H0, O0⟩
  case round =>
    obtain ⟨i, R, rfl, hai, hi1, HR, HO⟩ := hrel
    clear H0 O0
    by_cases hib : i < b
    · have t1 : (i : Int) < (b : Int) := by omega
      have I0 := Lib.hid (BEG.out R i HO.out hai hib)
      clear HO BEG DONE
      go_wp2
      go_loopw [9] (fun jx wr => ∃ (j : Nat) (R2 : List Bn), jx = .int .i64 j ∧ a ≤ j ∧ j ≤ i ∧ Hid (Rs B A N c R2 w wr) ∧ Hid (InsI κ P X Q R2 i j)) (fun jx _ => (intOf jx).toNat)
      case atStart => exact ⟨i, R, rfl, Nat.le_of_lt hai, Nat.le_refl _, HR, I0⟩
      case round =>
        clear HR I0
        obtain ⟨j, R2, rfl, haj, hji, HR, HI⟩ := hrel
        obtain ⟨_, _, q3⟩ := BDS.out R2 i j HI.out
        rw [HR.out.len] at q3
        by_cases hja : a < j
        · have t2 : decide ((j : Int) > (a : Int)) = true := decide_eq_true (by omega)
          have t2' : (a : Int) < (j : Int) := by omega
          have t2'' : decide (a < j) = true := decide_eq_true hja
          obtain ⟨j', hj'⟩ : ∃ j', j = j' + 1 := ⟨j - 1, by omega⟩
          have ws : IntKind.i64.wrap ((j : Int) - 1) = (j' : Int) := by
            rw [IntWalk.i64_in _ (by omega)]
            omega
          have la : (j : Int) < (N : Int) := by omega
          have lb : (j' : Int) < (N : Int) := by omega
          have hl2 := HR.out.len
          obtain ⟨x, hx⟩ : ∃ x, R2[j]? = some x := ⟨_, List.getElem?_eq_getElem (by omega)⟩
          obtain ⟨y, hy⟩ : ∃ y, R2[j']? = some y := ⟨_, List.getElem?_eq_getElem (by omega)⟩
          have NO : Hid (before (κ x) (κ y) = false → InsO κ P X Q R2 (i + 1)) := Lib.hid fun hb => STOP.out R2 i j HI.out (.inr ⟨x, y, hx, by rw [show j - 1 = j' by omega]; exact hy, hja, hb⟩)
          have YES : Hid (before (κ x) (κ y) = true → InsI κ P X Q ((R2.set j y).set j' x) i j') := Lib.hid fun hb => by
            have := DOWN.out R2 i j' (by rw [← hj']; exact HI.out) x y (by rw [← hj']; exact hx) hy (by omega) hb
            rwa [← hj'] at this
          have LESS : Hid (∀ p : Lat grows wr, Calls Tryz.prog fn (#[x.val, y.val] ++ cap) p.W fun e w' => e = .returned (.int .i64 (cmpB (κ x) (κ y))) ∧ Below p.W.heap.size p.W w') := Lib.hid fun p => HLS.out.less x y p.W (HR.out.bel.trans ((lat_below p).mono (Nat.le_trans hBB.out HR.out.bel.size)))
          have CL := cmp_lt (κ x) (κ y)
          generalize cmpB (κ x) (κ y) = r at *
          generalize before (κ x) (κ y) = bf at *
          have hroom := HR.out.room (k := j) (by omega)
          have hjj : j' < j := by omega
          have haj' : a ≤ j' := by omega
          replace hj' := Lib.hid hj'
          obtain ⟨g, o, rfl, px⟩ := HR.out.get hx
          obtain ⟨g', o', e, py⟩ := HR.out.get hy
          cases e
          have HX := Lib.hid hx
          have HY := Lib.hid hy
          clear hx hy hl2 HI q3 STOP DOWN BDS
          obtain ⟨xs, xi, xg, xm, xx, xy, xvx, xvy, xh, xp, xl⟩ := x
          obtain ⟨ys, yi, yg, ym, yx, yy, yvx, yvy, yh, yp, yl⟩ := y
          simp only [Bn.val] at *
          have c0 := fun p => (px p).1
          have e0 := fun p => (py p).1
          have c1 := fun p => (px p).2.1
          have e1 := fun p => (py p).2.1
          have c2 := fun p => (px p).2.2.1
          have e2 := fun p => (py p).2.2.1
          have c3 := fun p => (px p).2.2.2.1
          have e3 := fun p => (py p).2.2.2.1
          have c4 := fun p => (px p).2.2.2.2.1
          have e4 := fun p => (py p).2.2.2.2.1
          have c5 := fun p => (px p).2.2.2.2.2.1
          have e5 := fun p => (py p).2.2.2.2.2.1
          have c6 := fun p => (px p).2.2.2.2.2.2.1
          have e6 := fun p => (py p).2.2.2.2.2.2.1
          have c7 := fun p => (px p).2.2.2.2.2.2.2.1
          have e7 := fun p => (py p).2.2.2.2.2.2.2.1
          have c8 := fun p => (px p).2.2.2.2.2.2.2.2.1
          have e8 := fun p => (py p).2.2.2.2.2.2.2.2.1
          have c9 := fun p => (px p).2.2.2.2.2.2.2.2.2.1
          have e9 := fun p => (py p).2.2.2.2.2.2.2.2.2.1
          have c10 := fun p => (px p).2.2.2.2.2.2.2.2.2.2
          have e10 := fun p => (py p).2.2.2.2.2.2.2.2.2.2
          clear px py
          go_upto_region 4 with fail
          refine Og.grow 17 (by kernel_rfl) (by kernel_rfl) fun hc hf => ?_
          clear hc hf
          simp only [List.take_succ_cons, List.take_zero, List.drop_succ_cons, List.drop_zero]
          iterate 14 (refine Og.det [] rfl (fun J hJ => ?_); go_simp; refine hJ _ _ ?_; clear hJ J)
          refine Og.det [] rfl (fun J hJ => ?_)
          go_simp
          with_reducible refine ⟨_, fun p => Og.lays (LESS.out p), hJ _ _ ?_⟩
          clear hJ J
          iterate 2 (refine Og.det [] rfl (fun J hJ => ?_); go_simp; refine hJ _ _ ?_; clear hJ J)
          refine Og.fin fun W hW => ?_
          simp only [Og.opened_nil]
          clear c0 c1 c2 c3 c4 c5 c6 c7 c8 c9 c10 e0 e1 e2 e3 e4 e5 e6 e7 e8 e9 e10 LESS
          replace HR := Lib.hid (HR.out.grown (Nat.le_of_lt hroom) hW)
          clear hW
          cases bf with
          | false =>
            have NX := Lib.hid (NO.out rfl)
            clear NO YES
            go_wp2
            go_roundw
            case rel => exact ⟨i + 1, R2, by go_num, by omega, by omega, HR, NX⟩
            case measure => simp [intOf]; omega
          | true =>
            have NX := Lib.hid (YES.out rfl)
            clear NO YES
            have hjN : j < N := by omega
            have hjN' : j' < N := by omega
            go_upto_region 6 with fail
            obtain ⟨g', o', e, px⟩ := HR.out.get HX.out
            cases e
            obtain ⟨g', o', e, py⟩ := HR.out.get HY.out
            cases e
            simp only at px py
            clear HX HY
            have c0 := (px ⟨W.drew, Below.d' (Below.refl _ _)⟩).1
            have e0 := (py ⟨W.drew, Below.d' (Below.refl _ _)⟩).1
            have c1 := (px ⟨W.drew, Below.d' (Below.refl _ _)⟩).2.1
            have e1 := (py ⟨W.drew, Below.d' (Below.refl _ _)⟩).2.1
            have c2 := (px ⟨W.drew, Below.d' (Below.refl _ _)⟩).2.2.1
            have e2 := (py ⟨W.drew, Below.d' (Below.refl _ _)⟩).2.2.1
            have c3 := (px ⟨W.drew, Below.d' (Below.refl _ _)⟩).2.2.2.1
            have e3 := (py ⟨W.drew, Below.d' (Below.refl _ _)⟩).2.2.2.1
            have c4 := (px ⟨W.drew, Below.d' (Below.refl _ _)⟩).2.2.2.2.1
            have e4 := (py ⟨W.drew, Below.d' (Below.refl _ _)⟩).2.2.2.2.1
            have c5 := (px ⟨W.drew, Below.d' (Below.refl _ _)⟩).2.2.2.2.2.1
            have e5 := (py ⟨W.drew, Below.d' (Below.refl _ _)⟩).2.2.2.2.2.1
            have c6 := (px ⟨W.drew, Below.d' (Below.refl _ _)⟩).2.2.2.2.2.2.1
            have e6 := (py ⟨W.drew, Below.d' (Below.refl _ _)⟩).2.2.2.2.2.2.1
            have c7 := (px ⟨W.drew, Below.d' (Below.refl _ _)⟩).2.2.2.2.2.2.2.1
            have e7 := (py ⟨W.drew, Below.d' (Below.refl _ _)⟩).2.2.2.2.2.2.2.1
            have c8 := (px ⟨W.drew, Below.d' (Below.refl _ _)⟩).2.2.2.2.2.2.2.2.1
            have e8 := (py ⟨W.drew, Below.d' (Below.refl _ _)⟩).2.2.2.2.2.2.2.2.1
            have c9 := (px ⟨W.drew, Below.d' (Below.refl _ _)⟩).2.2.2.2.2.2.2.2.2.1
            have e9 := (py ⟨W.drew, Below.d' (Below.refl _ _)⟩).2.2.2.2.2.2.2.2.2.1
            have c10 := (px ⟨W.drew, Below.d' (Below.refl _ _)⟩).2.2.2.2.2.2.2.2.2.2
            have e10 := (py ⟨W.drew, Below.d' (Below.refl _ _)⟩).2.2.2.2.2.2.2.2.2.2
            clear px py
            simp only at c0 c1 c2 c3 c4 c5 c6 c7 c8 c9 c10 e0 e1 e2 e3 e4 e5 e6 e7 e8 e9 e10
            obtain ⟨g', o', e, ⟨q9, z0, z1, z2, z3, z4, z5, z6, z7, z8, z9, z10⟩, ⟨y0, y1, y2, y3, y4, y5, y6, y7, y8, y9, y10⟩, HP⟩ := HR.out.put (k := j) hjN ⟨ys, yi, yg, ym, yx, yy, yvx, yvy, yh, yp, yl⟩
            cases e
            clear HR
            simp only at HP
            obtain ⟨g', o', e, ⟨q2, p0, p1, p2, p3, p4, p5, p6, p7, p8, p9, p10⟩, ⟨h0, h1, h2, h3, h4, h5, h6, h7, h8, h9, h10⟩, HP2⟩ := HP.out.put (k := j') hjN' ⟨xs, xi, xg, xm, xx, xy, xvx, xvy, xh, xp, xl⟩
            cases e
            clear HP
            simp only at HP2
            go_big_region
            clear c0 c1 c2 c3 c4 c5 c6 c7 c8 c9 c10 e0 e1 e2 e3 e4 e5 e6 e7 e8 e9 e10 z0 z1 z2 z3 z4 z5 z6 z7 z8 z9 z10 y0 y1 y2 y3 y4 y5 y6 y7 y8 y9 y10 p0 p1 p2 p3 p4 p5 p6 p7 p8 p9 p10 h0 h1 h2 h3 h4 h5 h6 h7 h8 h9 h10
            have HP3 := Lib.hid (HP2.out.grown (by have := HP2.out.room (k := j) hjN; omega) (Below.d' (Below.refl _ _)))
            clear HP2
            go_wp2
            go_roundw
            case rel => exact ⟨j', _, rfl, haj', by omega, HP3, NX⟩
            case measure => simp [intOf]; omega
        · have ej : j = a := by omega
          have t2 : decide ((j : Int) > (a : Int)) = false := decide_eq_false (by omega)
          have t2'' : decide (a < j) = false := decide_eq_false hja
          have NX := Lib.hid (STOP.out R2 i j HI.out (.inl ej))
          clear HI ej q3 STOP DOWN BDS
          go_upto_region 4 with fail
          go_quiet (fail)
          rename_i nq
          replace HR := Lib.hid (HR.out.grown (Nat.le_trans hBB.out HR.out.bel.size) (below_dn wr nq))
          generalize wr.drewN nq = wx at *
          go_wp2
          go_roundw
          case rel => exact ⟨i + 1, R2, by go_num, by omega, by omega, HR, NX⟩
          case measure => simp [intOf]; omega
    · have t1 : ¬ (i : Int) < (b : Int) := by omega
      have DN := Lib.hid (DONE.out R i HO.out hib)
      clear HO BEG DONE STOP DOWN BDS
      go_wp2
      go_end0
      obtain ⟨Z, z1, z2, z3⟩ := DN.out
      refine ⟨rfl, Z, z1, z2, ?_⟩
      rw [← z3]
      exact HR.out
end Go.Proofs.YtljaahemlcaffaaGreat
