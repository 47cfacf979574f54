/- Chapter 4's zones, as integers: nothing of the program. What happens to an entity, over numbers. Nothing of the program. Written by wip/tools/gensy.py. A tick over lists of entities: who stays, who is no more, name by name. Nothing of the program. What an entity takes: of others that don't matter, of parts. Nothing of the program. -/
import Derived.Test.YtljaahemlcaffaaGreatK06
import Derived.Test.YtljaahemlcaffaaGreatK05
namespace Go.Proofs.YtljaahemlcaffaaGreat
namespace Zn
open Rc (clamp)

/-- what Check asks -/
def okB (C R S D V N Q : Int) : Bool := decide ((1 ≤ C ∧ C ≤ 4) ∧ (1 ≤ R ∧ R ≤ 4) ∧ (256 ≤ S ∧ S ≤ 1048576) ∧ (0 ≤ D ∧ D ≤ S) ∧ (0 ≤ V ∧ V ≤ S) ∧ (1 ≤ N ∧ N ≤ 16) ∧ (1 ≤ Q ∧ Q ≤ 64))
/-- the part of it that the zones' places hang on -/
structure Ok (C R S D V : Int) : Prop where
  c0 : 1 ≤ C
  c1 : C ≤ 4
  r0 : 1 ≤ R
  r1 : R ≤ 4
  s0 : 256 ≤ S
  s1 : S ≤ 1048576
  d0 : 0 ≤ D
  d1 : D ≤ S
  v0 : 0 ≤ V
  v1 : V ≤ S

section
variable {C R S D V : Int}
theorem mul4 (h0 : 0 ≤ C) (h1 : C ≤ 4) : C * S = 0 ∨ C * S = S ∨ C * S = 2 * S ∨ C * S = 3 * S ∨ C * S = 4 * S := by
  rcases (show C = 0 ∨ C = 1 ∨ C = 2 ∨ C = 3 ∨ C = 4 by omega) with rfl | rfl | rfl | rfl | rfl <;> omega
theorem mul_bd (h : Ok C R S D V) : 1 ≤ C * R ∧ C * R ≤ 16 := by
  obtain ⟨c0, c1, r0, r1, _⟩ := h
  rcases (show C = 1 ∨ C = 2 ∨ C = 3 ∨ C = 4 by omega) with rfl | rfl | rfl | rfl <;> omega
theorem side_bd {q : Int} (s0 : 256 ≤ S) (s1 : S ≤ 1048576) (h0 : 0 ≤ q) (h1 : q ≤ 4) : 0 ≤ q * S ∧ q * S ≤ 4194304 := by
  rcases (show q = 0 ∨ q = 1 ∨ q = 2 ∨ q = 3 ∨ q = 4 by omega) with rfl | rfl | rfl | rfl | rfl <;> omega

/-- is there such a zone? -/
def There (C R k : Int) : Prop := 0 ≤ k ∧ k < C * R
instance (C R k : Int) : Decidable (There C R k) := by unfold There; infer_instance
theorem col_bd {k : Int} (h : Ok C R S D V) : 0 ≤ k % C ∧ k % C < C := ⟨Int.emod_nonneg _ (by have := h.c0; omega), Int.emod_lt_of_pos _ (by have := h.c0; omega)⟩
theorem row_bd {k : Int} (h : Ok C R S D V) (hk : There C R k) : 0 ≤ k / C ∧ k / C < R := by
  have := h.c0
  refine ⟨Int.ediv_nonneg hk.1 (by omega), Int.ediv_lt_of_lt_mul (by omega) ?_⟩
  rw [Int.mul_comm]; exact hk.2
/-- a zone's rectangle -/
def zone (C R S k : Int) : Rc.R := if There C R k then ⟨k % C * S, k / C * S, k % C * S + S, k / C * S + S⟩ else ⟨0, 0, 0, 0⟩
theorem zone_yes {k : Int} (h : There C R k) : zone C R S k = ⟨k % C * S, k / C * S, k % C * S + S, k / C * S + S⟩ := if_pos h
theorem zone_no {k : Int} (h : ¬ There C R k) : zone C R S k = ⟨0, 0, 0, 0⟩ := if_neg h
/-- the zone that has a point -/
def of (C R S x y : Int) : Int := if 0 ≤ x ∧ x < C * S ∧ 0 ≤ y ∧ y < R * S then y / S * C + x / S else -1
/-- a number brought below an end -/
def into (x e : Int) : Int := max 0 (min x (e - 1))

theorem div_is {q x : Int} (s0 : 256 ≤ S) : x / S = q ↔ q * S ≤ x ∧ x < q * S + S := by
  have h1 : q ≤ x / S ↔ q * S ≤ x := Int.le_ediv_iff_mul_le (by omega)
  have h2 : x / S < q + 1 ↔ x < (q + 1) * S := Int.ediv_lt_iff_lt_mul (by omega)
  rw [Int.add_mul, Int.one_mul] at h2
  omega
theorem div_lt {x n : Int} (s0 : 256 ≤ S) : x / S < n ↔ x < n * S := Int.ediv_lt_iff_lt_mul (by omega)
theorem div_ge {x n : Int} (s0 : 256 ≤ S) : n ≤ x / S ↔ n * S ≤ x := Int.le_ediv_iff_mul_le (by omega)
theorem le_clamp {a x : Int} (h0 : -1073741824 < a) (h1 : a ≤ 1073741824) : a ≤ clamp x ↔ a ≤ x := by unfold clamp; omega
theorem clamp_lt {a x : Int} (h0 : -1073741824 < a) (h1 : a ≤ 1073741824) : clamp x < a ↔ x < a := by unfold clamp; omega

theorem zone_bd {k : Int} (h : Ok C R S D V) (hk : There C R k) : (0 ≤ k % C * S ∧ k % C * S ≤ 4194304) ∧ (0 ≤ k / C * S ∧ k / C * S ≤ 4194304) ∧ (0 ≤ k % C * S + S ∧ k % C * S + S ≤ 5242880) ∧ (0 ≤ k / C * S + S ∧ k / C * S + S ≤ 5242880) := by
  have a := col_bd (k := k) h
  have b := row_bd h hk
  have c := side_bd (q := k % C) h.s0 h.s1 (by omega) (by have := h.c1; omega)
  have d := side_bd (q := k / C) h.s0 h.s1 (by omega) (by have := h.r1; omega)
  have := h.s0
  have := h.s1
  omega
theorem zone_some {k : Int} (h : Ok C R S D V) (hk : There C R k) : ¬ Rc.None (k % C * S) (k / C * S) (k % C * S + S) (k / C * S + S) := by
  have := zone_bd h hk
  have := h.s0
  unfold Rc.None clamp
  omega
/-- a point's zone is the one whose rectangle has it -/
theorem has_zone {k : Int} (h : Ok C R S D V) (hk : There C R k) (x y : Int) : Rc.hasR (zone C R S k).a (zone C R S k).b (zone C R S k).c (zone C R S k).d x y = decide (of C R S x y = k) := by
  have zb := zone_bd h hk
  have cb := col_bd (k := k) h
  have rb := row_bd h hk
  have s0 := h.s0
  rw [zone_yes hk]
  unfold Rc.hasR
  rw [decide_eq_decide]
  simp only
  rw [Rc.clamp_in (n := k % C * S) (by omega) (by omega), Rc.clamp_in (n := k / C * S) (by omega) (by omega), Rc.clamp_in (n := k % C * S + S) (by omega) (by omega), Rc.clamp_in (n := k / C * S + S) (by omega) (by omega)]
  rw [le_clamp (by omega) (by omega), le_clamp (by omega) (by omega), clamp_lt (by omega) (by omega), clamp_lt (by omega) (by omega)]
  have hx : (k % C * S ≤ x ∧ x < k % C * S + S) ↔ x / S = k % C := (div_is s0).symm
  have hy : (k / C * S ≤ y ∧ y < k / C * S + S) ↔ y / S = k / C := (div_is s0).symm
  have hk2 : k / C * C + k % C = k := Int.ediv_mul_add_emod k C
  have gx0 : 0 ≤ x / S ↔ 0 * S ≤ x := div_ge s0
  have gx1 : x / S < C ↔ x < C * S := div_lt s0
  have gy0 : 0 ≤ y / S ↔ 0 * S ≤ y := div_ge s0
  have gy1 : y / S < R ↔ y < R * S := div_lt s0
  rw [Int.zero_mul] at gx0 gy0
  unfold of
  constructor
  · intro hh
    have ex := hx.1 ⟨by omega, by omega⟩
    have ey := hy.1 ⟨by omega, by omega⟩
    rw [if_pos ⟨gx0.1 (by omega), gx1.1 (by omega), gy0.1 (by omega), gy1.1 (by omega)⟩, ex, ey]
    exact hk2
  · intro hh
    by_cases hin : 0 ≤ x ∧ x < C * S ∧ 0 ≤ y ∧ y < R * S
    · rw [if_pos hin] at hh
      have c0 := h.c0
      have e1 : x / S = k % C := by
        rw [← hh, Int.mul_comm, Int.add_comm, Int.add_mul_emod_self_left, Int.emod_eq_of_lt (by omega) (by omega)]
      have e2 : y / S = k / C := by
        rw [← hh, Int.add_comm, Int.add_mul_ediv_right _ _ (by omega), Int.ediv_eq_zero_of_lt (a := x / S) (by omega) (by omega)]; omega
      have := hx.2 e1
      have := hy.2 e2
      omega
    · rw [if_neg hin] at hh
      have := hk.1
      omega
theorem of_bd (h : Ok C R S D V) (x y : Int) : of C R S x y = -1 ∨ There C R (of C R S x y) := by
  unfold of
  by_cases hin : 0 ≤ x ∧ x < C * S ∧ 0 ≤ y ∧ y < R * S
  · rw [if_pos hin]
    right
    have s0 := h.s0
    obtain ⟨x0, x1, y0, y1⟩ := hin
    have gx0 : 0 ≤ x / S := (div_ge s0).2 (by omega)
    have gy0 : 0 ≤ y / S := (div_ge s0).2 (by omega)
    have gx1 : x / S < C := (div_lt s0).2 x1
    have gy1 : y / S < R := (div_lt s0).2 y1
    obtain ⟨c0, c1, r0, r1, _⟩ := h
    unfold There
    generalize x / S = a at *
    generalize y / S = b at *
    rcases (show C = 1 ∨ C = 2 ∨ C = 3 ∨ C = 4 by omega) with rfl | rfl | rfl | rfl <;> constructor <;> omega
  · rw [if_neg hin]; exact .inl rfl
/-- of a point of the world: its column and its row -/
theorem of_yes (h : Ok C R S D V) {x y : Int} (hin : There C R (of C R S x y)) : of C R S x y % C = x / S ∧ of C R S x y / C = y / S ∧ 0 ≤ x ∧ x < C * S ∧ 0 ≤ y ∧ y < R * S := by
  by_cases h' : 0 ≤ x ∧ x < C * S ∧ 0 ≤ y ∧ y < R * S
  · have e : of C R S x y = y / S * C + x / S := if_pos h'
    have s0 := h.s0
    obtain ⟨x0, x1, y0, y1⟩ := h'
    have gx0 : 0 ≤ x / S := (div_ge s0).2 (by omega)
    have gx1 : x / S < C := (div_lt s0).2 x1
    have c0 := h.c0
    refine ⟨?_, ?_, x0, x1, y0, y1⟩
    · rw [e, Int.mul_comm, Int.add_comm, Int.add_mul_emod_self_left, Int.emod_eq_of_lt (by omega) (by omega)]
    · rw [e, Int.add_comm, Int.add_mul_ediv_right _ _ (by omega), Int.ediv_eq_zero_of_lt (by omega) (by omega)]; omega
  · rw [show of C R S x y = -1 from if_neg h'] at hin
    have := hin.1
    omega

/-- do two zones lie beside each other (or are one)? -/
def nextB (C k n : Int) : Bool := decide (Rc.far (n % C) (n / C) (k % C) (k / C) ≤ 1)
theorem next_is {k n : Int} (h : Ok C R S D V) (hk : There C R k) (hn : There C R n) : nextB C k n = true ↔ ((n % C ≤ k % C + 1 ∧ k % C ≤ n % C + 1) ∧ (n / C ≤ k / C + 1 ∧ k / C ≤ n / C + 1)) := by
  have a := col_bd (k := k) h
  have b := row_bd h hk
  have c := col_bd (k := n) h
  have d := row_bd h hn
  have c1 := h.c1
  have r1 := h.r1
  unfold nextB Rc.far Rc.dist
  rw [Rc.clamp_in (n := n % C) (by omega) (by omega), Rc.clamp_in (n := n / C) (by omega) (by omega), Rc.clamp_in (n := k % C) (by omega) (by omega), Rc.clamp_in (n := k / C) (by omega) (by omega), decide_eq_true_eq]
  omega
/-- as the document's own text has it: the grown rectangle has a point of the other -/
theorem next_two {k n : Int} (h : Ok C R S D V) (hk : There C R k) (hn : There C R n) :
    (Rc.noneB (Rc.twR (Rc.grown (zone C R S k).a (zone C R S k).b (zone C R S k).c (zone C R S k).d 1) ((zone C R S n).a, (zone C R S n).b, (zone C R S n).c, (zone C R S n).d)).a
      (Rc.twR (Rc.grown (zone C R S k).a (zone C R S k).b (zone C R S k).c (zone C R S k).d 1) ((zone C R S n).a, (zone C R S n).b, (zone C R S n).c, (zone C R S n).d)).b
      (Rc.twR (Rc.grown (zone C R S k).a (zone C R S k).b (zone C R S k).c (zone C R S k).d 1) ((zone C R S n).a, (zone C R S n).b, (zone C R S n).c, (zone C R S n).d)).c
      (Rc.twR (Rc.grown (zone C R S k).a (zone C R S k).b (zone C R S k).c (zone C R S k).d 1) ((zone C R S n).a, (zone C R S n).b, (zone C R S n).c, (zone C R S n).d)).d) = !nextB C k n := by
  have zb := zone_bd h hk
  have zn := zone_bd h hn
  have zs := zone_some h hk
  have s0 := h.s0
  have s1 := h.s1
  have ni := next_is h hk hn
  have a := col_bd (k := k) h
  have b := row_bd h hk
  have c := col_bd (k := n) h
  have d := row_bd h hn
  have c1 := h.c1
  have r1 := h.r1
  -- the comparisons of the corners
  have m1 : ∀ p q : Int, p ≤ q + 1 ↔ p * S ≤ q * S + S := fun p q => by
    have : p * S ≤ (q + 1) * S ↔ p ≤ q + 1 := Int.mul_le_mul_iff_of_pos_right (by omega)
    rw [Int.add_mul, Int.one_mul] at this
    exact this.symm
  have m2 := m1 (n % C) (k % C)
  have m3 := m1 (k % C) (n % C)
  have m4 := m1 (n / C) (k / C)
  have m5 := m1 (k / C) (n / C)
  rw [zone_yes hk, zone_yes hn]
  simp only
  generalize k % C * S = ka at *
  generalize k / C * S = kb at *
  generalize n % C * S = na at *
  generalize n / C * S = nb at *
  rw [show Rc.grown ka kb (ka + S) (kb + S) 1 = ⟨ka - 1, kb - 1, ka + S + 1, kb + S + 1⟩ by
    unfold Rc.grown
    rw [if_neg zs, show Rc.by_ 1 = 1 by decide]
    rw [Rc.clamp_in (n := ka) (by omega) (by omega), Rc.clamp_in (n := kb) (by omega) (by omega), Rc.clamp_in (n := ka + S) (by omega) (by omega), Rc.clamp_in (n := kb + S) (by omega) (by omega)]
    rw [Rc.clamp_in (by omega) (by omega), Rc.clamp_in (by omega) (by omega), Rc.clamp_in (by omega) (by omega), Rc.clamp_in (by omega) (by omega)]]
  have e : Rc.twR ⟨ka - 1, kb - 1, ka + S + 1, kb + S + 1⟩ (na, nb, na + S, nb + S) = if Rc.None (max (ka - 1) na) (max (kb - 1) nb) (min (ka + S + 1) (na + S)) (min (kb + S + 1) (nb + S)) then ⟨0, 0, 0, 0⟩ else ⟨max (ka - 1) na, max (kb - 1) nb, min (ka + S + 1) (na + S), min (kb + S + 1) (nb + S)⟩ := by
    unfold Rc.twR Rc.two
    simp only
    rw [Rc.clamp_in (n := ka - 1) (by omega) (by omega), Rc.clamp_in (n := kb - 1) (by omega) (by omega), Rc.clamp_in (n := ka + S + 1) (by omega) (by omega), Rc.clamp_in (n := kb + S + 1) (by omega) (by omega)]
    rw [Rc.clamp_in (n := na) (by omega) (by omega), Rc.clamp_in (n := nb) (by omega) (by omega), Rc.clamp_in (n := na + S) (by omega) (by omega), Rc.clamp_in (n := nb + S) (by omega) (by omega)]
  rw [e]
  by_cases hh : Rc.None (max (ka - 1) na) (max (kb - 1) nb) (min (ka + S + 1) (na + S)) (min (kb + S + 1) (nb + S))
  · rw [if_pos hh]
    have hno : nextB C k n = false := by
      cases hx : nextB C k n
      · rfl
      · have := ni.1 hx
        unfold Rc.None at hh
        rw [Rc.clamp_in (by omega) (by omega), Rc.clamp_in (by omega) (by omega), Rc.clamp_in (by omega) (by omega), Rc.clamp_in (by omega) (by omega)] at hh
        omega
    rw [hno]
    decide
  · rw [if_neg hh]
    have hyes : nextB C k n = true := by
      refine ni.2 ?_
      unfold Rc.None at hh
      rw [Rc.clamp_in (by omega) (by omega), Rc.clamp_in (by omega) (by omega), Rc.clamp_in (by omega) (by omega), Rc.clamp_in (by omega) (by omega)] at hh
      omega
    rw [hyes]
    exact Rc.noneB_no hh

/-- how far a point lies from a zone -/
def gapZ (C R S k x y : Int) : Int := Rc.gap (zone C R S k).a (zone C R S k).b (zone C R S k).c (zone C R S k).d x y
theorem gap_is {k : Int} (h : Ok C R S D V) (hk : There C R k) (x y : Int) : gapZ C R S k x y = max (Rc.out x (k % C * S) (k % C * S + S)) (Rc.out y (k / C * S) (k / C * S + S)) := by
  have zb := zone_bd h hk
  have zs := zone_some h hk
  unfold gapZ
  rw [zone_yes hk]
  simp only
  unfold Rc.gap
  rw [if_neg zs, Rc.clamp_in (n := k % C * S) (by omega) (by omega), Rc.clamp_in (n := k / C * S) (by omega) (by omega), Rc.clamp_in (n := k % C * S + S) (by omega) (by omega), Rc.clamp_in (n := k / C * S + S) (by omega) (by omega)]
theorem gap_pos {k : Int} (h : Ok C R S D V) (hk : There C R k) (x y : Int) : 0 ≤ gapZ C R S k x y := by
  rw [gap_is h hk]
  unfold Rc.out
  omega
/-- what a point is near to lies beside its own zone -/
theorem near_next {k x y : Int} (h : Ok C R S D V) (hk : There C R k) (hin : There C R (of C R S x y)) (hg : gapZ C R S k x y ≤ D) : nextB C (of C R S x y) k = true := by
  rw [next_is h hin hk]
  rw [gap_is h hk] at hg
  obtain ⟨e1, e2, x0, x1, y0, y1⟩ := of_yes h hin
  rw [e1, e2]
  have zb := zone_bd h hk
  have s0 := h.s0
  have s1 := h.s1
  have d1 := h.d1
  have bx := side_bd (q := C) h.s0 h.s1 (by have := h.c0; omega) h.c1
  have by_ := side_bd (q := R) h.s0 h.s1 (by have := h.r0; omega) h.r1
  have cx : clamp x = x := Rc.clamp_in (by omega) (by omega)
  have cy : clamp y = y := Rc.clamp_in (by omega) (by omega)
  unfold Rc.out at hg
  rw [cx, cy] at hg
  have hx := (div_is (S := S) (q := x / S) (x := x) s0).1 rfl
  have hy := (div_is (S := S) (q := y / S) (x := y) s0).1 rfl
  have m1 : ∀ p q : Int, p ≤ q ↔ p * S ≤ q * S := fun p q => (Int.mul_le_mul_iff_of_pos_right (by omega)).symm
  have l1 : ∀ p q : Int, p * S < q * S + S + S → p ≤ q + 1 := fun p q hpq => by
    have : p * S < (q + 2) * S := by rw [Int.add_mul]; omega
    have := Int.lt_of_mul_lt_mul_right this (by omega)
    omega
  refine ⟨⟨l1 _ _ (by omega), l1 _ _ (by omega)⟩, l1 _ _ (by omega), l1 _ _ (by omega)⟩

/-- of the first m zones those beside a zone -/
def besP (C k : Int) (n : Nat) : Bool := decide ((n : Int) ≠ k) && nextB C k n
def bes (C k : Int) (m : Nat) : List Int := ((List.range m).filter (besP C k)).map Int.ofNat
theorem bes_zero (C k : Int) : bes C k 0 = [] := rfl
theorem bes_succ (C k : Int) (m : Nat) : bes C k (m + 1) = bes C k m ++ if besP C k m then [(m : Int)] else [] := by
  unfold bes
  rw [List.range_succ, List.filter_append, List.map_append]
  congr 1
  cases hb : besP C k m <;> simp [List.filter, hb]
theorem bes_len (C k : Int) (m : Nat) : (bes C k m).length ≤ m := by
  unfold bes
  rw [List.length_map]
  exact Nat.le_trans (List.length_filter_le _ _) (by simp)
theorem bes_mem {C k : Int} {m : Nat} {z : Int} : z ∈ bes C k m ↔ (0 ≤ z ∧ z < m ∧ z ≠ k ∧ nextB C k z = true) := by
  unfold bes besP
  simp only [List.mem_map, List.mem_filter, List.mem_range, Bool.and_eq_true, decide_eq_true_eq]
  constructor
  · rintro ⟨n, ⟨hn, h1, h2⟩, rfl⟩
    exact ⟨by show (0 : Int) ≤ (n : Int); omega, by show (n : Int) < m; omega, h1, h2⟩
  · rintro ⟨h0, h1, h2, h3⟩
    have : z = (z.toNat : Int) := by omega
    exact ⟨z.toNat, ⟨by omega, by rw [← this]; exact h2, by rw [← this]; exact h3⟩, this.symm⟩
/-- the zones beside a zone -/
def beside (C R k : Int) : List Int := if There C R k then bes C k (C * R).toNat else []
theorem beside_mem {C R k z : Int} : z ∈ beside C R k ↔ There C R k ∧ There C R z ∧ z ≠ k ∧ nextB C k z = true := by
  unfold beside
  by_cases h : There C R k
  · rw [if_pos h, bes_mem]
    have e : ((C * R).toNat : Int) = C * R := by unfold There at h; omega
    rw [e]
    unfold There
    constructor
    · rintro ⟨h1, h2, h3, h4⟩; exact ⟨h, ⟨h1, h2⟩, h3, h4⟩
    · rintro ⟨_, ⟨h1, h2⟩, h3, h4⟩; exact ⟨h1, h2, h3, h4⟩
  · rw [if_neg h]
    simp [h]
theorem next_comm {k n : Int} (h : Ok C R S D V) (hk : There C R k) (hn : There C R n) : nextB C k n = nextB C n k := by
  rw [Bool.eq_iff_iff, next_is h hk hn, next_is h hn hk]
  omega
/-- of the first of a row those near to a point -/
def nearQ (C R S D x y : Int) (k : Int) : Bool := decide (gapZ C R S k x y ≤ D)
def near (C R S D x y : Int) : List Int := (beside C R (of C R S x y)).filter (nearQ C R S D x y)
/-- and so by the document's own text: of all zones -/
def nrP (C R S D x y : Int) (n : Nat) : Bool := decide ((n : Int) ≠ of C R S x y) && nearQ C R S D x y n
def nr (C R S D x y : Int) (m : Nat) : List Int := ((List.range m).filter (nrP C R S D x y)).map Int.ofNat
theorem nr_succ (C R S D x y : Int) (m : Nat) : nr C R S D x y (m + 1) = nr C R S D x y m ++ if nrP C R S D x y m then [(m : Int)] else [] := by
  unfold nr
  rw [List.range_succ, List.filter_append, List.map_append]
  congr 1
  cases hb : nrP C R S D x y m <;> simp [List.filter, hb]
theorem nr_len (C R S D x y : Int) (m : Nat) : (nr C R S D x y m).length ≤ m := by
  unfold nr
  rw [List.length_map]
  exact Nat.le_trans (List.length_filter_le _ _) (by simp)
theorem near_nr {x y : Int} (h : Ok C R S D V) (hin : There C R (of C R S x y)) : near C R S D x y = nr C R S D x y (C * R).toNat := by
  unfold near beside bes nr
  rw [if_pos hin, List.filter_map, List.filter_filter]
  congr 1
  refine List.filter_congr fun n hn => ?_
  have hm := mul_bd h
  have ht : There C R (n : Int) := by
    have := List.mem_range.1 hn
    unfold There
    omega
  show (nearQ C R S D x y (n : Int) && besP C (of C R S x y) n) = nrP C R S D x y n
  unfold besP nrP
  by_cases hg : nearQ C R S D x y (n : Int) = true
  · rw [hg, near_next h ht hin (by unfold nearQ at hg; simpa using hg)]
    simp
  · simp only [Bool.not_eq_true] at hg
    rw [hg]
    simp
theorem near_none {x y : Int} (h : of C R S x y = -1) : near C R S D x y = [] := by
  unfold near beside
  rw [h, if_neg (by unfold There; omega)]
  rfl
theorem near_mem {x y z : Int} (h : Ok C R S D V) : z ∈ near C R S D x y ↔ There C R (of C R S x y) ∧ There C R z ∧ z ≠ of C R S x y ∧ gapZ C R S z x y ≤ D := by
  unfold near
  rw [List.mem_filter, beside_mem]
  unfold nearQ
  rw [decide_eq_true_eq]
  constructor
  · rintro ⟨⟨h1, h2, h3, _⟩, h4⟩; exact ⟨h1, h2, h3, h4⟩
  · rintro ⟨h1, h2, h3, h4⟩; exact ⟨⟨h1, h2, h3, near_next h h2 h1 h4⟩, h4⟩
theorem bes_sorted (C k : Int) (m : Nat) : (bes C k m).Pairwise (· < ·) := by
  induction m with
  | zero => simp [bes]
  | succ m ih =>
    rw [bes_succ]
    split
    · rw [List.pairwise_append]
      refine ⟨ih, by simp, fun a ha b hb => ?_⟩
      have := (bes_mem.1 ha).2.1
      simp at hb
      omega
    · simpa using ih
theorem near_sorted (C R S D x y : Int) : (near C R S D x y).Pairwise (· < ·) := by
  unfold near beside
  split
  · exact List.Pairwise.filter _ (bes_sorted _ _ _)
  · simp
theorem beside_bd (h : Ok C R S D V) (k : Int) : (beside C R k).length ≤ 16 := by
  have := mul_bd h
  unfold beside
  split
  · have := bes_len C k (C * R).toNat; omega
  · simp
theorem near_bd (h : Ok C R S D V) (x y : Int) : (near C R S D x y).length ≤ 16 := Nat.le_trans (List.length_filter_le _ _) (beside_bd h _)

/-- whoever goes no farther than a side is brought into a zone beside -/
theorem into_in {x e : Int} (h : 0 < e) : 0 ≤ into x e ∧ into x e < e := by unfold into; omega
theorem step_div {x t e : Int} (s0 : 256 ≤ S) (hx0 : 0 ≤ x) (hx1 : x < e) (ht0 : -S ≤ t) (ht1 : t ≤ S) : into (x + t) e / S ≤ x / S + 1 ∧ x / S ≤ into (x + t) e / S + 1 := by
  have hu : into (x + t) e ≤ x + S ∧ x ≤ into (x + t) e + S := by unfold into; omega
  have hx := (div_is (S := S) (q := x / S) (x := x) s0).1 rfl
  have hy := (div_is (S := S) (q := into (x + t) e / S) (x := into (x + t) e) s0).1 rfl
  have l1 : ∀ p q : Int, p * S < q * S + S + S → p ≤ q + 1 := fun p q hpq => by
    have : p * S < (q + 2) * S := by rw [Int.add_mul]; omega
    have := Int.lt_of_mul_lt_mul_right this (by omega)
    omega
  exact ⟨l1 _ _ (by omega), l1 _ _ (by omega)⟩
theorem of_in (h : Ok C R S D V) {x y : Int} (x0 : 0 ≤ x) (x1 : x < C * S) (y0 : 0 ≤ y) (y1 : y < R * S) : There C R (of C R S x y) := by
  rcases of_bd h x y with e | e
  · unfold of at e
    rw [if_pos ⟨x0, x1, y0, y1⟩] at e
    have s0 := h.s0
    have gx0 : 0 ≤ x / S := (div_ge s0).2 (by omega)
    have gy0 : 0 ≤ y / S := (div_ge s0).2 (by omega)
    have := Int.mul_nonneg gy0 (show 0 ≤ C by have := h.c0; omega)
    omega
  · exact e
theorem reach {x y s t : Int} (h : Ok C R S D V) (x0 : 0 ≤ x) (x1 : x < C * S) (y0 : 0 ≤ y) (y1 : y < R * S) (hs0 : -V ≤ s) (hs1 : s ≤ V) (ht0 : -V ≤ t) (ht1 : t ≤ V) :
    of C R S (into (x + s) (C * S)) (into (y + t) (R * S)) = of C R S x y ∨ of C R S (into (x + s) (C * S)) (into (y + t) (R * S)) ∈ beside C R (of C R S x y) := by
  have v1 := h.v1
  have s0 := h.s0
  have bx := into_in (x := x + s) (e := C * S) (by omega)
  have by_ := into_in (x := y + t) (e := R * S) (by omega)
  have hk := of_in h x0 x1 y0 y1
  have hj := of_in h bx.1 bx.2 by_.1 by_.2
  by_cases e : of C R S (into (x + s) (C * S)) (into (y + t) (R * S)) = of C R S x y
  · exact .inl e
  · refine .inr (beside_mem.2 ⟨hk, hj, e, (next_is h hk hj).2 ?_⟩)
    rw [(of_yes h hk).1, (of_yes h hk).2.1, (of_yes h hj).1, (of_yes h hj).2.1]
    exact ⟨step_div s0 x0 x1 (by omega) (by omega), step_div s0 y0 y1 (by omega) (by omega)⟩
end
end Zn
end Go.Proofs.YtljaahemlcaffaaGreat
namespace Go.Proofs.YtljaahemlcaffaaGreat
open Go Pz
set_option linter.unusedVariables false

namespace Sy
abbrev bn0 : Bn := ⟨0, 0, 0, 0, 0, 0, 0, 0, 0, 0, 0⟩
def hurt (b : Bn) (n : Int) : Bn × Bool := if bitB b.m 2 = true ∧ 0 < n then (if b.h ≤ n then (bn0, false) else ({ b with h := b.h - n }, true)) else (b, true)
def age (b : Bn) : Bn × Bool := if bitB b.m 4 = true then (if b.l < 2 then (bn0, false) else ({ b with l := b.l - 1 }, true)) else (b, true)
def near (v n : Int) : Int := if n < v then n else if v < -n then -n else v
def push (V : Int) (b : Bn) : Bn := if bitB b.m 1 = true then { b with x := Rc.clamp (Rc.clamp b.x + near b.vx V), y := Rc.clamp (Rc.clamp b.y + near b.vy V) } else b
def move (C R S V : Int) (b : Bn) : Bn := { push V b with x := Zn.into (push V b).x (C * S), y := Zn.into (push V b).y (R * S) }
def obey (b : Bn) (k : Int) (id : Int × Int × Int) (c : Bn) (m : Int) : Bn × Bool :=
  if id = b.id then (if k = 2 then (bn0, false) else if k = 3 then (withB b c, true) else if k = 4 then (withoutB b m, true) else (b, true)) else (b, true)
/-- does it take from that one? -/
def meets (b : Bn) (r : Int) (c : Bn) : Bool := (decide (c.id ≠ b.id) && bitB c.m 3) && decide (Rc.far b.x b.y c.x c.y ≤ r)
def takes (b : Bn) (r : Int) (sum : Int) (l : List Bn) : Int := l.foldl (fun s c => if meets b r c then Rc.clamp (s + Rc.clamp c.p) else s) sum
def hitOf (r : Int) (own others : List Bn) (b : Bn) : Option ((Int × Int × Int) × Int) :=
  if bitB b.m 2 = true ∧ 0 < takes b r (takes b r 0 own) others then some (b.id, takes b r (takes b r 0 own) others) else none
def hits (r : Int) (own others : List Bn) : List ((Int × Int × Int) × Int) := (sortL Bn.id own).filterMap (hitOf r own others)
theorem clamp_bd (n : Int) : -1073741824 ≤ Rc.clamp n ∧ Rc.clamp n ≤ 1073741824 := by unfold Rc.clamp; omega
theorem takes_bd (b : Bn) (r : Int) : ∀ (l : List Bn) (s : Int), -1073741824 ≤ s ∧ s ≤ 1073741824 → -1073741824 ≤ takes b r s l ∧ takes b r s l ≤ 1073741824
  | [], s, h => h
  | c :: l, s, h => by
    show _ ∧ takes b r (if meets b r c then Rc.clamp (s + Rc.clamp c.p) else s) l ≤ _
    refine takes_bd b r l _ ?_
    dsimp only
    split
    · exact clamp_bd _
    · exact h
theorem takes_take {b : Bn} {r : Int} {l : List Bn} {j : Nat} {c : Bn} (s : Int) (hx : l[j]? = some c) : takes b r s (l.take (j + 1)) = if meets b r c then Rc.clamp (takes b r s (l.take j) + Rc.clamp c.p) else takes b r s (l.take j) := by
  rw [List.take_add_one, hx]
  simp only [takes, Option.toList_some, List.foldl_append, List.foldl_cons, List.foldl_nil]
end Sy
end Go.Proofs.YtljaahemlcaffaaGreat
namespace Go.Proofs.YtljaahemlcaffaaGreat
open Go Pz
set_option linter.unusedVariables false

namespace Tk
theorem pair_ext {α : Type} {R : α → α → Prop} (irr : ∀ a, ¬ R a a) (asym : ∀ a b, R a b → ¬ R b a) : ∀ {a b : List α}, a.Pairwise R → b.Pairwise R → (∀ x, x ∈ a ↔ x ∈ b) → a = b
  | [], [], _, _, _ => rfl
  | [], y :: b, _, _, h => by have := (h y).2 List.mem_cons_self; simp at this
  | x :: a, [], _, _, h => by have := (h x).1 List.mem_cons_self; simp at this
  | x :: a, y :: b, ha, hb, h => by
    have hx := (h x).1 List.mem_cons_self
    have hy := (h y).2 List.mem_cons_self
    rw [List.pairwise_cons] at ha hb
    have e : x = y := by
      rcases List.mem_cons.1 hx with e | hx
      · exact e
      · rcases List.mem_cons.1 hy with e | hy
        · exact e.symm
        · exact absurd (ha.1 y hy) (asym _ _ (hb.1 x hx))
    subst e
    congr 1
    refine pair_ext irr asym ha.2 hb.2 fun z => ?_
    constructor
    · intro hz
      rcases List.mem_cons.1 ((h z).1 (List.mem_cons_of_mem _ hz)) with e | h3
      · subst e; exact absurd (ha.1 _ hz) (irr _)
      · exact h3
    · intro hz
      rcases List.mem_cons.1 ((h z).2 (List.mem_cons_of_mem _ hz)) with e | h3
      · subst e; exact absurd (hb.1 _ hz) (irr _)
      · exact h3
/-! ### names -/
def Rise (d : List K3) : Prop := d.Pairwise fun a b => before a b = true
theorem rise_ext {a b : List K3} (ha : Rise a) (hb : Rise b) (h : ∀ x, x ∈ a ↔ x ∈ b) : a = b :=
  pair_ext (R := fun a b => before a b = true) (fun a h => by rw [before_irr] at h; cases h) (fun a b h k => by rw [before_asym h] at k; cases k) ha hb h
/-- a name among names, rising, each once -/
def bury (d : List K3) (k : K3) : List K3 := d.filter (fun x => before x k) ++ k :: d.filter (fun x => before k x)
theorem mem_bury {d : List K3} {k x : K3} : x ∈ bury d k ↔ x = k ∨ x ∈ d := by
  unfold bury
  simp only [List.mem_append, List.mem_cons, List.mem_filter]
  constructor
  · rintro (⟨h, _⟩ | h | ⟨h, _⟩)
    · exact .inr h
    · exact .inl h
    · exact .inr h
  · rintro (h | h)
    · exact .inr (.inl h)
    · cases h1 : before x k with
      | true => exact .inl ⟨h, rfl⟩
      | false =>
        cases h2 : before k x with
        | true => exact .inr (.inr ⟨h, rfl⟩)
        | false => exact .inr (.inl (same_of h2 h1))
theorem rise_bury {d : List K3} (h : Rise d) (k : K3) : Rise (bury d k) := by
  unfold bury Rise
  rw [List.pairwise_append]
  refine ⟨h.sublist List.filter_sublist, ?_, ?_⟩
  · rw [List.pairwise_cons]
    exact ⟨fun x hx => (List.mem_filter.1 hx).2, h.sublist List.filter_sublist⟩
  · intro x hx y hy
    have h1 := (List.mem_filter.1 hx).2
    rcases List.mem_cons.1 hy with rfl | hy
    · exact h1
    · exact before_trans h1 (List.mem_filter.1 hy).2
/-! ### entities -/
/-- unlike names -/
def Un (l : List Bn) : Prop := (l.map Bn.id).Nodup
/-- by names, unlike ones -/
def Up (l : List Bn) : Prop := l.Pairwise fun a b => before a.id b.id = true
theorem Up.un : ∀ {l : List Bn}, Up l → Un l
  | [], _ => List.nodup_nil
  | x :: l, h => by
    unfold Up at h
    rw [List.pairwise_cons] at h
    have ih := Up.un (l := l) h.2
    unfold Un
    rw [List.map_cons, List.nodup_cons]
    refine ⟨fun hx => ?_, ih⟩
    obtain ⟨y, hy, e⟩ := List.mem_map.1 hx
    have := h.1 y hy
    rw [e, before_irr] at this
    cases this
theorem up_ext {a b : List Bn} (ha : Up a) (hb : Up b) (h : ∀ x, x ∈ a ↔ x ∈ b) : a = b :=
  pair_ext (R := fun a b : Bn => before a.id b.id = true) (fun a h => by rw [before_irr] at h; cases h) (fun a b h k => by rw [before_asym h] at k; cases k) ha hb h
theorem Un.eq : ∀ {l : List Bn}, Un l → ∀ {x y : Bn}, x ∈ l → y ∈ l → x.id = y.id → x = y
  | [], _, x, _, hx, _, _ => by simp at hx
  | z :: l, h, x, y, hx, hy, e => by
    unfold Un at h
    rw [List.map_cons, List.nodup_cons] at h
    rcases List.mem_cons.1 hx with ex | hx
    · rcases List.mem_cons.1 hy with ey | hy
      · rw [ex, ey]
      · exact absurd (List.mem_map.2 ⟨y, hy, by rw [← ex, e]⟩) h.1
    · rcases List.mem_cons.1 hy with ey | hy
      · exact absurd (List.mem_map.2 ⟨x, hx, by rw [← ey, e]⟩) h.1
      · exact Un.eq (l := l) h.2 hx hy e
def at_ (l : List Bn) (k : K3) : Option Bn := l.find? fun b => decide (b.id = k)
theorem at_iff {l : List Bn} (h : Un l) {k : K3} {x : Bn} : at_ l k = some x ↔ x ∈ l ∧ x.id = k := by
  constructor
  · intro e
    exact ⟨List.mem_of_find?_eq_some e, by simpa using List.find?_some e⟩
  · rintro ⟨hx, rfl⟩
    cases e : at_ l x.id with
    | none =>
      have := List.find?_eq_none.1 e x hx
      simp at this
    | some y =>
      have h1 := List.mem_of_find?_eq_some e
      have h2 : y.id = x.id := by simpa using List.find?_some e
      rw [h.eq h1 hx h2]
theorem at_none {l : List Bn} {k : K3} : at_ l k = none ↔ ∀ x ∈ l, x.id ≠ k := by
  unfold at_
  rw [List.find?_eq_none]
  simp
theorem opt_ext {α : Type} {a b : Option α} (h : ∀ x, a = some x ↔ b = some x) : a = b := by
  cases a with
  | none =>
    cases b with
    | none => rfl
    | some y => exact absurd ((h y).2 rfl) (by simp)
  | some x => exact ((h x).1 rfl).symm
theorem up_at {a b : List Bn} (ha : Up a) (hb : Up b) (h : ∀ k, at_ a k = at_ b k) : a = b := up_ext ha hb fun x => by
  have h1 := at_iff ha.un (k := x.id) (x := x)
  have h2 := at_iff hb.un (k := x.id) (x := x)
  rw [h x.id] at h1
  constructor
  · intro hx; exact (h2.1 (h1.2 ⟨hx, rfl⟩)).1
  · intro hx; exact (h1.1 (h2.2 ⟨hx, rfl⟩)).1
/-! ### what is done to each -/
abbrev St := List Bn × List K3
def each (f : Bn → Bn × Bool) (s : St) : St := (s.1.filterMap fun b => if (f b).2 then some (f b).1 else none, s.1.foldl (fun d b => if (f b).2 then d else bury d b.id) s.2)
structure Ok (s : St) : Prop where
  up : Up s.1
  rise : Rise s.2
def Keep (f : Bn → Bn × Bool) : Prop := ∀ b, (f b).2 = true → (f b).1.id = b.id
theorem mem_each {f : Bn → Bn × Bool} {l : List Bn} {x : Bn} : x ∈ l.filterMap (fun b => if (f b).2 then some (f b).1 else none) ↔ ∃ b ∈ l, (f b).2 = true ∧ (f b).1 = x := by
  rw [List.mem_filterMap]
  constructor
  · rintro ⟨b, hb, e⟩
    split at e
    · rename_i hc
      exact ⟨b, hb, hc, Option.some.inj e⟩
    · cases e
  · rintro ⟨b, hb, hc, e⟩
    exact ⟨b, hb, by rw [if_pos hc, e]⟩
theorem each_up {f : Bn → Bn × Bool} (hf : Keep f) : ∀ {l : List Bn}, Up l → Up (l.filterMap fun b => if (f b).2 then some (f b).1 else none)
  | [], _ => List.Pairwise.nil
  | x :: l, h => by
    unfold Up at h
    rw [List.pairwise_cons] at h
    have ih := each_up hf (l := l) h.2
    rw [List.filterMap_cons]
    cases hc : (f x).2 with
    | false => simpa using ih
    | true =>
      simp only [if_true]
      unfold Up
      rw [List.pairwise_cons]
      refine ⟨fun y hy => ?_, ih⟩
      obtain ⟨b, hb, hb2, rfl⟩ := mem_each.1 hy
      rw [hf x hc, hf b hb2]
      exact h.1 b hb
theorem each_rise {f : Bn → Bn × Bool} : ∀ {l : List Bn} {d : List K3}, Rise d → Rise (l.foldl (fun d b => if (f b).2 then d else bury d b.id) d)
  | [], _, h => h
  | x :: l, d, h => by
    rw [List.foldl_cons]
    refine each_rise (l := l) ?_
    split
    · exact h
    · exact rise_bury h _
theorem mem_dead {f : Bn → Bn × Bool} {k : K3} : ∀ {l : List Bn} {d : List K3}, k ∈ l.foldl (fun d b => if (f b).2 then d else bury d b.id) d ↔ k ∈ d ∨ ∃ b ∈ l, b.id = k ∧ (f b).2 = false
  | [], d => by simp
  | x :: l, d => by
    rw [List.foldl_cons, mem_dead (l := l)]
    cases hc : (f x).2 with
    | true =>
      simp only [if_true]
      constructor
      · rintro (h | ⟨b, hb, h⟩)
        · exact .inl h
        · exact .inr ⟨b, List.mem_cons_of_mem _ hb, h⟩
      · rintro (h | ⟨b, hb, h, h2⟩)
        · exact .inl h
        · rcases List.mem_cons.1 hb with rfl | hb
          · rw [hc] at h2; cases h2
          · exact .inr ⟨b, hb, h, h2⟩
    | false =>
      simp only [Bool.false_eq_true, if_false, mem_bury]
      constructor
      · rintro ((h | h) | ⟨b, hb, h⟩)
        · exact .inr ⟨x, List.mem_cons_self, h.symm, hc⟩
        · exact .inl h
        · exact .inr ⟨b, List.mem_cons_of_mem _ hb, h⟩
      · rintro (h | ⟨b, hb, h, h2⟩)
        · exact .inl (.inr h)
        · rcases List.mem_cons.1 hb with rfl | hb
          · exact .inl (.inl h.symm)
          · exact .inr ⟨b, hb, h, h2⟩
theorem Ok.each {f : Bn → Bn × Bool} {s : St} (hf : Keep f) (h : Ok s) : Ok (Tk.each f s) := ⟨each_up hf h.up, each_rise h.rise⟩
/-- what is known of a name: its entity, and whether it is no more -/
abbrev Vw := Option Bn × Bool
def view (s : St) (k : K3) : Vw := (at_ s.1 k, decide (k ∈ s.2))
theorem ok_ext {s t : St} (hs : Ok s) (ht : Ok t) (h : ∀ k, view s k = view t k) : s = t := by
  have h1 : s.1 = t.1 := up_at hs.up ht.up fun k => congrArg Prod.fst (h k)
  have h2 : s.2 = t.2 := rise_ext hs.rise ht.rise fun k => by
    have := congrArg Prod.snd (h k)
    simpa [view] using this
  exact Prod.ext h1 h2
def eachK (f : Bn → Bn × Bool) (v : Vw) : Vw := match v.1 with | none => v | some b => if (f b).2 then (some (f b).1, v.2) else (none, true)
theorem each_view {f : Bn → Bn × Bool} {s : St} (hf : Keep f) (h : Ok s) (k : K3) : view (each f s) k = eachK f (view s k) := by
  have hu := h.up.un
  have e1 : at_ (each f s).1 k = (eachK f (view s k)).1 := by
    refine opt_ext fun x => ?_
    show at_ (s.1.filterMap fun b => if (f b).2 then some (f b).1 else none) k = some x ↔ _
    rw [at_iff (each_up hf h.up).un, mem_each]
    unfold eachK view
    cases ha : at_ s.1 k with
    | none =>
      dsimp only
      constructor
      · rintro ⟨⟨b, hb, h1, rfl⟩, e⟩
        rw [hf b h1] at e
        exact absurd e (at_none.1 ha b hb)
      · intro e; cases e
    | some b =>
      obtain ⟨hb, hk⟩ := (at_iff hu).1 ha
      dsimp only
      constructor
      · rintro ⟨⟨c, hc, h1, rfl⟩, e⟩
        rw [hf c h1] at e
        have : c = b := hu.eq hc hb (by rw [e, hk])
        subst this
        rw [if_pos h1]
      · intro e
        split at e
        · rename_i h1
          cases e
          exact ⟨⟨b, hb, h1, rfl⟩, by rw [hf b h1, hk]⟩
        · cases e
  have e2 : decide (k ∈ (each f s).2) = (eachK f (view s k)).2 := by
    have hm : k ∈ (each f s).2 ↔ k ∈ s.2 ∨ ∃ b ∈ s.1, b.id = k ∧ (f b).2 = false := mem_dead
    unfold eachK view
    cases ha : at_ s.1 k with
    | none =>
      dsimp only
      rw [decide_eq_decide, hm]
      constructor
      · rintro (h1 | ⟨b, hb, e, _⟩)
        · exact h1
        · exact absurd e (at_none.1 ha b hb)
      · exact .inl
    | some b =>
      obtain ⟨hb, hk⟩ := (at_iff hu).1 ha
      dsimp only
      split
      · rename_i h1
        dsimp only
        rw [decide_eq_decide, hm]
        constructor
        · rintro (h2 | ⟨c, hc, e, h3⟩)
          · exact h2
          · have : c = b := hu.eq hc hb (by rw [e, hk])
            subst this
            rw [h1] at h3
            cases h3
        · exact .inl
      · rename_i h1
        have h2 : (f b).2 = false := by simpa using h1
        rw [decide_eq_true (hm.2 (.inr ⟨b, hb, hk, h2⟩))]
  exact Prod.ext e1 e2
/-! ### commands -/
def inZone (C R S z : Int) (b : Bn) : Bool := decide (0 ≤ Zn.of C R S b.x b.y) && (decide (z < 0) || decide (Zn.of C R S b.x b.y = z))
/-- ahead of the first one whose name does not come ahead of its own -/
def put (l : List Bn) (b : Bn) : List Bn := l.filter (fun x => before x.id b.id) ++ b :: l.filter (fun x => before b.id x.id)
theorem mem_put {l : List Bn} {b : Bn} (h : at_ l b.id = none) {x : Bn} : x ∈ put l b ↔ x = b ∨ x ∈ l := by
  unfold put
  simp only [List.mem_append, List.mem_cons, List.mem_filter]
  constructor
  · rintro (⟨h, _⟩ | h | ⟨h, _⟩)
    · exact .inr h
    · exact .inl h
    · exact .inr h
  · rintro (e | hx)
    · exact .inr (.inl e)
    · cases h1 : before x.id b.id with
      | true => exact .inl ⟨hx, rfl⟩
      | false =>
        cases h2 : before b.id x.id with
        | true => exact .inr (.inr ⟨hx, rfl⟩)
        | false => exact absurd (same_of h2 h1) (at_none.1 h x hx)
theorem put_up {l : List Bn} (h : Up l) (b : Bn) : Up (put l b) := by
  unfold put Up
  rw [List.pairwise_append]
  refine ⟨h.sublist List.filter_sublist, ?_, ?_⟩
  · rw [List.pairwise_cons]
    exact ⟨fun x hx => (List.mem_filter.1 hx).2, h.sublist List.filter_sublist⟩
  · intro x hx y hy
    have h1 := (List.mem_filter.1 hx).2
    rcases List.mem_cons.1 hy with rfl | hy
    · exact h1
    · exact before_trans h1 (List.mem_filter.1 hy).2
def obeys (c : Cn) (b : Bn) : Bn × Bool := Sy.obey b c.k (c.s, c.i, c.g) c.b c.m
def cmd (C R S z : Int) (s : St) (c : Cn) : St := if c.k = 1 then (if at_ s.1 c.b.id = none ∧ inZone C R S z c.b = true then (put s.1 c.b, s.2) else s) else each (obeys c) s
def owner (c : Cn) : K3 := if c.k = 1 then c.b.id else (c.s, c.i, c.g)
def cmdK (C R S z : Int) (c : Cn) (v : Vw) : Vw := if c.k = 1 then (if v.1 = none ∧ inZone C R S z c.b = true then (some c.b, v.2) else v) else eachK (obeys c) v
theorem obeys_keep (c : Cn) : Keep (obeys c) := fun b h => by
  unfold obeys Sy.obey at h ⊢
  split
  · split
    · rename_i h1 h2; rw [if_pos h1, if_pos h2] at h; cases h
    · split
      · rfl
      · split <;> rfl
  · rfl
theorem obeys_other {c : Cn} {b : Bn} (h : (c.s, c.i, c.g) ≠ b.id) : obeys c b = (b, true) := by
  unfold obeys Sy.obey
  rw [if_neg h]
theorem cmd_ok {C R S z : Int} {s : St} (h : Ok s) (c : Cn) : Ok (cmd C R S z s c) := by
  unfold cmd
  split
  · split
    · exact ⟨put_up h.up _, h.rise⟩
    · exact h
  · exact h.each (obeys_keep c)
theorem cmd_view {C R S z : Int} {s : St} (h : Ok s) (c : Cn) (k : K3) : view (cmd C R S z s c) k = if owner c = k then cmdK C R S z c (view s k) else view s k := by
  unfold cmd owner cmdK
  by_cases hk : c.k = 1
  · simp only [if_pos hk]
    by_cases hc : at_ s.1 c.b.id = none ∧ inZone C R S z c.b = true
    · rw [if_pos hc]
      by_cases e : c.b.id = k
      · subst e
        rw [if_pos rfl, if_pos (show (view s c.b.id).1 = none ∧ _ from hc)]
        refine Prod.ext ?_ rfl
        exact (at_iff (put_up h.up _).un).2 ⟨(mem_put hc.1).2 (.inl rfl), rfl⟩
      · rw [if_neg e]
        refine Prod.ext ?_ rfl
        refine opt_ext fun x => ?_
        show at_ (put s.1 c.b) k = some x ↔ at_ s.1 k = some x
        rw [at_iff (put_up h.up _).un, at_iff h.up.un, mem_put hc.1]
        constructor
        · rintro ⟨rfl | hx, ek⟩
          · exact absurd ek e
          · exact ⟨hx, ek⟩
        · rintro ⟨hx, ek⟩
          exact ⟨.inr hx, ek⟩
    · rw [if_neg hc]
      by_cases e : c.b.id = k
      · subst e
        rw [if_pos rfl, if_neg (show ¬ ((view s c.b.id).1 = none ∧ _) from hc)]
      · rw [if_neg e]
  · simp only [if_neg hk]
    rw [each_view (obeys_keep c) h]
    by_cases e : (c.s, c.i, c.g) = k
    · rw [if_pos e]
    · rw [if_neg e]
      unfold eachK
      cases ha : (view s k).1 with
      | none => rfl
      | some b =>
        have hb : b.id = k := ((at_iff h.up.un).1 ha).2
        dsimp only
        rw [obeys_other (by rw [hb]; exact e)]
        simp only [if_true]
        rw [← ha]
/-- neighbours of unlike owners -/
theorem cmd_turn {C R S z : Int} {s : St} (h : Ok s) {a b : Cn} (hab : owner a ≠ owner b) : cmd C R S z (cmd C R S z s a) b = cmd C R S z (cmd C R S z s b) a :=
  ok_ext (cmd_ok (cmd_ok h a) b) (cmd_ok (cmd_ok h b) a) fun k => by
    rw [cmd_view (cmd_ok h a), cmd_view h, cmd_view (cmd_ok h b), cmd_view h]
    by_cases ea : owner a = k
    · have eb : ¬ owner b = k := fun eb => hab (ea.trans eb.symm)
      simp only [if_pos ea, if_neg eb]
    · by_cases eb : owner b = k
      · simp only [if_neg ea, if_pos eb]
      · simp only [if_neg ea, if_neg eb]
end Tk
end Go.Proofs.YtljaahemlcaffaaGreat
namespace Go.Proofs.YtljaahemlcaffaaGreat
open Go Pz
set_option linter.unusedVariables false

namespace Sy
theorem takes_none {b : Bn} {r : Int} : ∀ {l : List Bn} (s : Int), (∀ c ∈ l, meets b r c = false) → takes b r s l = s
  | [], s, _ => rfl
  | c :: l, s, h => by
    show takes b r (if meets b r c then _ else s) l = s
    rw [h c List.mem_cons_self]
    exact takes_none s fun x hx => h x (List.mem_cons_of_mem _ hx)
theorem fm_congr {α β : Type} {f g : α → Option β} : ∀ {l : List α}, (∀ x ∈ l, f x = g x) → l.filterMap f = l.filterMap g
  | [], _ => rfl
  | x :: l, h => by
    have ih := fm_congr (l := l) fun y hy => h y (List.mem_cons_of_mem _ hy)
    have hx := h x List.mem_cons_self
    cases hf : f x with
    | none => rw [List.filterMap_cons_none hf, List.filterMap_cons_none (hx ▸ hf), ih]
    | some y => rw [List.filterMap_cons_some hf, List.filterMap_cons_some (hx ▸ hf), ih]
theorem hits_far {r : Int} {own far : List Bn} (h : ∀ b ∈ own, ∀ c ∈ far, meets b r c = false) : hits r own far = hits r own [] := by
  unfold hits
  refine fm_congr fun b hb => ?_
  have hb' := (sortL_srt (κ := Bn.id) own).2.mem hb
  unfold hitOf
  rw [takes_none _ (h b hb')]
  rfl
/-- what one takes from one -/
def share (b : Bn) (r : Int) (c : Bn) : Int := if meets b r c then c.p else 0
def shares (b : Bn) (r : Int) (l : List Bn) : Int := (l.map (share b r)).sum
theorem shares_app (b : Bn) (r : Int) (l m : List Bn) : shares b r (l ++ m) = shares b r l + shares b r m := by
  unfold shares; rw [List.map_append, List.sum_append]
theorem may_power {c : Bn} (h : may c = true) : 0 ≤ c.p ∧ c.p ≤ 1024 := by
  unfold may at h
  simp only [Bool.and_eq_true] at h
  have hr := right_parts h.1.2
  have hp := hr.2.2.2.2.2.2.1
  unfold inB at hp
  split at hp
  · simp only [Bool.and_eq_true, decide_eq_true_eq] at hp
    omega
  · simp only [decide_eq_true_eq] at hp
    omega
theorem share_bd {c : Bn} (h : may c = true) (b : Bn) (r : Int) : 0 ≤ share b r c ∧ share b r c ≤ 1024 := by
  have := may_power h
  unfold share
  split <;> omega
theorem takes_sum {b : Bn} {r : Int} : ∀ {l : List Bn} (s : Int), (∀ c ∈ l, may c = true) → 0 ≤ s → s + 1024 * l.length ≤ 1073741824 → takes b r s l = s + shares b r l
  | [], s, _, _, _ => by simp [takes, shares]
  | c :: l, s, h, h0, h1 => by
    have hc := may_power (h c List.mem_cons_self)
    have hs := share_bd (h c List.mem_cons_self) b r
    rw [List.length_cons] at h1
    have e : (if meets b r c then Rc.clamp (s + Rc.clamp c.p) else s) = s + share b r c := by
      unfold share
      split
      · have e1 : Rc.clamp c.p = c.p := by unfold Rc.clamp; omega
        rw [e1]
        unfold Rc.clamp
        omega
      · omega
    show takes b r (if meets b r c then _ else s) l = _
    rw [e, takes_sum (s + share b r c) (fun x hx => h x (List.mem_cons_of_mem _ hx)) (by omega) (by omega)]
    show _ = s + ((share b r c) + (l.map (share b r)).sum)
    unfold shares
    omega
/-- what is told of one in a list of hits -/
def sumH (l : List ((Int × Int × Int) × Int)) (id : Int × Int × Int) : Int := ((l.filter fun x => decide (x.1 = id)).map (·.2)).sum
theorem sumH_nil (id : Int × Int × Int) : sumH [] id = 0 := rfl
theorem sumH_app (a b : List ((Int × Int × Int) × Int)) (id : Int × Int × Int) : sumH (a ++ b) id = sumH a id + sumH b id := by
  unfold sumH; rw [List.filter_append, List.map_append, List.sum_append]
/-- a function that gives each at most one hit, of its own name -/
def Named (f : Bn → Option ((Int × Int × Int) × Int)) : Prop := ∀ b x, f b = some x → x.1 = b.id
theorem hitOf_named (r : Int) (own others : List Bn) : Named (hitOf r own others) := fun b x h => by
  unfold hitOf at h
  split at h
  · cases h; rfl
  · cases h
theorem filter_named {f : Bn → Option ((Int × Int × Int) × Int)} (hf : Named f) (id : Int × Int × Int) : ∀ l : List Bn, (l.filterMap f).filter (fun x => decide (x.1 = id)) = (flt Bn.id id l).filterMap f
  | [] => rfl
  | b :: l => by
    have ih := filter_named hf id l
    unfold flt at ih ⊢
    cases hb : f b with
    | none =>
      rw [List.filterMap_cons_none hb, ih, List.filter_cons]
      split
      · rw [List.filterMap_cons_none hb]
      · rfl
    | some x =>
      rw [List.filterMap_cons_some hb, List.filter_cons, List.filter_cons, hf b x hb]
      split
      · rw [List.filterMap_cons_some hb, ih]
      · exact ih
theorem perm_sum {l m : List Int} (h : l.Perm m) : l.sum = m.sum := by
  induction h with
  | nil => rfl
  | cons x _ ih => rw [List.sum_cons, List.sum_cons, ih]
  | swap x y l => rw [List.sum_cons, List.sum_cons, List.sum_cons, List.sum_cons]; omega
  | trans _ _ h1 h2 => exact h1.trans h2
open Classical in
theorem alike_perm {l m : List Bn} (h : Pz.Alike Bn.id l m) : l.Perm m := List.perm_iff_count.2 fun x => by
  have e : ∀ k : List Bn, List.count x k = List.count x (flt Bn.id x.id k) := fun k => by
    unfold flt
    rw [List.count_filter (by simp)]
  rw [e l, e m, h]
theorem sort_perm (l : List Bn) : (sortL Bn.id l).Perm l := alike_perm (sortL_srt l).2
/-- .. of parts of them -/
theorem splits {r : Int} {l a b : List Bn} (hp : l.Perm (a ++ b)) (hm : ∀ c ∈ l, may c = true) (hn : l.length ≤ 60) :
    (∀ id, sumH (hits r l []) id = sumH (hits r a b) id + sumH (hits r b a) id) ∧ (hits r l []).length = (hits r a b).length + (hits r b a).length := by
  have hl : l.length = a.length + b.length := by rw [hp.length_eq, List.length_append]
  have ha : ∀ c ∈ a, may c = true := fun c hc => hm c (hp.mem_iff.2 (List.mem_append_left _ hc))
  have hb : ∀ c ∈ b, may c = true := fun c hc => hm c (hp.mem_iff.2 (List.mem_append_right _ hc))
  have sh : ∀ x, shares x r l = shares x r a + shares x r b := fun x => by
    rw [← shares_app]
    exact perm_sum (hp.map _)
  have sp : ∀ (x : Bn) {k : List Bn}, (∀ c ∈ k, may c = true) → 0 ≤ shares x r k ∧ shares x r k ≤ 1024 * k.length := fun x k hk => by
    induction k with
    | nil => simp [shares]
    | cons c k ih =>
      have h1 := share_bd (hk c List.mem_cons_self) x r
      have h2 := ih fun y hy => hk y (List.mem_cons_of_mem _ hy)
      have e : shares x r (c :: k) = share x r c + shares x r k := by simp [shares]
      rw [e, List.length_cons]
      omega
  obtain ⟨f, hf⟩ : ∃ f : Bn → Option ((Int × Int × Int) × Int), f = fun x => if bitB x.m 2 = true ∧ 0 < shares x r l then some (x.id, shares x r l) else none := ⟨_, rfl⟩
  have fn : Named f := fun x y h => by
    rw [hf] at h
    dsimp only at h
    split at h
    · cases h; rfl
    · cases h
  have e0 : hits r l [] = (sortL Bn.id l).filterMap f := by
    unfold hits
    refine fm_congr fun x _ => ?_
    have t : takes x r (takes x r 0 l) [] = shares x r l := by
      show takes x r 0 l = _
      rw [takes_sum 0 hm (by omega) (by omega)]
      omega
    unfold hitOf
    rw [t, hf]
  have e1 : hits r a b = (sortL Bn.id a).filterMap f := by
    unfold hits
    refine fm_congr fun x _ => ?_
    have t : takes x r (takes x r 0 a) b = shares x r l := by
      have s1 := sp x ha
      rw [takes_sum 0 ha (by omega) (by omega), takes_sum _ hb (by omega) (by omega), sh]
      omega
    unfold hitOf
    rw [t, hf]
  have e2 : hits r b a = (sortL Bn.id b).filterMap f := by
    unfold hits
    refine fm_congr fun x _ => ?_
    have t : takes x r (takes x r 0 b) a = shares x r l := by
      have s1 := sp x hb
      rw [takes_sum 0 hb (by omega) (by omega), takes_sum _ ha (by omega) (by omega), sh]
      omega
    unfold hitOf
    rw [t, hf]
  rw [e0, e1, e2]
  refine ⟨fun id => ?_, ?_⟩
  · have key : ∀ k : List Bn, sumH ((sortL Bn.id k).filterMap f) id = (((flt Bn.id id k).filterMap f).map (·.2)).sum := fun k => by
      unfold sumH
      rw [filter_named fn, (sortL_srt k).2 id]
    rw [key l, key a, key b, ← List.sum_append, ← List.map_append, ← List.filterMap_append, ← flt_app]
    exact perm_sum ((List.Perm.filterMap f (hp.filter _)).map _)
  · rw [(List.Perm.filterMap f (sort_perm l)).length_eq, (List.Perm.filterMap f (sort_perm a)).length_eq, (List.Perm.filterMap f (sort_perm b)).length_eq, ← List.length_append, ← List.filterMap_append]
    exact (List.Perm.filterMap f hp).length_eq
end Sy
end Go.Proofs.YtljaahemlcaffaaGreat
