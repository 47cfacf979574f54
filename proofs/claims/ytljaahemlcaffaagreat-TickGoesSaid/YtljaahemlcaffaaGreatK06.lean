/- A box of five cells. Nothing of the program. A stage in its box, its rows beside it; an append to a row, at its end and over what stands there. The code's small parts: within, nameMayBe, takes, Has, a number, the errors, the order of names. Written by wip/tools/genpc1.py. What follows of entities: put one after the other, taken away, put again. Nothing of the program. Chapter 3's rectangles, as integers: nothing of the program. -/
import Derived.Test.YtljaahemlcaffaaGreatK01
import Derived.Test.YtljaahemlcaffaaGreatK04
import Derived.Test.YtljaahemlcaffaaGreatK05
import Derived.Test.YtljaahemlcaffaaGreatK02
import Derived.RowKit
namespace Go.Proofs.YtljaahemlcaffaaGreat.Bx
open Go Go.RowKit
set_option linter.unusedVariables false
variable {W : World}
theorem b5 {b T : Nat} {v0 v1 v2 v3 v4 : Value} (h : W.heap[b]? = some (.cells #[v0, v1, v2, v3, v4] T (0, 0))) : (W.cell? ⟨b, 0, none⟩ = some v0 ∧ W.cell? ⟨b, 1, none⟩ = some v1 ∧ W.cell? ⟨b, 2, none⟩ = some v2 ∧ W.cell? ⟨b, 3, none⟩ = some v3 ∧ W.cell? ⟨b, 4, none⟩ = some v4) ∧ (W.frozen? ⟨b, 0, none⟩ = false ∧ W.frozen? ⟨b, 1, none⟩ = false ∧ W.frozen? ⟨b, 2, none⟩ = false ∧ W.frozen? ⟨b, 3, none⟩ = false ∧ W.frozen? ⟨b, 4, none⟩ = false) :=
  ⟨⟨(cell h rfl).1, (cell h rfl).1, (cell h rfl).1, (cell h rfl).1, (cell h rfl).1⟩, (cell h (o := 0) rfl).2, (cell h (o := 1) rfl).2, (cell h (o := 2) rfl).2, (cell h (o := 3) rfl).2, (cell h (o := 4) rfl).2⟩
end Go.Proofs.YtljaahemlcaffaaGreat.Bx
namespace Go.Proofs.YtljaahemlcaffaaGreat
open Go.RowKit Pz Sp
set_option linter.unusedVariables false
set_option linter.unusedSimpArgs false

section
variable {α : Type} {enc : α → List Value} {T s : Nat} {W : World} {B : Nat}
/-- an element over the one that stands there: an append in place -/
theorem Rw.app_in {t ty : TypeId} {z : Value} {bytes : Nat} (ht : Tryz.prog.underlying t = some (.slice T)) (hi : (Tryz.prog.info? T).map (fun i => (i.zero, i.size, i.bytes)) = some (some z, s, bytes)) (hs : 0 < s)
    (he : ∀ x, (enc x).length = s) (h1 : ∀ x, ∀ u ∈ enc x, u.oneCell' = true) {g o n c i : Nat} {R : List α} (h : Rw enc T s W B (.slice (some ⟨g, o, none⟩) n c) R) (hn : R.length = n) (hin : i < n) (x : α) (a : Addr)
    (hx : ∀ (e : Nat) (u : Value), (enc x)[e]? = some u → W.cell? (a.add e) = some u) :
    ∃ V, (Builtin.append_ #[t, t] ty #[.slice (some ⟨g, o, none⟩) i c, .slice (some a) 1 1]).run Tryz.prog W = .ok (.slice (some ⟨g, o, none⟩) (i + 1) c) V ∧ Rw enc T s V B (.slice (some ⟨g, o, none⟩) n c) (R.set i x) ∧ W.grownBy V (some g) := by
  subst hn
  obtain ⟨inf, hinf, hz, e2, e3⟩ := info_parts hi
  rcases h with ⟨e, _⟩ | ⟨g', o', cap, cur, e, q1, q2, q3, q4, q5, q6⟩
  · cases e
  · cases e
    have hb : i * s + s ≤ c * s := by have := Nat.mul_le_mul_right s (show i + 1 ≤ c by omega); rwa [Nat.succ_mul] at this
    have hcell : ∀ j, j < (enc x).length → (W.cell? ⟨g, o + i * inf.size + j, none⟩).isSome = true ∧ W.frozen? ⟨g, o + i * inf.size + j, none⟩ = false := fun j hj => by
      rw [he] at hj
      rw [e2]
      have hy : o + i * s + j < cur.size := by omega
      simp [World.cell?, World.frozen?, q2, hy]
    have hr := run_append_room_cells (P := Tryz.prog) W t ty T inf ht hinf g o i c a 1 1 (enc x) (by rw [he, e2, Nat.one_mul]) (fun j u hj => hx j u hj) (h1 x) (by omega) (fun j hj => (hcell j hj).1) (fun j hj => (hcell j hj).2)
    obtain ⟨cur', w1, w2, w3, w4⟩ := setCells_same g (T := T) (enc x) (o + i * inf.size) W cur q2
    obtain ⟨s1, s2, s3, s4⟩ := setCells_size g (enc x) (o + i * inf.size) W
    refine ⟨_, hr, .inr ⟨g, o, c, cur', by rw [List.length_set], q1, w1, by rw [List.length_set]; exact q3, q4, by rw [w2]; exact q5, fun j y hj e u hu => ?_⟩, ⟨s2, s3, s4, by rw [s1]; exact Nat.le_refl _, fun k hk hne => setCells_other g _ _ _ k (fun e => hne (by rw [e]))⟩⟩
    have hc : e < s := by have := (List.getElem?_eq_some_iff.1 hu).1; rw [he] at this; exact this
    by_cases hji : j = i
    · subst hji
      rw [List.getElem?_set_self (by omega)] at hj
      have := Option.some.inj hj
      subst this
      have h9 := w4 e u hu (by rw [e2]; omega)
      rw [e2] at h9
      rwa [Nat.add_assoc] at h9
    · rw [List.getElem?_set_ne (fun e => hji e.symm)] at hj
      have hjs : j * s + s ≤ i * s ∨ i * s + s ≤ j * s := by
        rcases Nat.lt_or_gt_of_ne hji with h | h
        · left; have := Nat.mul_le_mul_right s (show j + 1 ≤ i by omega); rwa [Nat.succ_mul] at this
        · right; have := Nat.mul_le_mul_right s (show i + 1 ≤ j by omega); rwa [Nat.succ_mul] at this
      have h9 : (W.setCells g (o + i * inf.size) (enc x)).cell? ⟨g, o + (j * s + e), none⟩ = some u := by
        rw [World.cell?_setCells_out g (enc x) (o + i * inf.size) W ⟨g, o + (j * s + e), none⟩ (fun _ _ => by show o + (j * s + e) < o + i * inf.size ∨ o + i * inf.size + (enc x).length ≤ o + (j * s + e); rw [e2, he]; omega)]
        exact (Bx.cell q2 (q6 j y hj e u hu)).1
      simpa [World.cell?, w1] using h9
end
section
variable {w W V : World} {L : List Piece} {α : Type} {enc : α → List Value} {T s : Nat}
/-- a row with one element more -/
theorem Sep.appx {v : Value} {l : List α} {t : TypeId} {z : Value} {bytes : Nat} (ht : Tryz.prog.underlying t = some (.slice T)) (hi : (Tryz.prog.info? T).map (fun i => (i.zero, i.size, i.bytes)) = some (some z, s, bytes)) (hzs : z.cells.size = s) (hs : 0 < s)
    (he : ∀ x, (enc x).length = s) (h1 : ∀ x, ∀ u ∈ enc x, u.oneCell' = true) (h : Sep w (row enc T s v l :: L) W) (x : α) (hn : l.length + 1 ≤ 1000000) (hby : bytes ≤ 1000) (ty : TypeId) :
    ∃ A c A' c' V, v = .slice A l.length c ∧ (Builtin.append_ #[t, t] ty #[.slice A l.length c, .slice (some ⟨W.heap.size, 0, none⟩) 1 1]).run Tryz.prog (W.alloc (.cells (enc x).toArray T)) = .ok (.slice A' (l.length + 1) c') V ∧ Sep w (row enc T s (.slice A' (l.length + 1) c') (l ++ [x]) :: L) V := by
  obtain ⟨G, ⟨h2, h3⟩, _, next⟩ := h.one
  obtain ⟨v', V, hr, ho, hg, hv, _⟩ := app_x (enc := enc) (T := T) (s := s) (t := t) ht hi hzs hs he h1 h2 (Nat.zero_le _) x hn hby ty
  obtain ⟨A, c, rfl⟩ := h2.form
  obtain ⟨A', c', rfl⟩ := ho.form
  have el : (l ++ [x]).length = l.length + 1 := by simp
  rw [el] at hr ho hv
  exact ⟨A, c, A', c', V, rfl, hr, next V (row enc T s _ (l ++ [x])) (fun k => (Value.slice A' (l.length + 1) c').ownBlock = some k) ⟨hg.os, hg.tape, hg.output, hg.size, fun k hk hn' => hg.block k hk fun e => hn' ((h3 k).2 e.symm)⟩ ⟨ho, fun k => Iff.rfl⟩ fun k hk => (hv k hk).imp (fun e => (h3 k).2 e) id⟩
/-- an element over one that stands there -/
theorem Sep.app_in {t ty : TypeId} {z : Value} {bytes : Nat} (ht : Tryz.prog.underlying t = some (.slice T)) (hi : (Tryz.prog.info? T).map (fun i => (i.zero, i.size, i.bytes)) = some (some z, s, bytes)) (hs : 0 < s)
    (he : ∀ x, (enc x).length = s) (h1 : ∀ x, ∀ u ∈ enc x, u.oneCell' = true) {g o n c i : Nat} {R : List α} (h : Sep w (row enc T s (.slice (some ⟨g, o, none⟩) n c) R :: L) W) (hn : R.length = n) (hin : i < n) (x : α) :
    ∃ V, (Builtin.append_ #[t, t] ty #[.slice (some ⟨g, o, none⟩) i c, .slice (some ⟨W.heap.size, 0, none⟩) 1 1]).run Tryz.prog (W.alloc (.cells (enc x).toArray T)) = .ok (.slice (some ⟨g, o, none⟩) (i + 1) c) V ∧ Sep w (row enc T s (.slice (some ⟨g, o, none⟩) n c) (R.set i x) :: L) V := by
  have hb := bel1 W (.cells (enc x).toArray T)
  have ha := at1 W (.cells (enc x).toArray T)
  obtain ⟨G, ⟨h2, h3⟩, _, next⟩ := (h.below hb).one
  obtain ⟨V, hr, ho, hg⟩ := Rw.app_in (ty := ty) ht hi hs he h1 h2 hn hin x ⟨W.heap.size, 0, none⟩ (fun e u hu => by
    rw [Addr.add_mid, Nat.zero_add]
    exact (Bx.cell ha (by simpa using hu)).1)
  exact ⟨V, hr, next V (row enc T s _ (R.set i x)) G ⟨hg.os, hg.tape, hg.output, hg.size, fun k hk hn' => hg.block k hk fun e => hn' ((h3 k).2 e.symm)⟩ ⟨ho, h3⟩ fun k hk => .inl hk⟩
end
end Go.Proofs.YtljaahemlcaffaaGreat
namespace Go.Proofs.YtljaahemlcaffaaGreat
open Go.RowKit Pz
set_option linter.unusedVariables false

namespace Pz
def within (n lo hi : Int) : Bool := decide (lo ≤ n) && decide (n ≤ hi)
/-- has a mask all bits of another one? -/
def hasB (m k : Int) : Bool := bits .and .i64 m k == k
theorem rightID_is (s i g : Int) : rightID s i g = ((within s 0 15 && within i 0 15) && within g 0 1048575) := by
  unfold rightID within
  rw [show decide (g < 1048576) = decide (g ≤ 1048575) from decide_eq_decide.2 (by omega)]
  simp only [ge_iff_le, Bool.and_assoc]
theorem inB_is (n lo hi : Int) (b : Bool) : inB n lo hi b = if b then within n lo hi else decide (n = 0) := rfl
theorem and_pow (m : Int) {j : Nat} (hj : j ≤ 4) : bits .and .i64 m ((2 : Int) ^ j) = if bitB m j then (2 : Int) ^ j else 0 := by
  have e : BitVec.ofInt 64 ((2 : Int) ^ j) = BitVec.twoPow 64 j := by
    have : j = 0 ∨ j = 1 ∨ j = 2 ∨ j = 3 ∨ j = 4 := by omega
    rcases this with rfl | rfl | rfl | rfl | rfl <;> rfl
  rw [bits_and, e, BitVec.and_twoPow, getLsb_of hj]
  split
  · have : j = 0 ∨ j = 1 ∨ j = 2 ∨ j = 3 ∨ j = 4 := by omega
    rcases this with rfl | rfl | rfl | rfl | rfl <;> rfl
  · rfl
theorem has_bit (m : Int) {j : Nat} (hj : j ≤ 4) : hasB m ((2 : Int) ^ j) = bitB m j := by
  have h0 : (2 : Int) ^ j ≠ 0 := by
    have : j = 0 ∨ j = 1 ∨ j = 2 ∨ j = 3 ∨ j = 4 := by omega
    rcases this with rfl | rfl | rfl | rfl | rfl <;> decide
  unfold hasB
  rw [and_pow m hj]
  cases bitB m j with
  | true => rw [if_pos rfl]; exact beq_self_eq_true _
  | false =>
    rw [if_neg (by decide)]
    exact beq_eq_false_iff_ne.2 fun e => h0 e.symm
theorem takes_is (m : Int) : takesB m = (within m 1 31 && (bits .and .i64 m 1 == 0)) := by
  have := and_pow m (j := 0) (by decide)
  rw [show (2 : Int) ^ 0 = 1 from rfl] at this
  unfold takesB within
  rw [this]
  cases bitB m 0 <;> rfl
def cmpI (x y : Int) : Int := if x < y then -1 else if x > y then 1 else 0
/-- the first one that is not 0 -/
def orI (x y z : Int) : Int := if x ≠ 0 then x else if y ≠ 0 then y else z
def cmpB (a b : Int × Int × Int) : Int := orI (cmpI a.1 b.1) (cmpI a.2.1 b.2.1) (cmpI a.2.2 b.2.2)
end Pz
set_option maxHeartbeats 8000000 in
theorem has_any (b : Bn) (k : Int) (w : World) : Calls Tryz.prog 68 #[b.val, .int .i64 k] w fun e w' => e = .returned (.bool (hasB b.m k)) ∧ Below w.heap.size w w' := by
  obtain ⟨s, i, g, m, x, y, vx, vy, h, p, l⟩ := b
  unfold hasB
  simp only [Bn.val]
  obtain ⟨r, hr⟩ : ∃ r, bits .and .i64 m k = r := ⟨_, rfl⟩
  obtain ⟨t, ht⟩ : ∃ t, (r == k) = t := ⟨_, rfl⟩
  rw [hr, ht]
  have FIN := Lib.hid (bel1 w (.cells #[.int .i64 s, .int .i64 i, .int .i64 g, .int .i64 m, .int .i64 x, .int .i64 y, .int .i64 vx, .int .i64 vy, .int .i64 h, .int .i64 p, .int .i64 l] 42))
  obtain ⟨⟨k0, k1, k2, k3, k4, k5, k6, k7, k8, k9, k10⟩, _⟩ := Bx.b11 (at1 w (.cells #[.int .i64 s, .int .i64 i, .int .i64 g, .int .i64 m, .int .i64 x, .int .i64 y, .int .i64 vx, .int .i64 vy, .int .i64 h, .int .i64 p, .int .i64 l] 42))
  generalize hww : w.alloc (.cells #[.int .i64 s, .int .i64 i, .int .i64 g, .int .i64 m, .int .i64 x, .int .i64 y, .int .i64 vx, .int .i64 vy, .int .i64 h, .int .i64 p, .int .i64 l] 42) = w1 at *
  go_enter Tryz.func68, Tryz.ntmps68
  go_wp2
  go_ret
  exact ⟨rfl, FIN.out⟩

/-- of one component -/
theorem has_one (b : Bn) {j : Nat} (hj : j ≤ 4) (w : World) : Calls Tryz.prog 68 #[b.val, .int .i64 ((2 : Int) ^ j)] w fun e w' => e = .returned (.bool (bitB b.m j)) ∧ Below w.heap.size w w' := by
  have := has_any b ((2 : Int) ^ j) w
  rw [has_bit _ hj] at this
  exact this
end Go.Proofs.YtljaahemlcaffaaGreat
namespace Go.Proofs.YtljaahemlcaffaaGreat
open Go Pz
set_option linter.unusedVariables false

namespace Pz
theorem ite_two (p q : Bool) (x y z : Int) : (if q = true then z else if p = true then y else x) = (if (p || q) = true then (if q = true then z else y) else x) := by
  cases p <;> cases q <;> rfl
theorem ite_zero (p q : Bool) (x : Int) : (if q = true then 0 else if p = true then 0 else x) = (if (p || q) = true then 0 else x) := by
  cases p <;> cases q <;> rfl
theorem ite_back (p : Bool) (x y : Int) : (if p = true then 0 else if p = true then y else x) = (if p = true then 0 else x) := by
  cases p <;> rfl
theorem with_two (a b c : Bn) : withB (withB a b) c = withB a (withB b c) := by
  simp only [withB, bit_or _ _ (show 0 ≤ 4 by decide), bit_or _ _ (show 1 ≤ 4 by decide), bit_or _ _ (show 2 ≤ 4 by decide), bit_or _ _ (show 3 ≤ 4 by decide), bit_or _ _ (show 4 ≤ 4 by decide), ite_two, or_assoc']
theorem without_two (a : Bn) (m n : Int) : withoutB (withoutB a m) n = withoutB a (bits .or .i64 m n) := by
  simp only [withoutB, bit_or _ _ (show 0 ≤ 4 by decide), bit_or _ _ (show 1 ≤ 4 by decide), bit_or _ _ (show 2 ≤ 4 by decide), bit_or _ _ (show 3 ≤ 4 by decide), bit_or _ _ (show 4 ≤ 4 by decide), ite_zero, andNot_two]
theorem with_self {a : Bn} (h : a.Fits) : withB a a = a := by
  simp only [withB, ite_self, or_self' h.m]
theorem without_none {a : Bn} (h : a.Fits) : withoutB a 0 = a := by
  have e : ∀ k, k ≤ 4 → bitB 0 k = false := fun k hk => by
    have : k = 0 ∨ k = 1 ∨ k = 2 ∨ k = 3 ∨ k = 4 := by omega
    rcases this with rfl | rfl | rfl | rfl | rfl <;> rfl
  simp only [withoutB, e 0 (by decide), e 1 (by decide), e 2 (by decide), e 3 (by decide), e 4 (by decide), andNot_zero' h.m, Bool.false_eq_true, if_false]
theorem without_with (a b : Bn) : withoutB (withB a b) b.m = withoutB a b.m := by
  simp only [withoutB, withB, ite_back, andNot_or]
theorem inB_none {n lo hi : Int} (h : inB n lo hi false = true) : n = 0 := by
  simpa [inB] using h
theorem right_parts {a : Bn} (h : right a = true) : (0 ≤ a.m ∧ a.m ≤ 31) ∧ inB a.x (-1073741824) 1073741824 (bitB a.m 0) = true ∧ inB a.y (-1073741824) 1073741824 (bitB a.m 0) = true ∧ inB a.vx (-1073741824) 1073741824 (bitB a.m 1) = true ∧ inB a.vy (-1073741824) 1073741824 (bitB a.m 1) = true ∧ inB a.h 1 1048576 (bitB a.m 2) = true ∧ inB a.p 0 1024 (bitB a.m 3) = true ∧ inB a.l 1 1048576 (bitB a.m 4) = true := by
  unfold right at h
  simp only [Bool.and_eq_true, Bool.not_eq_true', Bool.or_eq_false_iff, decide_eq_false_iff_not] at h
  obtain ⟨⟨⟨⟨h1, h2⟩, h3, h4⟩, h5, h6⟩, ⟨h7, h8⟩, h9⟩ := h
  exact ⟨⟨by omega, by omega⟩, h3, h4, h5, h6, h7, h8, h9⟩
theorem right_of {a : Bn} (h0 : 0 ≤ a.m ∧ a.m ≤ 31) (h1 : inB a.x (-1073741824) 1073741824 (bitB a.m 0) = true) (h2 : inB a.y (-1073741824) 1073741824 (bitB a.m 0) = true) (h3 : inB a.vx (-1073741824) 1073741824 (bitB a.m 1) = true) (h4 : inB a.vy (-1073741824) 1073741824 (bitB a.m 1) = true) (h5 : inB a.h 1 1048576 (bitB a.m 2) = true) (h6 : inB a.p 0 1024 (bitB a.m 3) = true) (h7 : inB a.l 1 1048576 (bitB a.m 4) = true) : right a = true := by
  unfold right
  rw [h1, h2, h3, h4, h5, h6, h7, decide_eq_false (by omega : ¬ a.m < 0), decide_eq_false (by omega : ¬ a.m > 31)]
  rfl
theorem ite_again {p q : Bool} {x lo hi : Int} (h : inB x lo hi p = true) : (if p = true then x else if q = true then 0 else x) = x := by
  cases p with
  | true => rfl
  | false =>
    have := inB_none h
    subst this
    cases q <;> rfl
theorem with_back {a : Bn} (hf : a.Fits) (h : right a = true) (n : Int) : withB (withoutB a n) a = a := by
  obtain ⟨_, h1, h2, h3, h4, h5, h6, h7⟩ := right_parts h
  simp only [withB, withoutB, ite_again h1, ite_again h2, ite_again h3, ite_again h4, ite_again h5, ite_again h6, ite_again h7, or_andNot hf.m]
/-! ### masks -/
theorem small_or {x y : Int} (hx : 0 ≤ x ∧ x ≤ 31) (hy : 0 ≤ y ∧ y ≤ 31) : 0 ≤ bits .or .i64 x y ∧ bits .or .i64 x y ≤ 31 := by
  obtain ⟨m, rfl⟩ : ∃ m : Nat, x = m := ⟨x.toNat, by omega⟩
  obtain ⟨n, rfl⟩ : ∃ n : Nat, y = n := ⟨y.toNat, by omega⟩
  have h1 : (m : Nat) < 2 ^ 5 := by omega
  have h2 : (n : Nat) < 2 ^ 5 := by omega
  have h3 := Nat.or_lt_two_pow h1 h2
  have e : (BitVec.ofInt 64 (m : Int) ||| BitVec.ofInt 64 (n : Int)) = BitVec.ofNat 64 (m ||| n) := by
    apply BitVec.eq_of_toNat_eq
    rw [BitVec.toNat_or, BitVec.toNat_ofNat, BitVec.toNat_ofInt, BitVec.toNat_ofInt]
    have e1 : ((m : Int) % ((2 ^ 64 : Nat) : Int)).toNat = m := by omega
    have e2 : ((n : Int) % ((2 ^ 64 : Nat) : Int)).toNat = n := by omega
    rw [e1, e2, Nat.mod_eq_of_lt (by omega)]
  rw [bits_or, e, BitVec.toInt_eq_toNat_of_lt (by rw [BitVec.toNat_ofNat, Nat.mod_eq_of_lt (by omega)]; omega), BitVec.toNat_ofNat, Nat.mod_eq_of_lt (by omega)]
  omega
theorem small_andNot {x : Int} (hx : 0 ≤ x ∧ x ≤ 31) (y : Int) : 0 ≤ bits .andNot .i64 x y ∧ bits .andNot .i64 x y ≤ 31 := by
  obtain ⟨m, rfl⟩ : ∃ m : Nat, x = m := ⟨x.toNat, by omega⟩
  have h1 : (m : Nat) < 2 ^ 5 := by omega
  have h3 : (BitVec.ofInt 64 (m : Int) &&& ~~~ BitVec.ofInt 64 y).toNat ≤ m := by
    rw [BitVec.toNat_and, BitVec.toNat_ofInt]
    have e1 : ((m : Int) % ((2 ^ 64 : Nat) : Int)).toNat = m := by omega
    rw [e1]
    exact Nat.and_le_left
  rw [bits_andNot, BitVec.toInt_eq_toNat_of_lt (by omega)]
  omega
/-! ### what leaves one that may be -/
theorem inB_pick {p q : Bool} {x y lo hi : Int} (h1 : inB x lo hi p = true) (h2 : inB y lo hi q = true) : inB (if q = true then y else x) lo hi (p || q) = true := by
  cases q with
  | true => rw [if_pos rfl, Bool.or_true]; exact h2
  | false => rw [if_neg (by decide), Bool.or_false]; exact h1
theorem inB_drop {p q : Bool} {x lo hi : Int} (h1 : inB x lo hi p = true) : inB (if q = true then 0 else x) lo hi (p && !q) = true := by
  cases q with
  | true => rw [if_pos rfl, Bool.not_true, Bool.and_false]; rfl
  | false => rw [if_neg (by decide), Bool.not_false, Bool.and_true]; exact h1
theorem right_with {b c : Bn} (hb : right b = true) (hc : right c = true) : right (withB b c) = true := by
  obtain ⟨b0, b1, b2, b3, b4, b5, b6, b7⟩ := right_parts hb
  obtain ⟨c0, c1, c2, c3, c4, c5, c6, c7⟩ := right_parts hc
  have e : ∀ k, k ≤ 4 → bitB (withB b c).m k = (bitB b.m k || bitB c.m k) := fun k hk => bit_or _ _ hk
  refine right_of (small_or b0 c0) ?_ ?_ ?_ ?_ ?_ ?_ ?_
  · rw [e 0 (by decide)]; exact inB_pick b1 c1
  · rw [e 0 (by decide)]; exact inB_pick b2 c2
  · rw [e 1 (by decide)]; exact inB_pick b3 c3
  · rw [e 1 (by decide)]; exact inB_pick b4 c4
  · rw [e 2 (by decide)]; exact inB_pick b5 c5
  · rw [e 3 (by decide)]; exact inB_pick b6 c6
  · rw [e 4 (by decide)]; exact inB_pick b7 c7
theorem right_without {b : Bn} (hb : right b = true) (n : Int) : right (withoutB b n) = true := by
  obtain ⟨b0, b1, b2, b3, b4, b5, b6, b7⟩ := right_parts hb
  have e : ∀ k, k ≤ 4 → bitB (withoutB b n).m k = (bitB b.m k && !bitB n k) := fun k hk => bit_andNot _ _ hk
  refine right_of (small_andNot b0 n) ?_ ?_ ?_ ?_ ?_ ?_ ?_
  · rw [e 0 (by decide)]; exact inB_drop b1
  · rw [e 0 (by decide)]; exact inB_drop b2
  · rw [e 1 (by decide)]; exact inB_drop b3
  · rw [e 1 (by decide)]; exact inB_drop b4
  · rw [e 2 (by decide)]; exact inB_drop b5
  · rw [e 3 (by decide)]; exact inB_drop b6
  · rw [e 4 (by decide)]; exact inB_drop b7
theorem may_with {b c : Bn} (hb : may b = true) (hc : right c = true) : may (withB b c) = true := by
  unfold may at hb ⊢
  simp only [Bool.and_eq_true] at hb ⊢
  refine ⟨⟨hb.1.1, right_with hb.1.2 hc⟩, ?_⟩
  rw [show (withB b c).m = bits .or .i64 b.m c.m from rfl, bit_or _ _ (by decide), hb.2, Bool.true_or]
theorem may_without {b : Bn} (hb : may b = true) (n : Int) : may (withoutB b n) = !bitB n 0 := by
  unfold may at hb ⊢
  simp only [Bool.and_eq_true] at hb
  have h1 : rightID (withoutB b n).s (withoutB b n).i (withoutB b n).g = true := hb.1.1
  rw [h1, right_without hb.1.2 n, show (withoutB b n).m = bits .andNot .i64 b.m n from rfl, bit_andNot _ _ (by decide), hb.2]
  simp
theorem has_left {b c : Bn} (hb : Fit b.m) : hasB (withB b c).m b.m = true := by
  unfold hasB
  rw [show (withB b c).m = bits .or .i64 b.m c.m from rfl, and_or_left, and_self' hb]
  exact beq_self_eq_true _
theorem has_right {b c : Bn} (hc : Fit c.m) : hasB (withB b c).m c.m = true := by
  unfold hasB
  rw [show (withB b c).m = bits .or .i64 b.m c.m from rfl, and_or_right, and_self' hc]
  exact beq_self_eq_true _
theorem pos_bit (n : Int) : (bits .and .i64 n 1 == 0) = !bitB n 0 := by
  have := and_pow n (j := 0) (by decide)
  rw [show (2 : Int) ^ 0 = 1 from rfl] at this
  rw [this]
  cases bitB n 0 <;> rfl
/-! ### the order of names -/
theorem cmpB_neg (a b : Int × Int × Int) : cmpB b a = - cmpB a b := by
  obtain ⟨a1, a2, a3⟩ := a
  obtain ⟨b1, b2, b3⟩ := b
  unfold cmpB orI cmpI
  simp only
  repeat' split
  all_goals first | rfl | omega
end Pz
end Go.Proofs.YtljaahemlcaffaaGreat
namespace Go.Proofs.YtljaahemlcaffaaGreat
namespace Rc

/-- the nearest fixed number -/
def clamp (n : Int) : Int := max (-1073741824) (min n 1073741824)
theorem clamp_bd (n : Int) : -1073741824 ≤ clamp n ∧ clamp n ≤ 1073741824 := by unfold clamp; omega
theorem clamp_in {n : Int} (h : -1073741824 ≤ n) (h' : n ≤ 1073741824) : clamp n = n := by unfold clamp; omega
theorem clamp_clamp (n : Int) : clamp (clamp n) = clamp n := clamp_in (clamp_bd n).1 (clamp_bd n).2

/-- has a rectangle no point? -/
def None (a b c d : Int) : Prop := clamp c ≤ clamp a ∨ clamp d ≤ clamp b
instance (a b c d : Int) : Decidable (None a b c d) := by unfold None; infer_instance
def noneB (a b c d : Int) : Bool := decide (clamp c ≤ clamp a ∨ clamp d ≤ clamp b)
theorem noneB_yes {a b c d : Int} (h : None a b c d) : noneB a b c d = true := decide_eq_true h
theorem noneB_no {a b c d : Int} (h : ¬ None a b c d) : noneB a b c d = false := decide_eq_false h
/-- a rectangle's four numbers, as they count -/
structure R where
  a : Int
  b : Int
  c : Int
  d : Int
  deriving DecidableEq
def ctd (a b c d : Int) : R := if None a b c d then ⟨0, 0, 0, 0⟩ else ⟨clamp a, clamp b, clamp c, clamp d⟩
theorem ctd_none {a b c d : Int} (h : None a b c d) : ctd a b c d = ⟨0, 0, 0, 0⟩ := if_pos h
theorem ctd_some {a b c d : Int} (h : ¬ None a b c d) : ctd a b c d = ⟨clamp a, clamp b, clamp c, clamp d⟩ := if_neg h

/-- a distance -/
def dist (a b : Int) : Int := max (clamp a - clamp b) (clamp b - clamp a)
def far (x y u v : Int) : Int := max (dist x u) (dist y v)
/-- how far a number lies from the nearest from lo on and below hi -/
def out (n lo hi : Int) : Int := max (lo - clamp n) (max 0 (clamp n - (hi - 1)))
def gap (a b c d x y : Int) : Int := if None a b c d then -1 else max (out x (clamp a) (clamp c)) (out y (clamp b) (clamp d))
/-- one side moved -/
def mv (a d : Int) : Int := clamp (clamp a + clamp d)
theorem gap_has (a b c d x y : Int) : (gap a b c d x y = 0) ↔ (clamp a ≤ clamp x ∧ clamp x < clamp c ∧ clamp b ≤ clamp y ∧ clamp y < clamp d) := by
  unfold gap
  by_cases h : None a b c d
  · rw [if_pos h]
    unfold None at h
    omega
  · rw [if_neg h]
    unfold None at h
    unfold out
    omega
/-- does the document say that a point is one of a rectangle's? -/
def hasR (a b c d x y : Int) : Bool := decide (clamp a ≤ clamp x ∧ clamp x < clamp c ∧ clamp b ≤ clamp y ∧ clamp y < clamp d)
/-- what two rectangles have in common -/
def two (a0 a1 a2 a3 q0 q1 q2 q3 : Int) : R :=
  if None (max (clamp a0) (clamp q0)) (max (clamp a1) (clamp q1)) (min (clamp a2) (clamp q2)) (min (clamp a3) (clamp q3)) then ⟨0, 0, 0, 0⟩
  else ⟨max (clamp a0) (clamp q0), max (clamp a1) (clamp q1), min (clamp a2) (clamp q2), min (clamp a3) (clamp q3)⟩
/-- the greater begins, the lesser ends -/
def cf (r s : Int × Int × Int × Int) : Int × Int × Int × Int := (max r.1 s.1, max r.2.1 s.2.1, min r.2.2.1 s.2.2.1, min r.2.2.2 s.2.2.2)
def fold (x : Int × Int × Int × Int) (l : List (Int × Int × Int × Int)) : Int × Int × Int × Int := l.foldl cf x
theorem fold_snoc (x : Int × Int × Int × Int) (l : List (Int × Int × Int × Int)) (y : Int × Int × Int × Int) : fold x (l ++ [y]) = cf (fold x l) y := by unfold fold; rw [List.foldl_append]; rfl
/-- what a row of rectangles has in common, as it counts -/
def cut (x : Int × Int × Int × Int) (l : List (Int × Int × Int × Int)) : R := ctd (fold x l).1 (fold x l).2.1 (fold x l).2.2.1 (fold x l).2.2.2
def twR (r : R) (s : Int × Int × Int × Int) : R := two r.a r.b r.c r.d s.1 s.2.1 s.2.2.1 s.2.2.2
theorem two_self (x : Int × Int × Int × Int) : two x.1 x.2.1 x.2.2.1 x.2.2.2 x.1 x.2.1 x.2.2.1 x.2.2.2 = cut x [] := by
  obtain ⟨a, b, c, d⟩ := x
  unfold two cut fold
  simp only [List.foldl_nil, Int.max_self, Int.min_self]
  by_cases h : None a b c d
  · rw [ctd_none h, if_pos (by unfold None at *; rw [clamp_clamp, clamp_clamp, clamp_clamp, clamp_clamp]; exact h)]
  · rw [ctd_some h, if_neg (by unfold None at *; rw [clamp_clamp, clamp_clamp, clamp_clamp, clamp_clamp]; exact h)]
theorem clamp_max (a b : Int) : clamp (max a b) = max (clamp a) (clamp b) := by unfold clamp; omega
theorem clamp_min (a b : Int) : clamp (min a b) = min (clamp a) (clamp b) := by unfold clamp; omega
theorem two_next (f s : Int × Int × Int × Int) : twR (ctd f.1 f.2.1 f.2.2.1 f.2.2.2) s = ctd (cf f s).1 (cf f s).2.1 (cf f s).2.2.1 (cf f s).2.2.2 := by
  obtain ⟨a, b, c, d⟩ := f
  obtain ⟨p, q, r, t⟩ := s
  unfold twR two cf
  simp only
  by_cases h : None a b c d
  · have h2 : None (max a p) (max b q) (min c r) (min d t) := by unfold None at *; rw [clamp_max, clamp_max, clamp_min, clamp_min]; omega
    rw [ctd_none h, ctd_none h2]
    simp only
    rw [if_pos]
    unfold None
    rw [clamp_max, clamp_max, clamp_min, clamp_min, clamp_clamp, clamp_clamp, clamp_clamp, clamp_clamp, clamp_in (n := 0) (by omega) (by omega)]
    omega
  · rw [ctd_some h]
    simp only [clamp_clamp]
    rw [← clamp_max, ← clamp_max, ← clamp_min, ← clamp_min]
    by_cases h2 : None (max a p) (max b q) (min c r) (min d t)
    · rw [ctd_none h2, if_pos]
      unfold None at *
      rw [clamp_clamp, clamp_clamp, clamp_clamp, clamp_clamp]
      exact h2
    · rw [ctd_some h2, if_neg]
      unfold None at *
      rw [clamp_clamp, clamp_clamp, clamp_clamp, clamp_clamp]
      exact h2
theorem cut_snoc (x : Int × Int × Int × Int) (l : List (Int × Int × Int × Int)) (y : Int × Int × Int × Int) : twR (cut x l) y = cut x (l ++ [y]) := by
  unfold cut
  rw [two_next, fold_snoc]
theorem ctd_bd (a b c d : Int) : (-1073741824 ≤ (ctd a b c d).a ∧ (ctd a b c d).a ≤ 1073741824) ∧ (-1073741824 ≤ (ctd a b c d).b ∧ (ctd a b c d).b ≤ 1073741824) ∧ (-1073741824 ≤ (ctd a b c d).c ∧ (ctd a b c d).c ≤ 1073741824) ∧ (-1073741824 ≤ (ctd a b c d).d ∧ (ctd a b c d).d ≤ 1073741824) := by
  by_cases h : None a b c d
  · rw [ctd_none h]; refine ⟨⟨?_, ?_⟩, ⟨?_, ?_⟩, ⟨?_, ?_⟩, ⟨?_, ?_⟩⟩ <;> simp
  · rw [ctd_some h]; exact ⟨clamp_bd a, clamp_bd b, clamp_bd c, clamp_bd d⟩
/-- the points of what they have in common are those that each has -/
theorem has_ctd (a b c d x y : Int) : hasR (ctd a b c d).a (ctd a b c d).b (ctd a b c d).c (ctd a b c d).d x y = hasR a b c d x y := by
  by_cases h : None a b c d
  · rw [ctd_none h]
    unfold hasR None at *
    rw [Bool.eq_iff_iff]
    simp only [decide_eq_true_eq]
    rw [clamp_in (n := 0) (by omega) (by omega)]
    omega
  · rw [ctd_some h]
    unfold hasR
    rw [clamp_clamp, clamp_clamp, clamp_clamp, clamp_clamp]
theorem has_cf (f s : Int × Int × Int × Int) (x y : Int) : hasR (cf f s).1 (cf f s).2.1 (cf f s).2.2.1 (cf f s).2.2.2 x y = (hasR f.1 f.2.1 f.2.2.1 f.2.2.2 x y && hasR s.1 s.2.1 s.2.2.1 s.2.2.2 x y) := by
  unfold hasR cf
  rw [Bool.eq_iff_iff]
  simp only [decide_eq_true_eq, Bool.and_eq_true, clamp_max, clamp_min]
  omega
def hasQ (x y : Int) (r : Int × Int × Int × Int) : Bool := hasR r.1 r.2.1 r.2.2.1 r.2.2.2 x y
theorem has_fold (x y : Int) : ∀ (l : List (Int × Int × Int × Int)) (r : Int × Int × Int × Int), hasQ x y (fold r l) = (hasQ x y r && l.all (hasQ x y))
  | [], r => by simp [fold]
  | s :: l, r => by
    have := has_fold x y l (cf r s)
    show hasQ x y (fold (cf r s) l) = _
    rw [this, List.all_cons]
    unfold hasQ
    rw [has_cf, Bool.and_assoc]
theorem has_cut (x y : Int) (r : Int × Int × Int × Int) (l : List (Int × Int × Int × Int)) : hasR (cut r l).a (cut r l).b (cut r l).c (cut r l).d x y = (r :: l).all (hasQ x y) := by
  unfold cut
  rw [has_ctd]
  exact has_fold x y l r
/-- how far to move -/
def by_ (n : Int) : Int := max 0 (clamp n)
theorem mv_neg (a n : Int) : mv (clamp a) (-(max n 0)) = clamp (clamp a - by_ n) := by unfold mv by_ clamp; omega
theorem mv_pos (a n : Int) : mv (clamp a) (max n 0) = clamp (clamp a + by_ n) := by unfold mv by_ clamp; omega
/-- what a rectangle is grown to -/
def grown (a b c d n : Int) : R := if None a b c d then ⟨0, 0, 0, 0⟩ else ⟨clamp (clamp a - by_ n), clamp (clamp b - by_ n), clamp (clamp c + by_ n), clamp (clamp d + by_ n)⟩
theorem by_bd (n : Int) : 0 ≤ by_ n ∧ by_ n ≤ 1073741824 := by unfold by_ clamp; omega
theorem clamp_zero : clamp 0 = 0 := clamp_in (by omega) (by omega)
end Rc
end Go.Proofs.YtljaahemlcaffaaGreat
