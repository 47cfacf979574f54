/- QuPh, QuBit, QuOp, in one text. -/
import Derived.Test.YtgmgenggboicnaaKQuD
import Derived.Test.YtgmgenggboicnaaKQuA
import Derived.Test.YtgmgenggboicnaaKQuE
import Derived.Test.YtgmgenggboicnaaKStp
import Derived.Test.YtgmgenggboicnaaKPz
import Derived.Test.YtgmgenggboicnaaKQuB
import Derived.OpenShut
namespace Go.Proofs.Ytgmgenggboicnaa
open Go.ChangeShapes Go.WideShapes Go.ChangeAt Go.RowKit Go.Shelf Pz Ar Qu
set_option linter.unusedVariables false
set_option linter.unusedSimpArgs false
set_option maxRecDepth 100000

def IdP (l : List NK) : Og.Ph := fun v W => OwnI W 0 v l
def BnP (l : List Bn) : Og.Ph := fun v W => OwnB W 0 v l
def NmP (l : List Nat) : Og.Ph := fun v W => OwnN W 0 v l
theorem idP_lasts (l : List NK) : Og.Lasts grows (IdP l) := fun _ _ _ h hr => Rw.below h hr
theorem bnP_lasts (l : List Bn) : Og.Lasts grows (BnP l) := fun _ _ _ h hr => Rw.below h hr
theorem nmP_lasts (l : List Nat) : Og.Lasts grows (NmP l) := fun _ _ _ h hr => Rw.below h hr
theorem idP_noBool (l : List NK) : Og.NoBool (IdP l) := fun _ _ h => by
  obtain ⟨_, _, h⟩ := Rw.form h
  cases h
theorem bnP_noBool (l : List Bn) : Og.NoBool (BnP l) := fun _ _ h => by
  obtain ⟨_, _, h⟩ := Rw.form h
  cases h
theorem nmP_noBool (l : List Nat) : Og.NoBool (NmP l) := fun _ _ h => by
  obtain ⟨_, _, h⟩ := Rw.form h
  cases h
theorem id_call {P : Program} {f : FuncId} {args : Array Value} {W : World} {l : List NK} (h : Calls P f args W fun e w' => ∃ A c, e = .returned (.slice A l.length c) ∧ OwnI w' W.heap.size (.slice A l.length c) l ∧ Below W.heap.size W w') :
    Calls P f args W fun e w' => ∃ v, e = .returned v ∧ grows.r W w' ∧ IdP l v w' :=
  h.mono fun _ _ ⟨_, _, h1, h2, h3⟩ => ⟨_, h1, h3, h2.base (Nat.zero_le _)⟩
theorem bn_call {P : Program} {f : FuncId} {args : Array Value} {W : World} {l : List Bn} (h : Calls P f args W fun e w' => ∃ A c, e = .returned (.slice A l.length c) ∧ OwnB w' W.heap.size (.slice A l.length c) l ∧ Below W.heap.size W w') :
    Calls P f args W fun e w' => ∃ v, e = .returned v ∧ grows.r W w' ∧ BnP l v w' :=
  h.mono fun _ _ ⟨_, _, h1, h2, h3⟩ => ⟨_, h1, h3, h2.base (Nat.zero_le _)⟩
theorem nm_call {P : Program} {f : FuncId} {args : Array Value} {W : World} {l : List Nat} (h : Calls P f args W fun e w' => ∃ A c, e = .returned (.slice A l.length c) ∧ OwnN w' W.heap.size (.slice A l.length c) l ∧ Below W.heap.size W w') :
    Calls P f args W fun e w' => ∃ v, e = .returned v ∧ grows.r W w' ∧ NmP l v w' :=
  h.mono fun _ _ ⟨_, _, h1, h2, h3⟩ => ⟨_, h1, h3, h2.base (Nat.zero_le _)⟩
theorem names_call {W : World} {v : Value} {l : List Bn} (hl : l.length ≤ 100000) (h : BnP l v W) : Calls Try.prog 35 #[v] W fun e w' => ∃ v, e = .returned v ∧ grows.r W w' ∧ IdP (l.map Bn.id) v w' := by
  obtain ⟨A, c, rfl⟩ := Rw.form h
  exact id_call (rnames_any (RdB.of_own h) hl)
theorem same_ids {W : World} {u v : Value} {l : List NK} (hl : l.length ≤ 100000) (hu : IdP l u W) (hv : IdP l v W) : Calls Try.prog 33 #[u, v] W fun e w' => e = .returned (.bool true) ∧ grows.r W w' := by
  obtain ⟨A, c, rfl⟩ := Rw.form hu
  obtain ⟨A', c', rfl⟩ := Rw.form hv
  exact sameids_yes hu hv hl
theorem same_bns {W : World} {u v : Value} {l : List Bn} (hl : l.length ≤ 100000) (hu : BnP l u W) (hv : BnP l v W) : Calls Try.prog 37 #[u, v] W fun e w' => e = .returned (.bool true) ∧ grows.r W w' := by
  obtain ⟨A, c, rfl⟩ := Rw.form hu
  obtain ⟨A', c', rfl⟩ := Rw.form hv
  exact rsame_yes (RdB.of_own hu) (RdB.of_own hv) (Nat.le_trans hl (by decide))
theorem same_nms {W : World} {u v : Value} {l : List Nat} (hl : l.length ≤ 1000) (hu : NmP l u W) (hv : NmP l v W) : Calls Try.prog 27 #[u, v] W fun e w' => e = .returned (.bool true) ∧ grows.r W w' := by
  obtain ⟨A, c, rfl⟩ := Rw.form hu
  obtain ⟨A', c', rfl⟩ := Rw.form hv
  exact qsame_yes hu hv hl
/-- a store of those that may be put, and they: what a law asks of it -/
structure Mk (s : Nat) (P : List Bn) (A : Option Addr) (c : Nat) (w W : World) : Prop where
  ok : Ok P
  few : P.length ≤ 60
  src : ∀ V, Below W.heap.size W V → Src (.pointer (some ⟨s, 0, none⟩)) (all (addAll P)) V
  rd : ∀ V, Below W.heap.size W V → RdB V V.heap.size A P
  bel : Below w.heap.size w W
  own : P1R w s (addAll P) (.slice A P.length c) P W
theorem Mk.apart {s : Nat} {P : List Bn} {A : Option Addr} {c : Nat} {w W : World} (h : Mk s P A c w W) : ((all (addAll P)).map Bn.id).Nodup ∧ (P.map Bn.id).Nodup ∧ ∀ x, x ∈ all (addAll P) ↔ x ∈ P := ⟨(all_ok (addAll_good h.ok)).apart, h.ok.apart, all_addAll h.ok⟩
theorem made_mk {w : World} {A : Option Addr} {c : Nat} {l : List Bn} (R : RdB w w.heap.size A l) (hc : l.length ≤ 140737488351232) :
    Calls Try.prog 31 #[.slice A l.length c] w fun e W => ∃ (s : Nat) (P : List Bn) (A' : Option Addr) (c' : Nat), e = .returned (.tuple #[.pointer (some ⟨s, 0, none⟩), .slice A' P.length c']) ∧ Mk s P A' c' w W := by
  refine (qmade_any (c := c) R hc).mono ?_
  rintro e W ⟨P, A', c', rfl, _, h6, hok, h⟩
  obtain ⟨F, hC⟩ := h.one.cs
  exact ⟨_, P, A', c', rfl, hok, h6, fun V hV => (hC.below hV).src (by rw [total_addAll hok.may]; omega), fun V hV => RdB.of_own (h.own.below hV), h.1, h⟩
section
variable {H : Type} {enc : TypeId × Value → H} {w : World} {v : Value} {d : DataW H} {ps : List MemPlace} {b0 : Nat}
theorem in_query (hval : Value.okWide Try.prog w .any b0 48 v) (hd : DataW.Trod enc Try.prog w 0 (fun _ => true) true 48 v d ps) : ∃ q0 q1 : Int, v = qV q0 q1 ∧ Fit q0 ∧ Fit q1 := by
  obtain ⟨l, rfl, hl, hf⟩ := in_flat 3 Try.underlying48 (by kernel_rfl) hval hd
  have hl : l.length = 2 := hl.trans (by kernel_rfl)
  obtain ⟨a0, l0, rfl, h0⟩ := list_succ hl
  obtain ⟨a1, l1, rfl, h1⟩ := list_succ h0
  obtain rfl := List.length_eq_zero_iff.1 h1
  exact ⟨a0, a1, rfl, hf _ (by simp), hf _ (by simp)⟩
theorem in_place (hval : Value.okWide Try.prog w .any b0 69 v) (hd : DataW.Trod enc Try.prog w 0 (fun _ => true) true 69 v d ps) : ∃ X Y D : Int, v = .agg #[.int .i64 X, .int .i64 Y, .int .i64 D] ∧ Fit X ∧ Fit Y ∧ Fit D := by
  obtain ⟨l, rfl, hl, hf⟩ := in_flat 3 Try.underlying69 (by kernel_rfl) hval hd
  have hl : l.length = 3 := hl.trans (by kernel_rfl)
  obtain ⟨a0, l0, rfl, h0⟩ := list_succ hl
  obtain ⟨a1, l1, rfl, h1⟩ := list_succ h0
  obtain ⟨a2, l2, rfl, h2⟩ := list_succ h1
  obtain rfl := List.length_eq_zero_iff.1 h2
  exact ⟨a0, a1, a2, rfl, hf _ (by simp), hf _ (by simp), hf _ (by simp)⟩
theorem in_rectq (hval : Value.okWide Try.prog w .any b0 64 v) (hd : DataW.Trod enc Try.prog w 0 (fun _ => true) true 64 v d ps) : ∃ a b c e : Int, v = .agg #[.int .i64 a, .int .i64 b, .int .i64 c, .int .i64 e] ∧ I a ∧ I b ∧ I c ∧ I e := by
  obtain ⟨l, rfl, hl, hf⟩ := in_flat 3 Try.underlying64 (by kernel_rfl) hval hd
  have hl : l.length = 4 := hl.trans (by kernel_rfl)
  obtain ⟨a0, l0, rfl, h0⟩ := list_succ hl
  obtain ⟨a1, l1, rfl, h1⟩ := list_succ h0
  obtain ⟨a2, l2, rfl, h2⟩ := list_succ h1
  obtain ⟨a3, l3, rfl, h3⟩ := list_succ h2
  obtain rfl := List.length_eq_zero_iff.1 h3
  exact ⟨a0, a1, a2, a3, rfl, hf _ (by simp), hf _ (by simp), hf _ (by simp), hf _ (by simp)⟩
end
end Go.Proofs.Ytgmgenggboicnaa
namespace Go.Proofs.Ytgmgenggboicnaa
open Go Go.RowKit Pz Ar Qu
set_option linter.unusedVariables false
set_option linter.unusedSimpArgs false

namespace Qu
theorem bv_ext {a b : BitVec 64} (h : ∀ i, i < 64 → a.getLsbD i = b.getLsbD i) : a = b := BitVec.eq_of_getLsbD_eq fun i hi => h i hi
theorem bv_all (M A C : BitVec 64) : (M &&& (A ||| C) = A ||| C) ↔ (M &&& A = A ∧ M &&& C = C) := by
  constructor
  · intro h
    have hb : ∀ i, (M.getLsbD i && (A.getLsbD i || C.getLsbD i)) = (A.getLsbD i || C.getLsbD i) := fun i => by
      have := congrArg (fun v => v.getLsbD i) h
      simpa [BitVec.getLsbD_and, BitVec.getLsbD_or] using this
    constructor <;> refine bv_ext fun i hi => ?_ <;> (rw [BitVec.getLsbD_and]; have := hb i; revert this; cases M.getLsbD i <;> cases A.getLsbD i <;> cases C.getLsbD i <;> simp)
  · rintro ⟨h1, h2⟩
    refine bv_ext fun i hi => ?_
    have e1 := congrArg (fun v => v.getLsbD i) h1
    have e2 := congrArg (fun v => v.getLsbD i) h2
    simp only [BitVec.getLsbD_and] at e1 e2
    rw [BitVec.getLsbD_and, BitVec.getLsbD_or]
    revert e1 e2
    cases M.getLsbD i <;> cases A.getLsbD i <;> cases C.getLsbD i <;> simp
theorem bv_none (M A C : BitVec 64) : (M &&& (A ||| C) = 0#64) ↔ (M &&& A = 0#64 ∧ M &&& C = 0#64) := by
  constructor
  · intro h
    have hb : ∀ i, (M.getLsbD i && (A.getLsbD i || C.getLsbD i)) = false := fun i => by
      have := congrArg (fun v => v.getLsbD i) h
      simpa [BitVec.getLsbD_and, BitVec.getLsbD_or] using this
    constructor <;> refine bv_ext fun i hi => ?_ <;> (rw [BitVec.getLsbD_and]; have := hb i; revert this; cases M.getLsbD i <;> cases A.getLsbD i <;> cases C.getLsbD i <;> simp)
  · rintro ⟨h1, h2⟩
    refine bv_ext fun i hi => ?_
    have e1 := congrArg (fun v => v.getLsbD i) h1
    have e2 := congrArg (fun v => v.getLsbD i) h2
    simp only [BitVec.getLsbD_and] at e1 e2
    rw [BitVec.getLsbD_and, BitVec.getLsbD_or]
    revert e1 e2
    cases M.getLsbD i <;> cases A.getLsbD i <;> cases C.getLsbD i <;> simp
theorem toInt_eq {a b : BitVec 64} : (a.toInt = b.toInt) ↔ a = b := ⟨BitVec.eq_of_toInt_eq, fun h => by rw [h]⟩
theorem all_or (m q c : Int) (hq : Fit q) (hc : Fit c) : (bits .and .i64 m (bits .or .i64 q c) == bits .or .i64 q c) = ((bits .and .i64 m q == q) && (bits .and .i64 m c == c)) := by
  rw [Bool.eq_iff_iff, Bool.and_eq_true, beq_iff_eq, beq_iff_eq, beq_iff_eq, bits_and, bits_or, of_toInt, bits_and, bits_and, toInt_eq, bv_all]
  have e1 := toInt_of hq
  have e2 := toInt_of hc
  constructor
  · rintro ⟨h1, h2⟩
    exact ⟨by rw [h1, e1], by rw [h2, e2]⟩
  · rintro ⟨h1, h2⟩
    exact ⟨toInt_eq.1 (by rw [h1, e1]), toInt_eq.1 (by rw [h2, e2])⟩
theorem none_or (m q c : Int) : (bits .and .i64 m (bits .or .i64 q c) == 0) = ((bits .and .i64 m q == 0) && (bits .and .i64 m c == 0)) := by
  have z : ∀ a : BitVec 64, (a.toInt = 0) ↔ a = 0#64 := fun a => by
    constructor
    · intro h
      exact toInt_eq.1 (by rw [h]; rfl)
    · intro h
      rw [h]; rfl
  rw [Bool.eq_iff_iff, Bool.and_eq_true, beq_iff_eq, beq_iff_eq, beq_iff_eq, bits_and, bits_or, of_toInt, bits_and, bits_and, z, z, z, bv_none]
/-- a mask has a bit, or has it not -/
theorem bit_or_not (m : Int) {k : Nat} (hk : k < 5) : (bits .and .i64 m ((2 : Int) ^ k) == (2 : Int) ^ k) = !(bits .and .i64 m ((2 : Int) ^ k) == 0) := by
  have hp : BitVec.ofInt 64 ((2 : Int) ^ k) = BitVec.twoPow 64 k := by
    have : k = 0 ∨ k = 1 ∨ k = 2 ∨ k = 3 ∨ k = 4 := by omega
    rcases this with rfl | rfl | rfl | rfl | rfl <;> rfl
  have ht : (BitVec.twoPow 64 k).toInt = (2 : Int) ^ k := by
    have : k = 0 ∨ k = 1 ∨ k = 2 ∨ k = 3 ∨ k = 4 := by omega
    rcases this with rfl | rfl | rfl | rfl | rfl <;> rfl
  have hne : (2 : Int) ^ k ≠ 0 := by
    have : k = 0 ∨ k = 1 ∨ k = 2 ∨ k = 3 ∨ k = 4 := by omega
    rcases this with rfl | rfl | rfl | rfl | rfl <;> decide
  rw [bits_and, hp, BitVec.and_twoPow]
  split
  · rw [ht]
    simp [hne]
  · have : ((0#64).toInt == (2 : Int) ^ k) = false := by
      rw [beq_eq_false_iff_ne]
      exact fun h => hne (by rw [← h]; rfl)
    rw [this]
    rfl
theorem fit_pow {k : Nat} (hk : k < 5) : Fit ((2 : Int) ^ k) := by
  have : k = 0 ∨ k = 1 ∨ k = 2 ∨ k = 3 ∨ k = 4 := by omega
  rcases this with rfl | rfl | rfl | rfl | rfl <;> (unfold Fit; decide)
theorem count_parts {p r s : Bn → Bool} (h : ∀ x, p x = (r x || s x)) (h2 : ∀ x, ¬ (r x = true ∧ s x = true)) : ∀ l : List Bn, (l.filter r).length + (l.filter s).length = (l.filter p).length
  | [] => rfl
  | x :: l => by
    have ih := count_parts h h2 l
    rw [List.filter_cons, List.filter_cons, List.filter_cons, h x]
    cases hr : r x <;> cases hs : s x
    · simpa using ih
    · simp only [Bool.false_or, if_true, List.length_cons, Bool.false_eq_true, if_false]; omega
    · simp only [Bool.true_or, if_true, List.length_cons, Bool.false_eq_true, if_false]; omega
    · exact absurd ⟨hr, hs⟩ (h2 x)
theorem fil_parts {q0 q1 : Int} (h0 : Fit q0) {k : Nat} (hk : k < 5) (l : List Bn) : (fil (bits .or .i64 q0 ((2 : Int) ^ k)) q1 l).length + (fil q0 (bits .or .i64 q1 ((2 : Int) ^ k)) l).length = (fil q0 q1 l).length := by
  unfold fil
  refine count_parts (fun x => ?_) (fun x => ?_) l
  · unfold asks
    rw [all_or _ _ _ h0 (fit_pow hk), none_or, bit_or_not _ hk]
    cases (bits .and .i64 x.m q0 == q0) <;> cases (bits .and .i64 x.m q1 == 0) <;> cases (bits .and .i64 x.m ((2 : Int) ^ k) == 0) <;> rfl
  · unfold asks
    rw [all_or _ _ _ h0 (fit_pow hk), none_or, bit_or_not _ hk]
    cases (bits .and .i64 x.m q0 == q0) <;> cases (bits .and .i64 x.m q1 == 0) <;> cases (bits .and .i64 x.m ((2 : Int) ^ k) == 0) <;> simp
theorem and_zero (m : Int) : bits .and .i64 m 0 = 0 := by
  rw [bits_and, show BitVec.ofInt 64 0 = 0#64 from rfl, BitVec.and_zero]; rfl
theorem fil_all (l : List Bn) : fil 0 0 l = l := by
  unfold fil
  refine List.filter_eq_self.2 fun x _ => ?_
  unfold asks
  rw [and_zero]
  rfl
/-- who asks for more, and without more, is told no more: a part, in the same order -/
theorem told_more {q0 q1 p0 p1 : Int} (h0 : Fit q0) (h1 : Fit p0) (l : List Bn) : (told (bits .or .i64 q0 p0) (bits .or .i64 q1 p1) yes l).Sublist (told q0 q1 yes l) := by
  have e : told (bits .or .i64 q0 p0) (bits .or .i64 q1 p1) yes l = (told q0 q1 yes l).filter (fun x => asks p0 p1 x.m) := by
    unfold told
    rw [sort_fil]
    congr 1
    unfold wants
    rw [List.filter_filter]
    congr 1
    funext x
    unfold asks
    rw [all_or _ _ _ h0 h1, none_or]
    cases (bits .and .i64 x.m q0 == q0) <;> cases (bits .and .i64 x.m q1 == 0) <;> cases (bits .and .i64 x.m p0 == p0) <;> cases (bits .and .i64 x.m p1 == 0) <;> rfl
  rw [e]
  exact List.filter_sublist
end Qu
theorem qcount_any {Pv : Value} {full : List Bn} {W : World} (S : Src Pv full W) (q0 q1 : Int) : Calls Try.prog 36 #[Pv, qV q0 q1] W fun e w' => e = .returned (.int .i64 ((fil q0 q1 full).length : Int)) ∧ Below W.heap.size W w' :=
  count_of S.y S.p (Nat.le_trans S.few (by decide)) q0 q1
end Go.Proofs.Ytgmgenggboicnaa
namespace Go.Proofs.Ytgmgenggboicnaa
open Go.ChangeShapes Go.WideShapes Go.ChangeAt Go.RowKit
variable {H : Type} {enc : TypeId × Value → H} {w : World} {b0 : Nat} {v : Value} {d : DataW H} {ps : List MemPlace}
set_option maxRecDepth 100000 in
theorem in_uint (hval : Value.okWide Try.prog w .any b0 73 v) (hd : DataW.Trod enc Try.prog w 0 (fun _ => true) true 73 v d ps) : ∃ n : Int, v = .int .u64 n ∧ (0 ≤ n ∧ n ≤ 18446744073709551615) := by
  obtain ⟨x, rfl, _, _, wx⟩ := open_int Try.underlying73 hval hd
  exact ⟨x, rfl, bounds_u64 wx⟩
end Go.Proofs.Ytgmgenggboicnaa
