/- A log in segments, over lists: what laying makes of a log that is whole. Nothing of the program. -/
import Derived.Test.YtpafialojcidnaaGreatDoorWlPure2
namespace Go.Proofs.YtpafialojcidnaaGreatDoor
set_option linter.unusedVariables false
namespace Wl
open Dk

/-- full segments were not full ahead of their last record -/
structure Bd (I : List (List Str)) (R : List Str) : Prop where
  full : ∀ s ∈ I, 4096 ≤ Fr.place s ∧ Fr.place s.dropLast < 4096
  last : Fr.place R.dropLast < 4096
theorem bd_new : Bd [] [] := ⟨fun _ h => (by cases h), by decide⟩
section
variable {K : St} {nm : Str} {n0 : Nat} {I : List (List Str)} {R : List Str}
/-- one record, where there is room -/
theorem Lg.lay (h : Lg K nm n0 I R) {r : Str} (hr : r.length ≤ 65536) (ht : n0 + tot I + R.length < 99999999) (hf : I.length < 63 ∨ Fr.place R < 4096) :
    ∃ K' I' R', lay1 K ⟨nm, n0 + tot I, n0 + tot I + R.length⟩ r = (K', ⟨nm, n0 + tot I', n0 + tot I' + R'.length⟩, 0) ∧ Lg K' nm n0 I' R' ∧ (I' ++ [R']).flatten = (I ++ [R]).flatten ++ [r] ∧ I'.length ≤ I.length + 1 ∧ (Bd I R → Bd I' R') ∧ tot I' + R'.length = tot I + R.length + 1 ∧
      ((Fr.place R < 4096 ∧ I' = I ∧ R' = R ++ [r]) ∨ (4096 ≤ Fr.place R ∧ I' = I ++ [R] ∧ R' = [r])) := by
  obtain ⟨b, hs⟩ := h.size
  by_cases hp : Fr.place R < 4096
  · obtain ⟨K', ha, L⟩ := h.app hp hr ht
    refine ⟨K', I, R ++ [r], ?_, L, by simp, by omega, fun hb => ⟨hb.full, by rw [List.dropLast_concat]; exact hp⟩, by simp; omega, .inl ⟨hp, rfl, rfl⟩⟩
    have hpl : place1 K ⟨nm, n0 + tot I, n0 + tot I + R.length⟩ = (K, n0 + tot I, 0) := by
      unfold place1
      dsimp only
      rw [hs]
      dsimp only
      rw [if_neg (by decide), if_pos hp]
    unfold lay1
    rw [if_neg (by omega), hpl]
    dsimp only
    rw [if_neg (by decide), ha]
    dsimp only
    rw [if_neg (by decide)]
    simp [Nat.add_assoc]
  · obtain ⟨K1, hy, L1⟩ := h.sync
    obtain ⟨K', ha, L⟩ := L1.more (r := r) (by omega) hr ht (by omega)
    refine ⟨K', I ++ [R], [r], ?_, L, by simp, by simp, fun hb => ⟨fun s hsm => ?_, by show Fr.place [] < 4096; decide⟩, by rw [tot_snoc]; simp, .inr ⟨by omega, rfl, rfl⟩⟩
    · have hpl : place1 K ⟨nm, n0 + tot I, n0 + tot I + R.length⟩ = (K1, n0 + tot I + R.length, 0) := by
        unfold place1
        dsimp only
        rw [hs]
        dsimp only
        rw [if_neg (by decide), if_neg hp, hy]
        dsimp only
        rw [if_neg (by decide), if_neg (by omega)]
      unfold lay1
      rw [if_neg (by omega), hpl]
      dsimp only
      rw [if_neg (by decide), ha]
      dsimp only
      rw [if_neg (by decide), tot_snoc]
      simp [Nat.add_assoc]
    · rcases List.mem_append.1 hsm with hsm | hsm
      · exact hb.full s hsm
      · rw [List.mem_singleton] at hsm
        rw [hsm]
        exact ⟨by omega, hb.last⟩
/-- one record, where there is none -/
theorem Lg.layFull (h : Lg K nm n0 I R) {r : Str} (hr : r.length ≤ 65536) (ht : n0 + tot I + R.length ≤ 99999999) (hf : I.length = 63) (hp : 4096 ≤ Fr.place R) :
    ∃ K', lay1 K ⟨nm, n0 + tot I, n0 + tot I + R.length⟩ r = (K', ⟨nm, n0 + tot I, n0 + tot I + R.length⟩, 8) ∧ Lg K' nm n0 I R := by
  obtain ⟨b, hs⟩ := h.size
  obtain ⟨K1, hy, L1⟩ := h.sync
  have ha := L1.full (t := Fr.frame r) hp hf ht
  refine ⟨K1, ?_, L1⟩
  have hpl : place1 K ⟨nm, n0 + tot I, n0 + tot I + R.length⟩ = (K1, n0 + tot I + R.length, 0) := by
    unfold place1
    dsimp only
    rw [hs]
    dsimp only
    rw [if_neg (by decide), if_neg (by omega), hy]
    dsimp only
    rw [if_neg (by decide), if_neg (by omega)]
  unfold lay1
  rw [if_neg (by omega), hpl]
  dsimp only
  rw [if_neg (by decide), ha]
  dsimp only
  rw [if_pos (by decide)]
/-- many records -/
theorem Lg.lays {rs : List Str} : ∀ {K : St} {I : List (List Str)} {R : List Str}, Lg K nm n0 I R → (∀ r ∈ rs, r.length ≤ 65536) → n0 + tot I + R.length + rs.length ≤ 99999999 → I.length + rs.length ≤ 63 →
    ∃ K' I' R', Wl.lays K ⟨nm, n0 + tot I, n0 + tot I + R.length⟩ rs = (K', ⟨nm, n0 + tot I', n0 + tot I' + R'.length⟩, 0) ∧ Lg K' nm n0 I' R' ∧ (I' ++ [R']).flatten = (I ++ [R]).flatten ++ rs ∧ I'.length ≤ I.length + rs.length ∧ (Bd I R → Bd I' R') := by
  induction rs with
  | nil => intro K I R h _ _ _; exact ⟨K, I, R, rfl, h, by simp, by simp, id⟩
  | cons r rs ih =>
    intro K I R h hr ht hf
    rw [List.length_cons] at ht hf
    obtain ⟨K1, I1, R1, e1, L1, f1, n1, b1, t1, _⟩ := h.lay (hr r (List.mem_cons_self ..)) (by omega) (by omega)
    obtain ⟨K2, I2, R2, e2, L2, f2, n2, b2⟩ := ih L1 (fun x hx => hr x (List.mem_cons_of_mem _ hx)) (by omega) (by omega)
    refine ⟨K2, I2, R2, ?_, L2, by rw [f2, f1, List.append_assoc]; rfl, by rw [List.length_cons]; omega, fun hb => b2 (b1 hb)⟩
    rw [Wl.lays, e1]
    dsimp only
    rw [if_neg (by decide)]
    exact e2
theorem Lg.appendL (h : Lg K nm n0 I R) {rs : List Str} (hr : ∀ r ∈ rs, r.length ≤ 65536) (ht : n0 + tot I + R.length + rs.length ≤ 99999999) (hf : I.length + rs.length ≤ 63) :
    ∃ K' I' R', Wl.appendL K ⟨nm, n0 + tot I, n0 + tot I + R.length⟩ rs = (K', ⟨nm, n0 + tot I', n0 + tot I' + R'.length⟩, 0) ∧ Lg K' nm n0 I' R' ∧ (I' ++ [R']).flatten = (I ++ [R]).flatten ++ rs ∧ I'.length ≤ I.length + rs.length ∧ (Bd I R → Bd I' R') := by
  have hno : rs.any (fun r => decide (65536 < r.length)) = false := List.any_eq_false.2 fun r hm => by have := hr r hm; simp; omega
  unfold Wl.appendL
  rw [hno]
  simp only [Bool.false_eq_true, if_false]
  exact h.lays hr ht hf
theorem appendL_big {K : St} {g : Lo} {rs : List Str} {r : Str} (hm : r ∈ rs) (h : 65536 < r.length) : Wl.appendL K g rs = (K, g, 1) := by
  unfold Wl.appendL
  rw [if_pos (List.any_eq_true.2 ⟨r, hm, by simpa using h⟩)]
theorem appendL_one {K : St} {g : Lo} {r : Str} (h : r.length ≤ 65536) : Wl.appendL K g [r] = lay1 K g r := by
  unfold Wl.appendL
  rw [if_neg (by simp; omega), Wl.lays]
  split
  · rfl
  · rename_i hh
    rw [Wl.lays]
    have : (lay1 K g r).2.2 = 0 := by simpa using hh
    rw [← this]
/-- what is read of a log that is whole -/
theorem Lg.all (h : Lg K nm n0 I R) : (firsts n0 (I ++ [R])).map (fun n => Fr.all (got K nm n)) = I ++ [R] := by
  have key : ∀ (A B : List (List Str)) (m : Nat), I ++ [R] = A ++ B → m = n0 + tot A → (firsts m B).map (fun n => Fr.all (got K nm n)) = B := by
    intro A B
    induction B generalizing A with
    | nil => intro m _ _; rfl
    | cons Q B ih =>
      intro m he hm
      have hg := h.got_of he
      rw [firsts_cons, List.map_cons, ih (A ++ [Q]) (m + Q.length) (by rw [he]; simp) (by rw [tot_snoc]; omega)]
      congr 1
      rw [got, hm, hg]
      exact Fr.all_flat Q (h.small Q (by rw [he]; simp))
  exact key [] _ n0 rfl (by simp [tot])
theorem tot_flat {l : List Str} (h : (I ++ [R]).flatten = l) : tot I + R.length = l.length := by
  rw [← h, List.flatten_append, List.length_append]
  simp [tot]
theorem Lg.place_small (h : Lg K nm n0 I R) : Fr.place R ≤ 4194304 := by
  obtain ⟨f, hl, hf, hn, hx⟩ := h.vw.at_ h.split
  have := h.vw.ok.small f hf
  rw [hx, Fr.flat_len] at this
  exact this
/-- a log that is new -/
theorem lg_new (h : nm.length ≤ 16) : ∃ K, Dk.append Dk.new (file nm 0) [] = (K, 0) ∧ Lg K nm 0 [] [] := by
  obtain ⟨K, e, v⟩ := vw_more (t := []) vw_new (file_bad 0 h) (fun p hp => by cases hp) (by decide) (by decide)
  refine ⟨K, e, ⟨v, h, fun s hs => (by cases hs), fun s hs x hx => ?_, by simp [tot], by decide⟩⟩
  simp at hs
  rw [hs] at hx
  cases hx
end
end Wl
end Go.Proofs.YtpafialojcidnaaGreatDoor
