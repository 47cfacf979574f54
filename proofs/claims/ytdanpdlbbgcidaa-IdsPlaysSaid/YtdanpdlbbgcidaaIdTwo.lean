/- What next comes to; two pools that are one in a shard. Nothing of the program. -/
import Derived.Test.YtdanpdlbbgcidaaIdNxt
namespace Go.Proofs.Ytdanpdlbbgcidaa
set_option linter.unusedVariables false
namespace Ids
theorem head_row {K : St} {k : Nat} (hk : k < K.n) {i : Nat} {r : List Nat} (h : K.row k = i :: r) : head K (k : Int) = (i, decide (K.gen k i < K.bnd k i), 0) := by
  unfold head
  rw [if_pos (by omega), Int.toNat_natCast, h]
theorem head_nil {K : St} {k : Nat} (hk : k < K.n) (h : K.row k = []) : head K (k : Int) = (0, false, 8) := by
  unfold head
  rw [if_pos (by omega), Int.toNat_natCast, h]
theorem head_off {K : St} {k : Int} (hk : ¬ (0 ≤ k ∧ k < K.n)) : head K k = (0, false, 1) := by
  unfold head; rw [if_neg hk]
/-- the bound that the first one of a row has, when it is given -/
def bd (K : St) (k i : Nat) : Nat := if K.gen k i < K.bnd k i then K.bnd k i else min (K.bnd k i + 8) MG
/-- an index is given, and set aside if it must be -/
def N1 (K : St) (k i : Nat) : St := give (setBnd K k i (bd K k i)) k i (K.gen k i)
theorem issue_row {K : St} {k : Nat} (hk : k < K.n) {i : Nat} {r : List Nat} (h : K.row k = i :: r) : issue K (k : Int) = if K.gen k i < K.bnd k i then (give K k i (K.gen k i), ((k : Int), i, K.gen k i), 0) else (K, (0, 0, 0), 14) := by
  unfold issue
  rw [head_row hk h]
  by_cases hl : K.gen k i < K.bnd k i
  · rw [if_pos hl]
    simp only [decide_eq_true hl, Int.toNat_natCast]
    rfl
  · rw [if_neg hl]
    simp only [decide_eq_false hl]
    rfl
theorem issue_nil {K : St} {k : Nat} (hk : k < K.n) (h : K.row k = []) : issue K (k : Int) = (K, (0, 0, 0), 8) := by
  unfold issue
  rw [head_nil hk h]; rfl
theorem setBnd_self (K : St) (k i : Nat) : setBnd K k i (K.bnd k i) = K := st_ext rfl rfl (fun _ _ => rfl) (fun a b => by
  show up2 K.bnd k i (K.bnd k i) a b = K.bnd a b
  unfold up2
  split
  · rename_i h; rw [h.1, h.2]
  · rfl) (fun _ => rfl)
/-- next, of a shard whose row is known -/
theorem next_row {K : St} {k : Nat} (hk : k < K.n) {i : Nat} {r : List Nat} (h : K.row k = i :: r) (hi : i < K.m) :
    nextK K (k : Int) = if K.gen k i < bd K k i then (N1 K k i, ((k : Int), i, K.gen k i), (if K.gen k i < K.bnd k i then -1 else (i : Int)), true)
      else if K.bnd k i ≥ MG then (K, (0, 0, 0), -1, false) else (setBnd K k i (min (K.bnd k i + 8) MG), (0, 0, 0), (i : Int), false) := by
  unfold nextK
  rw [head_row hk h]
  by_cases hl : K.gen k i < K.bnd k i
  · have hb : bd K k i = K.bnd k i := if_pos hl
    simp only [decide_eq_true hl]
    rw [issue_row hk h, if_pos hl, hb, if_pos hl, if_pos hl]
    unfold N1
    rw [hb, setBnd_self]
    rfl
  · simp only [decide_eq_false hl]
    have hin : In K (k : Int) (i : Int) := ⟨by omega, by omega, by omega, by omega⟩
    have hr : reserve K (k : Int) (i : Int) = if K.bnd k i ≥ MG then (K, 5) else (setBnd K k i (min (K.bnd k i + 8) MG), 0) := by
      unfold reserve
      rw [if_pos hin, Int.toNat_natCast, Int.toNat_natCast]
    have hb : bd K k i = min (K.bnd k i + 8) MG := if_neg hl
    rw [hr]
    by_cases hm : K.bnd k i ≥ MG
    · have hnb : ¬ K.gen k i < bd K k i := by rw [hb]; omega
      rw [if_neg hnb]
      simp [hm]
    · rw [if_neg hm, if_neg hm]
      have h2 : (setBnd K k i (min (K.bnd k i + 8) MG)).row k = i :: r := h
      have hb2 : (setBnd K k i (min (K.bnd k i + 8) MG)).bnd k i = min (K.bnd k i + 8) MG := up2_same _ _ _ _
      simp only [ne_eq, not_true_eq_false, if_false, if_true]
      rw [issue_row (K := setBnd K k i (min (K.bnd k i + 8) MG)) hk h2, hb2]
      show _ = _
      by_cases hl2 : K.gen k i < min (K.bnd k i + 8) MG
      · rw [if_pos (show (setBnd K k i (min (K.bnd k i + 8) MG)).gen k i < _ from hl2), hb, if_pos hl2, if_neg hl]
        unfold N1
        rw [hb]
        rfl
      · rw [if_neg (show ¬ (setBnd K k i (min (K.bnd k i + 8) MG)).gen k i < _ from hl2), hb, if_neg hl2]
        rfl
theorem next_nil {K : St} {k : Nat} (hk : k < K.n) (h : K.row k = []) : nextK K (k : Int) = (K, (0, 0, 0), -1, false) := by
  unfold nextK
  rw [head_nil hk h]; rfl
theorem bd_le {K : St} (h : Ok K) (k i : Nat) : bd K k i ≤ MG := by
  unfold bd
  split
  · exact h.bnd k i
  · omega
/-- who was just given is somebody's -/
theorem N1_alive {K : St} (ok : Ok K) {k i : Nat} (hk : k < K.n) (hi : i < K.m) (hl : K.gen k i < bd K k i) : alive (N1 K k i) (k : Int) (i : Int) (K.gen k i : Int) = true := by
  unfold alive
  have hin : In (N1 K k i) (k : Int) (i : Int) := ⟨by omega, by show (k : Int) < (K.n : Int); omega, by omega, by show (i : Int) < (K.m : Int); omega⟩
  rw [if_pos hin, Int.toNat_natCast, Int.toNat_natCast]
  have hg : (N1 K k i).gen k i = K.gen k i := up2_same _ _ _ _
  have hr : (N1 K k i).row k = (K.row k).filter fun x => x != i := up1_same _ _ _
  have h2 := bd_le ok k i
  unfold taken
  rw [hg, hr, decide_eq_true rfl, decide_eq_true (show K.gen k i < MG by omega)]
  simp
theorem Ok.N1 {K : St} (ok : Ok K) {k i : Nat} (hk : k < K.n) : Ok (N1 K k i) := by
  unfold Ids.N1
  exact Ok.give (ok.setBnd (bd_le ok k i)) hk (ok.gen k i)
theorem Ok.nextK {K : St} (ok : Ok K) (k : Int) : Ok (nextK K k).1 := by
  by_cases hk : 0 ≤ k ∧ k < K.n
  · obtain ⟨k, rfl⟩ : ∃ k' : Nat, k = (k' : Int) := ⟨k.toNat, by omega⟩
    have hk' : k < K.n := by omega
    cases hr : K.row k with
    | nil => rw [next_nil hk' hr]; exact ok
    | cons i r =>
      rw [next_row hk' hr (ok.lt k hk' i (by rw [hr]; simp))]
      split
      · exact ok.N1 hk'
      · split
        · exact ok
        · exact ok.setBnd (Nat.min_le_right _ _)
  · unfold Ids.nextK
    rw [head_off hk]
    exact ok

/-- one in shard 1 -/
structure Eq1 (K L : St) : Prop where
  n : K.n = L.n
  m : K.m = L.m
  gen : ∀ i, K.gen 1 i = L.gen 1 i
  bnd : ∀ i, K.bnd 1 i = L.bnd 1 i
  row : K.row 1 = L.row 1
section
variable {K L : St}
theorem Eq1.setBnd1 (h : Eq1 K L) (i v : Nat) : Eq1 (setBnd K 1 i v) (setBnd L 1 i v) := ⟨h.n, h.m, h.gen, fun b => by
  show up2 K.bnd 1 i v 1 b = up2 L.bnd 1 i v 1 b
  unfold up2; split
  · rfl
  · exact h.bnd b, h.row⟩
theorem Eq1.setGen1 (h : Eq1 K L) (i v : Nat) : Eq1 (setGen K 1 i v) (setGen L 1 i v) := ⟨h.n, h.m, fun b => by
  show up2 K.gen 1 i v 1 b = up2 L.gen 1 i v 1 b
  unfold up2; split
  · rfl
  · exact h.gen b, h.bnd, h.row⟩
theorem Eq1.setRow1 (h : Eq1 K L) (l : List Nat) : Eq1 (setRow K 1 l) (setRow L 1 l) := ⟨h.n, h.m, h.gen, h.bnd, by
  show up1 K.row 1 l 1 = up1 L.row 1 l 1
  rw [up1_same, up1_same]⟩
theorem Eq1.setBnd0 (h : Eq1 K L) {k : Nat} (hk : k ≠ 1) (i v : Nat) : Eq1 (setBnd K k i v) L := ⟨h.n, h.m, h.gen, fun b => (up2_other (fun e => hk e.1.symm)).trans (h.bnd b), h.row⟩
theorem Eq1.setGen0 (h : Eq1 K L) {k : Nat} (hk : k ≠ 1) (i v : Nat) : Eq1 (setGen K k i v) L := ⟨h.n, h.m, fun b => (up2_other (fun e => hk e.1.symm)).trans (h.gen b), h.bnd, h.row⟩
theorem Eq1.setRow0 (h : Eq1 K L) {k : Nat} (hk : k ≠ 1) (l : List Nat) : Eq1 (setRow K k l) L := ⟨h.n, h.m, h.gen, h.bnd, (up1_other hk.symm).trans h.row⟩
theorem Eq1.give1 (h : Eq1 K L) (i g : Nat) : Eq1 (give K 1 i g) (give L 1 i g) := by
  unfold give
  rw [h.row]
  exact (h.setGen1 i g).setRow1 _
theorem Eq1.give0 (h : Eq1 K L) {k : Nat} (hk : k ≠ 1) (i g : Nat) : Eq1 (give K k i g) L := (h.setGen0 hk i g).setRow0 hk _
theorem Eq1.bd (h : Eq1 K L) (i : Nat) : bd K 1 i = bd L 1 i := by unfold Ids.bd; rw [h.gen, h.bnd]
/-- next, of shard 1, of both -/
theorem Eq1.next1 (h : Eq1 K L) (okK : Ok K) (hn : 1 < K.n) : (nextK K ((1 : Nat) : Int)).2 = (nextK L ((1 : Nat) : Int)).2 ∧ Eq1 (nextK K ((1 : Nat) : Int)).1 (nextK L ((1 : Nat) : Int)).1 := by
  have hn' : 1 < L.n := by rw [← h.n]; exact hn
  cases hr : K.row 1 with
  | nil =>
    rw [next_nil hn hr, next_nil hn' (h.row ▸ hr)]
    exact ⟨rfl, h⟩
  | cons i r =>
    have hi := okK.lt 1 hn i (by rw [hr]; simp)
    rw [next_row hn hr hi, next_row hn' (h.row ▸ hr) (by rw [← h.m]; exact hi), h.gen, h.bnd, h.bd]
    split
    · refine ⟨rfl, ?_⟩
      unfold N1
      rw [h.gen, h.bd]
      exact (h.setBnd1 _ _).give1 _ _
    · split
      · exact ⟨rfl, h⟩
      · exact ⟨rfl, h.setBnd1 _ _⟩
theorem Eq1.next0 (h : Eq1 K L) (okK : Ok K) : Eq1 (nextK K ((0 : Nat) : Int)).1 L := by
  have hn : 0 < K.n := by have := okK.n1; omega
  cases hr : K.row 0 with
  | nil => rw [next_nil hn hr]; exact h
  | cons i r =>
    rw [next_row hn hr (okK.lt 0 hn i (by rw [hr]; simp))]
    split
    · exact (h.setBnd0 (by decide) _ _).give0 (by decide) _ _
    · split
      · exact h
      · exact h.setBnd0 (by decide) _ _
theorem Eq1.freed1 (h : Eq1 K L) (i : Nat) : Eq1 (freed K 1 i) (freed L 1 i) := by
  unfold freed
  rw [h.gen, h.row]
  split
  · exact (h.setGen1 _ _).setRow1 _
  · exact h.setGen1 _ _
theorem Eq1.free0 (h : Eq1 K L) (i g : Int) : Eq1 (free K 0 i g).1 L := by
  unfold free
  split
  · exact h
  · split
    · exact h
    · show Eq1 (freed K 0 i.toNat) L
      unfold freed
      split
      · exact (h.setGen0 (by decide) _ _).setRow0 (by decide) _
      · exact h.setGen0 (by decide) _ _
end
/-- Free of a name that is somebody's -/
theorem free_alive {K : St} {k i g : Int} (h : alive K k i g = true) : free K k i g = (freed K k.toNat i.toNat, 0) := by
  have := alive_in h
  have h2 : (K.gen k.toNat i.toNat : Int) = g := this.2.1
  unfold free
  rw [if_neg (by rintro (e | e); exact e this.1; omega), h, if_neg (by decide)]
theorem Eq1.alive1 {K L : St} (h : Eq1 K L) (i g : Int) : alive K 1 i g = alive L 1 i g := by
  have hin : In K 1 i ↔ In L 1 i := by unfold In; rw [h.n, h.m]
  unfold alive
  by_cases hi : In K 1 i
  · rw [if_pos hi, if_pos (hin.1 hi)]
    show (decide ((K.gen 1 i.toNat : Int) = g) && taken K 1 i.toNat) = (decide ((L.gen 1 i.toNat : Int) = g) && taken L 1 i.toNat)
    unfold taken
    rw [h.gen, h.row]
  · rw [if_neg hi, if_neg (fun e => hi (hin.2 e))]
/-- the pools' numbers of shards and indices stay -/
theorem nextK_nm (K : St) (k : Int) : (nextK K k).1.n = K.n ∧ (nextK K k).1.m = K.m := by
  have hi : ∀ K k, (issue K k).1.n = K.n ∧ (issue K k).1.m = K.m := fun K k => by
    unfold issue; split
    · exact ⟨rfl, rfl⟩
    · split <;> exact ⟨rfl, rfl⟩
  have hr : ∀ K k i, (reserve K k i).1.n = K.n ∧ (reserve K k i).1.m = K.m := fun K k i => by
    unfold reserve; split
    · split <;> exact ⟨rfl, rfl⟩
    · exact ⟨rfl, rfl⟩
  unfold nextK
  split
  · exact ⟨rfl, rfl⟩
  · split
    · split
      · exact ⟨rfl, rfl⟩
      · exact ⟨(hi _ _).1.trans (hr _ _ _).1, (hi _ _).2.trans (hr _ _ _).2⟩
    · exact hi K k
theorem free_nm (K : St) (k i g : Int) : (free K k i g).1.n = K.n ∧ (free K k i g).1.m = K.m := by
  unfold free; split
  · exact ⟨rfl, rfl⟩
  · split
    · exact ⟨rfl, rfl⟩
    · unfold freed; split <;> exact ⟨rfl, rfl⟩
end Ids
end Go.Proofs.Ytdanpdlbbgcidaa
