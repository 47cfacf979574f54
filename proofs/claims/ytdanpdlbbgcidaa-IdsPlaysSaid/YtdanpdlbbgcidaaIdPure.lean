/- A pool of names, over functions: generations, bounds, rows of free indices; each deed and its answer. Nothing of the program. -/
import Derived.Below
namespace Go.Proofs.Ytdanpdlbbgcidaa
set_option linter.unusedVariables false

namespace Ids
def MG : Nat := 1048576
structure St where
  n : Nat
  m : Nat
  gen : Nat → Nat → Nat
  bnd : Nat → Nat → Nat
  row : Nat → List Nat

def up2 (f : Nat → Nat → Nat) (k i v : Nat) : Nat → Nat → Nat := fun a b => if a = k ∧ b = i then v else f a b
def up1 (f : Nat → List Nat) (k : Nat) (l : List Nat) : Nat → List Nat := fun a => if a = k then l else f a
theorem up2_same (f : Nat → Nat → Nat) (k i v : Nat) : up2 f k i v k i = v := by simp [up2]
theorem up2_other {f : Nat → Nat → Nat} {k i v a b : Nat} (h : ¬(a = k ∧ b = i)) : up2 f k i v a b = f a b := if_neg h
theorem up1_same (f : Nat → List Nat) (k : Nat) (l : List Nat) : up1 f k l k = l := by simp [up1]
theorem up1_other {f : Nat → List Nat} {k a : Nat} {l : List Nat} (h : a ≠ k) : up1 f k l a = f a := if_neg h

structure Ok (K : St) : Prop where
  n1 : 1 ≤ K.n
  n2 : K.n ≤ 16
  m1 : 1 ≤ K.m
  m2 : K.m ≤ 16
  nodup : ∀ k, k < K.n → (K.row k).Nodup
  lt : ∀ k, k < K.n → ∀ i ∈ K.row k, i < K.m
  gen : ∀ k i, K.gen k i ≤ MG
  bnd : ∀ k i, K.bnd k i ≤ MG

theorem few_len : ∀ (m : Nat) (l : List Nat), l.Nodup → (∀ i ∈ l, i < m) → l.length ≤ m
  | 0, l, _, h => by
    cases l with
    | nil => simp
    | cons a r => exact absurd (h a (List.mem_cons_self)) (by omega)
  | m + 1, l, hn, h => by
    have := few_len m (l.erase m) (hn.erase m) (fun i hi => by
      have h1 := (hn.mem_erase_iff).1 hi
      have := h i h1.2
      have := h1.1
      omega)
    have h2 := @List.length_erase Nat _ _ m l
    split at h2 <;> omega
theorem Ok.len {K : St} (h : Ok K) {k : Nat} (hk : k < K.n) : (K.row k).length ≤ K.m := few_len _ _ (h.nodup k hk) (h.lt k hk)

/-- is there such an index? -/
def In (K : St) (k i : Int) : Prop := 0 ≤ k ∧ k < K.n ∧ 0 ≤ i ∧ i < K.m
instance (K : St) (k i : Int) : Decidable (In K k i) := by unfold In; infer_instance
def taken (K : St) (k i : Nat) : Bool := !(K.row k).contains i && decide (K.gen k i < MG)
def head (K : St) (k : Int) : Nat × Bool × Nat :=
  if 0 ≤ k ∧ k < K.n then
    match K.row k.toNat with
    | [] => (0, false, 8)
    | i :: _ => (i, decide (K.gen k.toNat i < K.bnd k.toNat i), 0)
  else (0, false, 1)
def genOf (K : St) (k i : Int) : Nat := if In K k i then K.gen k.toNat i.toNat else 0
def setBnd (K : St) (k i v : Nat) : St := { K with bnd := up2 K.bnd k i v }
def setGen (K : St) (k i v : Nat) : St := { K with gen := up2 K.gen k i v }
def setRow (K : St) (k : Nat) (l : List Nat) : St := { K with row := up1 K.row k l }
def reserve (K : St) (k i : Int) : St × Nat :=
  if In K k i then
    if K.bnd k.toNat i.toNat ≥ MG then (K, 5)
    else (setBnd K k.toNat i.toNat (min (K.bnd k.toNat i.toNat + 8) MG), 0)
  else (K, 1)
def give (K : St) (k i g : Nat) : St := setRow (setGen K k i g) k ((K.row k).filter fun x => x != i)
def issue (K : St) (k : Int) : St × (Int × Nat × Nat) × Nat :=
  if (head K k).2.2 ≠ 0 then (K, (0, 0, 0), (head K k).2.2)
  else if (head K k).2.1 = false then (K, (0, 0, 0), 14)
  else (give K k.toNat (head K k).1 (K.gen k.toNat (head K k).1), (k, (head K k).1, K.gen k.toNat (head K k).1), 0)
def take (K : St) (k i g : Int) : St × Nat :=
  if ¬ In K k i ∨ g < 0 then (K, 1)
  else if (K.row k.toNat).contains i.toNat = false then (K, 14)
  else if g < K.gen k.toNat i.toNat ∨ (K.bnd k.toNat i.toNat : Int) ≤ g then (K, 9)
  else (give K k.toNat i.toNat g.toNat, 0)
def alive (K : St) (k i g : Int) : Bool :=
  if In K k i then decide ((K.gen k.toNat i.toNat : Int) = g) && taken K k.toNat i.toNat else false
def freed (K : St) (k i : Nat) : St :=
  if K.gen k i + 1 < MG then setRow (setGen K k i (K.gen k i + 1)) k (K.row k ++ [i]) else setGen K k i (K.gen k i + 1)
def free (K : St) (k i g : Int) : St × Nat :=
  if ¬ In K k i ∨ g < 0 then (K, 1)
  else if alive K k i g = false then (K, 9)
  else (freed K k.toNat i.toNat, 0)
def lapG (K : St) (k i : Nat) : Nat := if i ∈ K.row k ∧ K.gen k i < K.bnd k i then K.bnd k i else K.gen k i
/-- the first j shards have lapsed -/
def lapseTo (K : St) (j : Nat) : St :=
  { K with gen := fun k i => if k < j then lapG K k i else K.gen k i, row := fun k => if k < j then (K.row k).filter (fun i => decide (lapG K k i < MG)) else K.row k }
/-- of shard k the first j of the row have lapsed -/
def stepTo (K : St) (k j : Nat) : St := { K with gen := fun a b => if a = k ∧ b ∈ (K.row k).take j then lapG K a b else K.gen a b }
def flag (K : St) (k i : Nat) : Bool := (K.row k).contains i && decide (K.gen k i < K.bnd k i)
def cnt (K : St) (p : Nat) : Nat := ((List.range p).filter fun p => flag K (p / K.m) (p % K.m)).length
def lapse (K : St) : St × Nat := (lapseTo K K.n, cnt K (K.n * K.m))
/-- the names that are somebody's, of the first p indices -/
def lst (K : St) (p : Nat) : List (Nat × Nat × Nat) := ((List.range p).filter fun p => taken K (p / K.m) (p % K.m)).map fun p => (p / K.m, p % K.m, K.gen (p / K.m) (p % K.m))
def list (K : St) : List (Nat × Nat × Nat) := lst K (K.n * K.m)
def new (n m : Nat) : St := ⟨n, m, fun _ _ => 0, fun _ _ => 0, fun _ => List.range m⟩

/-! ### places -/
theorem pos_div {m k i : Nat} (hi : i < m) : (k * m + i) / m = k := by
  rw [Nat.add_comm, Nat.add_mul_div_right _ _ (by omega), Nat.div_eq_of_lt hi, Nat.zero_add]
theorem pos_mod {m k i : Nat} (hi : i < m) : (k * m + i) % m = i := by
  rw [Nat.add_comm, Nat.add_mul_mod_self_right, Nat.mod_eq_of_lt hi]
theorem pos_lt {n m k i : Nat} (hk : k < n) (hi : i < m) : k * m + i < n * m := by
  have : (k + 1) * m ≤ n * m := Nat.mul_le_mul_right m hk
  rw [Nat.succ_mul] at this
  omega
theorem pos_of {n m p : Nat} (hm : 0 < m) (hp : p < n * m) : p / m < n ∧ p % m < m ∧ p / m * m + p % m = p :=
  ⟨Nat.div_lt_of_lt_mul (by rw [Nat.mul_comm]; exact hp), Nat.mod_lt _ hm, by rw [Nat.mul_comm]; exact Nat.div_add_mod p m⟩
theorem pos_inj {m k i k' i' : Nat} (hi : i < m) (hi' : i' < m) (h : k * m + i = k' * m + i') : k = k' ∧ i = i' := by
  have h1 := pos_div (k := k) hi
  have h2 := pos_mod (k := k) hi
  rw [h, pos_div hi'] at h1
  rw [h, pos_mod hi'] at h2
  exact ⟨h1.symm, h2.symm⟩
theorem lst_zero (K : St) : lst K 0 = [] := rfl
theorem lst_succ (K : St) {k i : Nat} (hi : i < K.m) : lst K (k * K.m + i + 1) = if taken K k i = true then lst K (k * K.m + i) ++ [(k, i, K.gen k i)] else lst K (k * K.m + i) := by
  unfold lst
  rw [List.range_succ, List.filter_append, List.map_append]
  by_cases h : taken K k i = true
  · simp [pos_div hi, pos_mod hi, h]
  · simp [pos_div hi, pos_mod hi, h]
theorem lst_len (K : St) (p : Nat) : (lst K p).length ≤ p := by
  unfold lst
  rw [List.length_map]
  exact Nat.le_trans (List.length_filter_le _ _) (by simp)
theorem cnt_succ (K : St) {k i : Nat} (hi : i < K.m) : cnt K (k * K.m + i + 1) = cnt K (k * K.m + i) + if flag K k i = true then 1 else 0 := by
  unfold cnt
  rw [List.range_succ, List.filter_append, List.length_append]
  by_cases h : flag K k i = true
  · simp [pos_div hi, pos_mod hi, h]
  · simp [pos_div hi, pos_mod hi, h]
theorem cnt_le (K : St) (p : Nat) : cnt K p ≤ p := by
  unfold cnt
  exact Nat.le_trans (List.length_filter_le _ _) (by simp)
theorem cnt_part (K : St) (k : Nat) : ∀ j, j ≤ K.m → cnt K (k * K.m + j) = cnt K (k * K.m) + ((List.range j).filter fun i => flag K k i).length
  | 0, _ => by simp
  | j + 1, hj => by
    rw [← Nat.add_assoc, cnt_succ K (by omega), cnt_part K k j (by omega), List.range_succ, List.filter_append, List.length_append]
    by_cases h : flag K k j = true <;> simp [h, Nat.add_assoc]
theorem cnt_shard {K : St} (h : Ok K) {k : Nat} (hk : k < K.n) : cnt K ((k + 1) * K.m) = cnt K (k * K.m) + ((K.row k).filter fun i => decide (K.gen k i < K.bnd k i)).length := by
  rw [Nat.succ_mul, cnt_part K k K.m (Nat.le_refl _)]
  congr 1
  refine List.Perm.length_eq ((List.perm_ext_iff_of_nodup ?_ ?_).2 fun i => ?_)
  · exact List.Pairwise.filter _ List.nodup_range
  · exact List.Pairwise.filter _ (h.nodup k hk)
  · simp only [List.mem_filter, List.mem_range, flag, Bool.and_eq_true, List.contains_iff_mem]
    constructor
    · rintro ⟨_, h1, h2⟩; exact ⟨h1, h2⟩
    · rintro ⟨h1, h2⟩; exact ⟨h.lt k hk i h1, h1, h2⟩

/-! ### the deeds keep a pool sound -/
theorem Ok.setBnd {K : St} (h : Ok K) {k i v : Nat} (hv : v ≤ MG) : Ok (setBnd K k i v) :=
  ⟨h.n1, h.n2, h.m1, h.m2, h.nodup, h.lt, h.gen, fun a b => by
    show up2 K.bnd k i v a b ≤ MG
    unfold up2
    split
    · exact hv
    · exact h.bnd a b⟩
theorem Ok.setGen {K : St} (h : Ok K) {k i v : Nat} (hv : v ≤ MG) : Ok (setGen K k i v) :=
  ⟨h.n1, h.n2, h.m1, h.m2, h.nodup, h.lt, fun a b => by
    show up2 K.gen k i v a b ≤ MG
    unfold up2
    split
    · exact hv
    · exact h.gen a b, h.bnd⟩
theorem Ok.setRow {K : St} (h : Ok K) {k : Nat} {l : List Nat} (hn : l.Nodup) (hl : ∀ i ∈ l, i < K.m) : Ok (setRow K k l) :=
  ⟨h.n1, h.n2, h.m1, h.m2, fun a ha => by
    show (up1 K.row k l a).Nodup
    unfold up1
    split
    · exact hn
    · exact h.nodup a ha, fun a ha => by
    show ∀ i ∈ up1 K.row k l a, i < K.m
    unfold up1
    split
    · exact hl
    · exact h.lt a ha, h.gen, h.bnd⟩
theorem Ok.filtered {K : St} (h : Ok K) {k : Nat} (hk : k < K.n) (p : Nat → Bool) : Ok (Ids.setRow K k ((K.row k).filter p)) :=
  h.setRow (List.Pairwise.filter _ (h.nodup k hk)) (fun i hi => h.lt k hk i (List.mem_filter.1 hi).1)
theorem Ok.give {K : St} (h : Ok K) {k i g : Nat} (hk : k < K.n) (hg : g ≤ MG) : Ok (give K k i g) :=
  (h.setGen hg).filtered hk _
theorem Ok.freed {K : St} (h : Ok K) {k i : Nat} (hk : k < K.n) (hi : i < K.m) (ht : taken K k i = true) : Ok (freed K k i) := by
  simp only [taken, Bool.and_eq_true, Bool.not_eq_true', decide_eq_true_eq] at ht
  have hni : i ∉ K.row k := fun hm => by have := List.contains_iff_mem.2 hm; rw [this] at ht; simp at ht
  unfold Ids.freed
  split
  · refine (h.setGen (by omega)).setRow ?_ ?_
    · rw [List.nodup_append]
      exact ⟨h.nodup k hk, by simp, fun a ha b hb => by
        simp only [List.mem_singleton] at hb
        rintro rfl
        exact hni (hb ▸ ha)⟩
    · intro a ha
      rcases List.mem_append.1 ha with ha | ha
      · exact h.lt k hk a ha
      · simp only [List.mem_singleton] at ha
        subst ha
        exact hi
  · exact h.setGen (by omega)
theorem lapG_le {K : St} (h : Ok K) (k i : Nat) : lapG K k i ≤ MG := by
  unfold lapG
  split
  · exact h.bnd k i
  · exact h.gen k i
theorem Ok.lapseTo {K : St} (h : Ok K) (j : Nat) : Ok (lapseTo K j) := by
  refine ⟨h.n1, h.n2, h.m1, h.m2, fun k hk => ?_, fun k hk => ?_, fun k i => ?_, h.bnd⟩
  · show (if k < j then _ else _ : List Nat).Nodup
    split
    · exact List.Pairwise.filter _ (h.nodup k hk)
    · exact h.nodup k hk
  · show ∀ i ∈ (if k < j then _ else _ : List Nat), i < K.m
    split
    · exact fun i hi => h.lt k hk i (List.mem_filter.1 hi).1
    · exact h.lt k hk
  · show (if k < j then _ else _ : Nat) ≤ MG
    split
    · exact lapG_le h k i
    · exact h.gen k i
theorem Ok.stepTo {K : St} (h : Ok K) (k j : Nat) : Ok (stepTo K k j) := by
  refine ⟨h.n1, h.n2, h.m1, h.m2, h.nodup, h.lt, fun a i => ?_, h.bnd⟩
  show (if _ then _ else _ : Nat) ≤ MG
  split
  · exact lapG_le h a i
  · exact h.gen a i
theorem Ok.reserve {K : St} (h : Ok K) (k i : Int) : Ok (reserve K k i).1 := by
  unfold Ids.reserve
  split
  · split
    · exact h
    · exact h.setBnd (Nat.min_le_right _ _)
  · exact h
theorem Ok.issue {K : St} (h : Ok K) (k : Int) : Ok (issue K k).1 := by
  unfold Ids.issue
  by_cases h0 : (Ids.head K k).2.2 ≠ 0
  · rw [if_pos h0]; exact h
  · rw [if_neg h0]
    split
    · exact h
    · have hk : 0 ≤ k ∧ k < K.n := by
        refine Decidable.byContradiction fun hc => h0 ?_
        unfold Ids.head
        rw [if_neg hc]
        decide
      exact h.give (by omega) (h.gen _ _)
theorem Ok.take {K : St} (h : Ok K) (k i g : Int) : Ok (take K k i g).1 := by
  unfold Ids.take
  split
  · exact h
  · rename_i h0
    split
    · exact h
    · split
      · exact h
      · rename_i h2
        have hin : In K k i := Decidable.byContradiction fun hc => h0 (.inl hc)
        unfold In at hin
        have := h.bnd k.toNat i.toNat
        exact h.give (by omega) (by omega)
theorem alive_in {K : St} {k i g : Int} (h : alive K k i g = true) : In K k i ∧ (K.gen k.toNat i.toNat : Int) = g ∧ taken K k.toNat i.toNat = true := by
  unfold alive at h
  split at h
  · rename_i h1
    simp only [Bool.and_eq_true, decide_eq_true_eq] at h
    exact ⟨h1, h.1, h.2⟩
  · cases h
theorem Ok.free {K : St} (h : Ok K) (k i g : Int) : Ok (free K k i g).1 := by
  unfold Ids.free
  split
  · exact h
  · split
    · exact h
    · rename_i h1
      have := alive_in (by simpa using h1)
      unfold In at this
      exact h.freed (by omega) (by omega) this.2.2
theorem Ok.new {n m : Nat} (hn : 1 ≤ n) (hn2 : n ≤ 16) (hm : 1 ≤ m) (hm2 : m ≤ 16) : Ok (new n m) :=
  ⟨hn, hn2, hm, hm2, fun _ _ => List.nodup_range, fun _ _ i hi => List.mem_range.1 hi, fun _ _ => Nat.zero_le _, fun _ _ => Nat.zero_le _⟩

/-! ### a shard's lapse, one by one -/
theorem st_ext {K L : St} (h1 : K.n = L.n) (h2 : K.m = L.m) (h3 : ∀ a b, K.gen a b = L.gen a b) (h4 : ∀ a b, K.bnd a b = L.bnd a b) (h5 : ∀ a, K.row a = L.row a) : K = L := by
  obtain ⟨n, m, g, b, r⟩ := K
  obtain ⟨n', m', g', b', r'⟩ := L
  simp only at h1 h2 h3 h4 h5
  obtain rfl : g = g' := funext fun a => funext fun b => h3 a b
  obtain rfl : b = b' := funext fun a => funext fun b => h4 a b
  obtain rfl : r = r' := funext h5
  subst h1 h2
  rfl
theorem stepTo_zero (K : St) (k : Nat) : stepTo K k 0 = K := st_ext rfl rfl (fun a b => by simp [stepTo]) (fun _ _ => rfl) (fun _ => rfl)
theorem stepTo_gen {K : St} (h : Ok K) {k j i : Nat} (hk : k < K.n) (hj : (K.row k)[j]? = some i) : (stepTo K k j).gen k i = K.gen k i := by
  show (if _ then _ else _ : Nat) = _
  rw [if_neg]
  rintro ⟨_, hm⟩
  obtain ⟨a, ha⟩ := List.mem_iff_getElem?.1 hm
  rw [List.getElem?_take] at ha
  split at ha
  · rename_i hlt
    have := h.nodup k hk
    have h1 := (List.getElem?_eq_some_iff.1 ha)
    have h2 := (List.getElem?_eq_some_iff.1 hj)
    have hp := List.pairwise_iff_getElem.1 this
    exact hp a j h1.1 h2.1 hlt (h1.2.trans h2.2.symm)
  · cases ha
theorem take_one {l : List Nat} {j i : Nat} (hj : l[j]? = some i) : l.take (j + 1) = l.take j ++ [i] := by
  obtain ⟨h1, h2⟩ := List.getElem?_eq_some_iff.1 hj
  rw [List.take_add_one, hj]; rfl
theorem stepTo_hit {K : St} (h : Ok K) {k j i : Nat} (hk : k < K.n) (hj : (K.row k)[j]? = some i) (hl : K.gen k i < K.bnd k i) : stepTo K k (j + 1) = setGen (stepTo K k j) k i (K.bnd k i) := by
  have hi : i ∈ K.row k := List.mem_iff_getElem?.2 ⟨j, hj⟩
  refine st_ext rfl rfl (fun a b => ?_) (fun _ _ => rfl) (fun _ => rfl)
  show (if a = k ∧ b ∈ (K.row k).take (j + 1) then lapG K a b else K.gen a b) = up2 (stepTo K k j).gen k i (K.bnd k i) a b
  rw [take_one hj]
  by_cases hab : a = k ∧ b = i
  · obtain ⟨rfl, rfl⟩ := hab
    rw [up2_same, if_pos ⟨rfl, by simp⟩]
    exact if_pos ⟨hi, hl⟩
  · rw [up2_other hab]
    show _ = (if a = k ∧ b ∈ (K.row k).take j then lapG K a b else K.gen a b)
    congr 1
    simp only [List.mem_append, List.mem_singleton, eq_iff_iff]
    exact ⟨fun ⟨h1, h2⟩ => ⟨h1, h2.resolve_right fun h3 => hab ⟨h1, h3⟩⟩, fun ⟨h1, h2⟩ => ⟨h1, .inl h2⟩⟩
theorem stepTo_miss {K : St} (h : Ok K) {k j i : Nat} (hk : k < K.n) (hj : (K.row k)[j]? = some i) (hl : ¬ K.gen k i < K.bnd k i) : stepTo K k (j + 1) = stepTo K k j := by
  refine st_ext rfl rfl (fun a b => ?_) (fun _ _ => rfl) (fun _ => rfl)
  show (if a = k ∧ b ∈ (K.row k).take (j + 1) then lapG K a b else K.gen a b) = (if a = k ∧ b ∈ (K.row k).take j then lapG K a b else K.gen a b)
  rw [take_one hj]
  by_cases hab : a = k ∧ b = i
  · obtain ⟨rfl, rfl⟩ := hab
    have : lapG K a b = K.gen a b := if_neg fun ⟨_, h2⟩ => hl h2
    rw [this]; simp
  · congr 1
    simp only [List.mem_append, List.mem_singleton, eq_iff_iff]
    exact ⟨fun ⟨h1, h2⟩ => ⟨h1, h2.resolve_right fun h3 => hab ⟨h1, h3⟩⟩, fun ⟨h1, h2⟩ => ⟨h1, .inl h2⟩⟩
theorem lapse_part (K : St) {k j i : Nat} (hj : (K.row k)[j]? = some i) : (((K.row k).take (j + 1)).filter fun i => decide (K.gen k i < K.bnd k i)).length = (((K.row k).take j).filter fun i => decide (K.gen k i < K.bnd k i)).length + if K.gen k i < K.bnd k i then 1 else 0 := by
  rw [take_one hj, List.filter_append, List.length_append]
  by_cases h : K.gen k i < K.bnd k i <;> simp [h]
/-- the whole row has lapsed, and the worn ones leave -/
theorem stepTo_all (K : St) (k : Nat) : ∀ i ∈ K.row k, (stepTo K k (K.row k).length).gen k i = lapG K k i := fun i hi => by
  show (if _ then _ else _ : Nat) = _
  rw [List.take_length, if_pos ⟨rfl, hi⟩]
theorem lapseTo_zero (K : St) : lapseTo K 0 = K := st_ext rfl rfl (fun a b => by simp [lapseTo]) (fun _ _ => rfl) (fun a => by simp [lapseTo])
theorem lapG_out {K : St} {k i : Nat} (h : i ∉ K.row k) : lapG K k i = K.gen k i := if_neg fun ⟨h1, _⟩ => h h1
/-- shard k of a pool of which the first k have lapsed -/
def lapOne (K : St) (k : Nat) : St := setRow (stepTo K k (K.row k).length) k ((K.row k).filter fun i => decide (lapG K k i < MG))
theorem lapseTo_succ (K : St) (k : Nat) : lapOne (lapseTo K k) k = lapseTo K (k + 1) := by
  have hrow : (lapseTo K k).row k = K.row k := by show (if k < k then _ else _ : List Nat) = _; rw [if_neg (Nat.lt_irrefl _)]
  have hgen : ∀ i, (lapseTo K k).gen k i = K.gen k i := fun i => by show (if k < k then _ else _ : Nat) = _; rw [if_neg (Nat.lt_irrefl _)]
  have hlap : ∀ i, lapG (lapseTo K k) k i = lapG K k i := fun i => by
    unfold lapG
    rw [hrow, hgen]; rfl
  refine st_ext rfl rfl (fun a b => ?_) (fun _ _ => rfl) (fun a => ?_)
  · show (if a = k ∧ b ∈ ((lapseTo K k).row k).take ((lapseTo K k).row k).length then lapG (lapseTo K k) a b else (lapseTo K k).gen a b) = (if a < k + 1 then lapG K a b else K.gen a b)
    rw [List.take_length, hrow]
    by_cases ha : a = k
    · subst ha
      rw [if_pos (show a < a + 1 by omega)]
      by_cases hb : b ∈ K.row a
      · rw [if_pos ⟨rfl, hb⟩, hlap]
      · rw [if_neg (fun h => hb h.2), hgen, lapG_out hb]
    · rw [if_neg (fun h => ha h.1)]
      show (if a < k then lapG K a b else K.gen a b) = _
      by_cases h : a < k
      · rw [if_pos h, if_pos (by omega)]
      · rw [if_neg h, if_neg (by omega)]
  · show up1 (lapseTo K k).row k _ a = (if a < k + 1 then _ else _ : List Nat)
    by_cases ha : a = k
    · subst ha
      rw [up1_same, if_pos (by omega), hrow]
      congr 1
      funext i
      rw [hlap]
    · rw [up1_other ha]
      show (if a < k then _ else _ : List Nat) = _
      by_cases h : a < k
      · rw [if_pos h, if_pos (by omega)]
      · rw [if_neg h, if_neg (by omega)]
end Ids
end Go.Proofs.Ytdanpdlbbgcidaa
