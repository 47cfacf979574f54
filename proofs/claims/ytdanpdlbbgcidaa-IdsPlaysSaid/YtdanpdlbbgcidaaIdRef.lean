/- The document's pool: a row of slots, six cells each; its box; where an index stands. -/
import Derived.Test.YtdanpdlbbgcidaaIdHold
import Derived.Test.YtdanpdlbbgcidaaIdCode
namespace Go.Proofs.Ytdanpdlbbgcidaa
open Go.RowKit Ids
set_option linter.unusedVariables false

/-- where the document's pool lies: its box, its slots, how many were put into rows, and when each was -/
structure RPl where
  d : Nat
  b : Nat
  c : Nat
  put : Nat
  when_ : Nat → Nat → Nat
def rowNo (q : RPl) (K : St) (k i : Nat) : Int := if i ∈ K.row k then (q.when_ k i : Int) else -1
structure SlotAt (cur : Array Value) (q : RPl) (K : St) (k i : Nat) : Prop where
  shard : cur[(k * K.m + i) * 6]? = some (.int .i64 (k : Int))
  index : cur[(k * K.m + i) * 6 + 1]? = some (.int .i64 (i : Int))
  gen : cur[(k * K.m + i) * 6 + 2]? = some (.int .i64 (K.gen k i : Int))
  bnd : cur[(k * K.m + i) * 6 + 3]? = some (.int .i64 (K.bnd k i : Int))
  row : cur[(k * K.m + i) * 6 + 4]? = some (.int .i64 (rowNo q K k i))
  alive : cur[(k * K.m + i) * 6 + 5]? = some (.bool (taken K k i))
structure RA (W : World) (q : RPl) (K : St) : Prop where
  ok : Ok K
  box : W.heap[q.d]? = some (.cells #[.slice (some ⟨q.b, 0, none⟩) (K.n * K.m) q.c, .int .i64 (q.put : Int)] 65 (0, 0))
  cap : K.n * K.m ≤ q.c
  slots : ∃ cur, W.heap[q.b]? = some (.cells cur 67 (0, 0)) ∧ ∀ k i, k < K.n → i < K.m → SlotAt cur q K k i
  rise : ∀ k, k < K.n → (K.row k).Pairwise fun i j => q.when_ k i < q.when_ k j
  low : ∀ k, k < K.n → ∀ i ∈ K.row k, q.when_ k i < q.put
  few : q.put ≤ 1000000
section
variable {w W W' : World} {q : RPl} {K : St}
theorem RA.kept (h : RA W q K) (hd : W'.heap[q.d]? = W.heap[q.d]?) (hb : W'.heap[q.b]? = W.heap[q.b]?) : RA W' q K := by
  obtain ⟨cur, h1, h2⟩ := h.slots
  exact ⟨h.ok, hd.trans h.box, h.cap, ⟨cur, hb.trans h1, h2⟩, h.rise, h.low, h.few⟩
theorem RA.below (h : RA W q K) (hb : Below W.heap.size W W') : RA W' q K := by
  obtain ⟨cur, h1, h2⟩ := h.slots
  exact h.kept (hb.block _ (heap_lt h.box)) (hb.block _ (heap_lt h1))
theorem RA.size (h : RA W q K) : K.n * K.m ≤ 256 := by
  have h1 := h.ok.n2
  have h2 := h.ok.m2
  exact Nat.mul_le_mul h1 h2
theorem RA.box0 (h : RA W q K) : W.cell? ⟨q.d, 0, none⟩ = some (Value.slice (some ⟨q.b, 0, none⟩) (K.n * K.m) q.c) := (cell_of h.box rfl).1
theorem RA.slot (h : RA W q K) {k i : Nat} (hk : k < K.n) (hi : i < K.m) :
    (W.cell? ⟨q.b, (k * K.m + i) * 6, none⟩ = some (.int .i64 (k : Int)) ∧ W.cell? ⟨q.b, (k * K.m + i) * 6 + 1, none⟩ = some (.int .i64 (i : Int)) ∧ W.cell? ⟨q.b, (k * K.m + i) * 6 + 2, none⟩ = some (.int .i64 (K.gen k i : Int)) ∧
      W.cell? ⟨q.b, (k * K.m + i) * 6 + 3, none⟩ = some (.int .i64 (K.bnd k i : Int)) ∧ W.cell? ⟨q.b, (k * K.m + i) * 6 + 4, none⟩ = some (.int .i64 (rowNo q K k i)) ∧ W.cell? ⟨q.b, (k * K.m + i) * 6 + 5, none⟩ = some (.bool (taken K k i))) ∧
    (∀ c, c < 6 → W.frozen? ⟨q.b, (k * K.m + i) * 6 + c, none⟩ = false) := by
  obtain ⟨cur, h1, h2⟩ := h.slots
  have s := h2 k i hk hi
  refine ⟨⟨(cell_of h1 s.shard).1, (cell_of h1 s.index).1, (cell_of h1 s.gen).1, (cell_of h1 s.bnd).1, (cell_of h1 s.row).1, (cell_of h1 s.alive).1⟩, fun c hc => ?_⟩
  match c, hc with
  | 0, _ => exact (cell_of h1 s.shard).2
  | 1, _ => exact (cell_of h1 s.index).2
  | 2, _ => exact (cell_of h1 s.gen).2
  | 3, _ => exact (cell_of h1 s.bnd).2
  | 4, _ => exact (cell_of h1 s.row).2
  | 5, _ => exact (cell_of h1 s.alive).2
def rat (K : St) (k i : Int) : Int := if In K k i then k * K.m + i else -1
set_option maxHeartbeats 4000000 in
/-- where an index stands -/
theorem rat_any (h : RA w q K) (k i : Int) : Calls Try.prog 44 #[.pointer (some ⟨q.d, 0, none⟩), .int .i64 k, .int .i64 i] w fun e w' => e = .returned (.int .i64 (rat K k i)) ∧ w = w' := by
  have c0 := h.box0
  have hs := h.size
  have hm1 := h.ok.m1
  have HS := Lib.hid (fun (p : Nat) (hp : p < K.n * K.m) => by
    obtain ⟨h1, h2, h3⟩ := pos_of hm1 hp
    have := (h.slot h1 h2).1
    rw [h3] at this
    exact (⟨this.1, this.2.1⟩ : w.cell? ⟨q.b, p * 6, none⟩ = some (.int .i64 ((p / K.m : Nat) : Int)) ∧ w.cell? ⟨q.b, p * 6 + 1, none⟩ = some (.int .i64 ((p % K.m : Nat) : Int))))
  have HIT : Hid (∀ p : Nat, p < K.n * K.m → ((p / K.m : Nat) : Int) = k → ((p % K.m : Nat) : Int) = i → rat K k i = (p : Int)) := Lib.hid fun p hp e1 e2 => by
    obtain ⟨h1, h2, h3⟩ := pos_of hm1 hp
    unfold rat
    rw [← e1, ← e2, if_pos ⟨Int.natCast_nonneg _, Int.ofNat_lt.2 h1, Int.natCast_nonneg _, Int.ofNat_lt.2 h2⟩, ← Int.natCast_mul, ← Int.natCast_add, h3]
  have MISS : Hid ((∀ p : Nat, p < K.n * K.m → ¬ (((p / K.m : Nat) : Int) = k ∧ ((p % K.m : Nat) : Int) = i)) → rat K k i = -1) := Lib.hid fun hp => by
    unfold rat
    refine if_neg fun hin => ?_
    obtain ⟨a1, a2, a3, a4⟩ := hin
    obtain ⟨k', rfl⟩ := Int.eq_ofNat_of_zero_le a1
    obtain ⟨i', rfl⟩ := Int.eq_ofNat_of_zero_le a3
    have h1 : k' < K.n := by omega
    have h2 : i' < K.m := by omega
    exact hp _ (pos_lt h1 h2) ⟨by rw [pos_div h2], by rw [pos_mod h2]⟩
  generalize K.n * K.m = N at *
  generalize rat K k i = res at *
  go_enter Try.func44, Try.ntmps44
  go_wp2
  go_loopw [7] (fun x wr => ∃ p : Nat, p ≤ N ∧ x = .int .i64 p ∧ wr = w ∧ Hid (∀ p' : Nat, p' < p → ¬ (((p' / K.m : Nat) : Int) = k ∧ ((p' % K.m : Nat) : Int) = i))) (fun x _ => N - (intOf x).toNat)
  case atStart => exact ⟨0, Nat.zero_le _, rfl, rfl, Lib.hid fun p' hp => absurd hp (Nat.not_lt_zero _)⟩
  case round =>
    obtain ⟨p, hp, rfl, rfl, HN⟩ := hrel
    by_cases hpl : p < N
    · have t1 : (p : Int) < (N : Int) := by omega
      obtain ⟨c1, c2⟩ := HS.out p hpl
      have HIT := Lib.hid (HIT.out p hpl)
      clear HS MISS
      generalize ha : ((p / K.m : Nat) : Int) = a at *
      generalize hb : ((p % K.m : Nat) : Int) = b at *
      by_cases e1 : a = k
      · by_cases e2 : b = i
        · have := HIT.out e1 e2
          have t2 : (a == k) = true := beq_iff_eq.2 e1
          have t3 : (b == i) = true := beq_iff_eq.2 e2
          clear e1 e2 ha hb HIT HN
          subst this
          go_wp2
          go_ret
          exact ⟨rfl, rfl⟩
        · have NN : Hid (∀ p' : Nat, p' < p + 1 → ¬ (((p' / K.m : Nat) : Int) = k ∧ ((p' % K.m : Nat) : Int) = i)) := Lib.hid fun p' hp' ⟨q1, q2⟩ => by
            by_cases e : p' = p
            · subst e; exact e2 (hb.symm.trans q2)
            · exact HN.out p' (by omega) ⟨q1, q2⟩
          have t2 : (a == k) = true := beq_iff_eq.2 e1
          have t3 : (b == i) = false := beq_eq_false_iff_ne.2 e2
          clear e1 e2 ha hb HIT HN
          go_wp2
          go_roundw
          case rel => exact ⟨p + 1, by omega, by go_num, trivial, NN⟩
          case measure => simp [intOf]; omega
      · have NN : Hid (∀ p' : Nat, p' < p + 1 → ¬ (((p' / K.m : Nat) : Int) = k ∧ ((p' % K.m : Nat) : Int) = i)) := Lib.hid fun p' hp' ⟨q1, q2⟩ => by
          by_cases e : p' = p
          · subst e; exact e1 (ha.symm.trans q1)
          · exact HN.out p' (by omega) ⟨q1, q2⟩
        have t2 : (a == k) = false := beq_eq_false_iff_ne.2 e1
        clear e1 ha hb HIT HN
        go_wp2
        go_roundw
        case rel => exact ⟨p + 1, by omega, by go_num, trivial, NN⟩
        case measure => simp [intOf]; omega
    · have t1 : ¬ (p : Int) < (N : Int) := by omega
      have := MISS.out fun p' hp' => HN.out p' (by omega)
      clear HS HIT HN MISS
      subst this
      go_wp2
      go_ret
      exact ⟨rfl, rfl⟩
end
end Go.Proofs.Ytdanpdlbbgcidaa
