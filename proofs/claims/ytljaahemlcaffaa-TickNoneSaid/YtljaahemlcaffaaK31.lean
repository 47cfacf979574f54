/- The document's Zone: what it answers. -/
import Derived.Test.YtljaahemlcaffaaK29
import Derived.Test.YtljaahemlcaffaaK14
namespace Go.Proofs.Ytljaahemlcaffaa
open Go.RowKit
open Zn (Ok There)

theorem jc_bd {C R S D V : Int} (ok : Ok C R S D V) {j : Nat} (hj : (j : Int) < R) : 0 ≤ (j : Int) * C ∧ (j : Int) * C + C ≤ 16 ∧ (j : Int) * C + C ≤ C * R ∧ ((j + 1 : Nat) : Int) * C = (j : Int) * C + C := by
  have h0 : ((j + 1 : Nat) : Int) * C = (j : Int) * C + C := by rw [show ((j + 1 : Nat) : Int) = (j : Int) + 1 by omega, Int.add_mul, Int.one_mul]
  have h1 : 0 ≤ (j : Int) * C := Int.mul_nonneg (by omega) (by have := ok.c0; omega)
  have h2 : ((j + 1 : Nat) : Int) * C ≤ R * C := Int.mul_le_mul_of_nonneg_right (by omega) (by have := ok.c0; omega)
  have h3 := Zn.mul_bd ok
  rw [Int.mul_comm R C] at h2
  omega
theorem zone_at {C R S D V k : Int} (ok : Ok C R S D V) {i j : Nat} (hi : (i : Int) < C) (hj : (j : Int) < R) (hk : k = (j : Int) * C + i) : Zn.zone C R S k = ⟨(i : Int) * S, (j : Int) * S, ((i : Int) + 1) * S, ((j : Int) + 1) * S⟩ := by
  have b := jc_bd ok hj
  have e1 : k % C = i := by rw [hk, Int.add_comm, Int.mul_comm, Int.add_mul_emod_self_left, Int.emod_eq_of_lt (by omega) hi]
  have e2 : k / C = j := by rw [hk, Int.add_comm, Int.add_mul_ediv_right _ _ (by have := ok.c0; omega), Int.ediv_eq_zero_of_lt (by omega) hi]; omega
  rw [Zn.zone_yes ⟨by omega, by omega⟩, e1, e2, Int.add_mul, Int.one_mul, Int.add_mul, Int.one_mul]

/-- the config's box, the result's -/
def RzRel (w : World) (C R S D V N Q : Int) (wr : World) : Prop :=
  Below w.heap.size w wr ∧ wr.heap[w.heap.size]? = C7 C R S D V N Q ∧ wr.heap[w.heap.size + 1]? = some (.cells #[.int .i64 0, .int .i64 0, .int .i64 0, .int .i64 0] 102 (0, 0))
theorem rz_start (w : World) (C R S D V N Q : Int) : RzRel w C R S D V N Q ((w.alloc (.cells #[.int .i64 C, .int .i64 R, .int .i64 S, .int .i64 D, .int .i64 V, .int .i64 N, .int .i64 Q] 23)).alloc (.cells #[.int .i64 0, .int .i64 0, .int .i64 0, .int .i64 0] 102)) :=
  ⟨bel2 _ _ _, at2a _ _ _, at2b _ _ _⟩
end Go.Proofs.Ytljaahemlcaffaa
