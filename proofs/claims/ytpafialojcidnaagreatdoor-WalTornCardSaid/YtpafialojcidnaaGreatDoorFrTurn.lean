/- A frame's bytes in a row of the call's own, turned one by one. -/
import Derived.Test.YtpafialojcidnaaGreatDoorFrAll
import Derived.Lib.ConvBytes
namespace Go.Proofs.YtpafialojcidnaaGreatDoor
open Go.RowKit
set_option linter.unusedVariables false

/-! ### over lists -/
theorem turn_len (s : List UInt8) (k : Nat) (b : List UInt8) : (Fr.turn s k b).length = s.length + 7 := by
  unfold Fr.turn
  have := Fr.frame_len s
  rw [List.length_append, Fr.xorl_len, List.length_take, List.length_drop]
  omega
theorem turn_zero (s : List UInt8) (k : Nat) : Fr.turn s k [] = Fr.frame s := Fr.turn_none s k [] rfl
theorem turn_at (s : List UInt8) (k : Nat) (b : List UInt8) (j : Nat) (h : 3 + k + j < s.length + 7) : (Fr.turn s k (b.take j))[3 + k + j]? = (Fr.frame s)[3 + k + j]? := by
  have hl := Fr.frame_len s
  unfold Fr.turn
  rw [List.getElem?_append_right (by rw [List.length_take]; omega), List.length_take, show 3 + k + j - min (3 + k) (Fr.frame s).length = j by omega, Fr.xorl_get _ _ _ (by rw [List.length_drop]; omega)]
  rw [List.getElem?_eq_getElem (by omega : 3 + k + j < (Fr.frame s).length)]
  simp
theorem turn_next (s : List UInt8) (k : Nat) (b : List UInt8) (j : Nat) (hj : j < b.length) (h : 3 + k + j < s.length + 7) (v : UInt8) (hv : (Fr.frame s)[3 + k + j]? = some v) :
    Fr.turn s k (b.take (j + 1)) = (Fr.turn s k (b.take j)).set (3 + k + j) (v ^^^ b[j]) := by
  have hl := Fr.frame_len s
  unfold Fr.turn
  rw [Fr.xorl_take _ _ _ hj (by rw [List.length_drop]; omega), List.set_append_right _ _ (by rw [List.length_take]; omega), List.length_take, show 3 + k + j - min (3 + k) (Fr.frame s).length = j by omega]
  congr 3
  rw [List.getElem?_eq_getElem (by omega : 3 + k + j < (Fr.frame s).length)] at hv
  simp only [Option.some.injEq] at hv
  simp [hv]
/-- is one of the first j bytes no nought? -/
def someB (b : List UInt8) : Bool := b.any (· != 0)
theorem someB_next (b : List UInt8) (j : Nat) (hj : j < b.length) : someB (b.take (j + 1)) = (someB (b.take j) || b[j] != 0) := by
  unfold someB
  rw [List.take_succ_eq_append_getElem hj, List.any_append]
  simp
theorem someB_all (b : List UInt8) : someB b = !b.all (· == 0) := by
  unfold someB
  induction b with
  | nil => rfl
  | cons a b ih => rw [List.any_cons, List.all_cons, ih, Bool.not_and]; rfl
/-- the bytes that are turned -/
theorem bits_len (n k : Nat) (b : List UInt8) (h4 : b.length = 4) (hk : k < n + 4) : 1 ≤ (Fr.bits n k b).length ∧ (Fr.bits n k b).length ≤ 4 ∧ (k < n → (Fr.bits n k b).length ≤ n - k) ∧ (n ≤ k → (Fr.bits n k b).length = 1) ∧ ∀ j, j < 4 → (j = 0 ∨ k < n) → (j < (Fr.bits n k b).length ↔ (j = 0 ∨ k + j < n)) := by
  unfold Fr.bits
  split
  · rename_i h
    rw [List.length_take, h4]
    refine ⟨by omega, by omega, fun _ => by omega, fun h' => by omega, fun j hj _ => by omega⟩
  · rename_i h
    rw [List.length_take, h4]
    refine ⟨by omega, by omega, fun h' => by omega, fun _ => by omega, fun j hj h' => by omega⟩
theorem bits_at (n k : Nat) (b : List UInt8) (j : Nat) (hj : j < (Fr.bits n k b).length) : (Fr.bits n k b)[j]? = b[j]? := by
  unfold Fr.bits at *
  split at hj
  · rename_i h
    rw [if_pos h, List.getElem?_take_of_lt (by rw [List.length_take] at hj; omega)]
  · rename_i h
    rw [if_neg h, List.getElem?_take_of_lt (by rw [List.length_take] at hj; omega)]
/-- what is read of the turned frame -/
theorem turned_reads (s : List UInt8) (k : Nat) (b : List UInt8) (h4 : b.length = 4) (hk : k < s.length + 4) (hs : s.length ≤ 65536) :
    (someB (Fr.bits s.length k b) = true → Reads1 (Fr.turn s k (Fr.bits s.length k b)) (0 : Int) = .tuple #[.string ⟨#[]⟩, .int .i64 0, .int .i64 3]) ∧
    (someB (Fr.bits s.length k b) = false → Reads1 (Fr.turn s k (Fr.bits s.length k b)) (0 : Int) = .tuple #[.string ⟨s.toArray⟩, .int .i64 ((s.length : Int) + 7), .int .i64 0]) := by
  obtain ⟨l1, l2, l3, l4, _⟩ := bits_len s.length k b h4 hk
  constructor
  · intro h
    rw [someB_all] at h
    have hn : (Fr.bits s.length k b).all (· == 0) = false := by simpa using h
    have hf : Fr.first (Fr.turn s k (Fr.bits s.length k b)) = (3, []) := by
      by_cases hkn : k < s.length
      · exact Fr.turn_text s k _ hkn l2 (l3 hkn) hn hs
      · exact Fr.turn_sum s k _ (by omega) (by rw [l4 (by omega)]; omega) hn hs
    exact reads1_bad (p := 0) (Nat.zero_le _) hf (by decide)
  · intro h
    rw [someB_all] at h
    have hn : (Fr.bits s.length k b).all (· == 0) = true := by simpa using h
    rw [Fr.turn_none s k _ hn]
    have hf := Fr.first_frame s [] hs
    rw [List.append_nil] at hf
    refine (reads1_ok (s := Fr.frame s) (p := 0) (Nat.zero_le _) hf).trans ?_
    rw [show ((0 : Nat) : Int) + s.length + 7 = (s.length : Int) + 7 by omega]
/-- the place from which on bytes are turned -/
theorem at_is (a : Int) (n : Nat) (hn : n ≤ 1000000) : ∃ (x : Int) (k : Nat), a.tmod ((n : Int) + 4) = x ∧ (x + n + 4).tmod ((n : Int) + 4) = (k : Int) ∧ k < n + 4 ∧ -1000005 ≤ x ∧ x ≤ 1000005 := by
  have h0 : ((n : Int) + 4) ≠ 0 := by omega
  have a1 := Int.tmod_lt_of_pos a (show 0 < (n : Int) + 4 by omega)
  have a2 := Int.lt_tmod_of_pos a (show 0 < (n : Int) + 4 by omega)
  have b0 : 0 ≤ a.tmod ((n : Int) + 4) + n + 4 := by omega
  have b1 := Int.tmod_eq_emod_of_nonneg (b := (n : Int) + 4) b0
  have b2 := Int.emod_nonneg (a.tmod ((n : Int) + 4) + n + 4) h0
  have b3 := Int.emod_lt_of_pos (a.tmod ((n : Int) + 4) + n + 4) (show 0 < (n : Int) + 4 by omega)
  exact ⟨_, ((a.tmod ((n : Int) + 4) + n + 4).tmod ((n : Int) + 4)).toNat, rfl, by omega, by omega, by omega, by omega⟩

/-! ### in a world -/
/-- the bytes L, and z noughts behind them -/
def row (L : List UInt8) (z : Nat) : Array Value := (Lib.byteCells L).toArray ++ Array.replicate z (.int .u8 0)
theorem row_size (L : List UInt8) (z : Nat) : (row L z).size = L.length + z := by simp [row, Lib.byteCells_length]
theorem row_at (L : List UInt8) (z i : Nat) (v : UInt8) (h : L[i]? = some v) : (row L z)[i]? = some (.int .u8 (v.toNat : Int)) := by
  have hi := (List.getElem?_eq_some_iff.1 h).1
  unfold row
  rw [Array.getElem?_append_left (by simp [Lib.byteCells_length]; exact hi)]
  simp [Lib.byteCells, h]
theorem row_set (L : List UInt8) (z i : Nat) (v : UInt8) (hi : i < L.length) : (row L z).setIfInBounds i (.int .u8 (v.toNat : Int)) = row (L.set i v) z := by
  unfold row
  apply Array.ext'
  rw [Array.toList_setIfInBounds, Array.toList_append, Array.toList_append, List.set_append_left _ _ (by simp [Lib.byteCells_length]; exact hi)]
  simp [Lib.byteCells, List.map_set]
def RowAt (W : World) (g : Nat) (L : List UInt8) (z : Nat) : Prop := W.heap[g]? = some (.cells (row L z) 5 (L.length + z, L.length + z + 1))
theorem RowAt.cell {W : World} {g z : Nat} {L : List UInt8} (h : RowAt W g L z) (i : Nat) (v : UInt8) (hv : L[i]? = some v) : W.cell? ⟨g, i, none⟩ = some (.int .u8 (v.toNat : Int)) := by
  rw [Lib.cell_of_heap h]
  exact row_at L z i v hv
theorem RowAt.frozen {W : World} {g z : Nat} {L : List UInt8} (h : RowAt W g L z) (i : Nat) (hi : i < L.length) : W.frozen? ⟨g, i, none⟩ = false := by
  unfold RowAt at h
  simp [World.frozen?, h]
  omega
theorem RowAt.set {W : World} {g z : Nat} {L : List UInt8} (h : RowAt W g L z) (i : Nat) (hi : i < L.length) (v : UInt8) : RowAt (W.setCell ⟨g, i, none⟩ (.int .u8 (v.toNat : Int))) g (L.set i v) z := by
  unfold RowAt at *
  rw [List.length_set, ← row_set L z i v hi]
  simp [World.setCell, Array.getElem?_modify, h]
theorem RowAt.lt {W : World} {g z : Nat} {L : List UInt8} (h : RowAt W g L z) : g < W.heap.size := lt_of_row h
theorem RowAt.string {W : World} {g z cap n : Nat} {L : List UInt8} (h : RowAt W g L z) (hn : L.length = n) : (convert 48 9 (.slice (some ⟨g, 0, none⟩) n cap)).run Tryz.prog W = .ok (.string ⟨L.toArray⟩) W := by
  subst hn
  refine run_convert_bytes_back (P := Tryz.prog) W 48 9 5 ⟨g, 0, none⟩ cap L Tryz.underlying48 Tryz.underlying5 Tryz.underlying9 (fun j hj => ?_)
  rw [show (⟨g, 0, none⟩ : Addr).add j = ⟨g, 0 + j, none⟩ by unfold Addr.add; split <;> simp_all, Nat.zero_add]
  exact h.cell j _ (List.getElem?_eq_getElem hj)

set_option maxRecDepth 100000 in
theorem bytes_new (w : World) (f : List UInt8) : ∃ z cap W, (convert 9 48 (.string ⟨f.toArray⟩)).run Tryz.prog w = .ok (.slice (some ⟨w.heap.size, 0, none⟩) f.length cap) W ∧ RowAt W w.heap.size f z ∧ Below w.heap.size w W := by
  have h := Lib.run_convert_string_bytes (P := Tryz.prog) w 9 48 5 ⟨f.toArray⟩ Tryz.underlying9 Tryz.underlying48 Tryz.underlying5
  have hsz : (ByteArray.mk f.toArray).size = f.length := by simp [ByteArray.size]
  refine ⟨grownCap w f.length 0 5 - f.length, grownCap w f.length 0 5, Lib.bytesWorld w 5 ⟨f.toArray⟩, by rw [h, hsz], ?_, ?_⟩
  · have hb := Lib.bytesWorld_at_new w 5 ⟨f.toArray⟩
    have e : Lib.bytesCells w 5 ⟨f.toArray⟩ = row f (grownCap w f.length 0 5 - f.length) := by
      unfold Lib.bytesCells row
      rw [hsz]
      congr 1
      simp [Lib.byteCells]
    unfold RowAt
    rw [hb, e, row_size]
  · refine ⟨?_, ?_, ?_, by rw [Lib.bytesWorld_size]; omega, fun k hk => Lib.bytesWorld_at_old w _ _ k hk⟩ <;> (unfold Lib.bytesWorld World.freeze; rw [if_neg (by decide)]; rfl)
end Go.Proofs.YtpafialojcidnaaGreatDoor
