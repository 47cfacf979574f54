/- OctRdr0, OctBld, OctLay, OctInt, OctNum, OctNum2, OctRdr, OctRdr2, in one text. -/
import Derived.Test.YtdhlebmgeiiejaaGreatRows
import Derived.WalkKit
import Derived.WalkSpells
import Derived.WalkLawsBesides
import Derived.BigQuiet
import Derived.Deep.QuietTactic
import Derived.Deep.RegionWith
import Derived.Lib.Hide
import Derived.IntWalk
import Derived.Laws.IdiomStrings
import Derived.Laws.Concat
import Derived.Deep.DeepMust
import Derived.Test.YtdhlebmgeiiejaaGreatKPure
import Derived.Test.YtdhlebmgeiiejaaGreatShelf
import Derived.Lib.Builder
import Derived.Lib.AppendStr
import Derived.Laws.Externs
import Derived.Test.YtdhlebmgeiiejaaGreatKOctRef3
import Derived.Test.YtdhlebmgeiiejaaGreatKBase
import Derived.Laws.BitsAllLaws
namespace Go.Proofs.YtdhlebmgeiiejaaGreat
open Go.RowKit
set_option linter.unusedVariables false

theorem lt_of_row {w : World} {b : Nat} {o : Obj} (h : w.heap[b]? = some o) : b < w.heap.size := by
  rcases Nat.lt_or_ge b w.heap.size with h' | h'
  · exact h'
  · simp [Array.getElem?_eq_none h'] at h
/-- block b is a reader: what it has left, and whether it is bad -/
def Rdr (T : TypeId) (b : Nat) (s : List UInt8) (bad : Bool) (w : World) : Prop := w.heap[b]? = some (.cells #[.string ⟨s.toArray⟩, .bool bad] T (0, 0))
section
variable {T : TypeId} {b : Nat} {s : List UInt8} {bad : Bool} {w w' : World}
theorem Rdr.lt (h : Rdr T b s bad w) : b < w.heap.size := lt_of_row h
theorem Rdr.c0 (h : Rdr T b s bad w) : w.cell? ⟨b, 0, none⟩ = some (.string ⟨s.toArray⟩) := by rw [Lib.cell_of_heap h]; rfl
theorem Rdr.c1 (h : Rdr T b s bad w) : w.cell? ⟨b, 1, none⟩ = some (.bool bad) := by rw [Lib.cell_of_heap h]; rfl
theorem Rdr.f (h : Rdr T b s bad w) (j : Nat) : w.frozen? ⟨b, j, none⟩ = false := Lib.frozen_of_heap h j
theorem Rdr.set0 (h : Rdr T b s bad w) (s' : List UInt8) : Rdr T b s' bad (w.setCell ⟨b, 0, none⟩ (.string ⟨s'.toArray⟩)) := by
  unfold Rdr at *
  simp [World.setCell, Array.getElem?_modify, h]
theorem Rdr.set1 (h : Rdr T b s bad w) (bad' : Bool) : Rdr T b s bad' (w.setCell ⟨b, 1, none⟩ (.bool bad')) := by
  unfold Rdr at *
  simp [World.setCell, Array.getElem?_modify, h]
theorem Rdr.below {B : Nat} (h : Rdr T b s bad w) (hb : Below B w w') (hB : b < B) : Rdr T b s bad w' := (hb.block b hB).trans h
theorem Rdr.only {row : Option Nat} (h : Rdr T b s bad w) (hb : w.grownBy w' row) (hB : some b ≠ row) : Rdr T b s bad w' := (hb.block b h.lt hB).trans h
theorem Rdr.drew (h : Rdr T b s bad w) : Rdr T b s bad w.drew := h
end

theorem only_set {a w : World} {g : Nat} (h : a.grownBy w (some g)) {p : Addr} (hp : p.block = g ∨ a.heap.size ≤ p.block) (u : Value) : a.grownBy (w.setCell p u) (some g) :=
  ⟨h.os, h.tape, h.output, by simpa [World.setCell] using h.size, fun i hi hne => (Below.heap_setCell w p u i (by
    rintro rfl
    rcases hp with hp | hp
    · exact hne (by rw [hp])
    · omega)).trans (h.block i hi hne)⟩
theorem only_below {a w w' : World} {row : Option Nat} (h : a.grownBy w row) (hb : Below w.heap.size w w') : a.grownBy w' row :=
  ⟨hb.os.trans h.os, hb.tape.trans h.tape, hb.output.trans h.output, Nat.le_trans h.size hb.size, fun i hi hn => (hb.block i (Nat.lt_of_lt_of_le hi h.size)).trans (h.block i hi hn)⟩


end Go.Proofs.YtdhlebmgeiiejaaGreat
namespace Go.Proofs.YtdhlebmgeiiejaaGreat
open Go.RowKit

theorem bld_info8 : (Tryz.prog.info? 5).map (fun i => (i.zero, i.size, i.bytes)) = some (some (.int .u8 0), 1, 1) := by kernel_rfl
theorem bld_size : (Tryz.prog.info? 90).map (·.size) = some 2 := by kernel_rfl
theorem bld_lies : liesAt Tryz.prog Tryz.prog.depth 90 (2 / Tryz.prog.cellsOf 90) 0 90 1 = true := by kernel_rfl

set_option maxHeartbeats 1000000 in
set_option maxRecDepth 100000 in
theorem check_used (b : Nat) (w : World) (h0 : w.cell? ⟨b, 0, none⟩ = some (.pointer (some ⟨b, 0, none⟩))) :
    Calls Tryz.prog 87 #[.pointer (some ⟨b, 0, none⟩)] w fun e w' => e = .returned (.tuple #[]) ∧ w' = w := by
  obtain ⟨j, hj, _⟩ := Option.map_eq_some_iff.1 bld_size
  go_enter Tryz.func87, Tryz.ntmps87
  go_wp2
  rw [Lib.run_neq_ptr_same w _ Tryz.underlying87 hj]
  go_wp2
  go_end0
  exact ⟨rfl, rfl⟩

set_option maxHeartbeats 1000000 in
set_option maxRecDepth 100000 in
theorem check_fresh (b : Nat) (w : World) (h0 : w.cell? ⟨b, 0, none⟩ = some (.pointer none)) (hsh : w.shape? b = some (90, 2)) (hfz : w.frozen? ⟨b, 0, none⟩ = false) :
    Calls Tryz.prog 87 #[.pointer (some ⟨b, 0, none⟩)] w fun e w' => e = .returned (.tuple #[]) ∧ w' = w.setCell ⟨b, 0, none⟩ (.pointer (some ⟨b, 0, none⟩)) := by
  obtain ⟨j, hj, hjs⟩ := Option.map_eq_some_iff.1 bld_size
  go_enter Tryz.func87, Tryz.ntmps87
  go_wp2
  rw [Lib.run_to_unsafe w ⟨b, 0, none⟩ Tryz.underlying87 Tryz.underlying138 hj (by rw [hjs]; decide) hsh (Nat.zero_lt_succ 1)]
  simp only [Result.andThen]
  rw [Oper.upon_value]
  go_wp2
  rw [run_callFunc_extern Tryz.func113 (by kernel_rfl) (by kernel_rfl) (by kernel_rfl) (e := Extern.AbiNoEscape.same) (by kernel_rfl)]
  rw [Lib.run_noEscape]
  simp only [Result.andThen]
  rw [Oper.upon_value]
  go_wp2
  rw [Lib.run_from_unsafe w ⟨b, 0, none⟩ Tryz.underlying138 Tryz.underlying87 hj hsh bld_lies]
  simp only [Result.andThen]
  rw [Oper.upon_value]
  go_wp2
  go_end0
  exact ⟨rfl, rfl⟩

/-- Behind copyCheck the builder holds its own address, and its bytes as they were. -/
theorem bcheck_any (B b : Nat) (bs : List Value) (w : World) (h : Lib.IsBuilder 90 5 B b bs w) :
    Calls Tryz.prog 87 #[.pointer (some ⟨b, 0, none⟩)] w fun e w' => e = .returned (.tuple #[]) ∧ (Lib.BuilderAt 90 5 B b (.pointer (some ⟨b, 0, none⟩)) bs w' ∧ Below B w w') := by
  rcases h with h | h
  · refine (check_fresh b w h.cell0 h.shape h.frozen0).mono ?_
    rintro e w' ⟨rfl, rfl⟩
    exact ⟨rfl, h.used _, (Below.refl B w).setCell (p := ⟨b, 0, none⟩) h.1 _⟩
  · refine (check_used b w h.cell0).mono ?_
    rintro e w' ⟨rfl, rfl⟩
    exact ⟨rfl, h, Below.refl B _⟩

set_option maxHeartbeats 1000000 in
set_option maxRecDepth 100000 in
theorem writeByte_any (B b : Nat) (bs : List Value) (c : Int) (w : World) (h : Lib.IsBuilder 90 5 B b bs w) (hlen : bs.length + 1 ≤ 140737488355328) (hBw : B ≤ w.heap.size) :
    Calls Tryz.prog 115 #[.pointer (some ⟨b, 0, none⟩), .int .u8 c] w fun e w' => e = .returned .nilIface ∧ (Lib.IsBuilder 90 5 B b (bs ++ [.int .u8 c]) w' ∧ Below B w w') := by
  obtain ⟨i0, hi, hz0, hz1, hz2⟩ := info_parts bld_info8
  go_enter Tryz.func115, Tryz.ntmps115
  go_wp2_with (go_at_call 87; refine (bcheck_any B b bs _ h).mono ?_)
  rintro e w1 ⟨rfl, h1, hb1⟩
  obtain ⟨hB, v, hbk, hown, hne⟩ := h1
  have c0 : w1.cell? ⟨b, 0, none⟩ = some (.pointer (some ⟨b, 0, none⟩)) := by rw [Lib.cell_of_heap hbk]; rfl
  have c1 : w1.cell? ⟨b, 1, none⟩ = some v := by rw [Lib.cell_of_heap hbk]; rfl
  go_wp2_with (at_builtin; refine wpList_append_own _ rfl _ _ 88 rfl B 5 i0 (.int .u8 0) 1 1 Tryz.underlying88 hi hz0 hz1 hz2 rfl (by decide) _ _ _ rfl (hown.alloc _) ⟨w1.heap.size, 0, none⟩ 1 1 [.int .u8 c] rfl rfl ?c1 ?c2 ?c3 ?c4 ?c5 ?_)
  case c1 =>
    intro j u hj
    match j, hj with
    | 0, hj => simp at hj; subst hj; simp [Addr.add]
  case c2 => intro u hu; simp at hu; subst hu; rfl
  case c3 => unfold maxLen; omega
  case c4 => omega
  case c5 => have := hb1.size; simp; omega
  intro v' w2 hown' hgrow _
  have hlt := lt_of_row hbk
  have hb2 : w2.heap[b]? = some (.cells #[.pointer (some ⟨b, 0, none⟩), v] 90 (0, 0)) := by
    rw [hgrow.block b (by simp; omega) (fun e => hne e.symm), Lib.alloc_old w1 _ b hlt]
    exact hbk
  have d0 : w2.cell? ⟨b, 0, none⟩ = some (.pointer (some ⟨b, 0, none⟩)) := by rw [Lib.cell_of_heap hb2]; rfl
  have d1 : w2.cell? ⟨b, 1, none⟩ = some v := by rw [Lib.cell_of_heap hb2]; rfl
  have f1 : w2.frozen? ⟨b, 1, none⟩ = false := Lib.frozen_of_heap hb2 1
  obtain ⟨g, cap, rfl⟩ : ∃ g cap, v' = .slice (some ⟨g, 0, none⟩) (bs.length + 1) cap := by
    rcases hown'.2 with ⟨_, h0⟩ | ⟨g, cap, cur, hv, _⟩
    · omega
    · exact ⟨g, cap, hv⟩
  go_wp2
  go_ret
  refine ⟨rfl, .inr ?_, ?_⟩
  · exact Lib.BuilderAt.put (T := 90) (e := 5) hB hb2 (bs' := bs ++ [.int .u8 c]) (by simpa using hown') (by decide)
  · exact ((hb1.alloc (by have := hb1.size; omega) _).grown hgrow (by have := hb1.size; simp; omega) (fun k hk => (hown.lt k hk).1)).setCell (p := ⟨b, 1, none⟩) hB _

set_option maxHeartbeats 1000000 in
set_option maxRecDepth 100000 in
theorem writeString_any (B b : Nat) (bs : List Value) (s : ByteArray) (w : World) (h : Lib.IsBuilder 90 5 B b bs w) (hlen : bs.length + s.size ≤ 140737488355328) (hBw : B ≤ w.heap.size) :
    Calls Tryz.prog 53 #[.pointer (some ⟨b, 0, none⟩), .string s] w fun e w' => e = .returned (.tuple #[.int .i64 s.size, .nilIface]) ∧ (Lib.IsBuilder 90 5 B b (bs ++ Lib.strCells s) w' ∧ Below B w w') := by
  obtain ⟨i0, hi, hz0, hz1, hz2⟩ := info_parts bld_info8
  go_enter Tryz.func53, Tryz.ntmps53
  go_wp2_with (go_at_call 87; refine (bcheck_any B b bs _ h).mono ?_)
  rintro e w1 ⟨rfl, h1, hb1⟩
  obtain ⟨hB, v, hbk, hown, hne⟩ := h1
  have c0 : w1.cell? ⟨b, 0, none⟩ = some (.pointer (some ⟨b, 0, none⟩)) := by rw [Lib.cell_of_heap hbk]; rfl
  have c1 : w1.cell? ⟨b, 1, none⟩ = some v := by rw [Lib.cell_of_heap hbk]; rfl
  go_wp2_with (at_builtin; refine Lib.wpList_append_own_string _ rfl _ _ 88 9 rfl B 5 i0 Tryz.underlying88 Tryz.underlying9 hi hz0 hz1 hz2 _ _ _ rfl hown s rfl ?c3 ?c4 ?c5 ?_)
  case c3 => unfold maxLen; omega
  case c4 => omega
  case c5 => have := hb1.size; omega
  intro v' w2 hown' hgrow _
  have hlt := lt_of_row hbk
  have hb2 : w2.heap[b]? = some (.cells #[.pointer (some ⟨b, 0, none⟩), v] 90 (0, 0)) := by
    rw [hgrow.block b hlt (fun e => hne e.symm)]
    exact hbk
  have d0 : w2.cell? ⟨b, 0, none⟩ = some (.pointer (some ⟨b, 0, none⟩)) := by rw [Lib.cell_of_heap hb2]; rfl
  have d1 : w2.cell? ⟨b, 1, none⟩ = some v := by rw [Lib.cell_of_heap hb2]; rfl
  have f1 : w2.frozen? ⟨b, 1, none⟩ = false := Lib.frozen_of_heap hb2 1
  obtain ⟨ao, n', cap, rfl⟩ : ∃ ao n' cap, v' = .slice ao n' cap := by
    rcases hown'.2 with ⟨hv, _⟩ | ⟨g, cap, cur, hv, _⟩
    · exact ⟨_, _, _, hv⟩
    · exact ⟨_, _, _, hv⟩
  go_wp2
  go_ret2
  refine ⟨rfl, .inr ?_, ?_⟩
  · exact Lib.BuilderAt.put (T := 90) (e := 5) hB hb2 (bs' := bs ++ Lib.strCells s) (by simpa [Lib.strCells_length] using hown') (by decide)
  · exact (hb1.grown hgrow (by have := hb1.size; omega) (fun k hk => (hown.lt k hk).1)).setCell (p := ⟨b, 1, none⟩) hB _

end Go.Proofs.YtdhlebmgeiiejaaGreat
namespace Go.Proofs.YtdhlebmgeiiejaaGreat
open Go.RowKit

/-- ^n of an int below 0 -/
theorem not_neg (n : Int) (h0 : n < 0) (h1 : -9223372036854775808 ≤ n) : bits .xor .i64 (-1) n = -n - 1 := by
  show IntKind.i64.wrap ((BitVec.ofInt 64 (-1) ^^^ BitVec.ofInt 64 n).toNat : Int) = _
  have e1 : BitVec.ofInt 64 (-1) = BitVec.allOnes 64 := by decide
  rw [e1, BitVec.allOnes_xor, BitVec.toNat_not, BitVec.toNat_ofInt]
  simp [IntKind.wrap, IntKind.bits, IntKind.signed]
  omega

/-- the byte that is laid for place i of m -/
theorem lay_byte (m i : Nat) (_hi : i < 8) : (m : Int) / 2 ^ (8 * i) % 256 = ((UInt8.ofNat (m / 256 ^ i % 256)).toNat : Int) := by
  have hp : (2 : Int) ^ (8 * i) = ((256 ^ i : Nat) : Int) := by
    have : (256 : Nat) ^ i = 2 ^ (8 * i) := by rw [Nat.pow_mul]
    rw [this]; norm_cast
  rw [hp]
  have : (UInt8.ofNat (m / 256 ^ i % 256)).toNat = m / 256 ^ i % 256 := by rw [UInt8.toNat_ofNat']; omega
  rw [this, Int.natCast_emod, Int.natCast_ediv]
  rfl

/-- of m's bytes in k, those that are laid when the place i is next: the first k - i -/
theorem hi_take : ∀ (k m i : Nat), i < k → (Oct.hi m k).take (k - (i + 1) + 1) = (Oct.hi m k).take (k - (i + 1)) ++ [UInt8.ofNat (m / 256 ^ i % 256)]
  | 0, _, _, h => absurd h (by omega)
  | k + 1, m, 0, _ => by
    rw [show k + 1 - (0 + 1) = k by omega, Oct.hi]
    rw [List.take_of_length_le (by simp [Oct.hi_length]), List.take_append_of_le_length (by rw [Oct.hi_length]; omega), List.take_of_length_le (by rw [Oct.hi_length]; omega)]
    simp
  | k + 1, m, i + 1, h => by
    have ih := hi_take k (m / 256) i (by omega)
    rw [Nat.div_div_eq_div_mul, show 256 * 256 ^ i = 256 ^ (i + 1) by rw [Nat.pow_succ, Nat.mul_comm]] at ih
    rw [show k + 1 - (i + 1 + 1) = k - (i + 1) by omega, Oct.hi]
    rw [List.take_append_of_le_length (by rw [Oct.hi_length]; omega), List.take_append_of_le_length (by rw [Oct.hi_length]; omega)]
    exact ih

def Bld (B b : Nat) (l : List Value) (w : World) : Prop := Hid (Lib.IsBuilder 90 5 B b l w)
theorem Bld.len {B b : Nat} {l : List Value} {w : World} (h : Bld B b l w) : b < w.heap.size := by
  rcases (Hid.out h : Lib.IsBuilder _ _ _ _ _ _) with h | h <;> exact h.lt
def LenSaid (q L : Nat) : Prop := ∀ W, Calls Tryz.prog 114 #[.int .u64 (q : Int)] W fun e w' => e = .returned (.int .i64 (L : Int)) ∧ W = w'
theorem len_said (q : Nat) (h : q < 18446744073709551616) : LenSaid q (Lib.bitLen q) := fun W => by
  refine (Tryz.bits_Len q W (by omega) (by omega)).mono ?_
  rintro e w' ⟨rfl, rfl⟩
  exact ⟨by rw [Int.toNat_natCast], rfl⟩
theorem byteCells_one (c : UInt8) : Lib.byteCells [c] = [.int .u8 (c.toNat : Int)] := rfl
theorem byteCells_nil : Lib.byteCells [] = [] := rfl

set_option maxHeartbeats 1000000 in
set_option maxRecDepth 100000 in
theorem layInt_any (B b : Nat) (bs : List Value) (n : Int) (w : World) (hlo : -9223372036854775808 ≤ n) (hup : n ≤ 9223372036854775807) (hbld : Bld B b bs w) (hlen : bs.length + 9 ≤ 140737488355328) (hBw : B ≤ w.heap.size) :
    Calls Tryz.prog 88 #[.pointer (some ⟨b, 0, none⟩), .int .i64 n] w fun e w' => e = .returned (.tuple #[]) ∧ (Bld B b (bs ++ Lib.byteCells (Oct.enc n)) w' ∧ Below B w w') := by
  obtain ⟨q, k, L, hd, c0, l, hq, hk8, hL, hLk, hLs, hl, hln, hc0, henc, hcase⟩ : ∃ (q k L hd : Nat) (c0 : UInt8) (l : List UInt8), q < 9223372036854775808 ∧ k ≤ 8 ∧ L ≤ 64 ∧ Hid (((L : Int) + 7) / 8 = (k : Int)) ∧ LenSaid q L ∧ Hid (l = Oct.hi q k) ∧ l.length = k ∧ Hid ((c0.toNat : Int) = hd + k) ∧ Hid (Oct.enc n = c0 :: l) ∧
      ((n < 0 ∧ hd = 128 ∧ Hid (bits .xor .i64 (-1) n = (q : Int))) ∨ (n = (q : Int) ∧ hd = 0)) := by
    have hm := Oct.mag_lt n hlo hup
    refine ⟨Oct.mag n, Oct.sz (Oct.mag n), Lib.bitLen (Oct.mag n), if n < 0 then 128 else 0, _, _, hm, Oct.sz_le _, Lib.bitLen_le _ 64 (by omega) (by omega), ?_, len_said _ (by omega), rfl, Oct.hi_length _ _, ?_, rfl, ?_⟩
    · have := Oct.sz_bits (Oct.mag n) (by omega)
      show ((Lib.bitLen (Oct.mag n) : Int) + 7) / 8 = (Oct.sz (Oct.mag n) : Int)
      omega
    · have := Oct.sz_le (Oct.mag n)
      show ((UInt8.ofNat (Oct.head n)).toNat : Int) = ((if n < 0 then 128 else 0 : Nat) : Int) + (Oct.sz (Oct.mag n) : Int)
      unfold Oct.head
      rw [UInt8.toNat_ofNat', Nat.mod_eq_of_lt (by split <;> omega)]
      omega
    · by_cases hn : n < 0
      · refine .inl ⟨hn, by rw [if_pos hn], ?_⟩
        show bits .xor .i64 (-1) n = (Oct.mag n : Int)
        rw [not_neg n hn hlo]; unfold Oct.mag; rw [if_pos hn]; omega
      · refine .inr ⟨?_, by rw [if_neg hn]⟩
        unfold Oct.mag; rw [if_neg hn]; omega
  clear hlo hup
  have hLk' := hLk.out
  have hu : IntKind.u64.wrap (q : Int) = q := IntWalk.u64_in _ (by omega)
  have hd0 : decide ((q : Int) < 0) = false := by simp
  rcases hcase with ⟨hn, rfl, hnot⟩ | ⟨rfl, rfl⟩
  all_goals (first | have hnot' := hnot.out | skip)
  all_goals
    go_enter Tryz.func88, Tryz.ntmps88
    go_wp2_with (go_at_call 114; refine (hLs _).mono ?_; rintro e w1 ⟨rfl, rfl⟩)
    rw [hLk.out]
    clear hLk'
    refine (writeByte_any B b bs _ w hbld.out (by omega) hBw).mono ?_
    rintro e w1 ⟨rfl, h1, hb1⟩
    have hs1 := hb1.size
    have H1 : Bld B b (bs ++ Lib.byteCells [c0]) w1 := Lib.hid (by rw [byteCells_one, hc0.out]; simpa using h1)
    clear h1
    have hlb : bs.length + 9 ≤ 140737488355328 := hlen
    have HP : Hid (∀ p : Nat, p < k → (q : Int) / 2 ^ (8 * p) % 256 = ((UInt8.ofNat (q / 256 ^ p % 256)).toNat : Int) ∧ l.take (k - p) = l.take (k - (p + 1)) ++ [UInt8.ofNat (q / 256 ^ p % 256)]) := Lib.hid (fun p hp => ⟨lay_byte q p (by omega), by rw [hl.out]; have := hi_take k q p hp; rwa [show k - (p + 1) + 1 = k - p by omega] at this⟩)
    go_wp2
    go_loopw [6] (fun i wr => ∃ x : Int, i = .int .i64 x ∧ -1 ≤ x ∧ x < k ∧ Bld B b (bs ++ Lib.byteCells (c0 :: l.take (k - (x + 1).toNat))) wr ∧ Below B w wr) (fun i _ => (intOf i + 1).toNat)
    case atStart => exact ⟨(k : Int) - 1, rfl, by omega, by omega, by rw [show k - ((k : Int) - 1 + 1).toNat = 0 by omega]; exact H1, hb1⟩
    case round =>
      obtain ⟨x, rfl, hx0, hxk, hbl, hbw⟩ := hrel
      have hsw := hbw.size
      by_cases hx : 0 ≤ x
      · obtain ⟨p, rfl⟩ := Int.eq_ofNat_of_zero_le hx
        obtain ⟨hv, ht⟩ := HP.out p (by omega)
        have hll : (bs ++ Lib.byteCells (c0 :: l.take (k - ((p : Int) + 1).toNat))).length + 1 ≤ 140737488355328 := by
          simp [Lib.byteCells_length]; omega
        have HV := Lib.hid hv
        have HT := Lib.hid ht
        clear hv ht
        go_wp2_with fail
        refine (writeByte_any B b _ _ _ hbl.out hll (by omega)).mono ?_
        rintro e w2 ⟨rfl, h2, hb2⟩
        have H2 : Bld B b (bs ++ Lib.byteCells (c0 :: l.take (k - p))) w2 := Lib.hid (by
          rw [HT.out, ← List.cons_append, Lib.byteCells_append, byteCells_one, ← HV.out, ← List.append_assoc, show p + 1 = ((p : Int) + 1).toNat by omega]
          exact h2)
        clear h2 hbl hll
        go_wp2
        go_roundw
        case rel => exact ⟨(p : Int) - 1, rfl, by omega, by omega, by rw [show ((p : Int) - 1 + 1).toNat = p by omega]; exact H2, hbw.trans hb2⟩
        case measure => simp [intOf]
      · have hxe : x = -1 := by omega
        subst hxe
        have HF : Bld B b (bs ++ Lib.byteCells (c0 :: l)) wr := Lib.hid (by
          have := hbl.out
          rwa [show k - ((-1 : Int) + 1).toNat = k by omega, List.take_of_length_le (by omega)] at this)
        clear hbl
        go_wp2
        go_end0
        exact ⟨rfl, by rw [henc.out]; exact HF, hbw⟩

end Go.Proofs.YtdhlebmgeiiejaaGreat
namespace Go.Proofs.YtdhlebmgeiiejaaGreat
open Go.RowKit

theorem bld_new (w : World) : Bld w.heap.size w.heap.size [] (w.alloc (.cells #[.pointer none, .slice none 0 0] 90)) := Lib.hid (Lib.fresh_isBuilder _ _ w)

set_option maxHeartbeats 1000000 in
set_option maxRecDepth 100000 in
theorem int_any (A : Option Addr) (cap : Nat) (l : List Int) (w : World) (hl : l.length ≤ 1000000000000) (hi : I64 l) (hr : Reads w w.heap.size A (ints l)) :
    Calls Tryz.prog 54 #[.slice A l.length cap] w fun e w' => e = .returned (.string ⟨(Oct.encs l).toArray⟩) ∧ Below w.heap.size w w' := by
  have hnew := bld_new w
  have hb0 : Below w.heap.size w (w.alloc (.cells #[.pointer none, .slice none 0 0] 90)) := (Below.refl _ _).alloc (Nat.le_refl _) _
  go_enter Tryz.func54, Tryz.ntmps54
  go_wp2
  go_loopw [8] (fun i wr => ∃ k : Nat, k ≤ l.length ∧ i = .int .i64 k ∧ Bld w.heap.size w.heap.size (Lib.byteCells (Oct.encs (l.take k))) wr ∧ Below w.heap.size w wr) (fun i _ => l.length - (intOf i).toNat)
  case atStart => exact ⟨0, Nat.zero_le _, rfl, hnew, hb0⟩
  case round =>
    clear hnew hb0
    obtain ⟨k, hk, rfl, hbl, hbw⟩ := hrel
    have hsw := hbw.size
    have hal : (Lib.byteCells (Oct.encs (l.take k))).length ≤ 9 * k := by rw [Lib.byteCells_length]; have := Oct.encs_length_le (l.take k); simpa [Nat.min_eq_left hk] using this
    by_cases hlt : k < l.length
    · obtain ⟨x, hx⟩ : ∃ x, x = l[k] := ⟨_, rfl⟩
      obtain ⟨b, off, rfl, hbB, hc⟩ := hr.at_ (k := k) (by simpa [ints] using hlt)
      have hcw : wr.cell? ⟨b, off + k, none⟩ = some (.int .i64 x) := (hbw.cell (p := ⟨b, off + k, none⟩) hbB).trans (by rw [hc, hx]; simp [ints])
      have hxr := hi x (by rw [hx]; exact List.getElem_mem _)
      have HN := Lib.hid (show Lib.byteCells (Oct.encs (l.take k)) ++ Lib.byteCells (Oct.enc x) = Lib.byteCells (Oct.encs (l.take (k + 1))) by rw [hx, List.take_succ_eq_append_getElem hlt, Oct.encs_snoc, Lib.byteCells_append])
      have c := layInt_any w.heap.size w.heap.size _ x wr hxr.1 hxr.2 hbl (by omega) hsw
      have C := Lib.hid c
      clear hx hc hbl c
      go_wp2_with (go_at_call 88; refine C.out.mono ?_; rintro e w1 ⟨rfl, hbl1, hb1⟩)
      go_roundw
      case rel => exact ⟨k + 1, by omega, by go_num, by rw [HN.out] at hbl1; exact hbl1, hbw.trans hb1⟩
      case measure => simp [intOf]; omega
    · have hke : k = l.length := by omega
      have HB : Bld w.heap.size w.heap.size (Lib.byteCells (Oct.encs l)) wr := by rw [hke, List.take_length] at hbl; exact hbl
      clear hke hbl
      go_wp2_with (go_at_call 55; refine (Tryz.Builder_String_any w.heap.size w.heap.size (Oct.encs l) _ HB.out hsw).mono ?_; rintro e w1 ⟨rfl, hb1⟩)
      go_ret
      exact ⟨rfl, hbw.trans hb1⟩


end Go.Proofs.YtdhlebmgeiiejaaGreat
namespace Go.Proofs.YtdhlebmgeiiejaaGreat
open Go.RowKit

set_option maxHeartbeats 400000 in
theorem few_nil (w : World) : Calls Tryz.prog 122 #[.string ⟨#[]⟩] w fun e w' => e = .returned (.bool true) ∧ w = w' := by
  go_enter Tryz.func122, Tryz.ntmps122
  go_wp2
  go_ret
  exact ⟨rfl, rfl⟩

theorem bool_ret {a b : Bool} (h : a = b) : Ending.returned (.bool a) = .returned (.bool b) := by rw [h]

set_option maxHeartbeats 400000 in
theorem few_eight (c : UInt8) (t : List UInt8) (ht : t.length = 7) (w : World) : Calls Tryz.prog 122 #[.string ⟨(c :: t).toArray⟩] w fun e w' => e = .returned (.bool (fewB (c :: t))) ∧ w = w' := by
  have i0 := idx0 c t
  by_cases hz : c.toNat = 0
  · have HF := Lib.hid (show fewB (c :: t) = false by simp [fewB, hz])
    go_enter Tryz.func122, Tryz.ntmps122
    go_wp2
    go_ret
    exact ⟨bool_ret (by rw [HF.out]), rfl⟩
  · have hb : ((c.toNat : Int) != 0) = true := by rw [bne_iff_ne]; omega
    have HF := Lib.hid (show fewB (c :: t) = decide ((c.toNat : Int) ≤ 127) by
      exact fewB_eight c t ht hz)
    go_enter Tryz.func122, Tryz.ntmps122
    go_wp2
    go_ret
    exact ⟨bool_ret (by rw [HF.out]), rfl⟩

set_option maxHeartbeats 400000 in
theorem few_other (c : UInt8) (t : List UInt8) (ht : t.length ≠ 7) (w : World) (hl : t.length ≤ 100) : Calls Tryz.prog 122 #[.string ⟨(c :: t).toArray⟩] w fun e w' => e = .returned (.bool (fewB (c :: t))) ∧ w = w' := by
  have i0 := idx0 c t
  have h8 : (((t.length : Int) + 1) == 8) = false := by simp; omega
  have h0 : (((t.length : Int) + 1) == 0) = false := by simp; omega
  have HF := Lib.hid (show fewB (c :: t) = ((c.toNat : Int) != 0) by
    exact fewB_other c t ht)
  go_enter Tryz.func122, Tryz.ntmps122
  go_wp2
  go_ret
  exact ⟨bool_ret (by rw [HF.out]), rfl⟩

theorem few_any (d : List UInt8) (w : World) (hl : d.length ≤ 100) : Calls Tryz.prog 122 #[.string ⟨d.toArray⟩] w fun e w' => e = .returned (.bool (fewB d)) ∧ w = w' := by
  match d, hl with
  | [], _ => exact few_nil w
  | c :: t, hl =>
    by_cases h : t.length = 7
    · exact few_eight c t h w
    · exact few_other c t h w (by simp at hl; omega)
theorem low_bits (c : UInt8) : bits .andNot .u8 c.toNat 128 = (low c : Int) := by
  have : ∀ n : Fin 256, bits .andNot .u8 (n.val : Int) 128 = ((n.val % 128 : Nat) : Int) := by decide +kernel
  exact this ⟨c.toNat, c.toNat_lt⟩

set_option maxHeartbeats 400000 in
theorem num_nil (w : World) : Calls Tryz.prog 106 #[.string ⟨#[]⟩] w fun e w' => e = .returned (.tuple #[.int .i64 0, .int .i64 0]) ∧ w = w' := by
  go_enter Tryz.func106, Tryz.ntmps106
  go_wp2
  go_ret2
  exact ⟨rfl, rfl⟩

set_option maxHeartbeats 400000 in
theorem num_head (c : UInt8) (t : List UInt8) (w : World) (hl : t.length ≤ 9223372036854775800) (h : low c > 8 ∨ low c > t.length) : Calls Tryz.prog 106 #[.string ⟨(c :: t).toArray⟩] w fun e w' => e = .returned (.tuple #[.int .i64 0, .int .i64 0]) ∧ w = w' := by
  have i0 := idx0 c t
  have hb := low_bits c
  have hl8 : low c < 128 := Nat.mod_lt _ (by decide)
  by_cases h8 : low c > 8
  · go_enter Tryz.func106, Tryz.ntmps106
    go_wp2
    go_ret2
    exact ⟨rfl, rfl⟩
  · have h9 : low c > t.length := by omega
    clear h
    go_enter Tryz.func106, Tryz.ntmps106
    go_wp2
    go_ret2
    exact ⟨rfl, rfl⟩

end Go.Proofs.YtdhlebmgeiiejaaGreat
namespace Go.Proofs.YtdhlebmgeiiejaaGreat
open Go.RowKit

theorem ret2_int {a b c d : Int} (h : a = b) (k : c = d) : Ending.returned (.tuple #[.int .i64 a, .int .i64 c]) = .returned (.tuple #[.int .i64 b, .int .i64 d]) := by rw [h, k]
theorem or_low (n : Nat) (c : UInt8) (h : n * 256 + 255 < 9223372036854775808) : bits .or .i64 ((n : Int) * 256) (c.toNat : Int) = ((n * 256 + c.toNat : Nat) : Int) := by
  have hc := c.toNat_lt
  show IntKind.i64.wrap ((BitVec.ofInt 64 ((n : Int) * 256) ||| BitVec.ofInt 64 (c.toNat : Int)).toNat : Int) = _
  rw [BitVec.toNat_or, BitVec.toNat_ofInt, BitVec.toNat_ofInt]
  have e1 : ((n : Int) * 256 % ((2 ^ 64 : Nat) : Int)).toNat = n <<< 8 := by rw [Nat.shiftLeft_eq]; omega
  have e2 : ((c.toNat : Int) % ((2 ^ 64 : Nat) : Int)).toNat = c.toNat := by omega
  rw [e1, e2, ← Nat.shiftLeft_add_eq_or_of_lt (by omega), Nat.shiftLeft_eq]
  exact IntWalk.i64_in _ (by omega)

theorem not_nonneg (m : Nat) (h : m < 9223372036854775808) : bits .xor .i64 (-1) (m : Int) = -(m : Int) - 1 := by
  show IntKind.i64.wrap ((BitVec.ofInt 64 (-1) ^^^ BitVec.ofInt 64 (m : Int)).toNat : Int) = _
  have e1 : BitVec.ofInt 64 (-1) = BitVec.allOnes 64 := by decide
  rw [e1, BitVec.allOnes_xor, BitVec.toNat_not, BitVec.toNat_ofInt]
  simp [IntKind.wrap, IntKind.bits, IntKind.signed]
  omega

set_option maxHeartbeats 400000 in
theorem num_bad (c : UInt8) (t : List UInt8) (w : World) (hl : t.length ≤ 9223372036854775800) (h8 : low c ≤ 8) (h9 : low c ≤ t.length) (hf : fewB (t.take (low c)) = false) : Calls Tryz.prog 106 #[.string ⟨(c :: t).toArray⟩] w fun e w' => e = .returned (.tuple #[.int .i64 0, .int .i64 0]) ∧ w = w' := by
  have i0 := idx0 c t
  have hb := low_bits c
  obtain ⟨d, hd⟩ : ∃ d, d = t.take (low c) := ⟨_, rfl⟩
  have hdl : d.length ≤ 100 := by rw [hd, List.length_take]; omega
  have hx : (ByteArray.mk (c :: t).toArray).extract 1 (1 + low c) = ⟨d.toArray⟩ := by rw [cutb, hd]; simp
  rw [← hd] at hf
  have cf := few_any d w hdl
  rw [hf] at cf
  have CF := Lib.hid cf
  clear hd hf cf
  go_enter Tryz.func106, Tryz.ntmps106
  go_wp2_with (go_at_call 122; refine CF.out.mono ?_; rintro e w' ⟨rfl, rfl⟩)
  go_ret2
  exact ⟨rfl, rfl⟩

set_option maxHeartbeats 1000000 in
theorem num_good (c : UInt8) (t : List UInt8) (w : World) (hl : t.length ≤ 9223372036854775800) (h8 : low c ≤ 8) (h9 : low c ≤ t.length) (hf : fewB (t.take (low c)) = true) : Calls Tryz.prog 106 #[.string ⟨(c :: t).toArray⟩] w fun e w' =>
    e = .returned (.tuple #[.int .i64 (if 128 ≤ c.toNat then -(Oct.val (t.take (low c)) : Int) - 1 else (Oct.val (t.take (low c)) : Int)), .int .i64 (1 + (low c : Int))]) ∧ w = w' := by
  have i0 := idx0 c t
  have hb := low_bits c
  obtain ⟨d, hd⟩ : ∃ d, d = t.take (low c) := ⟨_, rfl⟩
  have hdl : d.length = low c := by rw [hd, List.length_take]; omega
  have hx : (ByteArray.mk (c :: t).toArray).extract 1 (1 + low c) = ⟨d.toArray⟩ := by rw [cutb, hd]; simp
  rw [← hd] at hf ⊢
  have cf := few_any d w (by omega)
  rw [hf] at cf
  have CF := Lib.hid cf
  have hv := val_few d (by omega) hf
  have HL := Lib.hid hdl
  have hd8 : decide ((8 : Int) < (low c : Int)) = false := by simp; omega
  clear hd hf cf hdl
  go_enter Tryz.func106, Tryz.ntmps106
  go_wp2_with (go_at_call 122; refine CF.out.mono ?_; rintro e w' ⟨rfl, rfl⟩)
  go_loop [2, 30] (fun n i => ∃ k m : Nat, k ≤ low c ∧ i = .int .i64 k ∧ n = .int .i64 m ∧ Hid (m = Oct.val (d.take k))) (fun _ i => low c - (intOf i).toNat)
  case atStart => exact ⟨0, 0, Nat.zero_le _, rfl, rfl, rfl⟩
  case round =>
    obtain ⟨k, m, hk, rfl, rfl, hm⟩ := hrel
    have hdl := HL.out
    by_cases hlt : k < low c
    · have hkd : k < d.length := by omega
      obtain ⟨x, hxx⟩ : ∃ x, x = d[k] := ⟨_, rfl⟩
      have ix : ∀ h, (ByteArray.mk d.toArray)[k]'h = x := fun h => by rw [hxx]; rfl
      have hb1 : m * 256 + 255 < 9223372036854775808 := by rw [hm.out]; exact val_take d k hkd hv
      have hor := or_low m x hb1
      have hxb : (x.toNat : Int) < 256 := by have := x.toNat_lt; omega
      have HN : Hid (m * 256 + x.toNat = Oct.val (d.take (k + 1))) := Lib.hid (by rw [take_snoc d k hkd, Oct.val_snoc, hm.out, hxx])
      have hkk : (k : Int) < (d.length : Int) := by omega
      clear hdl hxx
      go_wp2
      go_round
      case rel => exact ⟨k + 1, m * 256 + x.toNat, by omega, by go_num, by go_num, HN⟩
      case measure => simp [intOf]; omega
    · have HM : Hid (m = Oct.val d) := Lib.hid (by rw [hm.out, show k = d.length by omega, List.take_length])
      have hmv : m < 9223372036854775808 := by rw [HM.out]; exact hv
      have hnot := not_nonneg m hmv
      clear hdl hm
      by_cases hs : 128 ≤ c.toNat
      · have hs' : (128 : Int) ≤ (c.toNat : Int) := by omega
        go_wp2
        go_ret2
        exact ⟨ret2_int (by rw [HM.out]) rfl, rfl⟩
      · have hs' : ¬ (128 : Int) ≤ (c.toNat : Int) := by omega
        go_wp2
        go_ret2
        exact ⟨ret2_int (by rw [HM.out]) rfl, rfl⟩

theorem num_any (s : List UInt8) (w : World) (hl : s.length ≤ 9223372036854775800) : Calls Tryz.prog 106 #[.string ⟨s.toArray⟩] w fun e w' =>
    e = .returned (.tuple #[.int .i64 (rdN s), .int .i64 (rdS s)]) ∧ w = w' := by
  match s, hl with
  | [], _ => exact num_nil w
  | c :: t, hl =>
    have hl' : t.length ≤ 9223372036854775800 := by simp at hl; omega
    by_cases h : low c > 8 ∨ low c > t.length
    · have e : rd (c :: t) = none := by simp only [rd]; rw [if_pos h]
      have := num_head c t w hl' h
      simpa [rdN, rdS, e] using this
    · by_cases hf : fewB (t.take (low c)) = true
      · have e : rd (c :: t) = some (if 128 ≤ c.toNat then -(Oct.val (t.take (low c)) : Int) - 1 else (Oct.val (t.take (low c)) : Int), 1 + low c) := by
          simp only [rd]; rw [if_neg h, if_neg (by rw [hf]; simp)]
        have := num_good c t w hl' (by omega) (by omega) hf
        simp only [rdN, rdS, e, Option.elim_some, Int.natCast_add]
        exact this
      · have hf' : fewB (t.take (low c)) = false := by simpa using hf
        have e : rd (c :: t) = none := by simp only [rd]; rw [if_neg h, if_pos hf']
        have := num_bad c t w hl' (by omega) (by omega) hf'
        simpa [rdN, rdS, e] using this

end Go.Proofs.YtdhlebmgeiiejaaGreat
namespace Go.Proofs.YtdhlebmgeiiejaaGreat
open Go.RowKit

set_option maxHeartbeats 400000 in
theorem spoil_any (b : Nat) (s : List UInt8) (bad : Bool) (w : World) (h : Rdr 74 b s bad w) :
    Calls Tryz.prog 95 #[.pointer (some ⟨b, 0, none⟩)] w fun e w' => e = .returned (.tuple #[]) ∧ Rdr 74 b [] true w' ∧ w.grownBy w' (some b) := by
  have c0 := h.c0
  have c1 := h.c1
  have f0 := h.f 0
  have f1 := h.f 1
  have H := Lib.hid h
  clear h
  go_enter Tryz.func95, Tryz.ntmps95
  go_wp2
  go_end0
  refine ⟨rfl, ?_, ?_⟩
  · have h1 := Rdr.set0 H.out []
    exact h1.set1 true
  · exact only_set (p := ⟨b, 1, none⟩) (only_set (p := ⟨b, 0, none⟩) (World.grownBy.refl w _) (.inl rfl) _) (.inl rfl) _

set_option maxHeartbeats 400000 in
theorem rdInt_any (b : Nat) (s : List UInt8) (bad : Bool) (w : World) (hl : s.length ≤ 9223372036854775800) (h : Rdr 74 b s bad w) :
    Calls Tryz.prog 79 #[.pointer (some ⟨b, 0, none⟩)] w fun e w' => e = .returned (.int .i64 (oInt s bad).n) ∧ Rdr 74 b (oInt s bad).s (oInt s bad).bad w' ∧ w.grownBy w' (some b) := by
  have c0 := h.c0
  have f0 := h.f 0
  have cn := num_any s w hl
  have hle := rdS_le s
  obtain ⟨k, hk⟩ : ∃ k, k = rdS s := ⟨_, rfl⟩
  obtain ⟨n, hn⟩ : ∃ n, n = rdN s := ⟨_, rfl⟩
  rw [← hk, ← hn] at cn
  rw [← hk] at hle
  have H := Lib.hid h
  have CN := Lib.hid cn
  by_cases hz : k = 0
  · rw [oInt_bad s bad (by omega)]
    subst hz
    clear h cn hk hn
    go_enter Tryz.func79, Tryz.ntmps79
    go_wp2_with (first | (go_at_call 106; refine CN.out.mono ?_; rintro e w' ⟨rfl, rfl⟩) | (go_at_call 95; refine (spoil_any b s bad _ H.out).mono ?_; rintro e w1 ⟨rfl, h1, hg1⟩))
    go_ret
    exact ⟨rfl, h1, hg1⟩
  · rw [oInt_ok s bad (by omega), ← hk, ← hn]
    have hx : (ByteArray.mk s.toArray).extract k s.length = ⟨(s.drop k).toArray⟩ := by
      rw [cutb, List.take_of_length_le (by simp)]
    have hb : ((k : Int) == 0) = false := by simp; omega
    clear h cn hk hn hz
    go_enter Tryz.func79, Tryz.ntmps79
    go_wp2_with (go_at_call 106; refine CN.out.mono ?_; rintro e w' ⟨rfl, rfl⟩)
    go_ret
    refine ⟨rfl, ?_, ?_⟩
    · exact Rdr.set0 H.out (s.drop k)
    · exact only_set (p := ⟨b, 0, none⟩) (World.grownBy.refl w _) (.inl rfl) _

set_option maxHeartbeats 400000 in
theorem rdInt_nil (w : World) : Calls Tryz.prog 79 #[.pointer none] w fun e w' => e = .returned (.int .i64 0) ∧ w = w' := by
  go_enter Tryz.func79, Tryz.ntmps79
  go_wp2
  go_ret
  exact ⟨rfl, rfl⟩

end Go.Proofs.YtdhlebmgeiiejaaGreat
namespace Go.Proofs.YtdhlebmgeiiejaaGreat
open Go.RowKit

theorem only_trans {a b c : World} {row : Option Nat} (h : a.grownBy b row) (k : b.grownBy c row) : a.grownBy c row :=
  ⟨k.os.trans h.os, k.tape.trans h.tape, k.output.trans h.output, Nat.le_trans h.size k.size, fun i hi hn => (k.block i (Nat.lt_of_lt_of_le hi h.size) hn).trans (h.block i hi hn)⟩

set_option maxHeartbeats 400000 in
theorem count_any (b : Nat) (s : List UInt8) (bad : Bool) (most : Int) (w : World) (hl : s.length ≤ 9223372036854775800) (h : Rdr 74 b s bad w) :
    Calls Tryz.prog 60 #[.pointer (some ⟨b, 0, none⟩), .int .i64 most] w fun e w' => e = .returned (.int .i64 (oCount s bad most).n) ∧ Rdr 74 b (oCount s bad most).s (oCount s bad most).bad w' ∧ w.grownBy w' (some b) := by
  have c := rdInt_any b s bad w hl h
  obtain ⟨r, hr⟩ : ∃ r, r = oInt s bad := ⟨_, rfl⟩
  rw [← hr] at c
  by_cases hb : r.n < 0 ∨ most < r.n
  · rw [oCount_bad (by rw [← hr]; exact hb)]
    have C := Lib.hid c
    clear h c hr
    by_cases hn : r.n < 0
    · clear hb
      go_enter Tryz.func60, Tryz.ntmps60
      go_wp2_with fail
      refine C.out.mono ?_
      rintro e w1 ⟨rfl, h1, hg1⟩
      have H1 := Lib.hid h1
      clear h1
      go_wp2_with fail
      refine (spoil_any b _ _ _ H1.out).mono ?_
      rintro e w2 ⟨rfl, h2, hg2⟩
      have H2 := Lib.hid h2
      clear h2
      go_wp2
      go_ret
      exact ⟨rfl, H2.out, only_trans hg1 hg2⟩
    · have hm : most < r.n := by omega
      clear hb
      go_enter Tryz.func60, Tryz.ntmps60
      go_wp2_with fail
      refine C.out.mono ?_
      rintro e w1 ⟨rfl, h1, hg1⟩
      have H1 := Lib.hid h1
      clear h1
      go_wp2_with fail
      refine (spoil_any b _ _ _ H1.out).mono ?_
      rintro e w2 ⟨rfl, h2, hg2⟩
      have H2 := Lib.hid h2
      clear h2
      go_wp2
      go_ret
      exact ⟨rfl, H2.out, only_trans hg1 hg2⟩
  · rw [oCount_ok (by rw [← hr]; exact hb), ← hr]
    have h1 : ¬ r.n < 0 := by omega
    have h2 : ¬ most < r.n := by omega
    have C := Lib.hid c
    clear h c hr hb
    go_enter Tryz.func60, Tryz.ntmps60
    go_wp2_with fail
    refine C.out.mono ?_
    rintro e w1 ⟨rfl, h1, hg1⟩
    have H1 := Lib.hid h1
    clear h1
    go_wp2
    go_ret
    exact ⟨rfl, H1.out, hg1⟩

set_option maxHeartbeats 400000 in
theorem spoil_nil (w : World) : Calls Tryz.prog 95 #[.pointer none] w fun e w' => e = .returned (.tuple #[]) ∧ w = w' := by
  go_enter Tryz.func95, Tryz.ntmps95
  go_wp2
  go_end0
  exact ⟨rfl, rfl⟩

set_option maxHeartbeats 400000 in
theorem count_nil (most : Int) (w : World) : Calls Tryz.prog 60 #[.pointer none, .int .i64 most] w fun e w' => e = .returned (.int .i64 0) ∧ w = w' := by
  by_cases hm : most < 0
  · go_enter Tryz.func60, Tryz.ntmps60
    go_wp2_with (first | (go_at_call 79; refine (rdInt_nil _).mono ?_; rintro e w' ⟨rfl, rfl⟩) | (go_at_call 95; refine (spoil_nil _).mono ?_; rintro e w' ⟨rfl, rfl⟩))
    go_ret
    exact ⟨rfl, rfl⟩
  · go_enter Tryz.func60, Tryz.ntmps60
    go_wp2_with (first | (go_at_call 79; refine (rdInt_nil _).mono ?_; rintro e w' ⟨rfl, rfl⟩) | (go_at_call 95; refine (spoil_nil _).mono ?_; rintro e w' ⟨rfl, rfl⟩))
    go_ret
    exact ⟨rfl, rfl⟩

set_option maxHeartbeats 400000 in
theorem clone_any (s : ByteArray) (w : World) (hlim : s.size ≤ 281474976710656) :
    Calls Tryz.prog 35 #[.string s] w fun e w' => e = .returned (.string s) ∧ Below w.heap.size w w' := by
  go_enter Tryz.func35, Tryz.ntmps35
  go_wp2_with (go_at_call 76; refine (Tryz.stringslite_Clone s _ hlim).mono ?_; rintro e w1 ⟨rfl, hb1⟩)
  go_ret
  exact ⟨rfl, hb1⟩

set_option maxHeartbeats 400000 in
theorem of_any (s : List UInt8) (w : World) (hlim : s.length ≤ 281474976710656) :
    Calls Tryz.prog 8 #[.string ⟨s.toArray⟩] w fun e w' => ∃ b, e = .returned (.pointer (some ⟨b, 0, none⟩)) ∧ Rdr 74 b s false w' ∧ w.heap.size ≤ b ∧ Below w.heap.size w w' := by
  go_enter Tryz.func8, Tryz.ntmps8
  go_wp2_with (go_at_call 35; refine (clone_any _ _ (by simpa [ByteArray.size] using hlim)).mono ?_; rintro e w1 ⟨rfl, hb1⟩)
  go_ret
  exact ⟨_, rfl, heap_alloc_new w1 _, hb1.size, hb1.alloc hb1.size _⟩

set_option maxHeartbeats 400000 in
theorem left_any (b : Nat) (s : List UInt8) (bad : Bool) (w : World) (h : Rdr 74 b s bad w) :
    Calls Tryz.prog 42 #[.pointer (some ⟨b, 0, none⟩)] w fun e w' => e = .returned (.int .i64 s.length) ∧ w = w' := by
  have c0 := h.c0
  clear h
  go_enter Tryz.func42, Tryz.ntmps42
  go_wp2
  go_ret
  exact ⟨rfl, rfl⟩
set_option maxHeartbeats 400000 in
theorem left_nil (w : World) : Calls Tryz.prog 42 #[.pointer none] w fun e w' => e = .returned (.int .i64 0) ∧ w = w' := by
  go_enter Tryz.func42, Tryz.ntmps42
  go_wp2
  go_ret
  exact ⟨rfl, rfl⟩

def oDone (s : List UInt8) (bad : Bool) : Int := if bad = false ∧ s = [] then 0 else 2
set_option maxHeartbeats 400000 in
theorem done_any (b : Nat) (s : List UInt8) (bad : Bool) (w : World) (h : Rdr 74 b s bad w) :
    Calls Tryz.prog 43 #[.pointer (some ⟨b, 0, none⟩)] w fun e w' => e = .returned (.int .i64 (oDone s bad)) ∧ w = w' := by
  have c0 := h.c0
  have c1 := h.c1
  clear h
  cases bad
  · by_cases hs : s = []
    · subst hs
      go_enter Tryz.func43, Tryz.ntmps43
      go_wp2
      go_ret
      exact ⟨rfl, rfl⟩
    · have HE := Lib.hid (show oDone s false = 2 by simp [oDone, hs])
      obtain ⟨c, t, rfl⟩ := List.exists_cons_of_ne_nil hs
      clear hs
      go_enter Tryz.func43, Tryz.ntmps43
      go_wp2
      go_ret
      exact ⟨by rw [HE.out]; rfl, rfl⟩
  · go_enter Tryz.func43, Tryz.ntmps43
    go_wp2
    go_ret
    exact ⟨rfl, rfl⟩
set_option maxHeartbeats 400000 in
theorem done_nil (w : World) : Calls Tryz.prog 43 #[.pointer none] w fun e w' => e = .returned (.int .i64 2) ∧ w = w' := by
  go_enter Tryz.func43, Tryz.ntmps43
  go_wp2
  go_ret
  exact ⟨rfl, rfl⟩

end Go.Proofs.YtdhlebmgeiiejaaGreat
