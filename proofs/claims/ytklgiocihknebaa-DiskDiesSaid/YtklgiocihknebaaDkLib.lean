/- strings.Clone, slices.Clone of bytes, slices.Sort of a row of texts that the call made. -/
import Derived.Test.YtklgiocihknebaaDkMem
import Derived.Test.YtklgiocihknebaaShelf
import Derived.OwnWalk
import Derived.Lib.SliceRun
import Derived.Sort.OwnSorted
import Derived.Sort.KeysCollected
namespace Go.Proofs.Ytklgiocihknebaa
open Go.RowKit Go.Maps Dk
set_option linter.unusedVariables false

set_option maxHeartbeats 400000 in
theorem clone_any (t : List UInt8) (w : World) (h : t.length ≤ 140737488351232) :
    Calls Try.prog 46 #[.string ⟨t.toArray⟩] w fun e w' => e = .returned (.string ⟨t.toArray⟩) ∧ Below w.heap.size w w' := by
  have CL := Lib.hid (fun W => Try.stringslite_Clone ⟨t.toArray⟩ W (by show t.toArray.size ≤ _; rw [List.size_toArray]; omega))
  go_enter Try.func46, Try.ntmps46
  go_wp2_with fail
  refine (CL.out _).mono ?_
  rintro e w3 ⟨rfl, b3⟩
  go_wp2
  go_ret
  exact ⟨rfl, b3⟩

/-! ### rows of texts that the call made -/
theorem str_info : (Try.prog.info? 9).map (fun i => (i.zero, i.size, i.bytes)) = some (some (.string ⟨#[]⟩), 1, 16) := by kernel_rfl
theorem strs_und : Try.prog.underlying 47 = some (.slice 9) := by kernel_rfl
abbrev OwnS (W : World) (B : Nat) (v : Value) (l : List (List UInt8)) : Prop := W.ownsRow B 9 1 v l.length (strings l)
theorem owns_nil (W : World) (B : Nat) : OwnS W B (.slice none 0 0) [] := World.ownsRow_nil _ _ _ _
theorem below_grown {W W' : World} (hb : Below W.heap.size W W') : W.grownBy W' none := ⟨hb.os, hb.tape, hb.output, hb.size, fun k hk _ => hb.block k hk⟩
theorem owns_below {W W' : World} {B : Nat} {v : Value} {l : List (List UInt8)} (h : OwnS W B v l) (hb : Below W.heap.size W W') : OwnS W' B v l :=
  World.ownsRow.kept h (below_grown hb) (by cases v.ownBlock <;> simp)
theorem owns_base {W : World} {B B' : Nat} {v : Value} {l : List (List UInt8)} (h : OwnS W B v l) (hb : B' ≤ B) : OwnS W B' v l := by
  refine ⟨h.1, ?_⟩
  rcases h.2 with hn | ⟨g, cap, cur, e, hg, rest⟩
  · exact .inl hn
  · exact .inr ⟨g, cap, cur, e, by omega, rest⟩
theorem strings_snoc (l : List (List UInt8)) (x : List UInt8) : strings (l ++ [x]) = strings l ++ [.string ⟨x.toArray⟩] := by simp [strings]
theorem pushs_step {B : Nat} {w wr w1 : World} {v v' : Value} {l : List (List UInt8)} {x : List UInt8} {o : Obj} (hown : OwnS wr B v l) (hnx : Below B w wr) (hB : B ≤ wr.heap.size)
    (hown' : w1.ownsRow B 9 1 v' (l.length + 1) (strings l ++ [.string ⟨x.toArray⟩])) (hgrow : (wr.alloc o).grownBy w1 v.ownBlock) : OwnS w1 B v' (l ++ [x]) ∧ Below B w w1 :=
  ⟨by show w1.ownsRow B 9 1 v' (l ++ [x]).length (strings (l ++ [x])); rw [strings_snoc]; simpa using hown', (hnx.alloc hB o).grown hgrow (by simp; omega) (fun j hj => (World.ownsRow.lt hown j hj).1)⟩
theorem owns_len {W : World} {B : Nat} {v : Value} {l : List (List UInt8)} (h : OwnS W B v l) : ∃ A cap, v = .slice A l.length cap := by
  rcases h.2 with ⟨hv, hn⟩ | ⟨g, cap, cur, hv, _⟩
  · exact ⟨none, 0, by rw [hv, hn]⟩
  · exact ⟨_, cap, hv⟩
/-- the row's slice and its cells -/
theorem owns_at {W : World} {B : Nat} {v : Value} {l : List (List UInt8)} (h : OwnS W B v l) : ∃ A cap, v = .slice A l.length cap ∧ Reads W W.heap.size A (strings l) := by
  rcases h.2 with ⟨hv, hn⟩ | ⟨g, cap, cur, hv, _, hg, _⟩
  · refine ⟨none, 0, by rw [hv, hn], fun h0 => ?_⟩
    rw [show strings l = [] by unfold strings; rw [List.length_eq_zero_iff.1 hn]; rfl] at h0
    simp at h0
  · refine ⟨_, cap, hv, fun _ => ⟨g, 0, rfl, (Array.getElem?_eq_some_iff.1 hg).1, fun k x hk => ?_⟩⟩
    have := World.ownsRow.cells h (g := g) (by rw [hv]; rfl) k x hk
    rwa [show (⟨g, 0, none⟩ : Addr).add k = ⟨g, 0 + k, none⟩ by unfold Addr.add; split <;> simp_all] at this
theorem strings_enc (l : List (List UInt8)) : strings l = l.map encStr := rfl
theorem sort_any (w : World) {B : Nat} {v : Value} {l : List (List UInt8)} (h : OwnS w B v l) (hl : l.length < 4611686018427387904) :
    Calls Try.prog 47 #[v] w fun e w' => e = .returned (.tuple #[]) ∧ OwnS w' B v (l.mergeSort leB) ∧ w.grownBy w' v.ownBlock := by
  rcases h.2 with ⟨rfl, hn⟩ | ⟨g, cap, cur, rfl, hbase, hb, h1, h2, h3, h4⟩
  · obtain rfl := List.length_eq_zero_iff.1 hn
    refine (Try.slices_Sort_string_none none 0 w).mono ?_
    rintro e w' ⟨rfl, rfl⟩
    exact ⟨rfl, by rw [show ([] : List (List UInt8)).mergeSort leB = [] from List.length_eq_zero_iff.1 (by rw [List.length_mergeSort]; rfl)]; exact owns_nil _ _, ⟨rfl, rfl, rfl, Nat.le_refl _, fun _ _ _ => rfl⟩⟩
  · rw [Nat.mul_one, strings_enc] at h4
    refine (Try.slices_Sort_string g 0 cap l w (holds_of_block hb h4) (heap_lt hb) hl).mono ?_
    rintro e w' ⟨rfl, n, os, rfl⟩
    refine ⟨rfl, ?_, grownBy_sorted _⟩
    have := ownsRow_sorted (n := n) (os := os) (ts := l.mergeSort leB) (by rw [List.length_mergeSort]) hbase hb h1 h2 h3
    show World.ownsRow _ B 9 1 (.slice (some ⟨g, 0, none⟩) l.length cap) (l.mergeSort leB).length (strings (l.mergeSort leB))
    rw [List.length_mergeSort, strings_enc]
    exact this

/-! ### a row of bytes, cloned -/
set_option maxHeartbeats 1000000 in
set_option maxRecDepth 100000 in
theorem bytes_clone (w : World) {B n : Nat} {v : Value} {xs : List Value} (h : w.ownsRow B 5 1 v n xs) (hn : n ≤ 4194304) (hone : ∀ u ∈ xs, u.oneCell' = true) :
    Calls Try.prog 48 #[v] w fun e w' => (∃ v', e = .returned v' ∧ w'.ownsRow w.heap.size 5 1 v' n xs) ∧ Below w.heap.size w w' := by
  obtain ⟨i0, hi, hz0, hz1, hz2⟩ := info_parts (show (Try.prog.info? 5).map (fun i => (i.zero, i.size, i.bytes)) = some (some (.int .u8 0), 1, 1) by kernel_rfl)
  have q : ∀ (w : World) (a : Option Addr) (n c : Nat), (binOp .eql 59 (.slice a n c) (.slice none 0 0)).run Try.prog w = .ok (.bool a.isNone) w := fun w a n c => Lib.run_eql_slice_nil w _ _ a n c 0 0 Try.underlying59
  have hx : xs.length = n := by rw [h.1, Nat.mul_one]
  rcases h.2 with ⟨rfl, rfl⟩ | ⟨g, cap, cur, rfl, hbase, hb, h1, h2, h3, h4⟩
  · obtain rfl := List.length_eq_zero_iff.1 hx
    clear h
    go_enter Try.func48, Try.ntmps48
    go_wp2
    go_ret
    exact ⟨⟨_, rfl, World.ownsRow_nil _ _ _ _⟩, Below.refl _ _⟩
  · have C := Lib.hid (h.cells (g := g) rfl)
    have hg := heap_lt hb
    clear h h4 hb
    go_enter Try.func48, Try.ntmps48
    go_wp2_with (at_builtin; refine wpList_append_own _ rfl _ _ 59 rfl w.heap.size 5 i0 (.int .u8 0) 1 1 Try.underlying59 hi hz0 hz1 hz2 rfl (by decide) _ _ _ rfl (World.ownsRow_made w #[] 0 (Nat.le_refl _) (Nat.zero_le _) rfl) ⟨g, 0, none⟩ n cap xs rfl ?qc1 ?qc2 ?qc3 ?qc4 ?qc5 ?qc6 ?_)
    case qc1 => omega
    case qc2 => intro j u hj; exact Lib.cell?_alloc_some _ (C.out j u hj)
    case qc3 => exact hone
    case qc4 => unfold maxLen; omega
    case qc5 => omega
    case qc6 => simp
    intro v' w1 hown hgrow hnil
    have HO := Lib.hid hown
    have HG := Lib.hid hgrow
    clear hown hgrow hnil
    go_wp2
    go_ret
    refine ⟨⟨v', rfl, by simpa using HO.out⟩, ?_⟩
    exact ((Below.refl _ w).alloc (Nat.le_refl _) _).grown HG.out (by simp) (by intro k hk; simp [Value.ownBlock] at hk; omega)
end Go.Proofs.Ytklgiocihknebaa
