/- strings.Clone, slices.Clone of bytes, slices.Sort of a row of texts that the call made. -/
import Derived.Test.YtpafialojcidnaaGreatDoorDkMem
import Derived.Test.YtpafialojcidnaaGreatDoorShelf
import Derived.Test.YtpafialojcidnaaGreatDoorFrAll
import Derived.OwnWalk
import Derived.Lib.SliceRun
import Derived.Sort.OwnSorted
import Derived.Sort.KeysCollected
namespace Go.Proofs.YtpafialojcidnaaGreatDoor
open Go.RowKit Go.Maps Dk
set_option linter.unusedVariables false

theorem strings_enc (l : List (List UInt8)) : strings l = l.map encStr := rfl
theorem sort_any (w : World) {B : Nat} {v : Value} {l : List (List UInt8)} (h : OwnS w B v l) (hl : l.length < 4611686018427387904) :
    Calls Tryz.prog 53 #[v] w fun e w' => e = .returned (.tuple #[]) ∧ OwnS w' B v (l.mergeSort leB) ∧ w.grownBy w' v.ownBlock := by
  rcases h.2 with ⟨rfl, hn⟩ | ⟨g, cap, cur, rfl, hbase, hb, h1, h2, h3, h4⟩
  · obtain rfl := List.length_eq_zero_iff.1 hn
    refine (Tryz.slices_Sort_string_none none 0 w).mono ?_
    rintro e w' ⟨rfl, rfl⟩
    exact ⟨rfl, by rw [show ([] : List (List UInt8)).mergeSort leB = [] from List.length_eq_zero_iff.1 (by rw [List.length_mergeSort]; rfl)]; exact owns_nil _ _, ⟨rfl, rfl, rfl, Nat.le_refl _, fun _ _ _ => rfl⟩⟩
  · rw [Nat.mul_one, strings_enc] at h4
    refine (Tryz.slices_Sort_string g 0 cap l w (holds_of_block hb h4) (heap_lt hb) hl).mono ?_
    rintro e w' ⟨rfl, n, os, rfl⟩
    refine ⟨rfl, ?_, grownBy_sorted _⟩
    have := ownsRow_sorted (n := n) (os := os) (ts := l.mergeSort leB) (by rw [List.length_mergeSort]) hbase hb h1 h2 h3
    show World.ownsRow _ B 9 1 (.slice (some ⟨g, 0, none⟩) l.length cap) (l.mergeSort leB).length (strings (l.mergeSort leB))
    rw [List.length_mergeSort, strings_enc]
    exact this

/-! ### a row of bytes, cloned -/
set_option maxHeartbeats 1000000 in
set_option maxRecDepth 100000 in
theorem bytes_clone (w : World) {B n : Nat} {v : Value} {xs : List Value} (h : w.ownsRow B 5 1 v n xs) (hn : n ≤ 4194304) (hone : ∀ u ∈ xs, u.oneCell' = true) :
    Calls Tryz.prog 39 #[v] w fun e w' => (∃ v', e = .returned v' ∧ w'.ownsRow w.heap.size 5 1 v' n xs) ∧ Below w.heap.size w w' := by
  obtain ⟨i0, hi, hz0, hz1, hz2⟩ := info_parts (show (Tryz.prog.info? 5).map (fun i => (i.zero, i.size, i.bytes)) = some (some (.int .u8 0), 1, 1) by kernel_rfl)
  have q : ∀ (w : World) (a : Option Addr) (n c : Nat), (binOp .eql 48 (.slice a n c) (.slice none 0 0)).run Tryz.prog w = .ok (.bool a.isNone) w := fun w a n c => Lib.run_eql_slice_nil w _ _ a n c 0 0 Tryz.underlying48
  have hx : xs.length = n := by rw [h.1, Nat.mul_one]
  rcases h.2 with ⟨rfl, rfl⟩ | ⟨g, cap, cur, rfl, hbase, hb, h1, h2, h3, h4⟩
  · obtain rfl := List.length_eq_zero_iff.1 hx
    clear h
    go_enter Tryz.func39, Tryz.ntmps39
    go_wp2
    go_ret
    exact ⟨⟨_, rfl, World.ownsRow_nil _ _ _ _⟩, Below.refl _ _⟩
  · have C := Lib.hid (h.cells (g := g) rfl)
    have hg := heap_lt hb
    clear h h4 hb
    go_enter Tryz.func39, Tryz.ntmps39
    go_wp2_with (at_builtin; refine wpList_append_own _ rfl _ _ 48 rfl w.heap.size 5 i0 (.int .u8 0) 1 1 Tryz.underlying48 hi hz0 hz1 hz2 rfl (by decide) _ _ _ rfl (World.ownsRow_made w #[] 0 (Nat.le_refl _) (Nat.zero_le _) rfl) ⟨g, 0, none⟩ n cap xs rfl ?qc1 ?qc2 ?qc3 ?qc4 ?qc5 ?qc6 ?_)
    case qc1 => omega
    case qc2 => intro j u hj; exact Lib.cell?_alloc_some _ (C.out j u hj)
    case qc3 => exact hone
    case qc4 => unfold maxLen; omega
    case qc5 => omega
    case qc6 => simp
    intro v' w1 hown hgrow hnil
    have HO := Lib.hid hown
    have HG := Lib.hid hgrow
    clear hown hgrow hnil
    go_wp2
    go_ret
    refine ⟨⟨v', rfl, by simpa using HO.out⟩, ?_⟩
    exact ((Below.refl _ w).alloc (Nat.le_refl _) _).grown HG.out (by simp) (by intro k hk; simp [Value.ownBlock] at hk; omega)
end Go.Proofs.YtpafialojcidnaaGreatDoor
