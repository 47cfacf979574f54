/- New, Cut, Dead, shorten, Truncate, Remove, Rename. -/
import Derived.Test.YtpafialojcidnaaGreatDoorDkOps
namespace Go.Proofs.YtpafialojcidnaaGreatDoor
open Go.RowKit Go.Maps Dk
set_option linter.unusedVariables false

set_option maxRecDepth 100000 in
theorem new_any (w : World) : Calls Tryz.prog 28 #[] w fun e w' => e = .returned (.pointer (some ⟨w.heap.size, 0, none⟩)) ∧ DiskAt w' w.heap.size w.heap.size Dk.new ∧ Below w.heap.size w w' := by
  have hb := bel1 w (.cells #[.map none, .bool false, .int .i64 0, .bool false] 65)
  have hL : Hid (DiskAt (w.alloc (.cells #[.map none, .bool false, .int .i64 0, .bool false] 65)) w.heap.size w.heap.size Dk.new) :=
    Lib.hid ⟨fun _ => (0, .bool false), .map none, ok_new, Nat.le_refl _, heap_alloc_new w _, .inl ⟨rfl, rfl⟩, fun _ hf => (by cases hf), fun _ hf => (by cases hf)⟩
  go_enter Tryz.func28, Tryz.ntmps28
  go_wp2
  go_ret
  exact ⟨rfl, hL.out, hb⟩

theorem Lay.cutted {w : World} {B d : Nat} {K : St} {φ : Str → Nat × Value} {mv : Value} (h : Lay w B d K φ mv) (n : Nat) (hn : n ≤ 9223372036854775807) (v0 : Value) :
    Lay ((w.setCell ⟨d, 1, none⟩ (.bool true)).setCell ⟨d, 2, none⟩ (.int .i64 (n : Int))) B d { K with room := some n } φ mv ∧ Gone isRef B w ((w.setCell ⟨d, 1, none⟩ (.bool true)).setCell ⟨d, 2, none⟩ (.int .i64 (n : Int))) := by
  have b1 := heap_setCell_same w d 1 _ _ (.bool true) h.box
  have b2 := heap_setCell_same _ d 2 _ _ (.int .i64 (n : Int)) b1
  refine ⟨h.turn rfl ⟨h.ok.sorted, h.ok.names, fun m hm => ?_, h.ok.few, h.ok.small⟩ (fun b _ hb => (Below.heap_setCell _ _ _ _ hb).trans (Below.heap_setCell _ _ _ _ hb)) b2, ((Gone.refl _ _ _).set h.box (isRef_d _) h.base _).set b1 (isRef_d _) h.base _⟩
  simp only [Option.some.injEq] at hm
  omega

/-! ### a file cut -/
theorem row_shorter {w : World} {B n len c : Nat} {e : TypeId} {A : Option Addr} {xs : List Value} (h : w.ownsRow B e 1 (.slice A len c) len xs) (hn : n ≤ len) : w.ownsRow B e 1 (.slice A n c) n (xs.take n) ∧ n ≤ c := by
  have hx := h.1
  rcases h.2 with ⟨e1, e2⟩ | ⟨g, cap, cur, e1, h2, h3, h4, h5, h6, h7⟩
  · cases e1
    obtain rfl : n = 0 := by omega
    exact ⟨World.ownsRow_nil _ _ _ _, Nat.le_refl _⟩
  · cases e1
    refine ⟨⟨by rw [List.length_take, hx]; omega, .inr ⟨g, c, cur, rfl, h2, h3, by omega, h5, h6, ?_⟩⟩, by omega⟩
    rw [← h7, List.take_take]
    congr 1
    omega
theorem Lay.shorter {w : World} {B d : Nat} {K : St} {φ : Str → Nat × Value} {mv : Value} (h : Lay w B d K φ mv) {f : Fl} (hf : f ∈ K.L) {A : Option Addr} {c : Nat} (hform : (φ f.name).2 = .slice A f.all.length c) (n : Nat) (hn : n ≤ f.all.length) :
    Lay ((w.setCell ⟨(φ f.name).1, 0, none⟩ (.slice A n c)).setCell ⟨(φ f.name).1, 1, none⟩ (.int .i64 ((min f.sure.length n : Nat) : Int))) B d { K with L := upd K.L f.name (cutAt n) } (up φ f.name ((φ f.name).1, .slice A n c)) mv ∧
    Gone isRef B w ((w.setCell ⟨(φ f.name).1, 0, none⟩ (.slice A n c)).setCell ⟨(φ f.name).1, 1, none⟩ (.int .i64 ((min f.sure.length n : Nat) : Int))) := by
  have F := h.file f hf
  have hr := F.row
  rw [hform] at hr
  obtain ⟨r1, _⟩ := row_shorter hr hn
  have b1 := heap_setCell_same w _ 0 _ _ (.slice A n c) F.box
  have b2 := heap_setCell_same _ _ 1 _ _ (.int .i64 ((min f.sure.length n : Nat) : Int)) b1
  have hob : ∀ b, (Value.slice A n c).ownBlock = some b → (φ f.name).2.ownBlock = some b := fun b hb => by
    rw [hform]
    cases A with
    | none => simp [Value.ownBlock] at hb
    | some a => simpa [Value.ownBlock] using hb
  refine ⟨h.filed hf (g := cutAt n) (fun a e => (cutAt_name n a).trans e) (x := ((φ f.name).1, .slice A n c)) rfl ⟨F.base, ?_, ?_⟩ (fun b hb => .inl (hob b hb)) (fun b hb hof => (Below.heap_setCell _ _ _ _ (fun e => hof (.inl e))).trans (Below.heap_setCell _ _ _ _ (fun e => hof (.inl e)))) (ok_upd h.ok (cutAt_name n) (fun f => by rw [cutAt_all, List.length_take]; omega)), ((Gone.refl _ _ _).set F.box (isRef_f _) F.base _).set b1 (isRef_f _) F.base _⟩
  · rw [cutAt_sure, List.length_take, Nat.min_comm n]
    exact b2
  · rw [cutAt_all, List.length_take, Nat.min_eq_left hn]
    have : Lib.byteCells (f.all.take n) = (Lib.byteCells f.all).take n := by unfold Lib.byteCells; rw [List.map_take]
    rw [this]
    refine row_kept r1 fun b hb => ?_
    obtain ⟨_, cs, h2⟩ := row_block F.row (hob b hb)
    have hne := ne_heap h2 F.box (by intro e; injection e with _ e2; cases e2)
    exact (Below.heap_setCell _ _ _ _ hne).trans (Below.heap_setCell _ _ _ _ hne)

set_option maxHeartbeats 4000000 in
set_option maxRecDepth 100000 in
theorem shorten_any (w : World) {B d : Nat} {K : St} {φ : Str → Nat × Value} {mv : Value} (h : Lay w B d K φ mv) {f : Fl} (hf : f ∈ K.L) (n : Nat) (hn : n ≤ f.all.length) :
    Calls Tryz.prog 50 #[.pointer (some ⟨(φ f.name).1, 0, none⟩), .int .i64 (n : Int)] w fun e w' => e = .returned (.tuple #[]) ∧ (∃ φ', Lay w' B d { K with L := upd K.L f.name (cutAt n) } φ' mv ∧ ∀ s, (φ' s).1 = (φ s).1) ∧ Gone isRef B w w' ∧ ∀ b, b ≠ (φ f.name).1 → w'.heap[b]? = w.heap[b]? := by
  obtain ⟨A, c, hform⟩ := row_form (h.file f hf).row
  obtain ⟨hL, hG⟩ := h.shorter hf hform n hn
  obtain ⟨⟨f0, f1⟩, z0, z1⟩ := box2 (h.file f hf).box
  rw [hform] at f0
  have hr := (h.file f hf).row
  rw [hform] at hr
  have hnc := (row_shorter hr hn).2
  have hsm := h.ok.small f hf
  have hns : (n : Int) ≤ 4194304 := by omega
  have hss : (f.sure.length : Int) ≤ 4194304 := by simp only [Fl.all, List.length_append] at hsm; omega
  have hmin : min (f.sure.length : Int) (n : Int) = ((min f.sure.length n : Nat) : Int) := by omega
  have HL : Hid (∃ φ', Lay ((w.setCell ⟨(φ f.name).1, 0, none⟩ (.slice A n c)).setCell ⟨(φ f.name).1, 1, none⟩ (.int .i64 ((min f.sure.length n : Nat) : Int))) B d { K with L := upd K.L f.name (cutAt n) } φ' mv ∧ ∀ s, (φ' s).1 = (φ s).1) := Lib.hid ⟨_, hL, fun s => by
    by_cases hs : s = f.name
    · rw [hs, up_same]
    · rw [up_other hs]⟩
  have HG := Lib.hid hG
  have HA : Hid (∀ b, b ≠ (φ f.name).1 → ((w.setCell ⟨(φ f.name).1, 0, none⟩ (.slice A n c)).setCell ⟨(φ f.name).1, 1, none⟩ (.int .i64 ((min f.sure.length n : Nat) : Int))).heap[b]? = w.heap[b]?) := Lib.hid fun b hb => (Below.heap_setCell _ _ _ _ hb).trans (Below.heap_setCell _ _ _ _ hb)
  clear h hf hn hform hL hG hr hsm
  generalize (φ f.name).1 = fb at *
  generalize f.all.length = l at *
  generalize f.sure.length = l1 at *
  generalize min l1 n = m at *
  go_enter Tryz.func50, Tryz.ntmps50
  go_wp2
  go_end0
  exact ⟨rfl, HL.out, HG.out, HA.out⟩
end Go.Proofs.YtpafialojcidnaaGreatDoor
