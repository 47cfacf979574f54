/- frame.Frame, First: what they answer. -/
import Derived.Test.YtpafialojcidnaaGreatDoorFrCode2
import Derived.Laws.Concat
import Derived.OwnWalk
namespace Go.Proofs.YtpafialojcidnaaGreatDoor
open Go.RowKit
set_option linter.unusedVariables false

theorem cutb (l : List UInt8) (i j : Nat) : (ByteArray.mk l.toArray).extract i j = ⟨((l.drop i).take (j - i)).toArray⟩ := by
  apply ByteArray.ext
  rw [ByteArray.data_extract]
  apply Array.ext'
  simp [List.extract_eq_take_drop]
theorem sum_two (a b : List UInt8) (h : a.length + b.length ≤ 9223372036854775807) : ∀ W : World, (Op.stringOp .add ⟨a.toArray⟩ ⟨b.toArray⟩).run Tryz.prog W = .ok (.string ⟨(a ++ b).toArray⟩) W := by
  intro W
  rw [run_string_add_sum _ _ _ (by simpa [ByteArray.size] using h), ByteArray.mk_append_mk]
theorem cat_two (a b : List UInt8) : (ByteArray.mk a.toArray ++ ByteArray.mk b.toArray) = ⟨(a ++ b).toArray⟩ := ByteArray.mk_append_mk a b
theorem reads_new (w : World) (cs : Array Value) (T : TypeId) : Reads (w.alloc (.cells cs T)) (w.alloc (.cells cs T)).heap.size (some ⟨w.heap.size, 0, none⟩) cs.toList := by
  intro _
  refine ⟨w.heap.size, 0, rfl, by simp, fun k v hv => ?_⟩
  rw [Lib.cell_of_heap (heap_alloc_new w _), Nat.zero_add]
  simpa using hv
theorem Good.alloc {w : World} (h : Good w) (o : Obj) : Good (w.alloc o) := h.below (bel1 w o) (Nat.le_refl _)

theorem sum_pair (a b : List UInt8) (W : World) (ha : a.length ≤ 140737488351232) (hb : b.length ≤ 140737488351232) (hg : Good W) :
    Calls Tryz.prog 68 #[.slice (some ⟨W.heap.size, 0, none⟩) 2 2] (W.alloc (.cells #[.string ⟨a.toArray⟩, .string ⟨b.toArray⟩] 9)) fun e w' => e = .returned (.int .u32 (Fr.sum (a ++ b) : Nat)) ∧ Below W.heap.size W w' := by
  have := sum_any (some ⟨W.heap.size, 0, none⟩) 2 [a, b] _ _ (by simp) (by intro s hs; simp at hs; rcases hs with rfl | rfl <;> assumption) (reads_new W #[.string ⟨a.toArray⟩, .string ⟨b.toArray⟩] 9) (hg.alloc _)
  refine this.mono ?_
  rintro e w' ⟨rfl, rfl⟩
  exact ⟨by simp, bel1 _ _⟩

def frameErr (s : List UInt8) : Nat := if 65536 < s.length then 1 else 0
def frameText (s : List UInt8) : List UInt8 := if 65536 < s.length then [] else Fr.frame s

set_option maxHeartbeats 1000000 in
set_option maxRecDepth 100000 in
theorem frame_big (s : List UInt8) (w : World) (hs : s.length ≤ 140737488351232) (h : 65536 < s.length) :
    Calls Tryz.prog 55 #[.string ⟨s.toArray⟩] w fun e w' => e = .returned (.tuple #[.string ⟨#[]⟩, .int .i64 1]) ∧ Below w.heap.size w w' := by
  have h' : (65536 : Int) < (s.length : Int) := by omega
  go_enter Tryz.func55, Tryz.ntmps55
  go_wp2
  go_ret2
  exact ⟨rfl, Below.refl _ _⟩

set_option maxHeartbeats 2000000 in
set_option maxRecDepth 100000 in
theorem frame_small (s : List UInt8) (w : World) (h : s.length ≤ 65536) (hg : Good w) :
    Calls Tryz.prog 55 #[.string ⟨s.toArray⟩] w fun e w' => e = .returned (.tuple #[.string ⟨(Fr.frame s).toArray⟩, .int .i64 0]) ∧ Below w.heap.size w w' := by
  have h' : decide ((65536 : Int) < (s.length : Int)) = false := by simp; omega
  have hw : IntKind.u32.wrap (s.length : Int) = s.length := IntWalk.u32_in _ ⟨by omega, by omega⟩
  have L3 := Lib.hid (fun W => laid_any s.length 3 W (by omega))
  obtain ⟨d, hd⟩ : ∃ d, d = Fr.hi s.length 3 := ⟨_, rfl⟩
  have hdl : d.length = 3 := by rw [hd, Fr.hi_len]
  rw [← hd] at L3
  have e1 := sum_two d s (by omega)
  obtain ⟨t, ht⟩ : ∃ t, t = Fr.hi (Fr.sum (d ++ s)) 4 := ⟨_, rfl⟩
  have htl : t.length = 4 := by rw [ht, Fr.hi_len]
  have L4 := Lib.hid (fun W => laid_any (Fr.sum (d ++ s)) 4 W (by omega))
  rw [← ht] at L4
  have e2 := sum_two (d ++ s) t (by rw [List.length_append]; omega)
  have HF : Hid (Fr.frame s = d ++ s ++ t) := Lib.hid (by unfold Fr.frame Fr.body; rw [ht, hd])
  have S := Lib.hid (fun W (hW : Good W) => sum_pair d s W (by omega) (by omega) hW)
  generalize Fr.sum (d ++ s) = n at *
  clear hd ht
  go_enter Tryz.func55, Tryz.ntmps55
  go_wp2_with fail
  refine (L3.out _).mono ?_
  rintro e w1 ⟨rfl, b1⟩
  have G1 : Good w1 := hg.below b1 (Nat.le_refl _)
  go_wp2_with fail
  refine (S.out _ G1).mono ?_
  rintro e w2 ⟨rfl, b2⟩
  have b3 := b1.trans (b2.mono b1.size)
  clear b1 b2 G1
  go_wp2_with fail
  refine (L4.out _).mono ?_
  rintro e w3 ⟨rfl, b4⟩
  go_wp2
  go_ret2
  exact ⟨by rw [HF.out, List.append_assoc]; rfl, b3.trans (b4.mono b3.size)⟩

theorem frame_any (s : List UInt8) (w : World) (hs : s.length ≤ 140737488351232) (hg : Good w) :
    Calls Tryz.prog 55 #[.string ⟨s.toArray⟩] w fun e w' => e = .returned (.tuple #[.string ⟨(frameText s).toArray⟩, .int .i64 (frameErr s : Nat)]) ∧ Below w.heap.size w w' := by
  unfold frameText frameErr
  by_cases h : 65536 < s.length
  · rw [if_pos h, if_pos h]
    exact frame_big s w hs h
  · rw [if_neg h, if_neg h]
    exact frame_small s w (by omega) hg

/-! ### First -/
def rdE (s : List UInt8) (a : Int) : Nat := if 0 ≤ a ∧ a ≤ s.length then (Fr.first (s.drop a.toNat)).1 else 1
def rdT (s : List UInt8) (a : Int) : List UInt8 := if 0 ≤ a ∧ a ≤ s.length then (Fr.first (s.drop a.toNat)).2 else []
def rdN (s : List UInt8) (a : Int) : Int := if rdE s a = 0 then a + (rdT s a).length + 7 else 0
/-- what First answers -/
def Reads1 (s : List UInt8) (a : Int) : Value := .tuple #[.string ⟨(rdT s a).toArray⟩, .int .i64 (rdN s a), .int .i64 (rdE s a : Nat)]
theorem reads1_out {s : List UInt8} {a : Int} (h : ¬ (0 ≤ a ∧ a ≤ s.length)) : Reads1 s a = .tuple #[.string ⟨#[]⟩, .int .i64 0, .int .i64 1] := by
  unfold Reads1 rdN rdT rdE
  rw [if_neg h, if_neg h]
  rfl
theorem reads1_bad {s : List UInt8} {p e : Nat} (h : p ≤ s.length) (he : Fr.first (s.drop p) = (e, [])) (h0 : e ≠ 0) : Reads1 s (p : Int) = .tuple #[.string ⟨#[]⟩, .int .i64 0, .int .i64 (e : Nat)] := by
  have hr : 0 ≤ (p : Int) ∧ (p : Int) ≤ s.length := by omega
  unfold Reads1 rdN rdT rdE
  rw [if_pos hr, if_pos hr, Int.toNat_natCast, he, if_neg h0]
theorem reads1_ok {s t : List UInt8} {p : Nat} (h : p ≤ s.length) (he : Fr.first (s.drop p) = (0, t)) : Reads1 s (p : Int) = .tuple #[.string ⟨t.toArray⟩, .int .i64 ((p : Int) + t.length + 7), .int .i64 0] := by
  have hr : 0 ≤ (p : Int) ∧ (p : Int) ≤ s.length := by omega
  unfold Reads1 rdN rdT rdE
  rw [if_pos hr, if_pos hr, Int.toNat_natCast, he, if_pos rfl]
  rfl
theorem ret_tup {a b : Value} (h : a = b) : Ending.returned a = .returned b := by rw [h]

set_option maxHeartbeats 1000000 in
set_option maxRecDepth 100000 in
theorem first_out (s : List UInt8) (a : Int) (w : World) (hs : s.length ≤ 140737488351232) (h : ¬ (0 ≤ a ∧ a ≤ s.length)) :
    Calls Tryz.prog 70 #[.string ⟨s.toArray⟩, .int .i64 a] w fun e w' => e = .returned (Reads1 s a) ∧ Below w.heap.size w w' := by
  have HR := Lib.hid (reads1_out h)
  by_cases h0 : a < 0
  · go_enter Tryz.func70, Tryz.ntmps70
    go_wp2
    go_ret3
    exact ⟨ret_tup HR.out.symm, Below.refl _ _⟩
  · have h0' : decide (a < 0) = false := by simpa using h0
    have h1 : (s.length : Int) < a := by omega
    go_enter Tryz.func70, Tryz.ntmps70
    go_wp2
    go_ret3
    exact ⟨ret_tup HR.out.symm, Below.refl _ _⟩
end Go.Proofs.YtpafialojcidnaaGreatDoor
