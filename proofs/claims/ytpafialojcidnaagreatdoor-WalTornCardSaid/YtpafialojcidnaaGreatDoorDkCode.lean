/- may, find, open, fresh: what they answer. -/
import Derived.Test.YtpafialojcidnaaGreatDoorDkMem
import Derived.LoopTactic
import Derived.Lib.SmallJoins
namespace Go.Proofs.YtpafialojcidnaaGreatDoor
open Go.RowKit Go.Maps Dk

theorem key_str (l : Str) (h : l.length ≤ 9223372036854775807) : keyOf Tryz.prog 9 (.string ⟨l.toArray⟩) = some (.string l) := by
  have := WideMaps.keyOf_string_mk (s := ⟨l.toArray⟩) Tryz.underlying9 (by show l.toArray.size ≤ _; rw [List.size_toArray]; exact h)
  simpa using this
theorem zeroFile (w : World) : (zeroValue 66).run Tryz.prog w = .ok (.pointer none) w := by kernel_rfl
/-- the place of a file, or none -/
def fp (φ : Str → Nat × Value) (s : Str) (e : Nat) : Value := if e = 0 then .pointer (some ⟨(φ s).1, 0, none⟩) else .pointer none
section
variable {W : World} {B d : Nat} {K : St} {φ : Str → Nat × Value} {mv : Value}
theorem MapAt.look {L : List Fl} (h : MapAt W B mv L φ) (s : Str) (hs : s.length ≤ 9223372036854775807) :
    (Instr.lookup 63 mv (.string ⟨s.toArray⟩) true).run Tryz.prog W = .ok (.tuple #[if Dk.has L s then .pointer (some ⟨(φ s).1, 0, none⟩) else .pointer none, .bool (Dk.has L s)]) W := by
  rcases h with ⟨rfl, rfl⟩ | ⟨m, D, rfl, h1, h2, h3, h4, h5⟩
  · have := (look_nil true strKey Tryz.underlying63 (zeroFile W) (key_str s hs))
    simpa [Dk.has] using this
  · obtain ⟨v, ps, hrun, hv⟩ := h2.look_ok strKey Tryz.underlying63 (zeroFile W) (zd := .nil) (zp := []) rfl (key_str s hs)
    rw [hrun, h4]
    cases hh : Dk.has L s with
    | true =>
      obtain ⟨f, hf, rfl⟩ := has_iff.1 hh
      rw [h5 f hf] at hv
      rw [fptr_inv hv]
      rfl
    | false =>
      rw [atKey_of_not_has ((h4 s).trans hh)] at hv
      rcases fptr_form hv with ⟨rfl, _⟩ | ⟨b, _, h6⟩
      · rfl
      · cases h6
theorem MapAt.len_run {L : List Fl} (h : MapAt W B mv L φ) (ty : TypeId) : (Builtin.len_ #[63] ty #[mv]).run Tryz.prog W = .ok (.int .i64 (L.length : Int)) W := by
  rcases h with ⟨rfl, rfl⟩ | ⟨m, D, rfl, h1, h2, h3, h4, h5⟩
  · exact len_nil Tryz.underlying63 ty
  · rw [h2.len Tryz.underlying63 ty, h3]
end

set_option maxHeartbeats 1000000 in
set_option maxRecDepth 100000 in
theorem may_any (s : Str) (w : World) (hs : s.length ≤ 9223372036854775807) :
    Calls Tryz.prog 64 #[.string ⟨s.toArray⟩] w fun e w' => e = .returned (.bool (!bad s)) ∧ w = w' := by
  have hb : bad s = (decide (s.length < 1) || decide (32 < s.length)) := rfl
  generalize bad s = b at *
  by_cases h0 : s.length < 1
  · have h1 : ¬ (1 ≤ (s.length : Int)) := by omega
    obtain rfl : b = true := by rw [hb]; simp [h0]
    clear hb
    go_enter Tryz.func64, Tryz.ntmps64
    go_wp2
    go_ret
    exact ⟨rfl, rfl⟩
  · have h1 : 1 ≤ (s.length : Int) := by omega
    by_cases h3 : 32 < s.length
    · have h2 : ¬ ((s.length : Int) ≤ 32) := by omega
      obtain rfl : b = true := by rw [hb]; simp [h3]
      clear hb
      go_enter Tryz.func64, Tryz.ntmps64
      go_wp2
      go_ret
      exact ⟨rfl, rfl⟩
    · have h2 : (s.length : Int) ≤ 32 := by omega
      obtain rfl : b = false := by rw [hb, decide_eq_false h0, decide_eq_false h3]; rfl
      clear hb
      go_enter Tryz.func64, Tryz.ntmps64
      go_wp2
      go_ret
      exact ⟨rfl, rfl⟩

set_option maxHeartbeats 1000000 in
set_option maxRecDepth 100000 in
theorem find_any (s : Str) (w : World) {B d : Nat} {K : St} {φ : Str → Nat × Value} {mv : Value} (h : Lay w B d K φ mv) (hs : s.length ≤ 9223372036854775807) :
    Calls Tryz.prog 46 #[.pointer (some ⟨d, 0, none⟩), .string ⟨s.toArray⟩] w fun e w' => e = .returned (.tuple #[fp φ s (err0 K s), .int .i64 (err0 K s : Nat)]) ∧ w = w' := by
  have M := Lib.hid (may_any s w hs)
  have L := h.map.look s hs
  obtain ⟨⟨c0, _, _, _⟩, _⟩ := box4 h.box
  have he : err0 K s = if bad s then 1 else if Dk.has K.L s then 0 else 6 := rfl
  clear h hs
  unfold fp
  generalize err0 K s = e at *
  generalize Dk.has K.L s = hh at *
  generalize bad s = b at *
  generalize (φ s).1 = f at *
  cases b <;> cases hh <;> (simp only [Bool.false_eq_true, if_true, if_false] at he L; subst he)
  all_goals
    go_enter Tryz.func46, Tryz.ntmps46
    go_wp2_with (go_at_call 64; refine M.out.mono ?_; rintro e w' ⟨rfl, rfl⟩)
    go_ret2
    exact ⟨rfl, rfl⟩

set_option maxHeartbeats 1000000 in
set_option maxRecDepth 100000 in
theorem open_any (s : Str) (w : World) {B d : Nat} {K : St} {φ : Str → Nat × Value} {mv : Value} (h : Lay w B d K φ mv) (hs : s.length ≤ 9223372036854775807) :
    Calls Tryz.prog 49 #[.pointer (some ⟨d, 0, none⟩), .string ⟨s.toArray⟩] w fun e w' => e = .returned (.tuple #[fp φ s (err K s), .int .i64 (err K s : Nat)]) ∧ w = w' := by
  have F := Lib.hid (find_any s w h hs)
  obtain ⟨⟨_, _, _, c3⟩, _⟩ := box4 h.box
  have he : err K s = if bad s then 1 else if K.dead then 12 else if Dk.has K.L s then 0 else 6 := rfl
  have he0 : err0 K s = if bad s then 1 else if Dk.has K.L s then 0 else 6 := rfl
  clear h hs
  unfold fp at *
  generalize err K s = e at *
  generalize err0 K s = e0 at *
  generalize Dk.has K.L s = hh at *
  generalize bad s = b at *
  generalize (φ s).1 = f at *
  generalize K.dead = dd at *
  cases b <;> cases hh <;> cases dd <;> (simp only [Bool.false_eq_true, if_true, if_false] at he he0; subst he he0)
  all_goals
    have F' := F.out
    simp only [Nat.reduceEqDiff, if_true, if_false] at F' ⊢
    have F2 := Lib.hid F'
    clear F F'
    go_enter Tryz.func49, Tryz.ntmps49
    go_wp2_with (go_at_call 46; refine F2.out.mono ?_; rintro e w' ⟨rfl, rfl⟩)
    go_ret2
    exact ⟨rfl, rfl⟩

set_option maxHeartbeats 1000000 in
set_option maxRecDepth 100000 in
theorem fresh_any (w : World) {B d : Nat} {K : St} {φ : Str → Nat × Value} {mv : Value} (h : Lay w B d K φ mv) :
    Calls Tryz.prog 51 #[.pointer (some ⟨d, 0, none⟩)] w fun e w' =>
      if 64 ≤ K.L.length then e = .returned (.tuple #[.pointer none, .int .i64 8]) ∧ w = w' else e = .returned (.tuple #[.pointer (some ⟨w.heap.size, 0, none⟩), .int .i64 0]) ∧ w' = w.alloc (.cells #[.slice none 0 0, .int .i64 0] 70) := by
  have L := h.map.len_run 3
  obtain ⟨⟨c0, _, _, _⟩, _⟩ := box4 h.box
  have hf := h.ok.few
  clear h
  generalize K.L.length = n at *
  by_cases hn : 64 ≤ n
  · simp only [if_pos hn]
    have hn' : 64 ≤ (n : Int) := by omega
    go_enter Tryz.func51, Tryz.ntmps51
    go_wp2
    go_ret2
    exact ⟨rfl, rfl⟩
  · simp only [if_neg hn]
    have hn' : ¬ 64 ≤ (n : Int) := by omega
    go_enter Tryz.func51, Tryz.ntmps51
    go_wp2
    go_ret2
    exact ⟨rfl, rfl⟩
end Go.Proofs.YtpafialojcidnaaGreatDoor
