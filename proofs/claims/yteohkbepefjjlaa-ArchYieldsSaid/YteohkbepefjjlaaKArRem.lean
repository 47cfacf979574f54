/- The document's store: Remove, Get. -/
import Derived.Test.YteohkbepefjjlaaKArCut
namespace Go.Proofs.Yteohkbepefjjlaa
open Go.RowKit Pz Ar
set_option linter.unusedVariables false
set_option linter.unusedSimpArgs false

theorem rcut_of {F : Foot} {p : Nat} {t : Tb} {w W : World} (h : RS F p t w) (hW : Below w.heap.size w W) {m i : Nat} (hm : m < 32) (hi : i < (t m).length) : Calls Try.prog 47 #[.pointer (some ⟨p, 0, none⟩), .int .i64 (m : Int), .int .i64 (i : Int)] W fun e w' => e = .returned (.tuple #[]) ∧ RS (Gr F w.heap.size w'.heap.size) p (cut0 t m i) w' ∧ Only F w w' := by
  refine (rcut_any (h.below hW) hm hi).mono ?_
  rintro e w' ⟨rfl, hr, hg⟩
  refine ⟨rfl, hr.more (fun x hx => hx.imp id fun hx => ⟨Nat.le_trans hW.size hx.1, hx.2⟩) (fun x hx => ?_), (Only.of_below hW).trans (.of_grown hg (.inl h.mine))⟩
  rcases hx with hx | hx
  · exact hr.lt x (.inl hx)
  · exact hx.2
set_option maxHeartbeats 8000000 in
set_option maxRecDepth 100000 in
theorem rRemove_any {F : Foot} {p : Nat} {t : Tb} {w : World} (h : RS F p t w) (k1 k2 k3 : Int) : Calls Try.prog 33 #[.pointer (some ⟨p, 0, none⟩), .agg #[.int .i64 k1, .int .i64 k2, .int .i64 k3]] w fun e w' => e = .returned (.bool (Ar.remove t (k1, k2, k3)).2) ∧ RS (Gr F w.heap.size w'.heap.size) p (Ar.remove t (k1, k2, k3)).1 w' ∧ Only F w w' := by
  have HA : Hid (∀ W, Below w.heap.size w W → Calls Try.prog 37 #[.pointer (some ⟨p, 0, none⟩), .agg #[.int .i64 k1, .int .i64 k2, .int .i64 k3]] W fun e w' => e = .returned (atV t (k1, k2, k3)) ∧ Below W.heap.size W w') := Lib.hid fun W hW => rat_any (h.below hW) _ _ _
  have CU : Hid (∀ m i, find t (k1, k2, k3) = some (m, i) → ∀ W, Below w.heap.size w W → Calls Try.prog 47 #[.pointer (some ⟨p, 0, none⟩), .int .i64 (m : Int), .int .i64 (i : Int)] W fun e w' => e = .returned (.tuple #[]) ∧ RS (Gr F w.heap.size w'.heap.size) p (cut0 t m i) w' ∧ Only F w w') := Lib.hid fun m i hf W hW => by
    obtain ⟨hm, x, hx, _⟩ := find_at hf
    exact rcut_of h hW hm (List.getElem?_eq_some_iff.1 hx).1
  have RB : Hid (∀ W, Below w.heap.size w W → RS (Gr F w.heap.size W.heap.size) p t W ∧ Only F w W) := Lib.hid fun W hW => ⟨(h.below hW).gr, .of_below hW⟩
  have P1 : Hid (find t (k1, k2, k3) = none → Ar.remove t (k1, k2, k3) = (t, false)) := Lib.hid fun hm => by unfold Ar.remove; rw [hm]
  have P2 : Hid (∀ m i, find t (k1, k2, k3) = some (m, i) → Ar.remove t (k1, k2, k3) = (cut0 t m i, true)) := Lib.hid fun m i hm => by unfold Ar.remove; rw [hm]
  generalize Ar.remove t (k1, k2, k3) = ANS at *
  clear h
  unfold atV at HA
  generalize find t (k1, k2, k3) = fd at *
  have T1 := Lib.hid (at1 w (.cells #[.int .i64 k1, .int .i64 k2, .int .i64 k3] 33))
  have BE := Lib.hid (bel1 w (.cells #[.int .i64 k1, .int .i64 k2, .int .i64 k3] 33))
  go_enter Try.func33, Try.ntmps33
  go_upto_region 1 with fail
  generalize w.alloc (.cells #[.int .i64 k1, .int .i64 k2, .int .i64 k3] 33) = w1 at *
  obtain ⟨⟨q0, q1, q2⟩, _⟩ := Bx.b3 T1.out
  go_wp2_with fail
  refine (HA.out w1 BE.out).mono ?_
  rintro e w2 ⟨he, hb⟩
  replace BE := Lib.hid (BE.out.trans (hb.mono BE.out.size))
  clear hb HA q0 q1 q2 T1
  cases fd with
  | none =>
    subst he
    obtain rfl := P1.out rfl
    go_wp2
    go_ret
    exact ⟨rfl, RB.out _ BE.out⟩
  | some pr =>
    obtain ⟨m, i⟩ := pr
    subst he
    obtain rfl := P2.out m i rfl
    have t2 : decide ((m : Int) < 0) = false := decide_eq_false (by omega)
    have CU1 := Lib.hid (CU.out m i rfl)
    clear CU P1 P2
    go_wp2_with fail
    refine (CU1.out w2 BE.out).mono ?_
    rintro e w3 ⟨rfl, hr, hg⟩
    go_wp2
    go_ret
    exact ⟨rfl, hr, hg⟩
end Go.Proofs.Yteohkbepefjjlaa
