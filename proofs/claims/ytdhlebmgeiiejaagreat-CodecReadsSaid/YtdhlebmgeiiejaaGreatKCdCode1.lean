/- The code's codec: a reader is asked, made bad; a name is read. -/
import Derived.Test.YtdhlebmgeiiejaaGreatKCdRx
import Derived.Test.YtdhlebmgeiiejaaGreatKPure
import Derived.Test.YtdhlebmgeiiejaaGreatKRdr
import Derived.Deep.DeepCutAuto
import Derived.Deep.QuietTactic
import Derived.Test.YtdhlebmgeiiejaaGreatKBase
namespace Go.Proofs.YtdhlebmgeiiejaaGreat
open Go.RowKit Pz Cd
set_option linter.unusedVariables false
set_option linter.unusedSimpArgs false

abbrev CT : TypeId := 74
abbrev CQ := RX CT
theorem ctake_int {b : Nat} {w W : World} {q : Rr} (h : CQ b w q W) : Calls Tryz.prog 79 #[.pointer (some ⟨b, 0, none⟩)] W fun e W' => e = .returned (.int .i64 (tInt q).1) ∧ CQ b w (tInt q).2 W' ∧ W.grownBy W' (some b) := by
  refine (rdInt_any b q.s q.bad W (by have := h.len; omega) h.rd).mono ?_
  rintro e W' ⟨rfl, h1, h2⟩
  exact ⟨rfl, h.step h1 (tInt_ok q h.ok) (tInt_len q) h2, h2⟩
namespace Cd
/-- how many things come next -/
def tCount (q : Rr) (most : Int) : Int × Rr := if (tInt q).1 < 0 ∨ most < (tInt q).1 then (0, Rr.no) else tInt q
theorem tCount_ok (q : Rr) (most : Int) (h : q.Ok) : (tCount q most).2.Ok := by
  unfold tCount
  split
  · exact fun _ => rfl
  · exact tInt_ok q h
end Cd
theorem tCount_len (q : Rr) (most : Int) : (tCount q most).2.s.length ≤ q.s.length := by
  unfold tCount
  split
  · exact Nat.zero_le _
  · exact tInt_len q
theorem tCount_is (q : Rr) (most : Int) : (oCount q.s q.bad most).n = (tCount q most).1 ∧ (oCount q.s q.bad most).s = (tCount q most).2.s ∧ (oCount q.s q.bad most).bad = (tCount q most).2.bad := by
  unfold oCount tCount tInt
  simp only
  by_cases h : (oInt q.s q.bad).n < 0 ∨ most < (oInt q.s q.bad).n
  · rw [if_pos h, if_pos (by omega)]
    exact ⟨rfl, rfl, rfl⟩
  · rw [if_neg h, if_neg (by omega)]
    exact ⟨rfl, rfl, rfl⟩
theorem ctake_count {b : Nat} {w W : World} {q : Rr} (most : Int) (h : CQ b w q W) : Calls Tryz.prog 60 #[.pointer (some ⟨b, 0, none⟩), .int .i64 most] W fun e W' => e = .returned (.int .i64 (tCount q most).1) ∧ CQ b w (tCount q most).2 W' ∧ W.grownBy W' (some b) := by
  refine (count_any b q.s q.bad most W (by have := h.len; omega) h.rd).mono ?_
  obtain ⟨e1, e2, e3⟩ := tCount_is q most
  rw [e1, e2, e3]
  rintro e W' ⟨rfl, h1, h2⟩
  exact ⟨rfl, h.step h1 (tCount_ok q most h.ok) (tCount_len q most) h2, h2⟩
set_option maxHeartbeats 4000000 in
theorem cspoil_any {b : Nat} {w W : World} {q : Rr} (h : CQ b w q W) : Calls Tryz.prog 61 #[.pointer (some ⟨b, 0, none⟩)] W fun e W' => e = .returned (.tuple #[]) ∧ CQ b w Rr.no W' ∧ W.grownBy W' (some b) := by
  have C : Hid (Calls Tryz.prog 60 #[.pointer (some ⟨b, 0, none⟩), .int .i64 (-1)] W fun e W' => e = .returned (.int .i64 (tCount q (-1)).1) ∧ CQ b w Rr.no W' ∧ W.grownBy W' (some b)) := Lib.hid (by
    refine (ctake_count (-1) h).mono ?_
    rintro e W' ⟨rfl, h1, h2⟩
    have e1 : (tCount q (-1)).2 = Rr.no := by unfold tCount; rw [if_pos (by omega)]
    rw [e1] at h1
    exact ⟨rfl, h1, h2⟩)
  generalize (tCount q (-1)).1 = n at *
  clear h
  go_enter Tryz.func61, Tryz.ntmps61
  go_wp2_with (go_at_call 60; refine C.out.mono ?_; rintro e w1 ⟨rfl, r1, g1⟩)
  go_end0
  exact ⟨rfl, r1, g1⟩
set_option maxHeartbeats 4000000 in
theorem cbad_any {b : Nat} {w W : World} {q : Rr} (h : CQ b w q W) : Calls Tryz.prog 62 #[.pointer (some ⟨b, 0, none⟩)] W fun e W' => e = .returned (.bool q.bad) ∧ W = W' := by
  have C1 := Lib.hid (left_any b q.s q.bad W h.rd)
  have C2 := Lib.hid (done_any b q.s q.bad W h.rd)
  have ok := h.ok
  obtain ⟨s, bd⟩ := q
  simp only at C1 C2 ⊢
  clear h
  cases s with
  | nil =>
    cases bd with
    | true =>
      rw [show oDone [] true = 2 from rfl] at C2
      go_enter Tryz.func62, Tryz.ntmps62
      go_wp2_with (first | (go_at_call 42; refine C1.out.mono ?_; rintro e w' ⟨rfl, rfl⟩) | (go_at_call 43; refine C2.out.mono ?_; rintro e w' ⟨rfl, rfl⟩))
      go_ret
      exact ⟨rfl, rfl⟩
    | false =>
      rw [show oDone [] false = 0 from rfl] at C2
      go_enter Tryz.func62, Tryz.ntmps62
      go_wp2_with (first | (go_at_call 42; refine C1.out.mono ?_; rintro e w' ⟨rfl, rfl⟩) | (go_at_call 43; refine C2.out.mono ?_; rintro e w' ⟨rfl, rfl⟩))
      go_ret
      exact ⟨rfl, rfl⟩
  | cons c t =>
    cases bd with
    | true => cases ok rfl
    | false =>
      obtain ⟨n, hn⟩ : ∃ n : Int, n = ((c :: t).length : Nat) := ⟨_, rfl⟩
      have t1 : ((n : Int) == 0) = false := by rw [hn]; simp; omega
      rw [← hn] at C1
      clear hn C2
      go_enter Tryz.func62, Tryz.ntmps62
      go_wp2_with (go_at_call 42; refine C1.out.mono ?_; rintro e w' ⟨rfl, rfl⟩)
      go_ret
      exact ⟨rfl, rfl⟩
set_option maxHeartbeats 8000000 in
set_option maxRecDepth 100000 in
theorem creadid_any {b : Nat} {w : World} {q : Rr} (h : CQ b w q w) : Calls Tryz.prog 38 #[.pointer (some ⟨b, 0, none⟩)] w fun e W' => e = .returned (.agg #[.int .i64 (rawTID q).1.1, .int .i64 (rawTID q).1.2.1, .int .i64 (rawTID q).1.2.2]) ∧ CQ b w (rawTID q).2 W' := by
  have C1 := Lib.hid fun W (hW : CQ b w q W) => ctake_int hW
  have C2 := Lib.hid fun W (hW : CQ b w (tInt q).2 W) => ctake_int hW
  have C3 := Lib.hid fun W (hW : CQ b w (tInt (tInt q).2).2 W) => ctake_int hW
  unfold rawTID
  simp only
  generalize (tInt (tInt (tInt q).2).2).1 = n3 at *
  generalize (tInt (tInt (tInt q).2).2).2 = q3 at *
  generalize (tInt (tInt q).2).1 = n2 at *
  generalize (tInt (tInt q).2).2 = q2 at *
  generalize (tInt q).1 = n1 at *
  generalize (tInt q).2 = q1 at *
  have H := Lib.hid (TSX.start h)
  clear h
  go_enter Tryz.func38, Tryz.ntmps38
  go_wp2_with fail
  refine (C1.out _ H.out.rq).mono ?_
  rintro e w1 ⟨rfl, r1, g1⟩
  replace H := Lib.hid (H.out.call r1 g1)
  clear r1 g1
  obtain ⟨⟨k0, k1, k2⟩, ⟨f0, f1, f2⟩⟩ := Bx.b3 H.out.own
  go_wp2_with fail
  clear k0 k1 k2 f0 f1 f2
  replace H := Lib.hid (H.out.set 0 n1 rfl)
  generalize w1.setCell ⟨w.heap.size + 1, 0, none⟩ (.int .i64 n1) = v1 at *
  refine (C2.out _ H.out.rq).mono ?_
  rintro e w2 ⟨rfl, r1, g1⟩
  replace H := Lib.hid (H.out.call r1 g1)
  clear r1 g1
  obtain ⟨⟨k0, k1, k2⟩, ⟨f0, f1, f2⟩⟩ := Bx.b3 H.out.own
  go_wp2_with fail
  clear k0 k1 k2 f0 f1 f2
  replace H := Lib.hid (H.out.set 1 n2 rfl)
  generalize w2.setCell ⟨w.heap.size + 1, 1, none⟩ (.int .i64 n2) = v2 at *
  refine (C3.out _ H.out.rq).mono ?_
  rintro e w3 ⟨rfl, r1, g1⟩
  replace H := Lib.hid (H.out.call r1 g1)
  clear r1 g1
  obtain ⟨⟨k0, k1, k2⟩, ⟨f0, f1, f2⟩⟩ := Bx.b3 H.out.own
  go_upto_region 5 with fail
  clear k0 k1 k2 f0 f1 f2
  replace H := Lib.hid (H.out.set 2 n3 rfl)
  generalize w3.setCell ⟨w.heap.size + 1, 2, none⟩ (.int .i64 n3) = v3 at *
  obtain ⟨⟨k0, k1, k2⟩, ⟨f0, f1, f2⟩⟩ := Bx.b3 H.out.res
  obtain ⟨⟨m0, m1, m2⟩, _⟩ := Bx.b3 H.out.own
  have HF := Lib.hid (H.out.fin n1 n2 n3)
  go_wp2
  obtain ⟨⟨p0, p1, p2⟩, hq⟩ := HF.out
  exact bodyPost_ret (v := .agg #[.int .i64 n1, .int .i64 n2, .int .i64 n3]) (by simp [results, Tryz.results38, go_sem, p0, p1, p2]) rfl ⟨rfl, hq⟩
end Go.Proofs.YtdhlebmgeiiejaaGreat
