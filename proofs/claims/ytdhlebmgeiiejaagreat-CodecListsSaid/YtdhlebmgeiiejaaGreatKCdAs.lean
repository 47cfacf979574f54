/- The statements' own test whether both readers are left alike. Written by wip/tools/gencdlaw3.py. -/
import Derived.Test.YtdhlebmgeiiejaaGreatKCdRef4
import Derived.Test.YtdhlebmgeiiejaaGreatKCdCode1
import Derived.Test.YtdhlebmgeiiejaaGreatKBase
namespace Go.Proofs.YtdhlebmgeiiejaaGreat
open Go.RowKit Pz Cd
set_option linter.unusedVariables false
set_option linter.unusedSimpArgs false

theorem lat_below {w : World} (p : Lat grows w) : Below w.heap.size w p.W := p.h
set_option maxHeartbeats 8000000 in
set_option maxRecDepth 100000 in
theorem as_any {br bx : Nat} {q : Rr} {w : World} (hr : Rdr CT br q.s q.bad w) (hx : Rdr RT bx q.s q.bad w) (hok : q.Ok) : Calls Tryz.prog 11 #[.pointer (some ⟨br, 0, none⟩), .pointer (some ⟨bx, 0, none⟩)] w fun e w' => e = .returned (.bool true) ∧ Below w.heap.size w w' := by
  have LF : Hid (∀ W, Below w.heap.size w W → Calls Tryz.prog 42 #[.pointer (some ⟨br, 0, none⟩)] W fun e w' => e = .returned (.int .i64 (q.s.length : Int)) ∧ W = w') := Lib.hid fun W hW => left_any br q.s q.bad W (hr.below hW hr.lt)
  have DN : Hid (∀ W, Below w.heap.size w W → Calls Tryz.prog 43 #[.pointer (some ⟨br, 0, none⟩)] W fun e w' => e = .returned (.int .i64 (oDone q.s q.bad)) ∧ W = w') := Lib.hid fun W hW => done_any br q.s q.bad W (hr.below hW hr.lt)
  have CC := fun p : Lat grows w => (hx.below p.h hx.lt).c0
  have CB := fun p : Lat grows w => (hx.below p.h hx.lt).c1
  obtain ⟨s, bd⟩ := q
  simp only at LF DN CC CB
  clear hr hx
  cases bd with
  | true =>
    obtain rfl : s = [] := hok rfl
    rw [show oDone [] true = 2 from rfl] at DN
    clear hok
    go_enter Tryz.func11, Tryz.ntmps11
    go_upto_region 1 with fail
    refine Og.grow 26 (by kernel_rfl) (by kernel_rfl) fun hc hf => ?_
    clear hc hf
    simp only [List.take_succ_cons, List.take_zero, List.drop_succ_cons, List.drop_zero]
    (refine Og.det [] rfl (fun J hJ => ?_); go_simp; refine hJ _ _ ?_; clear hJ J)
    (refine Og.det [] rfl (fun J hJ => ?_); go_simp; with_reducible refine ⟨_, fun p => Og.same (LF.out p.W (lat_below p)), hJ _ _ ?_⟩; clear hJ J)
    (refine Og.det [] rfl (fun J hJ => ?_); go_simp; refine hJ _ _ ?_; clear hJ J)
    (refine Og.det [] rfl (fun J hJ => ?_); go_simp; refine hJ _ _ ?_; clear hJ J)
    (refine Og.det [] rfl (fun J hJ => ?_); go_simp; refine hJ _ _ ?_; clear hJ J)
    (refine Og.det [] rfl (fun J hJ => ?_); go_simp; refine hJ _ _ ?_; clear hJ J)
    (refine Og.det [] rfl (fun J hJ => ?_); go_simp; refine hJ _ _ ?_; clear hJ J)
    (refine Og.det [] rfl (fun J hJ => ?_); go_simp; refine hJ _ _ ?_; clear hJ J)
    (refine Og.det [] rfl (fun J hJ => ?_); go_simp; refine hJ _ _ ?_; clear hJ J)
    (refine Og.det [] rfl (fun J hJ => ?_); go_simp; refine hJ _ _ ?_; clear hJ J)
    (refine Og.det [] rfl (fun J hJ => ?_); go_simp; with_reducible refine ⟨_, fun p => Og.same (DN.out p.W (lat_below p)), hJ _ _ ?_⟩; clear hJ J)
    (refine Og.det [] rfl (fun J hJ => ?_); go_simp; refine hJ _ _ ?_; clear hJ J)
    (refine Og.det [] rfl (fun J hJ => ?_); go_simp; refine hJ _ _ ?_; clear hJ J)
    (refine Og.det [] rfl (fun J hJ => ?_); go_simp; refine hJ _ _ ?_; clear hJ J)
    (refine Og.det [] rfl (fun J hJ => ?_); go_simp; refine hJ _ _ ?_; clear hJ J)
    (refine Og.det [] rfl (fun J hJ => ?_); go_simp; refine hJ _ _ ?_; clear hJ J)
    (refine Og.det [] rfl (fun J hJ => ?_); go_simp; refine hJ _ _ ?_; clear hJ J)
    (refine Og.det [] rfl (fun J hJ => ?_); go_simp; refine hJ _ _ ?_; clear hJ J)
    (refine Og.det [] rfl (fun J hJ => ?_); go_simp; refine hJ _ _ ?_; clear hJ J)
    (refine Og.det [] rfl (fun J hJ => ?_); go_simp; refine hJ _ _ ?_; clear hJ J)
    (refine Og.det [] rfl (fun J hJ => ?_); go_simp; refine hJ _ _ ?_; clear hJ J)
    (refine Og.det [] rfl (fun J hJ => ?_); go_simp; refine hJ _ _ ?_; clear hJ J)
    (refine Og.det [] rfl (fun J hJ => ?_); go_simp; refine hJ _ _ ?_; clear hJ J)
    (refine Og.det [] rfl (fun J hJ => ?_); go_simp; refine hJ _ _ ?_; clear hJ J)
    (refine Og.det [] rfl (fun J hJ => ?_); go_simp; refine hJ _ _ ?_; clear hJ J)
    (refine Og.det [] rfl (fun J hJ => ?_); go_simp; refine hJ _ _ ?_; clear hJ J)
    refine Og.fin fun W hW => ?_
    simp only [Og.opened_nil]
    go_wp2
    go_ret
    exact ⟨rfl, hW⟩
  | false =>
    clear hok
    cases s with
    | nil =>
      rw [show oDone [] false = 0 from rfl] at DN
      go_enter Tryz.func11, Tryz.ntmps11
      go_upto_region 1 with fail
      refine Og.grow 26 (by kernel_rfl) (by kernel_rfl) fun hc hf => ?_
      clear hc hf
      simp only [List.take_succ_cons, List.take_zero, List.drop_succ_cons, List.drop_zero]
      (refine Og.det [] rfl (fun J hJ => ?_); go_simp; refine hJ _ _ ?_; clear hJ J)
      (refine Og.det [] rfl (fun J hJ => ?_); go_simp; with_reducible refine ⟨_, fun p => Og.same (LF.out p.W (lat_below p)), hJ _ _ ?_⟩; clear hJ J)
      (refine Og.det [] rfl (fun J hJ => ?_); go_simp; refine hJ _ _ ?_; clear hJ J)
      (refine Og.det [] rfl (fun J hJ => ?_); go_simp; refine hJ _ _ ?_; clear hJ J)
      (refine Og.det [] rfl (fun J hJ => ?_); go_simp; refine hJ _ _ ?_; clear hJ J)
      (refine Og.det [] rfl (fun J hJ => ?_); go_simp; refine hJ _ _ ?_; clear hJ J)
      (refine Og.det [] rfl (fun J hJ => ?_); go_simp; refine hJ _ _ ?_; clear hJ J)
      (refine Og.det [] rfl (fun J hJ => ?_); go_simp; refine hJ _ _ ?_; clear hJ J)
      (refine Og.det [] rfl (fun J hJ => ?_); go_simp; refine hJ _ _ ?_; clear hJ J)
      (refine Og.det [] rfl (fun J hJ => ?_); go_simp; refine hJ _ _ ?_; clear hJ J)
      (refine Og.det [] rfl (fun J hJ => ?_); go_simp; with_reducible refine ⟨_, fun p => Og.same (DN.out p.W (lat_below p)), hJ _ _ ?_⟩; clear hJ J)
      (refine Og.det [] rfl (fun J hJ => ?_); go_simp; refine hJ _ _ ?_; clear hJ J)
      (refine Og.det [] rfl (fun J hJ => ?_); go_simp; refine hJ _ _ ?_; clear hJ J)
      (refine Og.det [] rfl (fun J hJ => ?_); go_simp; refine hJ _ _ ?_; clear hJ J)
      (refine Og.det [] rfl (fun J hJ => ?_); go_simp; refine hJ _ _ ?_; clear hJ J)
      (refine Og.det [] rfl (fun J hJ => ?_); go_simp; refine hJ _ _ ?_; clear hJ J)
      (refine Og.det [] rfl (fun J hJ => ?_); go_simp; refine hJ _ _ ?_; clear hJ J)
      (refine Og.det [] rfl (fun J hJ => ?_); go_simp; refine hJ _ _ ?_; clear hJ J)
      (refine Og.det [] rfl (fun J hJ => ?_); go_simp; refine hJ _ _ ?_; clear hJ J)
      (refine Og.det [] rfl (fun J hJ => ?_); go_simp; refine hJ _ _ ?_; clear hJ J)
      (refine Og.det [] rfl (fun J hJ => ?_); go_simp; refine hJ _ _ ?_; clear hJ J)
      (refine Og.det [] rfl (fun J hJ => ?_); go_simp; refine hJ _ _ ?_; clear hJ J)
      (refine Og.det [] rfl (fun J hJ => ?_); go_simp; refine hJ _ _ ?_; clear hJ J)
      (refine Og.det [] rfl (fun J hJ => ?_); go_simp; refine hJ _ _ ?_; clear hJ J)
      (refine Og.det [] rfl (fun J hJ => ?_); go_simp; refine hJ _ _ ?_; clear hJ J)
      (refine Og.det [] rfl (fun J hJ => ?_); go_simp; refine hJ _ _ ?_; clear hJ J)
      refine Og.fin fun W hW => ?_
      simp only [Og.opened_nil]
      go_wp2
      go_ret
      exact ⟨rfl, hW⟩
    | cons c t =>
      rw [show oDone (c :: t) false = 2 from rfl] at DN
      have e0 : (c :: t == []) = false := rfl
      obtain ⟨m, hm⟩ : ∃ m : Int, m = ((c :: t).length : Int) := ⟨_, rfl⟩
      have em : (m == m) = true := by simp
      go_enter Tryz.func11, Tryz.ntmps11
      go_upto_region 1 with fail
      refine Og.grow 26 (by kernel_rfl) (by kernel_rfl) fun hc hf => ?_
      clear hc hf
      simp only [List.take_succ_cons, List.take_zero, List.drop_succ_cons, List.drop_zero]
      (refine Og.det [] rfl (fun J hJ => ?_); go_simp; refine hJ _ _ ?_; clear hJ J)
      (refine Og.det [] rfl (fun J hJ => ?_); go_simp; with_reducible refine ⟨_, fun p => Og.same (LF.out p.W (lat_below p)), hJ _ _ ?_⟩; clear hJ J)
      (refine Og.det [] rfl (fun J hJ => ?_); go_simp; refine hJ _ _ ?_; clear hJ J)
      (refine Og.det [] rfl (fun J hJ => ?_); go_simp; refine hJ _ _ ?_; clear hJ J)
      (refine Og.det [] rfl (fun J hJ => ?_); go_simp; refine hJ _ _ ?_; clear hJ J)
      (refine Og.det [] rfl (fun J hJ => ?_); go_simp; refine hJ _ _ ?_; clear hJ J)
      (refine Og.det [] rfl (fun J hJ => ?_); go_simp; refine hJ _ _ ?_; clear hJ J)
      (refine Og.det [] rfl (fun J hJ => ?_); go_simp; refine hJ _ _ ?_; clear hJ J)
      (refine Og.det [] rfl (fun J hJ => ?_); go_simp; refine hJ _ _ ?_; clear hJ J)
      (refine Og.det [] rfl (fun J hJ => ?_); go_simp; refine hJ _ _ ?_; clear hJ J)
      (refine Og.det [] rfl (fun J hJ => ?_); go_simp; with_reducible refine ⟨_, fun p => Og.same (DN.out p.W (lat_below p)), hJ _ _ ?_⟩; clear hJ J)
      (refine Og.det [] rfl (fun J hJ => ?_); go_simp; refine hJ _ _ ?_; clear hJ J)
      (refine Og.det [] rfl (fun J hJ => ?_); go_simp; refine hJ _ _ ?_; clear hJ J)
      (refine Og.det [] rfl (fun J hJ => ?_); go_simp; refine hJ _ _ ?_; clear hJ J)
      (refine Og.det [] rfl (fun J hJ => ?_); go_simp; refine hJ _ _ ?_; clear hJ J)
      (refine Og.det [] rfl (fun J hJ => ?_); go_simp; refine hJ _ _ ?_; clear hJ J)
      (refine Og.det [] rfl (fun J hJ => ?_); go_simp; refine hJ _ _ ?_; clear hJ J)
      (refine Og.det [] rfl (fun J hJ => ?_); go_simp; refine hJ _ _ ?_; clear hJ J)
      (refine Og.det [] rfl (fun J hJ => ?_); go_simp; refine hJ _ _ ?_; clear hJ J)
      (refine Og.det [] rfl (fun J hJ => ?_); go_simp; refine hJ _ _ ?_; clear hJ J)
      (refine Og.det [] rfl (fun J hJ => ?_); go_simp; refine hJ _ _ ?_; clear hJ J)
      (refine Og.det [] rfl (fun J hJ => ?_); go_simp; refine hJ _ _ ?_; clear hJ J)
      (refine Og.det [] rfl (fun J hJ => ?_); go_simp; refine hJ _ _ ?_; clear hJ J)
      (refine Og.det [] rfl (fun J hJ => ?_); go_simp; refine hJ _ _ ?_; clear hJ J)
      (refine Og.det [] rfl (fun J hJ => ?_); go_simp; refine hJ _ _ ?_; clear hJ J)
      (refine Og.det [] rfl (fun J hJ => ?_); go_simp; refine hJ _ _ ?_; clear hJ J)
      refine Og.fin fun W hW => ?_
      simp only [Og.opened_nil]
      go_wp2
      go_ret
      exact ⟨rfl, hW⟩
end Go.Proofs.YtdhlebmgeiiejaaGreat
